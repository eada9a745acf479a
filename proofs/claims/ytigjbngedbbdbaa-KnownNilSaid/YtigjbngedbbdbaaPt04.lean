/-
A node with those fields alone that its operator has: what own of layer term returns, as a fact on one call.
What vector of layer term returns: what bv makes of vectors of the kids' widths, as a fact on one call.
What divide of layer bv returns.
-/
import Derived.Test.YtigjbngedbbdbaaPt03
import Derived.Test.YtigjbngedbbdbaaPt02
import Derived.Deep.RegionWith
import Derived.Laws.IdiomCopy
import Derived.Test.YtigjbngedbbdbaaPt01
namespace Go.Proofs.Ytigjbngedbbdbaa
open Go.RowKit Bv
namespace Tm
set_option maxHeartbeats 1000000
set_option maxRecDepth 100000

theorem elem_int : (Try.prog.info? 3).map (·.size) = some 1 := by kernel_rfl
theorem copy_0 (w : World) (b a : Addr) : (Builtin.copy_ #[61, 61] 3 #[.slice (some b) 3 3, .slice (some a) 0 3]).run Try.prog w = .ok (.int .i64 0) w :=
  run_copy_none w _ _ _ 3 _ _ 3 3 0 3 Try.underlying61 elem_int rfl

theorem three0 (W : World) (A B C : Obj) : (((W.alloc A).alloc B).alloc C).drew.heap[W.heap.size]? = some A := by
  show (((W.alloc A).alloc B).alloc C).heap[W.heap.size]? = some A
  rw [Below.heap_alloc _ _ _ (by simp; omega), Below.heap_alloc _ _ _ (by simp)]
  exact (MapKept.heap_alloc W A).1
theorem three2 (W : World) (A B C : Obj) : (((W.alloc A).alloc B).alloc C).drew.heap[W.heap.size + 1 + 1]? = some C := by
  have h := (MapKept.heap_alloc ((W.alloc A).alloc B) C).1
  have e : ((W.alloc A).alloc B).heap.size = W.heap.size + 1 + 1 := by simp
  rw [e] at h
  exact h

theorem copyg_1 (x0 x1 x5 x6 y0 y1 y2 y3 y4 y5 y6 : Value) (k0 k1 k2 : Int) (w : World) (a b : Nat) (ha : w.heap[a]? = some (.cells #[x0, x1, .int .i64 k0, .int .i64 k1, .int .i64 k2, x5, x6] 57)) (hb : w.heap[b]? = some (.cells #[y0, y1, y2, y3, y4, y5, y6] 57)) :
    (Builtin.copy_ #[61, 61] 3 #[.slice (some ⟨b, 2, none⟩) 3 3, .slice (some ⟨a, 2, none⟩) 1 3]).run Try.prog w = .ok (.int .i64 1) (w.setCell ⟨b, 2, none⟩ (.int .i64 k0)) := by
  have h := run_copy_cells (P := Try.prog) w 61 61 3 3 b 2 3 3 ⟨a, 2, none⟩ 1 3 [.int .i64 k0] Try.underlying61 elem_int rfl
    (by intro j v hj; match j, hj with | 0, hj => simp at hj; subst hj; simp [Addr.add, World.cell?, ha])
    (by intro j hj; match j, hj with | 0, _ => simp [World.cell?, hb])
    (by intro j hj; match j, hj with | 0, _ => simp [World.frozen?, hb])
    (by intro v hv; simp at hv; subst hv; rfl)
  exact h
theorem copy_1 (c : Int) (w n l : Nat) (k0 k1 k2 : Int) (W : World) :
    (Builtin.copy_ #[61, 61] 3 #[.slice (some ⟨W.heap.size + 1 + 1, 2, none⟩) 3 3, .slice (some ⟨W.heap.size, 2, none⟩) 1 3]).run Try.prog ((((W.alloc (.cells #[.int .u8 c, .int .u8 ((w : Nat) : Int), .int .i64 k0, .int .i64 k1, .int .i64 k2, .int .u64 ((n : Nat) : Int), .int .u8 ((l : Nat) : Int)] 57)).alloc (.cells #[.int .u8 0, .int .u8 0, .int .i64 0, .int .i64 0, .int .i64 0, .int .u64 0, .int .u8 0] 57)).alloc (.cells #[.int .u8 c, .int .u8 ((w : Nat) : Int), .int .i64 0, .int .i64 0, .int .i64 0, .int .u64 0, .int .u8 0] 57)).drew) = .ok (.int .i64 1) (((((W.alloc (.cells #[.int .u8 c, .int .u8 ((w : Nat) : Int), .int .i64 k0, .int .i64 k1, .int .i64 k2, .int .u64 ((n : Nat) : Int), .int .u8 ((l : Nat) : Int)] 57)).alloc (.cells #[.int .u8 0, .int .u8 0, .int .i64 0, .int .i64 0, .int .i64 0, .int .u64 0, .int .u8 0] 57)).alloc (.cells #[.int .u8 c, .int .u8 ((w : Nat) : Int), .int .i64 0, .int .i64 0, .int .i64 0, .int .u64 0, .int .u8 0] 57)).drew).setCell ⟨W.heap.size + 1 + 1, 2, none⟩ (.int .i64 k0)) :=
  copyg_1 _ _ _ _ _ _ _ _ _ _ _ k0 k1 k2 _ _ _ (three0 _ _ _ _) (three2 _ _ _ _)

theorem copyg_2 (x0 x1 x5 x6 y0 y1 y2 y3 y4 y5 y6 : Value) (k0 k1 k2 : Int) (w : World) (a b : Nat) (ha : w.heap[a]? = some (.cells #[x0, x1, .int .i64 k0, .int .i64 k1, .int .i64 k2, x5, x6] 57)) (hb : w.heap[b]? = some (.cells #[y0, y1, y2, y3, y4, y5, y6] 57)) :
    (Builtin.copy_ #[61, 61] 3 #[.slice (some ⟨b, 2, none⟩) 3 3, .slice (some ⟨a, 2, none⟩) 2 3]).run Try.prog w = .ok (.int .i64 2) ((w.setCell ⟨b, 2, none⟩ (.int .i64 k0)).setCell ⟨b, 3, none⟩ (.int .i64 k1)) := by
  have h := run_copy_cells (P := Try.prog) w 61 61 3 3 b 2 3 3 ⟨a, 2, none⟩ 2 3 [.int .i64 k0, .int .i64 k1] Try.underlying61 elem_int rfl
    (by intro j v hj; match j, hj with | 0, hj => simp at hj; subst hj; simp [Addr.add, World.cell?, ha] | 1, hj => simp at hj; subst hj; simp [Addr.add, World.cell?, ha])
    (by intro j hj; match j, hj with | 0, _ => simp [World.cell?, hb] | 1, _ => simp [World.cell?, hb])
    (by intro j hj; match j, hj with | 0, _ => simp [World.frozen?, hb] | 1, _ => simp [World.frozen?, hb])
    (by intro v hv; simp at hv; rcases hv with rfl | rfl <;> rfl)
  exact h
theorem copy_2 (c : Int) (w n l : Nat) (k0 k1 k2 : Int) (W : World) :
    (Builtin.copy_ #[61, 61] 3 #[.slice (some ⟨W.heap.size + 1 + 1, 2, none⟩) 3 3, .slice (some ⟨W.heap.size, 2, none⟩) 2 3]).run Try.prog ((((W.alloc (.cells #[.int .u8 c, .int .u8 ((w : Nat) : Int), .int .i64 k0, .int .i64 k1, .int .i64 k2, .int .u64 ((n : Nat) : Int), .int .u8 ((l : Nat) : Int)] 57)).alloc (.cells #[.int .u8 0, .int .u8 0, .int .i64 0, .int .i64 0, .int .i64 0, .int .u64 0, .int .u8 0] 57)).alloc (.cells #[.int .u8 c, .int .u8 ((w : Nat) : Int), .int .i64 0, .int .i64 0, .int .i64 0, .int .u64 0, .int .u8 0] 57)).drew) = .ok (.int .i64 2) ((((((W.alloc (.cells #[.int .u8 c, .int .u8 ((w : Nat) : Int), .int .i64 k0, .int .i64 k1, .int .i64 k2, .int .u64 ((n : Nat) : Int), .int .u8 ((l : Nat) : Int)] 57)).alloc (.cells #[.int .u8 0, .int .u8 0, .int .i64 0, .int .i64 0, .int .i64 0, .int .u64 0, .int .u8 0] 57)).alloc (.cells #[.int .u8 c, .int .u8 ((w : Nat) : Int), .int .i64 0, .int .i64 0, .int .i64 0, .int .u64 0, .int .u8 0] 57)).drew).setCell ⟨W.heap.size + 1 + 1, 2, none⟩ (.int .i64 k0)).setCell ⟨W.heap.size + 1 + 1, 3, none⟩ (.int .i64 k1)) :=
  copyg_2 _ _ _ _ _ _ _ _ _ _ _ k0 k1 k2 _ _ _ (three0 _ _ _ _) (three2 _ _ _ _)

theorem copyg_3 (x0 x1 x5 x6 y0 y1 y2 y3 y4 y5 y6 : Value) (k0 k1 k2 : Int) (w : World) (a b : Nat) (ha : w.heap[a]? = some (.cells #[x0, x1, .int .i64 k0, .int .i64 k1, .int .i64 k2, x5, x6] 57)) (hb : w.heap[b]? = some (.cells #[y0, y1, y2, y3, y4, y5, y6] 57)) :
    (Builtin.copy_ #[61, 61] 3 #[.slice (some ⟨b, 2, none⟩) 3 3, .slice (some ⟨a, 2, none⟩) 3 3]).run Try.prog w = .ok (.int .i64 3) (((w.setCell ⟨b, 2, none⟩ (.int .i64 k0)).setCell ⟨b, 3, none⟩ (.int .i64 k1)).setCell ⟨b, 4, none⟩ (.int .i64 k2)) := by
  have h := run_copy_cells (P := Try.prog) w 61 61 3 3 b 2 3 3 ⟨a, 2, none⟩ 3 3 [.int .i64 k0, .int .i64 k1, .int .i64 k2] Try.underlying61 elem_int rfl
    (by intro j v hj; match j, hj with | 0, hj => simp at hj; subst hj; simp [Addr.add, World.cell?, ha] | 1, hj => simp at hj; subst hj; simp [Addr.add, World.cell?, ha] | 2, hj => simp at hj; subst hj; simp [Addr.add, World.cell?, ha])
    (by intro j hj; match j, hj with | 0, _ => simp [World.cell?, hb] | 1, _ => simp [World.cell?, hb] | 2, _ => simp [World.cell?, hb])
    (by intro j hj; match j, hj with | 0, _ => simp [World.frozen?, hb] | 1, _ => simp [World.frozen?, hb] | 2, _ => simp [World.frozen?, hb])
    (by intro v hv; simp at hv; rcases hv with rfl | rfl | rfl <;> rfl)
  exact h
theorem copy_3 (c : Int) (w n l : Nat) (k0 k1 k2 : Int) (W : World) :
    (Builtin.copy_ #[61, 61] 3 #[.slice (some ⟨W.heap.size + 1 + 1, 2, none⟩) 3 3, .slice (some ⟨W.heap.size, 2, none⟩) 3 3]).run Try.prog ((((W.alloc (.cells #[.int .u8 c, .int .u8 ((w : Nat) : Int), .int .i64 k0, .int .i64 k1, .int .i64 k2, .int .u64 ((n : Nat) : Int), .int .u8 ((l : Nat) : Int)] 57)).alloc (.cells #[.int .u8 0, .int .u8 0, .int .i64 0, .int .i64 0, .int .i64 0, .int .u64 0, .int .u8 0] 57)).alloc (.cells #[.int .u8 c, .int .u8 ((w : Nat) : Int), .int .i64 0, .int .i64 0, .int .i64 0, .int .u64 0, .int .u8 0] 57)).drew) = .ok (.int .i64 3) (((((((W.alloc (.cells #[.int .u8 c, .int .u8 ((w : Nat) : Int), .int .i64 k0, .int .i64 k1, .int .i64 k2, .int .u64 ((n : Nat) : Int), .int .u8 ((l : Nat) : Int)] 57)).alloc (.cells #[.int .u8 0, .int .u8 0, .int .i64 0, .int .i64 0, .int .i64 0, .int .u64 0, .int .u8 0] 57)).alloc (.cells #[.int .u8 c, .int .u8 ((w : Nat) : Int), .int .i64 0, .int .i64 0, .int .i64 0, .int .u64 0, .int .u8 0] 57)).drew).setCell ⟨W.heap.size + 1 + 1, 2, none⟩ (.int .i64 k0)).setCell ⟨W.heap.size + 1 + 1, 3, none⟩ (.int .i64 k1)).setCell ⟨W.heap.size + 1 + 1, 4, none⟩ (.int .i64 k2)) :=
  copyg_3 _ _ _ _ _ _ _ _ _ _ _ k0 k1 k2 _ _ _ (three0 _ _ _ _) (three2 _ _ _ _)

theorem own_v1 (w n l : Nat) (k0 k1 k2 : Int) (HK : Hid (∀ W : World, Calls Try.prog 49 #[.int .u8 1] W fun e W' => e = .returned (.int .i64 0) ∧ W = W')) (W : World) :
    Calls Try.prog 48 #[.agg #[.int .u8 1, .int .u8 w, .int .i64 k0, .int .i64 k1, .int .i64 k2, .int .u64 n, .int .u8 l]] W fun e W' => e = .returned (.agg #[.int .u8 1, .int .u8 w, .int .i64 0, .int .i64 0, .int .i64 0, .int .u64 n, .int .u8 0]) ∧ Below W.heap.size W W' := by
  have hcp := copy_0
  go_enter Try.func48, Try.ntmps48
  go_wp2_with (go_at_call 49; refine (HK.out _).mono ?_; rintro e w' ⟨rfl, rfl⟩)
  go_region_with (first | (go_at_call 49; refine (HK.out _).mono ?_; rintro e w' ⟨rfl, rfl⟩) | go_in)
  all_goals go_wp2
  all_goals exact bodyPost_ret (v := .agg #[.int .u8 1, .int .u8 w, .int .i64 0, .int .i64 0, .int .i64 0, .int .u64 n, .int .u8 0]) (by simp [results, Try.results48, go_sem]) rfl ⟨rfl, by repeat (first | exact Below.refl _ _ | (refine Below.setCell ?_ (by simp; try omega) _) | (refine bel_alloc ?_ _) | (refine Below.drew ?_))⟩

theorem own_v2 (w n l : Nat) (k0 k1 k2 : Int) (HK : Hid (∀ W : World, Calls Try.prog 49 #[.int .u8 2] W fun e W' => e = .returned (.int .i64 0) ∧ W = W')) (W : World) :
    Calls Try.prog 48 #[.agg #[.int .u8 2, .int .u8 w, .int .i64 k0, .int .i64 k1, .int .i64 k2, .int .u64 n, .int .u8 l]] W fun e W' => e = .returned (.agg #[.int .u8 2, .int .u8 w, .int .i64 0, .int .i64 0, .int .i64 0, .int .u64 n, .int .u8 0]) ∧ Below W.heap.size W W' := by
  have hcp := copy_0
  go_enter Try.func48, Try.ntmps48
  go_wp2_with (go_at_call 49; refine (HK.out _).mono ?_; rintro e w' ⟨rfl, rfl⟩)
  go_region_with (first | (go_at_call 49; refine (HK.out _).mono ?_; rintro e w' ⟨rfl, rfl⟩) | go_in)
  all_goals go_wp2
  all_goals exact bodyPost_ret (v := .agg #[.int .u8 2, .int .u8 w, .int .i64 0, .int .i64 0, .int .i64 0, .int .u64 n, .int .u8 0]) (by simp [results, Try.results48, go_sem]) rfl ⟨rfl, by repeat (first | exact Below.refl _ _ | (refine Below.setCell ?_ (by simp; try omega) _) | (refine bel_alloc ?_ _) | (refine Below.drew ?_))⟩

theorem own_x22 (w n l : Nat) (k0 k1 k2 : Int) (HK : Hid (∀ W : World, Calls Try.prog 49 #[.int .u8 22] W fun e W' => e = .returned (.int .i64 1) ∧ W = W')) (W : World) :
    Calls Try.prog 48 #[.agg #[.int .u8 22, .int .u8 w, .int .i64 k0, .int .i64 k1, .int .i64 k2, .int .u64 n, .int .u8 l]] W fun e W' => e = .returned (.agg #[.int .u8 22, .int .u8 w, .int .i64 k0, .int .i64 0, .int .i64 0, .int .u64 0, .int .u8 l]) ∧ Below W.heap.size W W' := by
  have hcp := copy_1 22 w n l k0 k1 k2 W
  go_enter Try.func48, Try.ntmps48
  go_wp2_with (go_at_call 49; refine (HK.out _).mono ?_; rintro e w' ⟨rfl, rfl⟩)
  go_region_with (first | (go_at_call 49; refine (HK.out _).mono ?_; rintro e w' ⟨rfl, rfl⟩) | go_in)
  all_goals go_wp2
  all_goals exact bodyPost_ret (v := .agg #[.int .u8 22, .int .u8 w, .int .i64 k0, .int .i64 0, .int .i64 0, .int .u64 0, .int .u8 l]) (by simp [results, Try.results48, go_sem]) rfl ⟨rfl, by repeat (first | exact Below.refl _ _ | (refine Below.setCell ?_ (by simp; try omega) _) | (refine bel_alloc ?_ _) | (refine Below.drew ?_))⟩

theorem own_k0 (o w n l : Nat) (k0 k1 k2 : Int) (d1 : ((o : Int) == 1) = false) (d2 : ((o : Int) == 2) = false) (d22 : ((o : Int) == 22) = false) (HK : Hid (∀ W : World, Calls Try.prog 49 #[.int .u8 o] W fun e W' => e = .returned (.int .i64 0) ∧ W = W')) (W : World) :
    Calls Try.prog 48 #[.agg #[.int .u8 o, .int .u8 w, .int .i64 k0, .int .i64 k1, .int .i64 k2, .int .u64 n, .int .u8 l]] W fun e W' => e = .returned (.agg #[.int .u8 o, .int .u8 w, .int .i64 0, .int .i64 0, .int .i64 0, .int .u64 0, .int .u8 0]) ∧ Below W.heap.size W W' := by
  have hcp := copy_0
  go_enter Try.func48, Try.ntmps48
  go_wp2_with (go_at_call 49; refine (HK.out _).mono ?_; rintro e w' ⟨rfl, rfl⟩)
  go_region_with (first | (go_at_call 49; refine (HK.out _).mono ?_; rintro e w' ⟨rfl, rfl⟩) | go_in)
  all_goals go_wp2
  all_goals exact bodyPost_ret (v := .agg #[.int .u8 o, .int .u8 w, .int .i64 0, .int .i64 0, .int .i64 0, .int .u64 0, .int .u8 0]) (by simp [results, Try.results48, go_sem]) rfl ⟨rfl, by repeat (first | exact Below.refl _ _ | (refine Below.setCell ?_ (by simp; try omega) _) | (refine bel_alloc ?_ _) | (refine Below.drew ?_))⟩

theorem own_k1 (o w n l : Nat) (k0 k1 k2 : Int) (d1 : ((o : Int) == 1) = false) (d2 : ((o : Int) == 2) = false) (d22 : ((o : Int) == 22) = false) (HK : Hid (∀ W : World, Calls Try.prog 49 #[.int .u8 o] W fun e W' => e = .returned (.int .i64 1) ∧ W = W')) (W : World) :
    Calls Try.prog 48 #[.agg #[.int .u8 o, .int .u8 w, .int .i64 k0, .int .i64 k1, .int .i64 k2, .int .u64 n, .int .u8 l]] W fun e W' => e = .returned (.agg #[.int .u8 o, .int .u8 w, .int .i64 k0, .int .i64 0, .int .i64 0, .int .u64 0, .int .u8 0]) ∧ Below W.heap.size W W' := by
  have hcp := copy_1 (o : Int) w n l k0 k1 k2 W
  go_enter Try.func48, Try.ntmps48
  go_wp2_with (go_at_call 49; refine (HK.out _).mono ?_; rintro e w' ⟨rfl, rfl⟩)
  go_region_with (first | (go_at_call 49; refine (HK.out _).mono ?_; rintro e w' ⟨rfl, rfl⟩) | go_in)
  all_goals go_wp2
  all_goals exact bodyPost_ret (v := .agg #[.int .u8 o, .int .u8 w, .int .i64 k0, .int .i64 0, .int .i64 0, .int .u64 0, .int .u8 0]) (by simp [results, Try.results48, go_sem]) rfl ⟨rfl, by repeat (first | exact Below.refl _ _ | (refine Below.setCell ?_ (by simp; try omega) _) | (refine bel_alloc ?_ _) | (refine Below.drew ?_))⟩

theorem own_k2 (o w n l : Nat) (k0 k1 k2 : Int) (d1 : ((o : Int) == 1) = false) (d2 : ((o : Int) == 2) = false) (d22 : ((o : Int) == 22) = false) (HK : Hid (∀ W : World, Calls Try.prog 49 #[.int .u8 o] W fun e W' => e = .returned (.int .i64 2) ∧ W = W')) (W : World) :
    Calls Try.prog 48 #[.agg #[.int .u8 o, .int .u8 w, .int .i64 k0, .int .i64 k1, .int .i64 k2, .int .u64 n, .int .u8 l]] W fun e W' => e = .returned (.agg #[.int .u8 o, .int .u8 w, .int .i64 k0, .int .i64 k1, .int .i64 0, .int .u64 0, .int .u8 0]) ∧ Below W.heap.size W W' := by
  have hcp := copy_2 (o : Int) w n l k0 k1 k2 W
  go_enter Try.func48, Try.ntmps48
  go_wp2_with (go_at_call 49; refine (HK.out _).mono ?_; rintro e w' ⟨rfl, rfl⟩)
  go_region_with (first | (go_at_call 49; refine (HK.out _).mono ?_; rintro e w' ⟨rfl, rfl⟩) | go_in)
  all_goals go_wp2
  all_goals exact bodyPost_ret (v := .agg #[.int .u8 o, .int .u8 w, .int .i64 k0, .int .i64 k1, .int .i64 0, .int .u64 0, .int .u8 0]) (by simp [results, Try.results48, go_sem]) rfl ⟨rfl, by repeat (first | exact Below.refl _ _ | (refine Below.setCell ?_ (by simp; try omega) _) | (refine bel_alloc ?_ _) | (refine Below.drew ?_))⟩

theorem own_k3 (o w n l : Nat) (k0 k1 k2 : Int) (d1 : ((o : Int) == 1) = false) (d2 : ((o : Int) == 2) = false) (d22 : ((o : Int) == 22) = false) (HK : Hid (∀ W : World, Calls Try.prog 49 #[.int .u8 o] W fun e W' => e = .returned (.int .i64 3) ∧ W = W')) (W : World) :
    Calls Try.prog 48 #[.agg #[.int .u8 o, .int .u8 w, .int .i64 k0, .int .i64 k1, .int .i64 k2, .int .u64 n, .int .u8 l]] W fun e W' => e = .returned (.agg #[.int .u8 o, .int .u8 w, .int .i64 k0, .int .i64 k1, .int .i64 k2, .int .u64 0, .int .u8 0]) ∧ Below W.heap.size W W' := by
  have hcp := copy_3 (o : Int) w n l k0 k1 k2 W
  go_enter Try.func48, Try.ntmps48
  go_wp2_with (go_at_call 49; refine (HK.out _).mono ?_; rintro e w' ⟨rfl, rfl⟩)
  go_region_with (first | (go_at_call 49; refine (HK.out _).mono ?_; rintro e w' ⟨rfl, rfl⟩) | go_in)
  all_goals go_wp2
  all_goals exact bodyPost_ret (v := .agg #[.int .u8 o, .int .u8 w, .int .i64 k0, .int .i64 k1, .int .i64 k2, .int .u64 0, .int .u8 0]) (by simp [results, Try.results48, go_sem]) rfl ⟨rfl, by repeat (first | exact Below.refl _ _ | (refine Below.setCell ?_ (by simp; try omega) _) | (refine bel_alloc ?_ _) | (refine Below.drew ?_))⟩
end Tm
end Go.Proofs.Ytigjbngedbbdbaa

namespace Go.Proofs.Ytigjbngedbbdbaa
open Go.RowKit Bv
namespace Tm
set_option maxHeartbeats 1000000
set_option maxRecDepth 100000

theorem vec_u3 (w n l : Nat) (k0 k1 k2 : Int) (p g c b len r num : Nat) (er : Int) (W : World)
    (h0 : W.cell? ⟨p, 0, none⟩ = some (.slice (some ⟨g, 0, none⟩) len c)) (lp : p < W.heap.size) (lb : b < W.heap.size) (lg : g < W.heap.size)
    (j0 w0 : Nat) (b0 : W.cell? ⟨b, 2, none⟩ = some (.int .i64 ((j0 : Nat) : Int))) (hj0 : j0 < len) (e0 : W.cell? ⟨g, j0 * 7 + 1, none⟩ = some (.int .u8 ((w0 : Nat) : Int)))
    (HV : Hid (∀ W : World, Calls Try.prog 65 #[.int .u8 3, .agg #[.int .u8 (w0 : Nat), .int .u64 0]] W fun e W' => e = .returned (.tuple #[.agg #[.int .u8 r, .int .u64 num], .int .i64 er]) ∧ Below W.heap.size W W')) :
    Calls Try.prog 51 #[.pointer (some ⟨p, 0, none⟩), .agg #[.int .u8 3, .int .u8 w, .int .i64 k0, .int .i64 k1, .int .i64 k2, .int .u64 n, .int .u8 l], .slice (some ⟨b, 2, none⟩) 1 3] W fun e W' => e = .returned (.tuple #[.agg #[.int .u8 r, .int .u64 num], .int .i64 er]) ∧ Below W.heap.size W W' := by
  have lp1 : p < W.heap.size + 1 := by omega
  have lp2 : p < W.heap.size + 1 + 1 := by omega
  have lb1 : b < W.heap.size + 1 := by omega
  have lb2 : b < W.heap.size + 1 + 1 := by omega
  have lg1 : g < W.heap.size + 1 := by omega
  have lg2 : g < W.heap.size + 1 + 1 := by omega
  go_enter Try.func51, Try.ntmps51
  go_wp2_with fail
  refine wp_loop_rounds 2 ?_
  rw [rounds_succ]
  go_wp2_with fail
  rw [rounds_succ]
  go_wp2_with (go_at_call 65; refine (HV.out _).mono ?_; rintro e w1 ⟨rfl, hb⟩; obtain ⟨hc, hf⟩ := bcell hb)
  exact bodyPost_ret (v := .tuple #[.agg #[.int .u8 r, .int .u64 num], .int .i64 er]) (by simp [results, Try.results51, go_sem, hc]) rfl ⟨rfl, by repeat (first | exact Below.refl _ _ | exact hb | (refine bel_call ?_ hb) | (refine Below.setCell ?_ (by simp; try omega) _) | (refine bel_alloc ?_ _) | (refine Below.drew ?_))⟩

theorem vec_u4 (w n l : Nat) (k0 k1 k2 : Int) (p g c b len r num : Nat) (er : Int) (W : World)
    (h0 : W.cell? ⟨p, 0, none⟩ = some (.slice (some ⟨g, 0, none⟩) len c)) (lp : p < W.heap.size) (lb : b < W.heap.size) (lg : g < W.heap.size)
    (j0 w0 : Nat) (b0 : W.cell? ⟨b, 2, none⟩ = some (.int .i64 ((j0 : Nat) : Int))) (hj0 : j0 < len) (e0 : W.cell? ⟨g, j0 * 7 + 1, none⟩ = some (.int .u8 ((w0 : Nat) : Int)))
    (HV : Hid (∀ W : World, Calls Try.prog 65 #[.int .u8 4, .agg #[.int .u8 (w0 : Nat), .int .u64 0]] W fun e W' => e = .returned (.tuple #[.agg #[.int .u8 r, .int .u64 num], .int .i64 er]) ∧ Below W.heap.size W W')) :
    Calls Try.prog 51 #[.pointer (some ⟨p, 0, none⟩), .agg #[.int .u8 4, .int .u8 w, .int .i64 k0, .int .i64 k1, .int .i64 k2, .int .u64 n, .int .u8 l], .slice (some ⟨b, 2, none⟩) 1 3] W fun e W' => e = .returned (.tuple #[.agg #[.int .u8 r, .int .u64 num], .int .i64 er]) ∧ Below W.heap.size W W' := by
  have lp1 : p < W.heap.size + 1 := by omega
  have lp2 : p < W.heap.size + 1 + 1 := by omega
  have lb1 : b < W.heap.size + 1 := by omega
  have lb2 : b < W.heap.size + 1 + 1 := by omega
  have lg1 : g < W.heap.size + 1 := by omega
  have lg2 : g < W.heap.size + 1 + 1 := by omega
  go_enter Try.func51, Try.ntmps51
  go_wp2_with fail
  refine wp_loop_rounds 2 ?_
  rw [rounds_succ]
  go_wp2_with fail
  rw [rounds_succ]
  go_wp2_with (go_at_call 65; refine (HV.out _).mono ?_; rintro e w1 ⟨rfl, hb⟩; obtain ⟨hc, hf⟩ := bcell hb)
  exact bodyPost_ret (v := .tuple #[.agg #[.int .u8 r, .int .u64 num], .int .i64 er]) (by simp [results, Try.results51, go_sem, hc]) rfl ⟨rfl, by repeat (first | exact Below.refl _ _ | exact hb | (refine bel_call ?_ hb) | (refine Below.setCell ?_ (by simp; try omega) _) | (refine bel_alloc ?_ _) | (refine Below.drew ?_))⟩

theorem vec_e (w n l : Nat) (k0 k1 k2 : Int) (p g c b len r num : Nat) (er : Int) (W : World) (hw : w ≤ 255) (hl : l ≤ 255)
    (h0 : W.cell? ⟨p, 0, none⟩ = some (.slice (some ⟨g, 0, none⟩) len c)) (lp : p < W.heap.size) (lb : b < W.heap.size) (lg : g < W.heap.size)
    (j0 w0 : Nat) (b0 : W.cell? ⟨b, 2, none⟩ = some (.int .i64 ((j0 : Nat) : Int))) (hj0 : j0 < len) (e0 : W.cell? ⟨g, j0 * 7 + 1, none⟩ = some (.int .u8 ((w0 : Nat) : Int)))
    (HV : Hid (∀ W : World, Calls Try.prog 66 #[.agg #[.int .u8 (w0 : Nat), .int .u64 0], .int .i64 (l : Nat), .int .i64 (w : Nat)] W fun e W' => e = .returned (.tuple #[.agg #[.int .u8 r, .int .u64 num], .int .i64 er]) ∧ Below W.heap.size W W')) :
    Calls Try.prog 51 #[.pointer (some ⟨p, 0, none⟩), .agg #[.int .u8 22, .int .u8 w, .int .i64 k0, .int .i64 k1, .int .i64 k2, .int .u64 n, .int .u8 l], .slice (some ⟨b, 2, none⟩) 1 3] W fun e W' => e = .returned (.tuple #[.agg #[.int .u8 r, .int .u64 num], .int .i64 er]) ∧ Below W.heap.size W W' := by
  have lp1 : p < W.heap.size + 1 := by omega
  have lp2 : p < W.heap.size + 1 + 1 := by omega
  have lb1 : b < W.heap.size + 1 := by omega
  have lb2 : b < W.heap.size + 1 + 1 := by omega
  have lg1 : g < W.heap.size + 1 := by omega
  have lg2 : g < W.heap.size + 1 + 1 := by omega
  go_enter Try.func51, Try.ntmps51
  go_wp2_with fail
  refine wp_loop_rounds 2 ?_
  rw [rounds_succ]
  go_wp2_with fail
  rw [rounds_succ]
  go_wp2_with (go_at_call 66; refine (HV.out _).mono ?_; rintro e w1 ⟨rfl, hb⟩; obtain ⟨hc, hf⟩ := bcell hb)
  exact bodyPost_ret (v := .tuple #[.agg #[.int .u8 r, .int .u64 num], .int .i64 er]) (by simp [results, Try.results51, go_sem, hc]) rfl ⟨rfl, by repeat (first | exact Below.refl _ _ | exact hb | (refine bel_call ?_ hb) | (refine Below.setCell ?_ (by simp; try omega) _) | (refine bel_alloc ?_ _) | (refine Below.drew ?_))⟩

theorem vec_x3 (w n l : Nat) (k0 k1 k2 : Int) (p g c b len r num : Nat) (er : Int) (W : World) (hw : w ≤ 255) (_hl : l ≤ 255)
    (h0 : W.cell? ⟨p, 0, none⟩ = some (.slice (some ⟨g, 0, none⟩) len c)) (lp : p < W.heap.size) (lb : b < W.heap.size) (lg : g < W.heap.size)
    (j0 w0 : Nat) (b0 : W.cell? ⟨b, 2, none⟩ = some (.int .i64 ((j0 : Nat) : Int))) (hj0 : j0 < len) (e0 : W.cell? ⟨g, j0 * 7 + 1, none⟩ = some (.int .u8 ((w0 : Nat) : Int)))
    (HV : Hid (∀ W : World, Calls Try.prog 67 #[.int .u8 23, .agg #[.int .u8 (w0 : Nat), .int .u64 0], .int .i64 (w : Nat)] W fun e W' => e = .returned (.tuple #[.agg #[.int .u8 r, .int .u64 num], .int .i64 er]) ∧ Below W.heap.size W W')) :
    Calls Try.prog 51 #[.pointer (some ⟨p, 0, none⟩), .agg #[.int .u8 23, .int .u8 w, .int .i64 k0, .int .i64 k1, .int .i64 k2, .int .u64 n, .int .u8 l], .slice (some ⟨b, 2, none⟩) 1 3] W fun e W' => e = .returned (.tuple #[.agg #[.int .u8 r, .int .u64 num], .int .i64 er]) ∧ Below W.heap.size W W' := by
  have lp1 : p < W.heap.size + 1 := by omega
  have lp2 : p < W.heap.size + 1 + 1 := by omega
  have lb1 : b < W.heap.size + 1 := by omega
  have lb2 : b < W.heap.size + 1 + 1 := by omega
  have lg1 : g < W.heap.size + 1 := by omega
  have lg2 : g < W.heap.size + 1 + 1 := by omega
  go_enter Try.func51, Try.ntmps51
  go_wp2_with fail
  refine wp_loop_rounds 2 ?_
  rw [rounds_succ]
  go_wp2_with fail
  rw [rounds_succ]
  go_wp2_with (go_at_call 67; refine (HV.out _).mono ?_; rintro e w1 ⟨rfl, hb⟩; obtain ⟨hc, hf⟩ := bcell hb)
  exact bodyPost_ret (v := .tuple #[.agg #[.int .u8 r, .int .u64 num], .int .i64 er]) (by simp [results, Try.results51, go_sem, hc]) rfl ⟨rfl, by repeat (first | exact Below.refl _ _ | exact hb | (refine bel_call ?_ hb) | (refine Below.setCell ?_ (by simp; try omega) _) | (refine bel_alloc ?_ _) | (refine Below.drew ?_))⟩

theorem vec_x4 (w n l : Nat) (k0 k1 k2 : Int) (p g c b len r num : Nat) (er : Int) (W : World) (hw : w ≤ 255) (_hl : l ≤ 255)
    (h0 : W.cell? ⟨p, 0, none⟩ = some (.slice (some ⟨g, 0, none⟩) len c)) (lp : p < W.heap.size) (lb : b < W.heap.size) (lg : g < W.heap.size)
    (j0 w0 : Nat) (b0 : W.cell? ⟨b, 2, none⟩ = some (.int .i64 ((j0 : Nat) : Int))) (hj0 : j0 < len) (e0 : W.cell? ⟨g, j0 * 7 + 1, none⟩ = some (.int .u8 ((w0 : Nat) : Int)))
    (HV : Hid (∀ W : World, Calls Try.prog 67 #[.int .u8 24, .agg #[.int .u8 (w0 : Nat), .int .u64 0], .int .i64 (w : Nat)] W fun e W' => e = .returned (.tuple #[.agg #[.int .u8 r, .int .u64 num], .int .i64 er]) ∧ Below W.heap.size W W')) :
    Calls Try.prog 51 #[.pointer (some ⟨p, 0, none⟩), .agg #[.int .u8 24, .int .u8 w, .int .i64 k0, .int .i64 k1, .int .i64 k2, .int .u64 n, .int .u8 l], .slice (some ⟨b, 2, none⟩) 1 3] W fun e W' => e = .returned (.tuple #[.agg #[.int .u8 r, .int .u64 num], .int .i64 er]) ∧ Below W.heap.size W W' := by
  have lp1 : p < W.heap.size + 1 := by omega
  have lp2 : p < W.heap.size + 1 + 1 := by omega
  have lb1 : b < W.heap.size + 1 := by omega
  have lb2 : b < W.heap.size + 1 + 1 := by omega
  have lg1 : g < W.heap.size + 1 := by omega
  have lg2 : g < W.heap.size + 1 + 1 := by omega
  go_enter Try.func51, Try.ntmps51
  go_wp2_with fail
  refine wp_loop_rounds 2 ?_
  rw [rounds_succ]
  go_wp2_with fail
  rw [rounds_succ]
  go_wp2_with (go_at_call 67; refine (HV.out _).mono ?_; rintro e w1 ⟨rfl, hb⟩; obtain ⟨hc, hf⟩ := bcell hb)
  exact bodyPost_ret (v := .tuple #[.agg #[.int .u8 r, .int .u64 num], .int .i64 er]) (by simp [results, Try.results51, go_sem, hc]) rfl ⟨rfl, by repeat (first | exact Below.refl _ _ | exact hb | (refine bel_call ?_ hb) | (refine Below.setCell ?_ (by simp; try omega) _) | (refine bel_alloc ?_ _) | (refine Below.drew ?_))⟩

theorem vec_i (w n l : Nat) (k0 k1 k2 : Int) (p g c b len r num : Nat) (er : Int) (W : World)
    (h0 : W.cell? ⟨p, 0, none⟩ = some (.slice (some ⟨g, 0, none⟩) len c)) (lp : p < W.heap.size) (lb : b < W.heap.size) (lg : g < W.heap.size)
    (j0 w0 : Nat) (b0 : W.cell? ⟨b, 2, none⟩ = some (.int .i64 ((j0 : Nat) : Int))) (hj0 : j0 < len) (e0 : W.cell? ⟨g, j0 * 7 + 1, none⟩ = some (.int .u8 ((w0 : Nat) : Int)))
    (j1 w1 : Nat) (b1 : W.cell? ⟨b, 3, none⟩ = some (.int .i64 ((j1 : Nat) : Int))) (hj1 : j1 < len) (e1 : W.cell? ⟨g, j1 * 7 + 1, none⟩ = some (.int .u8 ((w1 : Nat) : Int)))
    (j2 w2 : Nat) (b2 : W.cell? ⟨b, 4, none⟩ = some (.int .i64 ((j2 : Nat) : Int))) (hj2 : j2 < len) (e2 : W.cell? ⟨g, j2 * 7 + 1, none⟩ = some (.int .u8 ((w2 : Nat) : Int)))
    (HV : Hid (∀ W : World, Calls Try.prog 68 #[.agg #[.int .u8 (w0 : Nat), .int .u64 0], .agg #[.int .u8 (w1 : Nat), .int .u64 0], .agg #[.int .u8 (w2 : Nat), .int .u64 0]] W fun e W' => e = .returned (.tuple #[.agg #[.int .u8 r, .int .u64 num], .int .i64 er]) ∧ Below W.heap.size W W')) :
    Calls Try.prog 51 #[.pointer (some ⟨p, 0, none⟩), .agg #[.int .u8 25, .int .u8 w, .int .i64 k0, .int .i64 k1, .int .i64 k2, .int .u64 n, .int .u8 l], .slice (some ⟨b, 2, none⟩) 3 3] W fun e W' => e = .returned (.tuple #[.agg #[.int .u8 r, .int .u64 num], .int .i64 er]) ∧ Below W.heap.size W W' := by
  have lp1 : p < W.heap.size + 1 := by omega
  have lp2 : p < W.heap.size + 1 + 1 := by omega
  have lb1 : b < W.heap.size + 1 := by omega
  have lb2 : b < W.heap.size + 1 + 1 := by omega
  have lg1 : g < W.heap.size + 1 := by omega
  have lg2 : g < W.heap.size + 1 + 1 := by omega
  go_enter Try.func51, Try.ntmps51
  go_wp2_with fail
  refine wp_loop_rounds 4 ?_
  rw [rounds_succ]
  go_wp2_with fail
  rw [rounds_succ]
  go_wp2_with fail
  rw [rounds_succ]
  go_wp2_with fail
  rw [rounds_succ]
  go_wp2_with (go_at_call 68; refine (HV.out _).mono ?_; rintro e w1 ⟨rfl, hb⟩; obtain ⟨hc, hf⟩ := bcell hb)
  exact bodyPost_ret (v := .tuple #[.agg #[.int .u8 r, .int .u64 num], .int .i64 er]) (by simp [results, Try.results51, go_sem, hc]) rfl ⟨rfl, by repeat (first | exact Below.refl _ _ | exact hb | (refine bel_call ?_ hb) | (refine Below.setCell ?_ (by simp; try omega) _) | (refine bel_alloc ?_ _) | (refine Below.drew ?_))⟩

theorem vec_b (o w n l : Nat) (k0 k1 k2 : Int) (p g c b len r num : Nat) (er : Int) (W : World) (d3 : ((o : Int) == 3) = false) (d4 : ((o : Int) == 4) = false) (d22 : ((o : Int) == 22) = false) (d23 : ((o : Int) == 23) = false) (d24 : ((o : Int) == 24) = false) (d25 : ((o : Int) == 25) = false)
    (h0 : W.cell? ⟨p, 0, none⟩ = some (.slice (some ⟨g, 0, none⟩) len c)) (lp : p < W.heap.size) (lb : b < W.heap.size) (lg : g < W.heap.size)
    (j0 w0 : Nat) (b0 : W.cell? ⟨b, 2, none⟩ = some (.int .i64 ((j0 : Nat) : Int))) (hj0 : j0 < len) (e0 : W.cell? ⟨g, j0 * 7 + 1, none⟩ = some (.int .u8 ((w0 : Nat) : Int)))
    (j1 w1 : Nat) (b1 : W.cell? ⟨b, 3, none⟩ = some (.int .i64 ((j1 : Nat) : Int))) (hj1 : j1 < len) (e1 : W.cell? ⟨g, j1 * 7 + 1, none⟩ = some (.int .u8 ((w1 : Nat) : Int)))
    (HV : Hid (∀ W : World, Calls Try.prog 69 #[.int .u8 o, .agg #[.int .u8 (w0 : Nat), .int .u64 0], .agg #[.int .u8 (w1 : Nat), .int .u64 0]] W fun e W' => e = .returned (.tuple #[.agg #[.int .u8 r, .int .u64 num], .int .i64 er]) ∧ Below W.heap.size W W')) :
    Calls Try.prog 51 #[.pointer (some ⟨p, 0, none⟩), .agg #[.int .u8 o, .int .u8 w, .int .i64 k0, .int .i64 k1, .int .i64 k2, .int .u64 n, .int .u8 l], .slice (some ⟨b, 2, none⟩) 2 3] W fun e W' => e = .returned (.tuple #[.agg #[.int .u8 r, .int .u64 num], .int .i64 er]) ∧ Below W.heap.size W W' := by
  have lp1 : p < W.heap.size + 1 := by omega
  have lp2 : p < W.heap.size + 1 + 1 := by omega
  have lb1 : b < W.heap.size + 1 := by omega
  have lb2 : b < W.heap.size + 1 + 1 := by omega
  have lg1 : g < W.heap.size + 1 := by omega
  have lg2 : g < W.heap.size + 1 + 1 := by omega
  go_enter Try.func51, Try.ntmps51
  go_wp2_with fail
  refine wp_loop_rounds 3 ?_
  rw [rounds_succ]
  go_wp2_with fail
  rw [rounds_succ]
  go_wp2_with fail
  rw [rounds_succ]
  go_wp2_with (go_at_call 69; refine (HV.out _).mono ?_; rintro e w1 ⟨rfl, hb⟩; obtain ⟨hc, hf⟩ := bcell hb)
  exact bodyPost_ret (v := .tuple #[.agg #[.int .u8 r, .int .u64 num], .int .i64 er]) (by simp [results, Try.results51, go_sem, hc]) rfl ⟨rfl, by repeat (first | exact Below.refl _ _ | exact hb | (refine bel_call ?_ hb) | (refine Below.setCell ?_ (by simp; try omega) _) | (refine bel_alloc ?_ _) | (refine Below.drew ?_))⟩

theorem vec_n (o w n l : Nat) (k0 k1 k2 : Int) (p _g c b len r num : Nat) (er : Int) (W : World) (d3 : ((o : Int) == 3) = false) (d4 : ((o : Int) == 4) = false) (d22 : ((o : Int) == 22) = false) (d23 : ((o : Int) == 23) = false) (d24 : ((o : Int) == 24) = false) (d25 : ((o : Int) == 25) = false) (sv : Option Addr)
    (_h0 : W.cell? ⟨p, 0, none⟩ = some (.slice sv len c)) (lp : p < W.heap.size) (lb : b < W.heap.size)
    (HV : Hid (∀ W : World, Calls Try.prog 69 #[.int .u8 o, .agg #[.int .u8 0, .int .u64 0], .agg #[.int .u8 0, .int .u64 0]] W fun e W' => e = .returned (.tuple #[.agg #[.int .u8 r, .int .u64 num], .int .i64 er]) ∧ Below W.heap.size W W')) :
    Calls Try.prog 51 #[.pointer (some ⟨p, 0, none⟩), .agg #[.int .u8 o, .int .u8 w, .int .i64 k0, .int .i64 k1, .int .i64 k2, .int .u64 n, .int .u8 l], .slice (some ⟨b, 2, none⟩) 0 3] W fun e W' => e = .returned (.tuple #[.agg #[.int .u8 r, .int .u64 num], .int .i64 er]) ∧ Below W.heap.size W W' := by
  have lp1 : p < W.heap.size + 1 := by omega
  have lp2 : p < W.heap.size + 1 + 1 := by omega
  have lb1 : b < W.heap.size + 1 := by omega
  have lb2 : b < W.heap.size + 1 + 1 := by omega
  go_enter Try.func51, Try.ntmps51
  go_wp2_with fail
  refine wp_loop_rounds 1 ?_
  rw [rounds_succ]
  go_wp2_with (go_at_call 69; refine (HV.out _).mono ?_; rintro e w1 ⟨rfl, hb⟩; obtain ⟨hc, hf⟩ := bcell hb)
  exact bodyPost_ret (v := .tuple #[.agg #[.int .u8 r, .int .u64 num], .int .i64 er]) (by simp [results, Try.results51, go_sem, hc]) rfl ⟨rfl, by repeat (first | exact Below.refl _ _ | exact hb | (refine bel_call ?_ hb) | (refine Below.setCell ?_ (by simp; try omega) _) | (refine bel_alloc ?_ _) | (refine Below.drew ?_))⟩
end Tm
end Go.Proofs.Ytigjbngedbbdbaa

namespace Go.Proofs.Ytigjbngedbbdbaa
open Go.RowKit
namespace Bv
set_option maxHeartbeats 400000

theorem div_u (w v n m : Nat) (hn : n < 18446744073709551616) (W : World) :
    Calls Try.prog 93 #[.int .u8 11, .agg #[.int .u8 w, .int .u64 n], .agg #[.int .u8 v, .int .u64 m]] W fun e W' => e = .returned (.int .u64 (numB 11 w v n m : Int)) ∧ Below W.heap.size W W' := by
  by_cases h : m = 0
  · subst h
    go_enter Try.func93, Try.ntmps93
    go_wp2
    go_ret
    exact ⟨rfl, bel_alloc (bel_alloc (Below.refl _ _) _) _⟩
  · have d1 : ((m : Int) == 0) = false := by simp; omega
    have hp : (1 : Int) ≤ (m : Int) := by omega
    go_enter Try.func93, Try.ntmps93
    go_wp2
    go_ret
    exact ⟨ret_u64 (num11 w v n m hn h), bel_alloc (bel_alloc (Below.refl _ _) _) _⟩

theorem div_r (w v n m : Nat) (W : World) :
    Calls Try.prog 93 #[.int .u8 12, .agg #[.int .u8 w, .int .u64 n], .agg #[.int .u8 v, .int .u64 m]] W fun e W' => e = .returned (.int .u64 (numB 12 w v n m : Int)) ∧ Below W.heap.size W W' := by
  by_cases h : m = 0
  · subst h
    go_enter Try.func93, Try.ntmps93
    go_wp2
    go_ret
    exact ⟨rfl, bel_alloc (bel_alloc (Below.refl _ _) _) _⟩
  · have d1 : ((m : Int) == 0) = false := by simp; omega
    have hp : (1 : Int) ≤ (m : Int) := by omega
    go_enter Try.func93, Try.ntmps93
    go_wp2
    go_ret
    refine ⟨ret_u64 (num12 w v n m h), bel_alloc (bel_alloc (Below.refl _ _) _) _⟩

theorem div_s (w v n m : Nat) (hw1 : 1 ≤ w) (hw2 : w ≤ 64) (hn : n < 2 ^ w) (hv1 : 1 ≤ v) (hv2 : v ≤ 64) (hm : m < 2 ^ v) (W : World) :
    Calls Try.prog 93 #[.int .u8 13, .agg #[.int .u8 w, .int .u64 n], .agg #[.int .u8 v, .int .u64 m]] W fun e W' => e = .returned (.int .u64 (numB 13 w v n m : Int)) ∧ Below W.heap.size W W' := by
  by_cases h : m = 0
  · subst h
    go_enter Try.func93, Try.ntmps93
    go_wp2
    go_ret
    exact ⟨rfl, bel_alloc (bel_alloc (Below.refl _ _) _) _⟩
  · have d1 : ((m : Int) == 0) = false := by simp; omega
    have d1' : ((m : Int) != 0) = true := by simp; omega
    have d2 : (wo v m == 0) = false := by simpa using wo_ne hm h
    have d3 : ¬ wo v m = 0 := wo_ne hm h
    go_enter Try.func93, Try.ntmps93
    go_wp2_with fail
    go_region_held3 (fun w' => w'.cell? ⟨W.heap.size, 0, none⟩ = some (.int .u8 w) ∧ w'.cell? ⟨W.heap.size, 1, none⟩ = some (.int .u64 n) ∧ w'.cell? ⟨W.heap.size + 1, 0, none⟩ = some (.int .u8 v) ∧ w'.cell? ⟨W.heap.size + 1, 1, none⟩ = some (.int .u64 m))
      (first | ((try dsimp only); (try go_split_ands); refine ⟨?_, ?_, ?_, ?_⟩ <;> (rw [hc _ _ (by first | (simp; done) | (simp; omega) | omega)]; first | assumption | (simp [go_sem]; done))) | (go_keep; done))
      (first | (go_at_call 84; (first | (with_reducible refine (worth_any w n hw1 hw2 hn _).mono ?_) | (with_reducible refine (worth_any v m hv1 hv2 hm _).mono ?_)); rintro e w1 ⟨rfl, hb⟩; obtain ⟨hc, hf⟩ := bcell hb; have hz : W.heap.size + 1 < w1.heap.size := by have := hb.size; (try simp at this); omega))
    go_wp2
    go_ret
    refine ⟨ret_u64 (num13 w v n m h), ?_⟩
    refine bel_call ?_ hb
    refine bel_call ?_ (by assumption)
    exact (bel_alloc (bel_alloc (Below.refl _ _) _) _).drew

theorem div_sr (w v n m : Nat) (hw1 : 1 ≤ w) (hw2 : w ≤ 64) (hn : n < 2 ^ w) (hv1 : 1 ≤ v) (hv2 : v ≤ 64) (hm : m < 2 ^ v) (W : World) :
    Calls Try.prog 93 #[.int .u8 14, .agg #[.int .u8 w, .int .u64 n], .agg #[.int .u8 v, .int .u64 m]] W fun e W' => e = .returned (.int .u64 (numB 14 w v n m : Int)) ∧ Below W.heap.size W W' := by
  by_cases h : m = 0
  · subst h
    go_enter Try.func93, Try.ntmps93
    go_wp2
    go_ret
    exact ⟨rfl, bel_alloc (bel_alloc (Below.refl _ _) _) _⟩
  · have d1 : ((m : Int) == 0) = false := by simp; omega
    have d1' : ((m : Int) != 0) = true := by simp; omega
    have d2 : (wo v m == 0) = false := by simpa using wo_ne hm h
    have d3 : ¬ wo v m = 0 := wo_ne hm h
    go_enter Try.func93, Try.ntmps93
    go_wp2_with fail
    go_region_held3 (fun w' => w'.cell? ⟨W.heap.size, 0, none⟩ = some (.int .u8 w) ∧ w'.cell? ⟨W.heap.size, 1, none⟩ = some (.int .u64 n) ∧ w'.cell? ⟨W.heap.size + 1, 0, none⟩ = some (.int .u8 v) ∧ w'.cell? ⟨W.heap.size + 1, 1, none⟩ = some (.int .u64 m))
      (first | ((try dsimp only); (try go_split_ands); refine ⟨?_, ?_, ?_, ?_⟩ <;> (rw [hc _ _ (by first | (simp; done) | (simp; omega) | omega)]; first | assumption | (simp [go_sem]; done))) | (go_keep; done))
      (first | (go_at_call 84; (first | (with_reducible refine (worth_any w n hw1 hw2 hn _).mono ?_) | (with_reducible refine (worth_any v m hv1 hv2 hm _).mono ?_)); rintro e w1 ⟨rfl, hb⟩; obtain ⟨hc, hf⟩ := bcell hb; have hz : W.heap.size + 1 < w1.heap.size := by have := hb.size; (try simp at this); omega))
    go_wp2
    go_ret
    refine ⟨ret_u64 (num14 w v n m h), ?_⟩
    refine bel_call ?_ hb
    refine bel_call ?_ (by assumption)
    exact (bel_alloc (bel_alloc (Below.refl _ _) _) _).drew

end Bv
end Go.Proofs.Ytigjbngedbbdbaa
