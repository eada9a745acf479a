/-
  A node with those fields alone that its operator has: what own of layer term returns, as a fact on one call.
-/
import Derived.Test.YthelkbdiedfmfaaGreatTmKids
import Derived.Test.YthelkbdiedfmfaaGreatTmLeaf
import Derived.Deep.RegionWith
import Derived.Laws.IdiomCopy
namespace Go.Proofs.YthelkbdiedfmfaaGreat
open Go.RowKit Bv
namespace Tm
set_option maxHeartbeats 1000000
set_option maxRecDepth 100000

theorem elem_int : (Tryz.prog.info? 3).map (·.size) = some 1 := by kernel_rfl
theorem copy_0 (w : World) (b a : Addr) : (Builtin.copy_ #[31, 31] 3 #[.slice (some b) 3 3, .slice (some a) 0 3]).run Tryz.prog w = .ok (.int .i64 0) w :=
  run_copy_none w _ _ _ 3 _ _ 3 3 0 3 Tryz.underlying31 elem_int rfl

theorem three0 (W : World) (A B C : Obj) : (((W.alloc A).alloc B).alloc C).drew.heap[W.heap.size]? = some A := by
  show (((W.alloc A).alloc B).alloc C).heap[W.heap.size]? = some A
  rw [Below.heap_alloc _ _ _ (by simp; omega), Below.heap_alloc _ _ _ (by simp)]
  exact (MapKept.heap_alloc W A).1
theorem three2 (W : World) (A B C : Obj) : (((W.alloc A).alloc B).alloc C).drew.heap[W.heap.size + 1 + 1]? = some C := by
  have h := (MapKept.heap_alloc ((W.alloc A).alloc B) C).1
  have e : ((W.alloc A).alloc B).heap.size = W.heap.size + 1 + 1 := by simp
  rw [e] at h
  exact h

theorem copyg_1 (x0 x1 x5 x6 y0 y1 y2 y3 y4 y5 y6 : Value) (k0 k1 k2 : Int) (w : World) (a b : Nat) (ha : w.heap[a]? = some (.cells #[x0, x1, .int .i64 k0, .int .i64 k1, .int .i64 k2, x5, x6] 56)) (hb : w.heap[b]? = some (.cells #[y0, y1, y2, y3, y4, y5, y6] 56)) :
    (Builtin.copy_ #[31, 31] 3 #[.slice (some ⟨b, 2, none⟩) 3 3, .slice (some ⟨a, 2, none⟩) 1 3]).run Tryz.prog w = .ok (.int .i64 1) (w.setCell ⟨b, 2, none⟩ (.int .i64 k0)) := by
  have h := run_copy_cells (P := Tryz.prog) w 31 31 3 3 b 2 3 3 ⟨a, 2, none⟩ 1 3 [.int .i64 k0] Tryz.underlying31 elem_int rfl
    (by intro j v hj; match j, hj with | 0, hj => simp at hj; subst hj; simp [Addr.add, World.cell?, ha])
    (by intro j hj; match j, hj with | 0, _ => simp [World.cell?, hb])
    (by intro j hj; match j, hj with | 0, _ => simp [World.frozen?, hb])
    (by intro v hv; simp at hv; subst hv; rfl)
  exact h
theorem copy_1 (c : Int) (w n l : Nat) (k0 k1 k2 : Int) (W : World) :
    (Builtin.copy_ #[31, 31] 3 #[.slice (some ⟨W.heap.size + 1 + 1, 2, none⟩) 3 3, .slice (some ⟨W.heap.size, 2, none⟩) 1 3]).run Tryz.prog ((((W.alloc (.cells #[.int .u8 c, .int .u8 ((w : Nat) : Int), .int .i64 k0, .int .i64 k1, .int .i64 k2, .int .u64 ((n : Nat) : Int), .int .u8 ((l : Nat) : Int)] 56)).alloc (.cells #[.int .u8 0, .int .u8 0, .int .i64 0, .int .i64 0, .int .i64 0, .int .u64 0, .int .u8 0] 56)).alloc (.cells #[.int .u8 c, .int .u8 ((w : Nat) : Int), .int .i64 0, .int .i64 0, .int .i64 0, .int .u64 0, .int .u8 0] 56)).drew) = .ok (.int .i64 1) (((((W.alloc (.cells #[.int .u8 c, .int .u8 ((w : Nat) : Int), .int .i64 k0, .int .i64 k1, .int .i64 k2, .int .u64 ((n : Nat) : Int), .int .u8 ((l : Nat) : Int)] 56)).alloc (.cells #[.int .u8 0, .int .u8 0, .int .i64 0, .int .i64 0, .int .i64 0, .int .u64 0, .int .u8 0] 56)).alloc (.cells #[.int .u8 c, .int .u8 ((w : Nat) : Int), .int .i64 0, .int .i64 0, .int .i64 0, .int .u64 0, .int .u8 0] 56)).drew).setCell ⟨W.heap.size + 1 + 1, 2, none⟩ (.int .i64 k0)) :=
  copyg_1 _ _ _ _ _ _ _ _ _ _ _ k0 k1 k2 _ _ _ (three0 _ _ _ _) (three2 _ _ _ _)

theorem copyg_2 (x0 x1 x5 x6 y0 y1 y2 y3 y4 y5 y6 : Value) (k0 k1 k2 : Int) (w : World) (a b : Nat) (ha : w.heap[a]? = some (.cells #[x0, x1, .int .i64 k0, .int .i64 k1, .int .i64 k2, x5, x6] 56)) (hb : w.heap[b]? = some (.cells #[y0, y1, y2, y3, y4, y5, y6] 56)) :
    (Builtin.copy_ #[31, 31] 3 #[.slice (some ⟨b, 2, none⟩) 3 3, .slice (some ⟨a, 2, none⟩) 2 3]).run Tryz.prog w = .ok (.int .i64 2) ((w.setCell ⟨b, 2, none⟩ (.int .i64 k0)).setCell ⟨b, 3, none⟩ (.int .i64 k1)) := by
  have h := run_copy_cells (P := Tryz.prog) w 31 31 3 3 b 2 3 3 ⟨a, 2, none⟩ 2 3 [.int .i64 k0, .int .i64 k1] Tryz.underlying31 elem_int rfl
    (by intro j v hj; match j, hj with | 0, hj => simp at hj; subst hj; simp [Addr.add, World.cell?, ha] | 1, hj => simp at hj; subst hj; simp [Addr.add, World.cell?, ha])
    (by intro j hj; match j, hj with | 0, _ => simp [World.cell?, hb] | 1, _ => simp [World.cell?, hb])
    (by intro j hj; match j, hj with | 0, _ => simp [World.frozen?, hb] | 1, _ => simp [World.frozen?, hb])
    (by intro v hv; simp at hv; rcases hv with rfl | rfl <;> rfl)
  exact h
theorem copy_2 (c : Int) (w n l : Nat) (k0 k1 k2 : Int) (W : World) :
    (Builtin.copy_ #[31, 31] 3 #[.slice (some ⟨W.heap.size + 1 + 1, 2, none⟩) 3 3, .slice (some ⟨W.heap.size, 2, none⟩) 2 3]).run Tryz.prog ((((W.alloc (.cells #[.int .u8 c, .int .u8 ((w : Nat) : Int), .int .i64 k0, .int .i64 k1, .int .i64 k2, .int .u64 ((n : Nat) : Int), .int .u8 ((l : Nat) : Int)] 56)).alloc (.cells #[.int .u8 0, .int .u8 0, .int .i64 0, .int .i64 0, .int .i64 0, .int .u64 0, .int .u8 0] 56)).alloc (.cells #[.int .u8 c, .int .u8 ((w : Nat) : Int), .int .i64 0, .int .i64 0, .int .i64 0, .int .u64 0, .int .u8 0] 56)).drew) = .ok (.int .i64 2) ((((((W.alloc (.cells #[.int .u8 c, .int .u8 ((w : Nat) : Int), .int .i64 k0, .int .i64 k1, .int .i64 k2, .int .u64 ((n : Nat) : Int), .int .u8 ((l : Nat) : Int)] 56)).alloc (.cells #[.int .u8 0, .int .u8 0, .int .i64 0, .int .i64 0, .int .i64 0, .int .u64 0, .int .u8 0] 56)).alloc (.cells #[.int .u8 c, .int .u8 ((w : Nat) : Int), .int .i64 0, .int .i64 0, .int .i64 0, .int .u64 0, .int .u8 0] 56)).drew).setCell ⟨W.heap.size + 1 + 1, 2, none⟩ (.int .i64 k0)).setCell ⟨W.heap.size + 1 + 1, 3, none⟩ (.int .i64 k1)) :=
  copyg_2 _ _ _ _ _ _ _ _ _ _ _ k0 k1 k2 _ _ _ (three0 _ _ _ _) (three2 _ _ _ _)

theorem copyg_3 (x0 x1 x5 x6 y0 y1 y2 y3 y4 y5 y6 : Value) (k0 k1 k2 : Int) (w : World) (a b : Nat) (ha : w.heap[a]? = some (.cells #[x0, x1, .int .i64 k0, .int .i64 k1, .int .i64 k2, x5, x6] 56)) (hb : w.heap[b]? = some (.cells #[y0, y1, y2, y3, y4, y5, y6] 56)) :
    (Builtin.copy_ #[31, 31] 3 #[.slice (some ⟨b, 2, none⟩) 3 3, .slice (some ⟨a, 2, none⟩) 3 3]).run Tryz.prog w = .ok (.int .i64 3) (((w.setCell ⟨b, 2, none⟩ (.int .i64 k0)).setCell ⟨b, 3, none⟩ (.int .i64 k1)).setCell ⟨b, 4, none⟩ (.int .i64 k2)) := by
  have h := run_copy_cells (P := Tryz.prog) w 31 31 3 3 b 2 3 3 ⟨a, 2, none⟩ 3 3 [.int .i64 k0, .int .i64 k1, .int .i64 k2] Tryz.underlying31 elem_int rfl
    (by intro j v hj; match j, hj with | 0, hj => simp at hj; subst hj; simp [Addr.add, World.cell?, ha] | 1, hj => simp at hj; subst hj; simp [Addr.add, World.cell?, ha] | 2, hj => simp at hj; subst hj; simp [Addr.add, World.cell?, ha])
    (by intro j hj; match j, hj with | 0, _ => simp [World.cell?, hb] | 1, _ => simp [World.cell?, hb] | 2, _ => simp [World.cell?, hb])
    (by intro j hj; match j, hj with | 0, _ => simp [World.frozen?, hb] | 1, _ => simp [World.frozen?, hb] | 2, _ => simp [World.frozen?, hb])
    (by intro v hv; simp at hv; rcases hv with rfl | rfl | rfl <;> rfl)
  exact h
theorem copy_3 (c : Int) (w n l : Nat) (k0 k1 k2 : Int) (W : World) :
    (Builtin.copy_ #[31, 31] 3 #[.slice (some ⟨W.heap.size + 1 + 1, 2, none⟩) 3 3, .slice (some ⟨W.heap.size, 2, none⟩) 3 3]).run Tryz.prog ((((W.alloc (.cells #[.int .u8 c, .int .u8 ((w : Nat) : Int), .int .i64 k0, .int .i64 k1, .int .i64 k2, .int .u64 ((n : Nat) : Int), .int .u8 ((l : Nat) : Int)] 56)).alloc (.cells #[.int .u8 0, .int .u8 0, .int .i64 0, .int .i64 0, .int .i64 0, .int .u64 0, .int .u8 0] 56)).alloc (.cells #[.int .u8 c, .int .u8 ((w : Nat) : Int), .int .i64 0, .int .i64 0, .int .i64 0, .int .u64 0, .int .u8 0] 56)).drew) = .ok (.int .i64 3) (((((((W.alloc (.cells #[.int .u8 c, .int .u8 ((w : Nat) : Int), .int .i64 k0, .int .i64 k1, .int .i64 k2, .int .u64 ((n : Nat) : Int), .int .u8 ((l : Nat) : Int)] 56)).alloc (.cells #[.int .u8 0, .int .u8 0, .int .i64 0, .int .i64 0, .int .i64 0, .int .u64 0, .int .u8 0] 56)).alloc (.cells #[.int .u8 c, .int .u8 ((w : Nat) : Int), .int .i64 0, .int .i64 0, .int .i64 0, .int .u64 0, .int .u8 0] 56)).drew).setCell ⟨W.heap.size + 1 + 1, 2, none⟩ (.int .i64 k0)).setCell ⟨W.heap.size + 1 + 1, 3, none⟩ (.int .i64 k1)).setCell ⟨W.heap.size + 1 + 1, 4, none⟩ (.int .i64 k2)) :=
  copyg_3 _ _ _ _ _ _ _ _ _ _ _ k0 k1 k2 _ _ _ (three0 _ _ _ _) (three2 _ _ _ _)

theorem own_v1 (w n l : Nat) (k0 k1 k2 : Int) (HK : Hid (∀ W : World, Calls Tryz.prog 74 #[.int .u8 1] W fun e W' => e = .returned (.int .i64 0) ∧ W = W')) (W : World) :
    Calls Tryz.prog 73 #[.agg #[.int .u8 1, .int .u8 w, .int .i64 k0, .int .i64 k1, .int .i64 k2, .int .u64 n, .int .u8 l]] W fun e W' => e = .returned (.agg #[.int .u8 1, .int .u8 w, .int .i64 0, .int .i64 0, .int .i64 0, .int .u64 n, .int .u8 0]) ∧ Below W.heap.size W W' := by
  have hcp := copy_0
  go_enter Tryz.func73, Tryz.ntmps73
  go_wp2_with (go_at_call 74; refine (HK.out _).mono ?_; rintro e w' ⟨rfl, rfl⟩)
  go_region_with (first | (go_at_call 74; refine (HK.out _).mono ?_; rintro e w' ⟨rfl, rfl⟩) | go_in)
  all_goals go_wp2
  all_goals exact bodyPost_ret (v := .agg #[.int .u8 1, .int .u8 w, .int .i64 0, .int .i64 0, .int .i64 0, .int .u64 n, .int .u8 0]) (by simp [results, Tryz.results73, go_sem]) rfl ⟨rfl, by repeat (first | exact Below.refl _ _ | (refine Below.setCell ?_ (by simp; try omega) _) | (refine bel_alloc ?_ _) | (refine Below.drew ?_))⟩

theorem own_v2 (w n l : Nat) (k0 k1 k2 : Int) (HK : Hid (∀ W : World, Calls Tryz.prog 74 #[.int .u8 2] W fun e W' => e = .returned (.int .i64 0) ∧ W = W')) (W : World) :
    Calls Tryz.prog 73 #[.agg #[.int .u8 2, .int .u8 w, .int .i64 k0, .int .i64 k1, .int .i64 k2, .int .u64 n, .int .u8 l]] W fun e W' => e = .returned (.agg #[.int .u8 2, .int .u8 w, .int .i64 0, .int .i64 0, .int .i64 0, .int .u64 n, .int .u8 0]) ∧ Below W.heap.size W W' := by
  have hcp := copy_0
  go_enter Tryz.func73, Tryz.ntmps73
  go_wp2_with (go_at_call 74; refine (HK.out _).mono ?_; rintro e w' ⟨rfl, rfl⟩)
  go_region_with (first | (go_at_call 74; refine (HK.out _).mono ?_; rintro e w' ⟨rfl, rfl⟩) | go_in)
  all_goals go_wp2
  all_goals exact bodyPost_ret (v := .agg #[.int .u8 2, .int .u8 w, .int .i64 0, .int .i64 0, .int .i64 0, .int .u64 n, .int .u8 0]) (by simp [results, Tryz.results73, go_sem]) rfl ⟨rfl, by repeat (first | exact Below.refl _ _ | (refine Below.setCell ?_ (by simp; try omega) _) | (refine bel_alloc ?_ _) | (refine Below.drew ?_))⟩

theorem own_x22 (w n l : Nat) (k0 k1 k2 : Int) (HK : Hid (∀ W : World, Calls Tryz.prog 74 #[.int .u8 22] W fun e W' => e = .returned (.int .i64 1) ∧ W = W')) (W : World) :
    Calls Tryz.prog 73 #[.agg #[.int .u8 22, .int .u8 w, .int .i64 k0, .int .i64 k1, .int .i64 k2, .int .u64 n, .int .u8 l]] W fun e W' => e = .returned (.agg #[.int .u8 22, .int .u8 w, .int .i64 k0, .int .i64 0, .int .i64 0, .int .u64 0, .int .u8 l]) ∧ Below W.heap.size W W' := by
  have hcp := copy_1 22 w n l k0 k1 k2 W
  go_enter Tryz.func73, Tryz.ntmps73
  go_wp2_with (go_at_call 74; refine (HK.out _).mono ?_; rintro e w' ⟨rfl, rfl⟩)
  go_region_with (first | (go_at_call 74; refine (HK.out _).mono ?_; rintro e w' ⟨rfl, rfl⟩) | go_in)
  all_goals go_wp2
  all_goals exact bodyPost_ret (v := .agg #[.int .u8 22, .int .u8 w, .int .i64 k0, .int .i64 0, .int .i64 0, .int .u64 0, .int .u8 l]) (by simp [results, Tryz.results73, go_sem]) rfl ⟨rfl, by repeat (first | exact Below.refl _ _ | (refine Below.setCell ?_ (by simp; try omega) _) | (refine bel_alloc ?_ _) | (refine Below.drew ?_))⟩

theorem own_k0 (o w n l : Nat) (k0 k1 k2 : Int) (d1 : ((o : Int) == 1) = false) (d2 : ((o : Int) == 2) = false) (d22 : ((o : Int) == 22) = false) (HK : Hid (∀ W : World, Calls Tryz.prog 74 #[.int .u8 o] W fun e W' => e = .returned (.int .i64 0) ∧ W = W')) (W : World) :
    Calls Tryz.prog 73 #[.agg #[.int .u8 o, .int .u8 w, .int .i64 k0, .int .i64 k1, .int .i64 k2, .int .u64 n, .int .u8 l]] W fun e W' => e = .returned (.agg #[.int .u8 o, .int .u8 w, .int .i64 0, .int .i64 0, .int .i64 0, .int .u64 0, .int .u8 0]) ∧ Below W.heap.size W W' := by
  have hcp := copy_0
  go_enter Tryz.func73, Tryz.ntmps73
  go_wp2_with (go_at_call 74; refine (HK.out _).mono ?_; rintro e w' ⟨rfl, rfl⟩)
  go_region_with (first | (go_at_call 74; refine (HK.out _).mono ?_; rintro e w' ⟨rfl, rfl⟩) | go_in)
  all_goals go_wp2
  all_goals exact bodyPost_ret (v := .agg #[.int .u8 o, .int .u8 w, .int .i64 0, .int .i64 0, .int .i64 0, .int .u64 0, .int .u8 0]) (by simp [results, Tryz.results73, go_sem]) rfl ⟨rfl, by repeat (first | exact Below.refl _ _ | (refine Below.setCell ?_ (by simp; try omega) _) | (refine bel_alloc ?_ _) | (refine Below.drew ?_))⟩

theorem own_k1 (o w n l : Nat) (k0 k1 k2 : Int) (d1 : ((o : Int) == 1) = false) (d2 : ((o : Int) == 2) = false) (d22 : ((o : Int) == 22) = false) (HK : Hid (∀ W : World, Calls Tryz.prog 74 #[.int .u8 o] W fun e W' => e = .returned (.int .i64 1) ∧ W = W')) (W : World) :
    Calls Tryz.prog 73 #[.agg #[.int .u8 o, .int .u8 w, .int .i64 k0, .int .i64 k1, .int .i64 k2, .int .u64 n, .int .u8 l]] W fun e W' => e = .returned (.agg #[.int .u8 o, .int .u8 w, .int .i64 k0, .int .i64 0, .int .i64 0, .int .u64 0, .int .u8 0]) ∧ Below W.heap.size W W' := by
  have hcp := copy_1 (o : Int) w n l k0 k1 k2 W
  go_enter Tryz.func73, Tryz.ntmps73
  go_wp2_with (go_at_call 74; refine (HK.out _).mono ?_; rintro e w' ⟨rfl, rfl⟩)
  go_region_with (first | (go_at_call 74; refine (HK.out _).mono ?_; rintro e w' ⟨rfl, rfl⟩) | go_in)
  all_goals go_wp2
  all_goals exact bodyPost_ret (v := .agg #[.int .u8 o, .int .u8 w, .int .i64 k0, .int .i64 0, .int .i64 0, .int .u64 0, .int .u8 0]) (by simp [results, Tryz.results73, go_sem]) rfl ⟨rfl, by repeat (first | exact Below.refl _ _ | (refine Below.setCell ?_ (by simp; try omega) _) | (refine bel_alloc ?_ _) | (refine Below.drew ?_))⟩

theorem own_k2 (o w n l : Nat) (k0 k1 k2 : Int) (d1 : ((o : Int) == 1) = false) (d2 : ((o : Int) == 2) = false) (d22 : ((o : Int) == 22) = false) (HK : Hid (∀ W : World, Calls Tryz.prog 74 #[.int .u8 o] W fun e W' => e = .returned (.int .i64 2) ∧ W = W')) (W : World) :
    Calls Tryz.prog 73 #[.agg #[.int .u8 o, .int .u8 w, .int .i64 k0, .int .i64 k1, .int .i64 k2, .int .u64 n, .int .u8 l]] W fun e W' => e = .returned (.agg #[.int .u8 o, .int .u8 w, .int .i64 k0, .int .i64 k1, .int .i64 0, .int .u64 0, .int .u8 0]) ∧ Below W.heap.size W W' := by
  have hcp := copy_2 (o : Int) w n l k0 k1 k2 W
  go_enter Tryz.func73, Tryz.ntmps73
  go_wp2_with (go_at_call 74; refine (HK.out _).mono ?_; rintro e w' ⟨rfl, rfl⟩)
  go_region_with (first | (go_at_call 74; refine (HK.out _).mono ?_; rintro e w' ⟨rfl, rfl⟩) | go_in)
  all_goals go_wp2
  all_goals exact bodyPost_ret (v := .agg #[.int .u8 o, .int .u8 w, .int .i64 k0, .int .i64 k1, .int .i64 0, .int .u64 0, .int .u8 0]) (by simp [results, Tryz.results73, go_sem]) rfl ⟨rfl, by repeat (first | exact Below.refl _ _ | (refine Below.setCell ?_ (by simp; try omega) _) | (refine bel_alloc ?_ _) | (refine Below.drew ?_))⟩

theorem own_k3 (o w n l : Nat) (k0 k1 k2 : Int) (d1 : ((o : Int) == 1) = false) (d2 : ((o : Int) == 2) = false) (d22 : ((o : Int) == 22) = false) (HK : Hid (∀ W : World, Calls Tryz.prog 74 #[.int .u8 o] W fun e W' => e = .returned (.int .i64 3) ∧ W = W')) (W : World) :
    Calls Tryz.prog 73 #[.agg #[.int .u8 o, .int .u8 w, .int .i64 k0, .int .i64 k1, .int .i64 k2, .int .u64 n, .int .u8 l]] W fun e W' => e = .returned (.agg #[.int .u8 o, .int .u8 w, .int .i64 k0, .int .i64 k1, .int .i64 k2, .int .u64 0, .int .u8 0]) ∧ Below W.heap.size W W' := by
  have hcp := copy_3 (o : Int) w n l k0 k1 k2 W
  go_enter Tryz.func73, Tryz.ntmps73
  go_wp2_with (go_at_call 74; refine (HK.out _).mono ?_; rintro e w' ⟨rfl, rfl⟩)
  go_region_with (first | (go_at_call 74; refine (HK.out _).mono ?_; rintro e w' ⟨rfl, rfl⟩) | go_in)
  all_goals go_wp2
  all_goals exact bodyPost_ret (v := .agg #[.int .u8 o, .int .u8 w, .int .i64 k0, .int .i64 k1, .int .i64 k2, .int .u64 0, .int .u8 0]) (by simp [results, Tryz.results73, go_sem]) rfl ⟨rfl, by repeat (first | exact Below.refl _ _ | (refine Below.setCell ?_ (by simp; try omega) _) | (refine bel_alloc ?_ _) | (refine Below.drew ?_))⟩
end Tm
end Go.Proofs.YthelkbdiedfmfaaGreat
