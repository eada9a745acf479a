/-
  What vector of layer term returns: what bv makes of vectors of the kids' widths, as a fact on one call.
-/
import Derived.Test.YthelkbdiedfmfaaGreatTmStore
namespace Go.Proofs.YthelkbdiedfmfaaGreat
open Go.RowKit Bv
namespace Tm
set_option maxHeartbeats 1000000
set_option maxRecDepth 100000

theorem vec_u3 (w n l : Nat) (k0 k1 k2 : Int) (p g c b len r num : Nat) (er : Int) (W : World)
    (h0 : W.cell? ⟨p, 0, none⟩ = some (.slice (some ⟨g, 0, none⟩) len c)) (lp : p < W.heap.size) (lb : b < W.heap.size) (lg : g < W.heap.size)
    (j0 w0 : Nat) (b0 : W.cell? ⟨b, 2, none⟩ = some (.int .i64 ((j0 : Nat) : Int))) (hj0 : j0 < len) (e0 : W.cell? ⟨g, j0 * 7 + 1, none⟩ = some (.int .u8 ((w0 : Nat) : Int)))
    (HV : Hid (∀ W : World, Calls Tryz.prog 86 #[.int .u8 3, .agg #[.int .u8 (w0 : Nat), .int .u64 0]] W fun e W' => e = .returned (.tuple #[.agg #[.int .u8 r, .int .u64 num], .int .i64 er]) ∧ Below W.heap.size W W')) :
    Calls Tryz.prog 76 #[.pointer (some ⟨p, 0, none⟩), .agg #[.int .u8 3, .int .u8 w, .int .i64 k0, .int .i64 k1, .int .i64 k2, .int .u64 n, .int .u8 l], .slice (some ⟨b, 2, none⟩) 1 3] W fun e W' => e = .returned (.tuple #[.agg #[.int .u8 r, .int .u64 num], .int .i64 er]) ∧ Below W.heap.size W W' := by
  have lp1 : p < W.heap.size + 1 := by omega
  have lp2 : p < W.heap.size + 1 + 1 := by omega
  have lb1 : b < W.heap.size + 1 := by omega
  have lb2 : b < W.heap.size + 1 + 1 := by omega
  have lg1 : g < W.heap.size + 1 := by omega
  have lg2 : g < W.heap.size + 1 + 1 := by omega
  go_enter Tryz.func76, Tryz.ntmps76
  go_wp2_with fail
  refine wp_loop_rounds 2 ?_
  rw [rounds_succ]
  go_wp2_with fail
  rw [rounds_succ]
  go_wp2_with (go_at_call 86; refine (HV.out _).mono ?_; rintro e w1 ⟨rfl, hb⟩; obtain ⟨hc, hf⟩ := bcell hb)
  exact bodyPost_ret (v := .tuple #[.agg #[.int .u8 r, .int .u64 num], .int .i64 er]) (by simp [results, Tryz.results76, go_sem, hc]) rfl ⟨rfl, by repeat (first | exact Below.refl _ _ | exact hb | (refine bel_call ?_ hb) | (refine Below.setCell ?_ (by simp; try omega) _) | (refine bel_alloc ?_ _) | (refine Below.drew ?_))⟩

theorem vec_u4 (w n l : Nat) (k0 k1 k2 : Int) (p g c b len r num : Nat) (er : Int) (W : World)
    (h0 : W.cell? ⟨p, 0, none⟩ = some (.slice (some ⟨g, 0, none⟩) len c)) (lp : p < W.heap.size) (lb : b < W.heap.size) (lg : g < W.heap.size)
    (j0 w0 : Nat) (b0 : W.cell? ⟨b, 2, none⟩ = some (.int .i64 ((j0 : Nat) : Int))) (hj0 : j0 < len) (e0 : W.cell? ⟨g, j0 * 7 + 1, none⟩ = some (.int .u8 ((w0 : Nat) : Int)))
    (HV : Hid (∀ W : World, Calls Tryz.prog 86 #[.int .u8 4, .agg #[.int .u8 (w0 : Nat), .int .u64 0]] W fun e W' => e = .returned (.tuple #[.agg #[.int .u8 r, .int .u64 num], .int .i64 er]) ∧ Below W.heap.size W W')) :
    Calls Tryz.prog 76 #[.pointer (some ⟨p, 0, none⟩), .agg #[.int .u8 4, .int .u8 w, .int .i64 k0, .int .i64 k1, .int .i64 k2, .int .u64 n, .int .u8 l], .slice (some ⟨b, 2, none⟩) 1 3] W fun e W' => e = .returned (.tuple #[.agg #[.int .u8 r, .int .u64 num], .int .i64 er]) ∧ Below W.heap.size W W' := by
  have lp1 : p < W.heap.size + 1 := by omega
  have lp2 : p < W.heap.size + 1 + 1 := by omega
  have lb1 : b < W.heap.size + 1 := by omega
  have lb2 : b < W.heap.size + 1 + 1 := by omega
  have lg1 : g < W.heap.size + 1 := by omega
  have lg2 : g < W.heap.size + 1 + 1 := by omega
  go_enter Tryz.func76, Tryz.ntmps76
  go_wp2_with fail
  refine wp_loop_rounds 2 ?_
  rw [rounds_succ]
  go_wp2_with fail
  rw [rounds_succ]
  go_wp2_with (go_at_call 86; refine (HV.out _).mono ?_; rintro e w1 ⟨rfl, hb⟩; obtain ⟨hc, hf⟩ := bcell hb)
  exact bodyPost_ret (v := .tuple #[.agg #[.int .u8 r, .int .u64 num], .int .i64 er]) (by simp [results, Tryz.results76, go_sem, hc]) rfl ⟨rfl, by repeat (first | exact Below.refl _ _ | exact hb | (refine bel_call ?_ hb) | (refine Below.setCell ?_ (by simp; try omega) _) | (refine bel_alloc ?_ _) | (refine Below.drew ?_))⟩

theorem vec_e (w n l : Nat) (k0 k1 k2 : Int) (p g c b len r num : Nat) (er : Int) (W : World) (hw : w ≤ 255) (hl : l ≤ 255)
    (h0 : W.cell? ⟨p, 0, none⟩ = some (.slice (some ⟨g, 0, none⟩) len c)) (lp : p < W.heap.size) (lb : b < W.heap.size) (lg : g < W.heap.size)
    (j0 w0 : Nat) (b0 : W.cell? ⟨b, 2, none⟩ = some (.int .i64 ((j0 : Nat) : Int))) (hj0 : j0 < len) (e0 : W.cell? ⟨g, j0 * 7 + 1, none⟩ = some (.int .u8 ((w0 : Nat) : Int)))
    (HV : Hid (∀ W : World, Calls Tryz.prog 87 #[.agg #[.int .u8 (w0 : Nat), .int .u64 0], .int .i64 (l : Nat), .int .i64 (w : Nat)] W fun e W' => e = .returned (.tuple #[.agg #[.int .u8 r, .int .u64 num], .int .i64 er]) ∧ Below W.heap.size W W')) :
    Calls Tryz.prog 76 #[.pointer (some ⟨p, 0, none⟩), .agg #[.int .u8 22, .int .u8 w, .int .i64 k0, .int .i64 k1, .int .i64 k2, .int .u64 n, .int .u8 l], .slice (some ⟨b, 2, none⟩) 1 3] W fun e W' => e = .returned (.tuple #[.agg #[.int .u8 r, .int .u64 num], .int .i64 er]) ∧ Below W.heap.size W W' := by
  have lp1 : p < W.heap.size + 1 := by omega
  have lp2 : p < W.heap.size + 1 + 1 := by omega
  have lb1 : b < W.heap.size + 1 := by omega
  have lb2 : b < W.heap.size + 1 + 1 := by omega
  have lg1 : g < W.heap.size + 1 := by omega
  have lg2 : g < W.heap.size + 1 + 1 := by omega
  go_enter Tryz.func76, Tryz.ntmps76
  go_wp2_with fail
  refine wp_loop_rounds 2 ?_
  rw [rounds_succ]
  go_wp2_with fail
  rw [rounds_succ]
  go_wp2_with (go_at_call 87; refine (HV.out _).mono ?_; rintro e w1 ⟨rfl, hb⟩; obtain ⟨hc, hf⟩ := bcell hb)
  exact bodyPost_ret (v := .tuple #[.agg #[.int .u8 r, .int .u64 num], .int .i64 er]) (by simp [results, Tryz.results76, go_sem, hc]) rfl ⟨rfl, by repeat (first | exact Below.refl _ _ | exact hb | (refine bel_call ?_ hb) | (refine Below.setCell ?_ (by simp; try omega) _) | (refine bel_alloc ?_ _) | (refine Below.drew ?_))⟩

theorem vec_x3 (w n l : Nat) (k0 k1 k2 : Int) (p g c b len r num : Nat) (er : Int) (W : World) (hw : w ≤ 255) (_hl : l ≤ 255)
    (h0 : W.cell? ⟨p, 0, none⟩ = some (.slice (some ⟨g, 0, none⟩) len c)) (lp : p < W.heap.size) (lb : b < W.heap.size) (lg : g < W.heap.size)
    (j0 w0 : Nat) (b0 : W.cell? ⟨b, 2, none⟩ = some (.int .i64 ((j0 : Nat) : Int))) (hj0 : j0 < len) (e0 : W.cell? ⟨g, j0 * 7 + 1, none⟩ = some (.int .u8 ((w0 : Nat) : Int)))
    (HV : Hid (∀ W : World, Calls Tryz.prog 88 #[.int .u8 23, .agg #[.int .u8 (w0 : Nat), .int .u64 0], .int .i64 (w : Nat)] W fun e W' => e = .returned (.tuple #[.agg #[.int .u8 r, .int .u64 num], .int .i64 er]) ∧ Below W.heap.size W W')) :
    Calls Tryz.prog 76 #[.pointer (some ⟨p, 0, none⟩), .agg #[.int .u8 23, .int .u8 w, .int .i64 k0, .int .i64 k1, .int .i64 k2, .int .u64 n, .int .u8 l], .slice (some ⟨b, 2, none⟩) 1 3] W fun e W' => e = .returned (.tuple #[.agg #[.int .u8 r, .int .u64 num], .int .i64 er]) ∧ Below W.heap.size W W' := by
  have lp1 : p < W.heap.size + 1 := by omega
  have lp2 : p < W.heap.size + 1 + 1 := by omega
  have lb1 : b < W.heap.size + 1 := by omega
  have lb2 : b < W.heap.size + 1 + 1 := by omega
  have lg1 : g < W.heap.size + 1 := by omega
  have lg2 : g < W.heap.size + 1 + 1 := by omega
  go_enter Tryz.func76, Tryz.ntmps76
  go_wp2_with fail
  refine wp_loop_rounds 2 ?_
  rw [rounds_succ]
  go_wp2_with fail
  rw [rounds_succ]
  go_wp2_with (go_at_call 88; refine (HV.out _).mono ?_; rintro e w1 ⟨rfl, hb⟩; obtain ⟨hc, hf⟩ := bcell hb)
  exact bodyPost_ret (v := .tuple #[.agg #[.int .u8 r, .int .u64 num], .int .i64 er]) (by simp [results, Tryz.results76, go_sem, hc]) rfl ⟨rfl, by repeat (first | exact Below.refl _ _ | exact hb | (refine bel_call ?_ hb) | (refine Below.setCell ?_ (by simp; try omega) _) | (refine bel_alloc ?_ _) | (refine Below.drew ?_))⟩

theorem vec_x4 (w n l : Nat) (k0 k1 k2 : Int) (p g c b len r num : Nat) (er : Int) (W : World) (hw : w ≤ 255) (_hl : l ≤ 255)
    (h0 : W.cell? ⟨p, 0, none⟩ = some (.slice (some ⟨g, 0, none⟩) len c)) (lp : p < W.heap.size) (lb : b < W.heap.size) (lg : g < W.heap.size)
    (j0 w0 : Nat) (b0 : W.cell? ⟨b, 2, none⟩ = some (.int .i64 ((j0 : Nat) : Int))) (hj0 : j0 < len) (e0 : W.cell? ⟨g, j0 * 7 + 1, none⟩ = some (.int .u8 ((w0 : Nat) : Int)))
    (HV : Hid (∀ W : World, Calls Tryz.prog 88 #[.int .u8 24, .agg #[.int .u8 (w0 : Nat), .int .u64 0], .int .i64 (w : Nat)] W fun e W' => e = .returned (.tuple #[.agg #[.int .u8 r, .int .u64 num], .int .i64 er]) ∧ Below W.heap.size W W')) :
    Calls Tryz.prog 76 #[.pointer (some ⟨p, 0, none⟩), .agg #[.int .u8 24, .int .u8 w, .int .i64 k0, .int .i64 k1, .int .i64 k2, .int .u64 n, .int .u8 l], .slice (some ⟨b, 2, none⟩) 1 3] W fun e W' => e = .returned (.tuple #[.agg #[.int .u8 r, .int .u64 num], .int .i64 er]) ∧ Below W.heap.size W W' := by
  have lp1 : p < W.heap.size + 1 := by omega
  have lp2 : p < W.heap.size + 1 + 1 := by omega
  have lb1 : b < W.heap.size + 1 := by omega
  have lb2 : b < W.heap.size + 1 + 1 := by omega
  have lg1 : g < W.heap.size + 1 := by omega
  have lg2 : g < W.heap.size + 1 + 1 := by omega
  go_enter Tryz.func76, Tryz.ntmps76
  go_wp2_with fail
  refine wp_loop_rounds 2 ?_
  rw [rounds_succ]
  go_wp2_with fail
  rw [rounds_succ]
  go_wp2_with (go_at_call 88; refine (HV.out _).mono ?_; rintro e w1 ⟨rfl, hb⟩; obtain ⟨hc, hf⟩ := bcell hb)
  exact bodyPost_ret (v := .tuple #[.agg #[.int .u8 r, .int .u64 num], .int .i64 er]) (by simp [results, Tryz.results76, go_sem, hc]) rfl ⟨rfl, by repeat (first | exact Below.refl _ _ | exact hb | (refine bel_call ?_ hb) | (refine Below.setCell ?_ (by simp; try omega) _) | (refine bel_alloc ?_ _) | (refine Below.drew ?_))⟩

theorem vec_i (w n l : Nat) (k0 k1 k2 : Int) (p g c b len r num : Nat) (er : Int) (W : World)
    (h0 : W.cell? ⟨p, 0, none⟩ = some (.slice (some ⟨g, 0, none⟩) len c)) (lp : p < W.heap.size) (lb : b < W.heap.size) (lg : g < W.heap.size)
    (j0 w0 : Nat) (b0 : W.cell? ⟨b, 2, none⟩ = some (.int .i64 ((j0 : Nat) : Int))) (hj0 : j0 < len) (e0 : W.cell? ⟨g, j0 * 7 + 1, none⟩ = some (.int .u8 ((w0 : Nat) : Int)))
    (j1 w1 : Nat) (b1 : W.cell? ⟨b, 3, none⟩ = some (.int .i64 ((j1 : Nat) : Int))) (hj1 : j1 < len) (e1 : W.cell? ⟨g, j1 * 7 + 1, none⟩ = some (.int .u8 ((w1 : Nat) : Int)))
    (j2 w2 : Nat) (b2 : W.cell? ⟨b, 4, none⟩ = some (.int .i64 ((j2 : Nat) : Int))) (hj2 : j2 < len) (e2 : W.cell? ⟨g, j2 * 7 + 1, none⟩ = some (.int .u8 ((w2 : Nat) : Int)))
    (HV : Hid (∀ W : World, Calls Tryz.prog 89 #[.agg #[.int .u8 (w0 : Nat), .int .u64 0], .agg #[.int .u8 (w1 : Nat), .int .u64 0], .agg #[.int .u8 (w2 : Nat), .int .u64 0]] W fun e W' => e = .returned (.tuple #[.agg #[.int .u8 r, .int .u64 num], .int .i64 er]) ∧ Below W.heap.size W W')) :
    Calls Tryz.prog 76 #[.pointer (some ⟨p, 0, none⟩), .agg #[.int .u8 25, .int .u8 w, .int .i64 k0, .int .i64 k1, .int .i64 k2, .int .u64 n, .int .u8 l], .slice (some ⟨b, 2, none⟩) 3 3] W fun e W' => e = .returned (.tuple #[.agg #[.int .u8 r, .int .u64 num], .int .i64 er]) ∧ Below W.heap.size W W' := by
  have lp1 : p < W.heap.size + 1 := by omega
  have lp2 : p < W.heap.size + 1 + 1 := by omega
  have lb1 : b < W.heap.size + 1 := by omega
  have lb2 : b < W.heap.size + 1 + 1 := by omega
  have lg1 : g < W.heap.size + 1 := by omega
  have lg2 : g < W.heap.size + 1 + 1 := by omega
  go_enter Tryz.func76, Tryz.ntmps76
  go_wp2_with fail
  refine wp_loop_rounds 4 ?_
  rw [rounds_succ]
  go_wp2_with fail
  rw [rounds_succ]
  go_wp2_with fail
  rw [rounds_succ]
  go_wp2_with fail
  rw [rounds_succ]
  go_wp2_with (go_at_call 89; refine (HV.out _).mono ?_; rintro e w1 ⟨rfl, hb⟩; obtain ⟨hc, hf⟩ := bcell hb)
  exact bodyPost_ret (v := .tuple #[.agg #[.int .u8 r, .int .u64 num], .int .i64 er]) (by simp [results, Tryz.results76, go_sem, hc]) rfl ⟨rfl, by repeat (first | exact Below.refl _ _ | exact hb | (refine bel_call ?_ hb) | (refine Below.setCell ?_ (by simp; try omega) _) | (refine bel_alloc ?_ _) | (refine Below.drew ?_))⟩

theorem vec_b (o w n l : Nat) (k0 k1 k2 : Int) (p g c b len r num : Nat) (er : Int) (W : World) (d3 : ((o : Int) == 3) = false) (d4 : ((o : Int) == 4) = false) (d22 : ((o : Int) == 22) = false) (d23 : ((o : Int) == 23) = false) (d24 : ((o : Int) == 24) = false) (d25 : ((o : Int) == 25) = false)
    (h0 : W.cell? ⟨p, 0, none⟩ = some (.slice (some ⟨g, 0, none⟩) len c)) (lp : p < W.heap.size) (lb : b < W.heap.size) (lg : g < W.heap.size)
    (j0 w0 : Nat) (b0 : W.cell? ⟨b, 2, none⟩ = some (.int .i64 ((j0 : Nat) : Int))) (hj0 : j0 < len) (e0 : W.cell? ⟨g, j0 * 7 + 1, none⟩ = some (.int .u8 ((w0 : Nat) : Int)))
    (j1 w1 : Nat) (b1 : W.cell? ⟨b, 3, none⟩ = some (.int .i64 ((j1 : Nat) : Int))) (hj1 : j1 < len) (e1 : W.cell? ⟨g, j1 * 7 + 1, none⟩ = some (.int .u8 ((w1 : Nat) : Int)))
    (HV : Hid (∀ W : World, Calls Tryz.prog 90 #[.int .u8 o, .agg #[.int .u8 (w0 : Nat), .int .u64 0], .agg #[.int .u8 (w1 : Nat), .int .u64 0]] W fun e W' => e = .returned (.tuple #[.agg #[.int .u8 r, .int .u64 num], .int .i64 er]) ∧ Below W.heap.size W W')) :
    Calls Tryz.prog 76 #[.pointer (some ⟨p, 0, none⟩), .agg #[.int .u8 o, .int .u8 w, .int .i64 k0, .int .i64 k1, .int .i64 k2, .int .u64 n, .int .u8 l], .slice (some ⟨b, 2, none⟩) 2 3] W fun e W' => e = .returned (.tuple #[.agg #[.int .u8 r, .int .u64 num], .int .i64 er]) ∧ Below W.heap.size W W' := by
  have lp1 : p < W.heap.size + 1 := by omega
  have lp2 : p < W.heap.size + 1 + 1 := by omega
  have lb1 : b < W.heap.size + 1 := by omega
  have lb2 : b < W.heap.size + 1 + 1 := by omega
  have lg1 : g < W.heap.size + 1 := by omega
  have lg2 : g < W.heap.size + 1 + 1 := by omega
  go_enter Tryz.func76, Tryz.ntmps76
  go_wp2_with fail
  refine wp_loop_rounds 3 ?_
  rw [rounds_succ]
  go_wp2_with fail
  rw [rounds_succ]
  go_wp2_with fail
  rw [rounds_succ]
  go_wp2_with (go_at_call 90; refine (HV.out _).mono ?_; rintro e w1 ⟨rfl, hb⟩; obtain ⟨hc, hf⟩ := bcell hb)
  exact bodyPost_ret (v := .tuple #[.agg #[.int .u8 r, .int .u64 num], .int .i64 er]) (by simp [results, Tryz.results76, go_sem, hc]) rfl ⟨rfl, by repeat (first | exact Below.refl _ _ | exact hb | (refine bel_call ?_ hb) | (refine Below.setCell ?_ (by simp; try omega) _) | (refine bel_alloc ?_ _) | (refine Below.drew ?_))⟩

theorem vec_n (o w n l : Nat) (k0 k1 k2 : Int) (p _g c b len r num : Nat) (er : Int) (W : World) (d3 : ((o : Int) == 3) = false) (d4 : ((o : Int) == 4) = false) (d22 : ((o : Int) == 22) = false) (d23 : ((o : Int) == 23) = false) (d24 : ((o : Int) == 24) = false) (d25 : ((o : Int) == 25) = false) (sv : Option Addr)
    (_h0 : W.cell? ⟨p, 0, none⟩ = some (.slice sv len c)) (lp : p < W.heap.size) (lb : b < W.heap.size)
    (HV : Hid (∀ W : World, Calls Tryz.prog 90 #[.int .u8 o, .agg #[.int .u8 0, .int .u64 0], .agg #[.int .u8 0, .int .u64 0]] W fun e W' => e = .returned (.tuple #[.agg #[.int .u8 r, .int .u64 num], .int .i64 er]) ∧ Below W.heap.size W W')) :
    Calls Tryz.prog 76 #[.pointer (some ⟨p, 0, none⟩), .agg #[.int .u8 o, .int .u8 w, .int .i64 k0, .int .i64 k1, .int .i64 k2, .int .u64 n, .int .u8 l], .slice (some ⟨b, 2, none⟩) 0 3] W fun e W' => e = .returned (.tuple #[.agg #[.int .u8 r, .int .u64 num], .int .i64 er]) ∧ Below W.heap.size W W' := by
  have lp1 : p < W.heap.size + 1 := by omega
  have lp2 : p < W.heap.size + 1 + 1 := by omega
  have lb1 : b < W.heap.size + 1 := by omega
  have lb2 : b < W.heap.size + 1 + 1 := by omega
  go_enter Tryz.func76, Tryz.ntmps76
  go_wp2_with fail
  refine wp_loop_rounds 1 ?_
  rw [rounds_succ]
  go_wp2_with (go_at_call 90; refine (HV.out _).mono ?_; rintro e w1 ⟨rfl, hb⟩; obtain ⟨hc, hf⟩ := bcell hb)
  exact bodyPost_ret (v := .tuple #[.agg #[.int .u8 r, .int .u64 num], .int .i64 er]) (by simp [results, Tryz.results76, go_sem, hc]) rfl ⟨rfl, by repeat (first | exact Below.refl _ _ | exact hb | (refine bel_call ?_ hb) | (refine Below.setCell ?_ (by simp; try omega) _) | (refine bel_alloc ?_ _) | (refine Below.drew ?_))⟩
end Tm
end Go.Proofs.YthelkbdiedfmfaaGreat
