/-
  The document's own vector of a node, by its kids', as a fact on one call.
-/
import Derived.Test.YtigjbngedbbdbaaPt01
import Derived.Test.YtigjbngedbbdbaaPt20
import Derived.Test.YtigjbngedbbdbaaPt03
import Derived.Test.YtigjbngedbbdbaaPt14
import Derived.Deep.RegionHeld3
import Derived.BigQuiet
import Derived.Deep.RegionWith
namespace Go.Proofs.Ytigjbngedbbdbaa
open Go.RowKit Go.Maps Bv
namespace Tm
set_option maxHeartbeats 2000000
set_option maxRecDepth 100000

/-- A vector in a list of vectors. -/
def VecAt (W : World) (b k w n : Nat) : Prop := b < W.heap.size ∧ W.cell? ⟨b, k * 2, none⟩ = some (.int .u8 ((w : Nat) : Int)) ∧ W.cell? ⟨b, k * 2 + 1, none⟩ = some (.int .u64 ((n : Nat) : Int))
theorem VecAt.keep {W w : World} {b k m n : Nat} (h : VecAt W b k m n) (hb : Below W.heap.size W w) : VecAt w b k m n :=
  ⟨Nat.lt_of_lt_of_le h.1 hb.size, (hb.cell (p := ⟨b, k * 2, none⟩) h.1).trans h.2.1, (hb.cell (p := ⟨b, k * 2 + 1, none⟩) h.1).trans h.2.2⟩

/-- What the call has of its own: the node, the answer, the variable. -/
structure OneS (W : World) (x0 x1 x2 x3 x4 x5 x6 : Value) (w : World) : Prop where
  box : At7 w W.heap.size x0 x1 x2 x3 x4 x5 x6
  r0 : w.cell? ⟨W.heap.size + 1, 0, none⟩ = some (.int .u8 0)
  r1 : w.cell? ⟨W.heap.size + 1, 1, none⟩ = some (.int .u64 0)
  v0 : w.cell? ⟨W.heap.size + 1 + 1, 0, none⟩ = some (.int .u8 0)
  v1 : w.cell? ⟨W.heap.size + 1 + 1, 1, none⟩ = some (.int .u64 0)
  fr : ∀ o, w.frozen? ⟨W.heap.size + 1, o, none⟩ = false
  fv : ∀ o, w.frozen? ⟨W.heap.size + 1 + 1, o, none⟩ = false
  l : W.heap.size + 1 + 1 < w.heap.size
  b : Below W.heap.size W w
section
variable {W w w' : World} {x0 x1 x2 x3 x4 x5 x6 : Value}
theorem OneS.call (h : OneS W x0 x1 x2 x3 x4 x5 x6 w) (k : Below w.heap.size w w') : OneS W x0 x1 x2 x3 x4 x5 x6 w' := by
  have l := h.l
  exact ⟨h.box.keep k, (k.cell (p := ⟨W.heap.size + 1, 0, none⟩) (show W.heap.size + 1 < _ by omega)).trans h.r0, (k.cell (p := ⟨W.heap.size + 1, 1, none⟩) (show W.heap.size + 1 < _ by omega)).trans h.r1,
    (k.cell (p := ⟨W.heap.size + 1 + 1, 0, none⟩) l).trans h.v0, (k.cell (p := ⟨W.heap.size + 1 + 1, 1, none⟩) l).trans h.v1,
    fun o => (k.frozen (p := ⟨W.heap.size + 1, o, none⟩) (show W.heap.size + 1 < _ by omega)).trans (h.fr o), fun o => (k.frozen (p := ⟨W.heap.size + 1 + 1, o, none⟩) l).trans (h.fv o), Nat.lt_of_lt_of_le l k.size, bel_call h.b k⟩
theorem OneS.drew (h : OneS W x0 x1 x2 x3 x4 x5 x6 w) : OneS W x0 x1 x2 x3 x4 x5 x6 w.drew := ⟨h.box.drew, h.r0, h.r1, h.v0, h.v1, h.fr, h.fv, h.l, h.b.drew⟩
theorem ones_start (W : World) (x0 x1 x2 x3 x4 x5 x6 : Value) : OneS W x0 x1 x2 x3 x4 x5 x6 (((W.alloc (.cells #[x0, x1, x2, x3, x4, x5, x6] 57)).alloc (.cells #[.int .u8 0, .int .u64 0] 43)).alloc (.cells #[.int .u8 0, .int .u64 0] 43)) := by
  have A := ((At7.new W x0 x1 x2 x3 x4 x5 x6 57).alloc (.cells #[.int .u8 0, .int .u64 0] 43)).alloc (.cells #[.int .u8 0, .int .u64 0] 43)
  generalize hw1 : W.alloc (.cells #[x0, x1, x2, x3, x4, x5, x6] 57) = w1 at A ⊢
  have s1 : w1.heap.size = W.heap.size + 1 := by rw [← hw1]; exact size_alloc _ _
  have b1 : Below W.heap.size W w1 := by rw [← hw1]; exact bel_alloc (Below.refl _ _) _
  have h2 := (MapKept.heap_alloc w1 (.cells #[.int .u8 0, .int .u64 0] 43)).1
  generalize hw2 : w1.alloc (.cells #[.int .u8 0, .int .u64 0] 43) = w2 at A h2 ⊢
  have s2 : w2.heap.size = W.heap.size + 1 + 1 := by rw [← hw2, size_alloc, s1]
  have b2 : Below W.heap.size W w2 := by rw [← hw2]; exact bel_alloc b1 _
  have h3 := (MapKept.heap_alloc w2 (.cells #[.int .u8 0, .int .u64 0] 43)).1
  rw [s1] at h2
  rw [s2] at h3
  have l2 : W.heap.size + 1 < w2.heap.size := by omega
  refine ⟨A, ?_, ?_, ?_, ?_, fun o => ?_, fun o => ?_, by rw [size_alloc]; omega, bel_alloc b2 _⟩
  · rw [World.cell?_alloc_lt _ _ _ l2]; unfold World.cell?; rw [h2]; rfl
  · rw [World.cell?_alloc_lt _ _ _ l2]; unfold World.cell?; rw [h2]; rfl
  · unfold World.cell?; rw [h3]; rfl
  · unfold World.cell?; rw [h3]; rfl
  · rw [World.frozen?_alloc_old _ _ _ (show W.heap.size + 1 ≠ _ by omega)]; unfold World.frozen?; rw [h2]; simp
  · unfold World.frozen?; rw [h3]; simp
end

theorem low_zero (w : Nat) : low w 0 = 0 := by unfold low; exact Nat.zero_mod _
theorem one_var_out (w n l alen ac : Nat) (k0 k1 k2 : Int) (sv : Value) (al : Option Addr) (hw : w ≤ 64) (hn : alen ≤ n) (ha : alen < 9223372036854775808) (W : World) :
    Calls Try.prog 22 #[.agg #[.int .u8 2, .int .u8 ((w : Nat) : Int), .int .i64 k0, .int .i64 k1, .int .i64 k2, .int .u64 ((n : Nat) : Int), .int .u8 ((l : Nat) : Int)], sv, .slice al alen ac] W fun e W' => e = .returned (.agg #[.int .u8 ((w : Nat) : Int), .int .u64 0]) ∧ Below W.heap.size W W' := by
  have HC := Lib.hid (fun W => rcut_exact w hw 0 (by decide) W)
  rw [low_zero] at HC
  have cw : IntKind.u64.wrap ((alen : Nat) : Int) = ((alen : Nat) : Int) := by rw [IntKind.wrap_u64]; omega
  have d : decide (n < alen) = false := decide_eq_false (by omega)
  clear hn hw ha
  go_enter Try.func22, Try.ntmps22
  go_wp2_with (go_at_call 42; refine (HC.out _).mono ?_; rintro e w5 ⟨rfl, rfl⟩)
  exact bodyPost_ret (v := .agg #[.int .u8 ((w : Nat) : Int), .int .u64 0]) (by simp [results, Try.results22, go_sem]) rfl ⟨rfl, by repeat (first | exact Below.refl _ _ | (refine bel_alloc ?_ _))⟩

theorem one_var_in (w n l alen ac ab ao v : Nat) (k0 k1 k2 : Int) (sv : Value) (hw : w ≤ 64) (hn : n < alen) (ha : alen < 9223372036854775808) (hv : v < 18446744073709551616) (W : World) (hab : ab < W.heap.size) (hc : W.cell? ⟨ab, ao + n, none⟩ = some (.int .u64 ((v : Nat) : Int))) :
    Calls Try.prog 22 #[.agg #[.int .u8 2, .int .u8 ((w : Nat) : Int), .int .i64 k0, .int .i64 k1, .int .i64 k2, .int .u64 ((n : Nat) : Int), .int .u8 ((l : Nat) : Int)], sv, .slice (some ⟨ab, ao, none⟩) alen ac] W fun e W' => e = .returned (.agg #[.int .u8 ((w : Nat) : Int), .int .u64 ((low w v : Nat) : Int)]) ∧ Below W.heap.size W W' := by
  have HC0 := Lib.hid (fun W => rcut_exact w hw 0 (by decide) W)
  rw [low_zero] at HC0
  have HC := Lib.hid (fun W => rcut_exact w hw v hv W)
  have cw : IntKind.u64.wrap ((alen : Nat) : Int) = ((alen : Nat) : Int) := by rw [IntKind.wrap_u64]; omega
  have q1 : ((n : Nat) : Int) < ((alen : Nat) : Int) := by omega
  have q0 : (0 : Int) ≤ ((n : Nat) : Int) := by omega
  have hcA : ∀ o1 o2 o3 o4 : Obj, ((((W.alloc o1).alloc o2).alloc o3).alloc o4).cell? ⟨ab, ao + n, none⟩ = some (.int .u64 ((v : Nat) : Int)) := fun o1 o2 o3 o4 => by
    rw [World.cell?_alloc_lt _ _ _ (by simp only [size_alloc]; omega), World.cell?_alloc_lt _ _ _ (by simp only [size_alloc]; omega), World.cell?_alloc_lt _ _ _ (by simp only [size_alloc]; omega), World.cell?_alloc_lt _ _ _ hab]; exact hc
  clear hw ha hv
  go_enter Try.func22, Try.ntmps22
  go_wp2_with (go_at_call 42; refine (HC0.out _).mono ?_; rintro e w5 ⟨rfl, rfl⟩)
  go_region_with (go_at_call 42; refine (HC.out _).mono ?_; rintro e w5 ⟨rfl, rfl⟩)
  all_goals go_wp2_with fail
  all_goals exact bodyPost_ret (v := .agg #[.int .u8 ((w : Nat) : Int), .int .u64 ((low w v : Nat) : Int)]) (by simp [results, Try.results22, go_sem]) rfl ⟨rfl, by repeat (first | exact Below.refl _ _ | (refine bel_alloc ?_ _) | (refine Below.drew ?_) | (refine bel_drewN ?_ _))⟩

theorem one_const (w n l : Nat) (k0 k1 k2 : Int) (sv av : Value)  (W : World) :
    Calls Try.prog 22 #[.agg #[.int .u8 1, .int .u8 ((w : Nat) : Int), .int .i64 k0, .int .i64 k1, .int .i64 k2, .int .u64 ((n : Nat) : Int), .int .u8 ((l : Nat) : Int)], sv, av] W fun e W' => e = .returned (.agg #[.int .u8 ((w : Nat) : Int), .int .u64 ((n : Nat) : Int)]) ∧ Below W.heap.size W W' := by
  go_enter Try.func22, Try.ntmps22
  go_wp2_with fail
  exact bodyPost_ret (v := .agg #[.int .u8 ((w : Nat) : Int), .int .u64 ((n : Nat) : Int)]) (by simp [results, Try.results22, go_sem]) rfl ⟨rfl, bel_alloc (bel_alloc (bel_alloc (Below.refl _ _) _) _) _⟩

theorem one_unary (w n l b m mc : Nat) (k1 k2 : Int) (av : Value) (o : Nat) (ho : o = 3 ∨ o = 4)  (k wa na : Nat) (hk : k < m) (hm : mayB wa na = true)  (W : World) (HVk : Hid (VecAt W b k wa na)) :
    Calls Try.prog 22 #[.agg #[.int .u8 ((o : Nat) : Int), .int .u8 ((w : Nat) : Int), .int .i64 ((k : Nat) : Int), .int .i64 k1, .int .i64 k2, .int .u64 ((n : Nat) : Int), .int .u8 ((l : Nat) : Int)], .slice (some ⟨b, 0, none⟩) m mc, av] W fun e W' => e = .returned (.agg #[.int .u8 ((wa : Nat) : Int), .int .u64 ((low wa (numU o na) : Nat) : Int)]) ∧ Below W.heap.size W W' := by
  have d1 : (((o : Nat) : Int) == 1) = false := by simp; omega
  have d2 : (((o : Nat) : Int) == 2) = false := by simp; omega
  have d22 : (((o : Nat) : Int) == 22) = false := by simp; omega
  have d23 : (((o : Nat) : Int) == 23) = false := by simp; omega
  have d24 : (((o : Nat) : Int) == 24) = false := by simp; omega
  have HKI : Hid (∀ W : World, Calls Try.prog 27 #[.int .u8 ((o : Nat) : Int)] W fun e W' => e = .returned (.int .i64 1) ∧ W = W') := fun W => by have h := rkids_any o W; rw [show rk o = 1 from by rw [rk_kc (by omega)]; unfold kc; rw [if_pos (by omega)]; rfl] at h; exact h
  have qk : ((k : Nat) : Int) < ((m : Nat) : Int) := by omega
  have zk : (0 : Int) ≤ ((k : Nat) : Int) := by omega
  have HS := Lib.hid (ones_start W (.int .u8 ((o : Nat) : Int)) (.int .u8 ((w : Nat) : Int)) (.int .i64 ((k : Nat) : Int)) (.int .i64 k1) (.int .i64 k2) (.int .u64 ((n : Nat) : Int)) (.int .u8 ((l : Nat) : Int)))
  have HK : Hid (∀ w' : World, OneS W (.int .u8 ((o : Nat) : Int)) (.int .u8 ((w : Nat) : Int)) (.int .i64 ((k : Nat) : Int)) (.int .i64 k1) (.int .i64 k2) (.int .u64 ((n : Nat) : Int)) (.int .u8 ((l : Nat) : Int)) w' → w'.cell? ⟨W.heap.size, 0, none⟩ = some (.int .u8 ((o : Nat) : Int)) ∧ w'.cell? ⟨W.heap.size, 1, none⟩ = some (.int .u8 ((w : Nat) : Int)) ∧ w'.cell? ⟨W.heap.size, 2, none⟩ = some (.int .i64 ((k : Nat) : Int)) ∧ w'.cell? ⟨W.heap.size, 3, none⟩ = some (.int .i64 k1) ∧ w'.cell? ⟨W.heap.size, 4, none⟩ = some (.int .i64 k2) ∧ w'.cell? ⟨W.heap.size, 5, none⟩ = some (.int .u64 ((n : Nat) : Int)) ∧ w'.cell? ⟨W.heap.size, 6, none⟩ = some (.int .u8 ((l : Nat) : Int)) ∧ w'.cell? ⟨b, k * 2, none⟩ = some (.int .u8 ((wa : Nat) : Int)) ∧ w'.cell? ⟨b, k * 2 + 1, none⟩ = some (.int .u64 ((na : Nat) : Int))) := by
    show ∀ w' : World, _ → _
    intro w' hh
    have A := hh.box
    unfold At7 at A
    exact ⟨A.1, A.2.1, A.2.2.1, A.2.2.2.1, A.2.2.2.2.1, A.2.2.2.2.2.1, A.2.2.2.2.2.2, (HVk.out.keep hh.b).2.1, (HVk.out.keep hh.b).2.2⟩
  have HKF : Hid (∀ (w5 : World) (u v : Value), OneS W (.int .u8 ((o : Nat) : Int)) (.int .u8 ((w : Nat) : Int)) (.int .i64 ((k : Nat) : Int)) (.int .i64 k1) (.int .i64 k2) (.int .u64 ((n : Nat) : Int)) (.int .u8 ((l : Nat) : Int)) w5 → ((w5.setCell ⟨W.heap.size + 1 + 1, 0, none⟩ u).setCell ⟨W.heap.size + 1 + 1, 1, none⟩ v).cell? ⟨W.heap.size, 0, none⟩ = some (.int .u8 ((o : Nat) : Int)) ∧ ((w5.setCell ⟨W.heap.size + 1 + 1, 0, none⟩ u).setCell ⟨W.heap.size + 1 + 1, 1, none⟩ v).cell? ⟨W.heap.size, 1, none⟩ = some (.int .u8 ((w : Nat) : Int)) ∧ ((w5.setCell ⟨W.heap.size + 1 + 1, 0, none⟩ u).setCell ⟨W.heap.size + 1 + 1, 1, none⟩ v).cell? ⟨W.heap.size, 2, none⟩ = some (.int .i64 ((k : Nat) : Int)) ∧ ((w5.setCell ⟨W.heap.size + 1 + 1, 0, none⟩ u).setCell ⟨W.heap.size + 1 + 1, 1, none⟩ v).cell? ⟨W.heap.size, 3, none⟩ = some (.int .i64 k1) ∧ ((w5.setCell ⟨W.heap.size + 1 + 1, 0, none⟩ u).setCell ⟨W.heap.size + 1 + 1, 1, none⟩ v).cell? ⟨W.heap.size, 4, none⟩ = some (.int .i64 k2) ∧ ((w5.setCell ⟨W.heap.size + 1 + 1, 0, none⟩ u).setCell ⟨W.heap.size + 1 + 1, 1, none⟩ v).cell? ⟨W.heap.size, 5, none⟩ = some (.int .u64 ((n : Nat) : Int)) ∧ ((w5.setCell ⟨W.heap.size + 1 + 1, 0, none⟩ u).setCell ⟨W.heap.size + 1 + 1, 1, none⟩ v).cell? ⟨W.heap.size, 6, none⟩ = some (.int .u8 ((l : Nat) : Int)) ∧ ((w5.setCell ⟨W.heap.size + 1 + 1, 0, none⟩ u).setCell ⟨W.heap.size + 1 + 1, 1, none⟩ v).cell? ⟨b, k * 2, none⟩ = some (.int .u8 ((wa : Nat) : Int)) ∧ ((w5.setCell ⟨W.heap.size + 1 + 1, 0, none⟩ u).setCell ⟨W.heap.size + 1 + 1, 1, none⟩ v).cell? ⟨b, k * 2 + 1, none⟩ = some (.int .u64 ((na : Nat) : Int))) := by
    show ∀ (w5 : World) (u v : Value), _ → _
    intro w5 u v hh
    have A := hh.box
    unfold At7 at A
    have hf : ∀ bk o, bk ≠ W.heap.size + 1 + 1 → ((w5.setCell ⟨W.heap.size + 1 + 1, 0, none⟩ u).setCell ⟨W.heap.size + 1 + 1, 1, none⟩ v).cell? ⟨bk, o, none⟩ = w5.cell? ⟨bk, o, none⟩ := fun bk o hne => by
      rw [World.cell?_setCell_far _ _ _ _ (by simpa using Ne.symm hne), World.cell?_setCell_far _ _ _ _ (by simpa using Ne.symm hne)]
    exact ⟨(hf _ _ (by have := hh.l; omega)).trans A.1, (hf _ _ (by have := hh.l; omega)).trans A.2.1, (hf _ _ (by have := hh.l; omega)).trans A.2.2.1, (hf _ _ (by have := hh.l; omega)).trans A.2.2.2.1, (hf _ _ (by have := hh.l; omega)).trans A.2.2.2.2.1, (hf _ _ (by have := hh.l; omega)).trans A.2.2.2.2.2.1, (hf _ _ (by have := hh.l; omega)).trans A.2.2.2.2.2.2, (hf _ _ (by have := HVk.out.1; omega)).trans (HVk.out.keep hh.b).2.1, (hf _ _ (by have := HVk.out.1; omega)).trans (HVk.out.keep hh.b).2.2⟩
  have HCON := Lib.hid (fun W => rv_unary o wa na ho hm W)
  have lb := HVk.out.1
  have ckk := HVk.out.2
  have hks := HK.out _ HS.out
  have HSD := Lib.hid HS.out.drew
  clear ho hm hk
  go_enter Try.func22, Try.ntmps22
  go_wp2_with (go_at_call 27; refine (HKI.out _).mono ?_; rintro e z ⟨rfl, rfl⟩)
  go_region_held3 (fun w' => w'.cell? ⟨W.heap.size, 0, none⟩ = some (.int .u8 ((o : Nat) : Int)) ∧ w'.cell? ⟨W.heap.size, 1, none⟩ = some (.int .u8 ((w : Nat) : Int)) ∧ w'.cell? ⟨W.heap.size, 2, none⟩ = some (.int .i64 ((k : Nat) : Int)) ∧ w'.cell? ⟨W.heap.size, 3, none⟩ = some (.int .i64 k1) ∧ w'.cell? ⟨W.heap.size, 4, none⟩ = some (.int .i64 k2) ∧ w'.cell? ⟨W.heap.size, 5, none⟩ = some (.int .u64 ((n : Nat) : Int)) ∧ w'.cell? ⟨W.heap.size, 6, none⟩ = some (.int .u8 ((l : Nat) : Int)) ∧ w'.cell? ⟨b, k * 2, none⟩ = some (.int .u8 ((wa : Nat) : Int)) ∧ w'.cell? ⟨b, k * 2 + 1, none⟩ = some (.int .u64 ((na : Nat) : Int)))
    (first | exact HK.out _ HS.out.drew | exact HK.out _ (HSD.out.call hb) | exact HKF.out _ _ _ (HSD.out.call hb))
    (first | (go_at_call 45; refine (HCON.out _).mono ?_; rintro e w5 ⟨rfl, hb⟩; have H5 := Lib.hid (HSD.out.call hb); have g0 := H5.out.v0; have g1 := H5.out.v1; have g2 := H5.out.fv 0; have g3 := H5.out.fv 1; have gl := H5.out.l; have g4 := H5.out.r0; have g5 := H5.out.r1; have g6 := H5.out.fr 0; have g7 := H5.out.fr 1))
  go_wp2_with fail
  have HB5 := Lib.hid H5.out.b
  exact bodyPost_ret (v := .agg #[.int .u8 ((wa : Nat) : Int), .int .u64 ((low wa (numU o na) : Nat) : Int)]) (by simp [results, Try.results22, go_sem, g4, g5]) rfl ⟨rfl, (((HB5.out.setCell (show W.heap.size ≤ W.heap.size + 1 + 1 by omega) _).setCell (show W.heap.size ≤ W.heap.size + 1 + 1 by omega) _).setCell (show W.heap.size ≤ W.heap.size + 1 by omega) _).setCell (show W.heap.size ≤ W.heap.size + 1 by omega) _⟩

theorem one_extract (w n l b m mc : Nat) (k1 k2 : Int) (av : Value)   (k wa na : Nat) (hk : k < m) (hm : mayB wa na = true) (hw1 : 1 ≤ w) (hlw : l + w ≤ wa) (hl255 : l ≤ 255) (hw255 : w ≤ 255) (W : World) (HVk : Hid (VecAt W b k wa na)) :
    Calls Try.prog 22 #[.agg #[.int .u8 22, .int .u8 ((w : Nat) : Int), .int .i64 ((k : Nat) : Int), .int .i64 k1, .int .i64 k2, .int .u64 ((n : Nat) : Int), .int .u8 ((l : Nat) : Int)], .slice (some ⟨b, 0, none⟩) m mc, av] W fun e W' => e = .returned (.agg #[.int .u8 ((w : Nat) : Int), .int .u64 ((low w (na / 2 ^ l) : Nat) : Int)]) ∧ Below W.heap.size W W' := by
  have cw : IntKind.i64.wrap ((w : Nat) : Int) = ((w : Nat) : Int) := by rw [IntKind.wrap_i64]; omega
  have cl : IntKind.i64.wrap ((l : Nat) : Int) = ((l : Nat) : Int) := by rw [IntKind.wrap_i64]; omega
  have qk : ((k : Nat) : Int) < ((m : Nat) : Int) := by omega
  have zk : (0 : Int) ≤ ((k : Nat) : Int) := by omega
  have HS := Lib.hid (ones_start W (.int .u8 22) (.int .u8 ((w : Nat) : Int)) (.int .i64 ((k : Nat) : Int)) (.int .i64 k1) (.int .i64 k2) (.int .u64 ((n : Nat) : Int)) (.int .u8 ((l : Nat) : Int)))
  have HK : Hid (∀ w' : World, OneS W (.int .u8 22) (.int .u8 ((w : Nat) : Int)) (.int .i64 ((k : Nat) : Int)) (.int .i64 k1) (.int .i64 k2) (.int .u64 ((n : Nat) : Int)) (.int .u8 ((l : Nat) : Int)) w' → w'.cell? ⟨W.heap.size, 0, none⟩ = some (.int .u8 22) ∧ w'.cell? ⟨W.heap.size, 1, none⟩ = some (.int .u8 ((w : Nat) : Int)) ∧ w'.cell? ⟨W.heap.size, 2, none⟩ = some (.int .i64 ((k : Nat) : Int)) ∧ w'.cell? ⟨W.heap.size, 3, none⟩ = some (.int .i64 k1) ∧ w'.cell? ⟨W.heap.size, 4, none⟩ = some (.int .i64 k2) ∧ w'.cell? ⟨W.heap.size, 5, none⟩ = some (.int .u64 ((n : Nat) : Int)) ∧ w'.cell? ⟨W.heap.size, 6, none⟩ = some (.int .u8 ((l : Nat) : Int)) ∧ w'.cell? ⟨b, k * 2, none⟩ = some (.int .u8 ((wa : Nat) : Int)) ∧ w'.cell? ⟨b, k * 2 + 1, none⟩ = some (.int .u64 ((na : Nat) : Int))) := by
    show ∀ w' : World, _ → _
    intro w' hh
    have A := hh.box
    unfold At7 at A
    exact ⟨A.1, A.2.1, A.2.2.1, A.2.2.2.1, A.2.2.2.2.1, A.2.2.2.2.2.1, A.2.2.2.2.2.2, (HVk.out.keep hh.b).2.1, (HVk.out.keep hh.b).2.2⟩
  have HKF : Hid (∀ (w5 : World) (u v : Value), OneS W (.int .u8 22) (.int .u8 ((w : Nat) : Int)) (.int .i64 ((k : Nat) : Int)) (.int .i64 k1) (.int .i64 k2) (.int .u64 ((n : Nat) : Int)) (.int .u8 ((l : Nat) : Int)) w5 → ((w5.setCell ⟨W.heap.size + 1 + 1, 0, none⟩ u).setCell ⟨W.heap.size + 1 + 1, 1, none⟩ v).cell? ⟨W.heap.size, 0, none⟩ = some (.int .u8 22) ∧ ((w5.setCell ⟨W.heap.size + 1 + 1, 0, none⟩ u).setCell ⟨W.heap.size + 1 + 1, 1, none⟩ v).cell? ⟨W.heap.size, 1, none⟩ = some (.int .u8 ((w : Nat) : Int)) ∧ ((w5.setCell ⟨W.heap.size + 1 + 1, 0, none⟩ u).setCell ⟨W.heap.size + 1 + 1, 1, none⟩ v).cell? ⟨W.heap.size, 2, none⟩ = some (.int .i64 ((k : Nat) : Int)) ∧ ((w5.setCell ⟨W.heap.size + 1 + 1, 0, none⟩ u).setCell ⟨W.heap.size + 1 + 1, 1, none⟩ v).cell? ⟨W.heap.size, 3, none⟩ = some (.int .i64 k1) ∧ ((w5.setCell ⟨W.heap.size + 1 + 1, 0, none⟩ u).setCell ⟨W.heap.size + 1 + 1, 1, none⟩ v).cell? ⟨W.heap.size, 4, none⟩ = some (.int .i64 k2) ∧ ((w5.setCell ⟨W.heap.size + 1 + 1, 0, none⟩ u).setCell ⟨W.heap.size + 1 + 1, 1, none⟩ v).cell? ⟨W.heap.size, 5, none⟩ = some (.int .u64 ((n : Nat) : Int)) ∧ ((w5.setCell ⟨W.heap.size + 1 + 1, 0, none⟩ u).setCell ⟨W.heap.size + 1 + 1, 1, none⟩ v).cell? ⟨W.heap.size, 6, none⟩ = some (.int .u8 ((l : Nat) : Int)) ∧ ((w5.setCell ⟨W.heap.size + 1 + 1, 0, none⟩ u).setCell ⟨W.heap.size + 1 + 1, 1, none⟩ v).cell? ⟨b, k * 2, none⟩ = some (.int .u8 ((wa : Nat) : Int)) ∧ ((w5.setCell ⟨W.heap.size + 1 + 1, 0, none⟩ u).setCell ⟨W.heap.size + 1 + 1, 1, none⟩ v).cell? ⟨b, k * 2 + 1, none⟩ = some (.int .u64 ((na : Nat) : Int))) := by
    show ∀ (w5 : World) (u v : Value), _ → _
    intro w5 u v hh
    have A := hh.box
    unfold At7 at A
    have hf : ∀ bk o, bk ≠ W.heap.size + 1 + 1 → ((w5.setCell ⟨W.heap.size + 1 + 1, 0, none⟩ u).setCell ⟨W.heap.size + 1 + 1, 1, none⟩ v).cell? ⟨bk, o, none⟩ = w5.cell? ⟨bk, o, none⟩ := fun bk o hne => by
      rw [World.cell?_setCell_far _ _ _ _ (by simpa using Ne.symm hne), World.cell?_setCell_far _ _ _ _ (by simpa using Ne.symm hne)]
    exact ⟨(hf _ _ (by have := hh.l; omega)).trans A.1, (hf _ _ (by have := hh.l; omega)).trans A.2.1, (hf _ _ (by have := hh.l; omega)).trans A.2.2.1, (hf _ _ (by have := hh.l; omega)).trans A.2.2.2.1, (hf _ _ (by have := hh.l; omega)).trans A.2.2.2.2.1, (hf _ _ (by have := hh.l; omega)).trans A.2.2.2.2.2.1, (hf _ _ (by have := hh.l; omega)).trans A.2.2.2.2.2.2, (hf _ _ (by have := HVk.out.1; omega)).trans (HVk.out.keep hh.b).2.1, (hf _ _ (by have := HVk.out.1; omega)).trans (HVk.out.keep hh.b).2.2⟩
  have HCON := Lib.hid (fun W => rv_extract wa na l w hm hw1 hlw W)
  have lb := HVk.out.1
  have ckk := HVk.out.2
  have hks := HK.out _ HS.out
  have HSD := Lib.hid HS.out.drew
  clear hm hw1 hlw hl255 hw255 hk
  go_enter Try.func22, Try.ntmps22
  go_wp2_with fail
  go_region_held3 (fun w' => w'.cell? ⟨W.heap.size, 0, none⟩ = some (.int .u8 22) ∧ w'.cell? ⟨W.heap.size, 1, none⟩ = some (.int .u8 ((w : Nat) : Int)) ∧ w'.cell? ⟨W.heap.size, 2, none⟩ = some (.int .i64 ((k : Nat) : Int)) ∧ w'.cell? ⟨W.heap.size, 3, none⟩ = some (.int .i64 k1) ∧ w'.cell? ⟨W.heap.size, 4, none⟩ = some (.int .i64 k2) ∧ w'.cell? ⟨W.heap.size, 5, none⟩ = some (.int .u64 ((n : Nat) : Int)) ∧ w'.cell? ⟨W.heap.size, 6, none⟩ = some (.int .u8 ((l : Nat) : Int)) ∧ w'.cell? ⟨b, k * 2, none⟩ = some (.int .u8 ((wa : Nat) : Int)) ∧ w'.cell? ⟨b, k * 2 + 1, none⟩ = some (.int .u64 ((na : Nat) : Int)))
    (first | exact HK.out _ HS.out.drew | exact HK.out _ (HSD.out.call hb) | exact HKF.out _ _ _ (HSD.out.call hb))
    (first | (go_at_call 43; refine (HCON.out _).mono ?_; rintro e w5 ⟨rfl, hb⟩; have H5 := Lib.hid (HSD.out.call hb); have g0 := H5.out.v0; have g1 := H5.out.v1; have g2 := H5.out.fv 0; have g3 := H5.out.fv 1; have gl := H5.out.l; have g4 := H5.out.r0; have g5 := H5.out.r1; have g6 := H5.out.fr 0; have g7 := H5.out.fr 1))
  go_wp2_with fail
  have HB5 := Lib.hid H5.out.b
  exact bodyPost_ret (v := .agg #[.int .u8 ((w : Nat) : Int), .int .u64 ((low w (na / 2 ^ l) : Nat) : Int)]) (by simp [results, Try.results22, go_sem, g4, g5]) rfl ⟨rfl, (((HB5.out.setCell (show W.heap.size ≤ W.heap.size + 1 + 1 by omega) _).setCell (show W.heap.size ≤ W.heap.size + 1 + 1 by omega) _).setCell (show W.heap.size ≤ W.heap.size + 1 by omega) _).setCell (show W.heap.size ≤ W.heap.size + 1 by omega) _⟩

theorem one_extend (w n l b m mc : Nat) (k1 k2 : Int) (av : Value) (o : Nat) (ho : o = 23 ∨ o = 24)  (k wa na : Nat) (hk : k < m) (hm : mayB wa na = true) (hw1 : wa ≤ w) (hw2 : w ≤ 64) (_hw255 : w ≤ 255) (W : World) (HVk : Hid (VecAt W b k wa na)) :
    Calls Try.prog 22 #[.agg #[.int .u8 ((o : Nat) : Int), .int .u8 ((w : Nat) : Int), .int .i64 ((k : Nat) : Int), .int .i64 k1, .int .i64 k2, .int .u64 ((n : Nat) : Int), .int .u8 ((l : Nat) : Int)], .slice (some ⟨b, 0, none⟩) m mc, av] W fun e W' => e = .returned (.agg #[.int .u8 ((w : Nat) : Int), .int .u64 ((low w (numE o wa na) : Nat) : Int)]) ∧ Below W.heap.size W W' := by
  have d1 : (((o : Nat) : Int) == 1) = false := by simp; omega
  have d2 : (((o : Nat) : Int) == 2) = false := by simp; omega
  have d22 : (((o : Nat) : Int) == 22) = false := by simp; omega
  have hor : ((((o : Nat) : Int) == 23) = true) ∨ (((((o : Nat) : Int) == 23) = false) ∧ ((((o : Nat) : Int) == 24) = true)) := by simp; omega
  have cw : IntKind.i64.wrap ((w : Nat) : Int) = ((w : Nat) : Int) := by rw [IntKind.wrap_i64]; omega
  have qk : ((k : Nat) : Int) < ((m : Nat) : Int) := by omega
  have zk : (0 : Int) ≤ ((k : Nat) : Int) := by omega
  have HS := Lib.hid (ones_start W (.int .u8 ((o : Nat) : Int)) (.int .u8 ((w : Nat) : Int)) (.int .i64 ((k : Nat) : Int)) (.int .i64 k1) (.int .i64 k2) (.int .u64 ((n : Nat) : Int)) (.int .u8 ((l : Nat) : Int)))
  have HK : Hid (∀ w' : World, OneS W (.int .u8 ((o : Nat) : Int)) (.int .u8 ((w : Nat) : Int)) (.int .i64 ((k : Nat) : Int)) (.int .i64 k1) (.int .i64 k2) (.int .u64 ((n : Nat) : Int)) (.int .u8 ((l : Nat) : Int)) w' → w'.cell? ⟨W.heap.size, 0, none⟩ = some (.int .u8 ((o : Nat) : Int)) ∧ w'.cell? ⟨W.heap.size, 1, none⟩ = some (.int .u8 ((w : Nat) : Int)) ∧ w'.cell? ⟨W.heap.size, 2, none⟩ = some (.int .i64 ((k : Nat) : Int)) ∧ w'.cell? ⟨W.heap.size, 3, none⟩ = some (.int .i64 k1) ∧ w'.cell? ⟨W.heap.size, 4, none⟩ = some (.int .i64 k2) ∧ w'.cell? ⟨W.heap.size, 5, none⟩ = some (.int .u64 ((n : Nat) : Int)) ∧ w'.cell? ⟨W.heap.size, 6, none⟩ = some (.int .u8 ((l : Nat) : Int)) ∧ w'.cell? ⟨b, k * 2, none⟩ = some (.int .u8 ((wa : Nat) : Int)) ∧ w'.cell? ⟨b, k * 2 + 1, none⟩ = some (.int .u64 ((na : Nat) : Int))) := by
    show ∀ w' : World, _ → _
    intro w' hh
    have A := hh.box
    unfold At7 at A
    exact ⟨A.1, A.2.1, A.2.2.1, A.2.2.2.1, A.2.2.2.2.1, A.2.2.2.2.2.1, A.2.2.2.2.2.2, (HVk.out.keep hh.b).2.1, (HVk.out.keep hh.b).2.2⟩
  have HKF : Hid (∀ (w5 : World) (u v : Value), OneS W (.int .u8 ((o : Nat) : Int)) (.int .u8 ((w : Nat) : Int)) (.int .i64 ((k : Nat) : Int)) (.int .i64 k1) (.int .i64 k2) (.int .u64 ((n : Nat) : Int)) (.int .u8 ((l : Nat) : Int)) w5 → ((w5.setCell ⟨W.heap.size + 1 + 1, 0, none⟩ u).setCell ⟨W.heap.size + 1 + 1, 1, none⟩ v).cell? ⟨W.heap.size, 0, none⟩ = some (.int .u8 ((o : Nat) : Int)) ∧ ((w5.setCell ⟨W.heap.size + 1 + 1, 0, none⟩ u).setCell ⟨W.heap.size + 1 + 1, 1, none⟩ v).cell? ⟨W.heap.size, 1, none⟩ = some (.int .u8 ((w : Nat) : Int)) ∧ ((w5.setCell ⟨W.heap.size + 1 + 1, 0, none⟩ u).setCell ⟨W.heap.size + 1 + 1, 1, none⟩ v).cell? ⟨W.heap.size, 2, none⟩ = some (.int .i64 ((k : Nat) : Int)) ∧ ((w5.setCell ⟨W.heap.size + 1 + 1, 0, none⟩ u).setCell ⟨W.heap.size + 1 + 1, 1, none⟩ v).cell? ⟨W.heap.size, 3, none⟩ = some (.int .i64 k1) ∧ ((w5.setCell ⟨W.heap.size + 1 + 1, 0, none⟩ u).setCell ⟨W.heap.size + 1 + 1, 1, none⟩ v).cell? ⟨W.heap.size, 4, none⟩ = some (.int .i64 k2) ∧ ((w5.setCell ⟨W.heap.size + 1 + 1, 0, none⟩ u).setCell ⟨W.heap.size + 1 + 1, 1, none⟩ v).cell? ⟨W.heap.size, 5, none⟩ = some (.int .u64 ((n : Nat) : Int)) ∧ ((w5.setCell ⟨W.heap.size + 1 + 1, 0, none⟩ u).setCell ⟨W.heap.size + 1 + 1, 1, none⟩ v).cell? ⟨W.heap.size, 6, none⟩ = some (.int .u8 ((l : Nat) : Int)) ∧ ((w5.setCell ⟨W.heap.size + 1 + 1, 0, none⟩ u).setCell ⟨W.heap.size + 1 + 1, 1, none⟩ v).cell? ⟨b, k * 2, none⟩ = some (.int .u8 ((wa : Nat) : Int)) ∧ ((w5.setCell ⟨W.heap.size + 1 + 1, 0, none⟩ u).setCell ⟨W.heap.size + 1 + 1, 1, none⟩ v).cell? ⟨b, k * 2 + 1, none⟩ = some (.int .u64 ((na : Nat) : Int))) := by
    show ∀ (w5 : World) (u v : Value), _ → _
    intro w5 u v hh
    have A := hh.box
    unfold At7 at A
    have hf : ∀ bk o, bk ≠ W.heap.size + 1 + 1 → ((w5.setCell ⟨W.heap.size + 1 + 1, 0, none⟩ u).setCell ⟨W.heap.size + 1 + 1, 1, none⟩ v).cell? ⟨bk, o, none⟩ = w5.cell? ⟨bk, o, none⟩ := fun bk o hne => by
      rw [World.cell?_setCell_far _ _ _ _ (by simpa using Ne.symm hne), World.cell?_setCell_far _ _ _ _ (by simpa using Ne.symm hne)]
    exact ⟨(hf _ _ (by have := hh.l; omega)).trans A.1, (hf _ _ (by have := hh.l; omega)).trans A.2.1, (hf _ _ (by have := hh.l; omega)).trans A.2.2.1, (hf _ _ (by have := hh.l; omega)).trans A.2.2.2.1, (hf _ _ (by have := hh.l; omega)).trans A.2.2.2.2.1, (hf _ _ (by have := hh.l; omega)).trans A.2.2.2.2.2.1, (hf _ _ (by have := hh.l; omega)).trans A.2.2.2.2.2.2, (hf _ _ (by have := HVk.out.1; omega)).trans (HVk.out.keep hh.b).2.1, (hf _ _ (by have := HVk.out.1; omega)).trans (HVk.out.keep hh.b).2.2⟩
  have HCON := Lib.hid (fun W => rv_extend o wa na w ho hm hw1 hw2 W)
  have lb := HVk.out.1
  have ckk := HVk.out.2
  have hks := HK.out _ HS.out
  have HSD := Lib.hid HS.out.drew
  clear ho hm hw1 hw2 _hw255 hk
  rcases hor with hor | ⟨hor, hor2⟩
  all_goals
    go_enter Try.func22, Try.ntmps22
    go_wp2_with fail
    go_region_held3 (fun w' => w'.cell? ⟨W.heap.size, 0, none⟩ = some (.int .u8 ((o : Nat) : Int)) ∧ w'.cell? ⟨W.heap.size, 1, none⟩ = some (.int .u8 ((w : Nat) : Int)) ∧ w'.cell? ⟨W.heap.size, 2, none⟩ = some (.int .i64 ((k : Nat) : Int)) ∧ w'.cell? ⟨W.heap.size, 3, none⟩ = some (.int .i64 k1) ∧ w'.cell? ⟨W.heap.size, 4, none⟩ = some (.int .i64 k2) ∧ w'.cell? ⟨W.heap.size, 5, none⟩ = some (.int .u64 ((n : Nat) : Int)) ∧ w'.cell? ⟨W.heap.size, 6, none⟩ = some (.int .u8 ((l : Nat) : Int)) ∧ w'.cell? ⟨b, k * 2, none⟩ = some (.int .u8 ((wa : Nat) : Int)) ∧ w'.cell? ⟨b, k * 2 + 1, none⟩ = some (.int .u64 ((na : Nat) : Int)))
      (first | exact HK.out _ HS.out.drew | exact HK.out _ (HSD.out.call hb) | exact HKF.out _ _ _ (HSD.out.call hb))
      (first | (go_at_call 44; refine (HCON.out _).mono ?_; rintro e w5 ⟨rfl, hb⟩; have H5 := Lib.hid (HSD.out.call hb); have g0 := H5.out.v0; have g1 := H5.out.v1; have g2 := H5.out.fv 0; have g3 := H5.out.fv 1; have gl := H5.out.l; have g4 := H5.out.r0; have g5 := H5.out.r1; have g6 := H5.out.fr 0; have g7 := H5.out.fr 1))
    go_wp2_with fail
    have HB5 := Lib.hid H5.out.b
    exact bodyPost_ret (v := .agg #[.int .u8 ((w : Nat) : Int), .int .u64 ((low w (numE o wa na) : Nat) : Int)]) (by simp [results, Try.results22, go_sem, g4, g5]) rfl ⟨rfl, (((HB5.out.setCell (show W.heap.size ≤ W.heap.size + 1 + 1 by omega) _).setCell (show W.heap.size ≤ W.heap.size + 1 + 1 by omega) _).setCell (show W.heap.size ≤ W.heap.size + 1 by omega) _).setCell (show W.heap.size ≤ W.heap.size + 1 by omega) _⟩

theorem one_binary (w n l b m mc : Nat) (k2 : Int) (av : Value) (o : Nat) (ho : 5 ≤ o ∧ o ≤ 21)  (k wa na : Nat) (hk : k < m) (hm : mayB wa na = true) (j wb nb : Nat) (hj : j < m) (hm2 : mayB wb nb = true) (hr : ¬ widthB o wa wb = 0) (W : World) (HVk : Hid (VecAt W b k wa na)) (HVj : Hid (VecAt W b j wb nb)) :
    Calls Try.prog 22 #[.agg #[.int .u8 ((o : Nat) : Int), .int .u8 ((w : Nat) : Int), .int .i64 ((k : Nat) : Int), .int .i64 ((j : Nat) : Int), .int .i64 k2, .int .u64 ((n : Nat) : Int), .int .u8 ((l : Nat) : Int)], .slice (some ⟨b, 0, none⟩) m mc, av] W fun e W' => e = .returned (.agg #[.int .u8 ((widthB o wa wb : Nat) : Int), .int .u64 ((low (widthB o wa wb) (numB o wa wb na nb) : Nat) : Int)]) ∧ Below W.heap.size W W' := by
  have d1 : (((o : Nat) : Int) == 1) = false := by simp; omega
  have d2 : (((o : Nat) : Int) == 2) = false := by simp; omega
  have d22 : (((o : Nat) : Int) == 22) = false := by simp; omega
  have d23 : (((o : Nat) : Int) == 23) = false := by simp; omega
  have d24 : (((o : Nat) : Int) == 24) = false := by simp; omega
  have HKI : Hid (∀ W : World, Calls Try.prog 27 #[.int .u8 ((o : Nat) : Int)] W fun e W' => e = .returned (.int .i64 2) ∧ W = W') := fun W => by have h := rkids_any o W; rw [show rk o = 2 from by rw [rk_kc (by omega)]; unfold kc; rw [if_neg (by omega), if_pos (by omega)]; rfl] at h; exact h
  have qk : ((k : Nat) : Int) < ((m : Nat) : Int) := by omega
  have zk : (0 : Int) ≤ ((k : Nat) : Int) := by omega
  have qj : ((j : Nat) : Int) < ((m : Nat) : Int) := by omega
  have zj : (0 : Int) ≤ ((j : Nat) : Int) := by omega
  have HS := Lib.hid (ones_start W (.int .u8 ((o : Nat) : Int)) (.int .u8 ((w : Nat) : Int)) (.int .i64 ((k : Nat) : Int)) (.int .i64 ((j : Nat) : Int)) (.int .i64 k2) (.int .u64 ((n : Nat) : Int)) (.int .u8 ((l : Nat) : Int)))
  have HK : Hid (∀ w' : World, OneS W (.int .u8 ((o : Nat) : Int)) (.int .u8 ((w : Nat) : Int)) (.int .i64 ((k : Nat) : Int)) (.int .i64 ((j : Nat) : Int)) (.int .i64 k2) (.int .u64 ((n : Nat) : Int)) (.int .u8 ((l : Nat) : Int)) w' → w'.cell? ⟨W.heap.size, 0, none⟩ = some (.int .u8 ((o : Nat) : Int)) ∧ w'.cell? ⟨W.heap.size, 1, none⟩ = some (.int .u8 ((w : Nat) : Int)) ∧ w'.cell? ⟨W.heap.size, 2, none⟩ = some (.int .i64 ((k : Nat) : Int)) ∧ w'.cell? ⟨W.heap.size, 3, none⟩ = some (.int .i64 ((j : Nat) : Int)) ∧ w'.cell? ⟨W.heap.size, 4, none⟩ = some (.int .i64 k2) ∧ w'.cell? ⟨W.heap.size, 5, none⟩ = some (.int .u64 ((n : Nat) : Int)) ∧ w'.cell? ⟨W.heap.size, 6, none⟩ = some (.int .u8 ((l : Nat) : Int)) ∧ w'.cell? ⟨b, k * 2, none⟩ = some (.int .u8 ((wa : Nat) : Int)) ∧ w'.cell? ⟨b, k * 2 + 1, none⟩ = some (.int .u64 ((na : Nat) : Int)) ∧ w'.cell? ⟨b, j * 2, none⟩ = some (.int .u8 ((wb : Nat) : Int)) ∧ w'.cell? ⟨b, j * 2 + 1, none⟩ = some (.int .u64 ((nb : Nat) : Int))) := by
    show ∀ w' : World, _ → _
    intro w' hh
    have A := hh.box
    unfold At7 at A
    exact ⟨A.1, A.2.1, A.2.2.1, A.2.2.2.1, A.2.2.2.2.1, A.2.2.2.2.2.1, A.2.2.2.2.2.2, (HVk.out.keep hh.b).2.1, (HVk.out.keep hh.b).2.2, (HVj.out.keep hh.b).2.1, (HVj.out.keep hh.b).2.2⟩
  have HKF : Hid (∀ (w5 : World) (u v : Value), OneS W (.int .u8 ((o : Nat) : Int)) (.int .u8 ((w : Nat) : Int)) (.int .i64 ((k : Nat) : Int)) (.int .i64 ((j : Nat) : Int)) (.int .i64 k2) (.int .u64 ((n : Nat) : Int)) (.int .u8 ((l : Nat) : Int)) w5 → ((w5.setCell ⟨W.heap.size + 1 + 1, 0, none⟩ u).setCell ⟨W.heap.size + 1 + 1, 1, none⟩ v).cell? ⟨W.heap.size, 0, none⟩ = some (.int .u8 ((o : Nat) : Int)) ∧ ((w5.setCell ⟨W.heap.size + 1 + 1, 0, none⟩ u).setCell ⟨W.heap.size + 1 + 1, 1, none⟩ v).cell? ⟨W.heap.size, 1, none⟩ = some (.int .u8 ((w : Nat) : Int)) ∧ ((w5.setCell ⟨W.heap.size + 1 + 1, 0, none⟩ u).setCell ⟨W.heap.size + 1 + 1, 1, none⟩ v).cell? ⟨W.heap.size, 2, none⟩ = some (.int .i64 ((k : Nat) : Int)) ∧ ((w5.setCell ⟨W.heap.size + 1 + 1, 0, none⟩ u).setCell ⟨W.heap.size + 1 + 1, 1, none⟩ v).cell? ⟨W.heap.size, 3, none⟩ = some (.int .i64 ((j : Nat) : Int)) ∧ ((w5.setCell ⟨W.heap.size + 1 + 1, 0, none⟩ u).setCell ⟨W.heap.size + 1 + 1, 1, none⟩ v).cell? ⟨W.heap.size, 4, none⟩ = some (.int .i64 k2) ∧ ((w5.setCell ⟨W.heap.size + 1 + 1, 0, none⟩ u).setCell ⟨W.heap.size + 1 + 1, 1, none⟩ v).cell? ⟨W.heap.size, 5, none⟩ = some (.int .u64 ((n : Nat) : Int)) ∧ ((w5.setCell ⟨W.heap.size + 1 + 1, 0, none⟩ u).setCell ⟨W.heap.size + 1 + 1, 1, none⟩ v).cell? ⟨W.heap.size, 6, none⟩ = some (.int .u8 ((l : Nat) : Int)) ∧ ((w5.setCell ⟨W.heap.size + 1 + 1, 0, none⟩ u).setCell ⟨W.heap.size + 1 + 1, 1, none⟩ v).cell? ⟨b, k * 2, none⟩ = some (.int .u8 ((wa : Nat) : Int)) ∧ ((w5.setCell ⟨W.heap.size + 1 + 1, 0, none⟩ u).setCell ⟨W.heap.size + 1 + 1, 1, none⟩ v).cell? ⟨b, k * 2 + 1, none⟩ = some (.int .u64 ((na : Nat) : Int)) ∧ ((w5.setCell ⟨W.heap.size + 1 + 1, 0, none⟩ u).setCell ⟨W.heap.size + 1 + 1, 1, none⟩ v).cell? ⟨b, j * 2, none⟩ = some (.int .u8 ((wb : Nat) : Int)) ∧ ((w5.setCell ⟨W.heap.size + 1 + 1, 0, none⟩ u).setCell ⟨W.heap.size + 1 + 1, 1, none⟩ v).cell? ⟨b, j * 2 + 1, none⟩ = some (.int .u64 ((nb : Nat) : Int))) := by
    show ∀ (w5 : World) (u v : Value), _ → _
    intro w5 u v hh
    have A := hh.box
    unfold At7 at A
    have hf : ∀ bk o, bk ≠ W.heap.size + 1 + 1 → ((w5.setCell ⟨W.heap.size + 1 + 1, 0, none⟩ u).setCell ⟨W.heap.size + 1 + 1, 1, none⟩ v).cell? ⟨bk, o, none⟩ = w5.cell? ⟨bk, o, none⟩ := fun bk o hne => by
      rw [World.cell?_setCell_far _ _ _ _ (by simpa using Ne.symm hne), World.cell?_setCell_far _ _ _ _ (by simpa using Ne.symm hne)]
    exact ⟨(hf _ _ (by have := hh.l; omega)).trans A.1, (hf _ _ (by have := hh.l; omega)).trans A.2.1, (hf _ _ (by have := hh.l; omega)).trans A.2.2.1, (hf _ _ (by have := hh.l; omega)).trans A.2.2.2.1, (hf _ _ (by have := hh.l; omega)).trans A.2.2.2.2.1, (hf _ _ (by have := hh.l; omega)).trans A.2.2.2.2.2.1, (hf _ _ (by have := hh.l; omega)).trans A.2.2.2.2.2.2, (hf _ _ (by have := HVk.out.1; omega)).trans (HVk.out.keep hh.b).2.1, (hf _ _ (by have := HVk.out.1; omega)).trans (HVk.out.keep hh.b).2.2, (hf _ _ (by have := HVj.out.1; omega)).trans (HVj.out.keep hh.b).2.1, (hf _ _ (by have := HVj.out.1; omega)).trans (HVj.out.keep hh.b).2.2⟩
  have HCON := Lib.hid (fun W => rv_binary o wa wb na nb hm hm2 hr W)
  have lb := HVk.out.1
  have ckk := HVk.out.2
  have lb := HVj.out.1
  have ckj := HVj.out.2
  have hks := HK.out _ HS.out
  have HSD := Lib.hid HS.out.drew
  clear ho hm hm2 hr hk hj
  go_enter Try.func22, Try.ntmps22
  go_wp2_with (go_at_call 27; refine (HKI.out _).mono ?_; rintro e z ⟨rfl, rfl⟩)
  go_region_held3 (fun w' => w'.cell? ⟨W.heap.size, 0, none⟩ = some (.int .u8 ((o : Nat) : Int)) ∧ w'.cell? ⟨W.heap.size, 1, none⟩ = some (.int .u8 ((w : Nat) : Int)) ∧ w'.cell? ⟨W.heap.size, 2, none⟩ = some (.int .i64 ((k : Nat) : Int)) ∧ w'.cell? ⟨W.heap.size, 3, none⟩ = some (.int .i64 ((j : Nat) : Int)) ∧ w'.cell? ⟨W.heap.size, 4, none⟩ = some (.int .i64 k2) ∧ w'.cell? ⟨W.heap.size, 5, none⟩ = some (.int .u64 ((n : Nat) : Int)) ∧ w'.cell? ⟨W.heap.size, 6, none⟩ = some (.int .u8 ((l : Nat) : Int)) ∧ w'.cell? ⟨b, k * 2, none⟩ = some (.int .u8 ((wa : Nat) : Int)) ∧ w'.cell? ⟨b, k * 2 + 1, none⟩ = some (.int .u64 ((na : Nat) : Int)) ∧ w'.cell? ⟨b, j * 2, none⟩ = some (.int .u8 ((wb : Nat) : Int)) ∧ w'.cell? ⟨b, j * 2 + 1, none⟩ = some (.int .u64 ((nb : Nat) : Int)))
    (first | exact HK.out _ HS.out.drew | exact HK.out _ (HSD.out.call hb) | exact HKF.out _ _ _ (HSD.out.call hb))
    (first | (go_at_call 46; refine (HCON.out _).mono ?_; rintro e w5 ⟨rfl, hb⟩; have H5 := Lib.hid (HSD.out.call hb); have g0 := H5.out.v0; have g1 := H5.out.v1; have g2 := H5.out.fv 0; have g3 := H5.out.fv 1; have gl := H5.out.l; have g4 := H5.out.r0; have g5 := H5.out.r1; have g6 := H5.out.fr 0; have g7 := H5.out.fr 1))
  go_wp2_with fail
  have HB5 := Lib.hid H5.out.b
  exact bodyPost_ret (v := .agg #[.int .u8 ((widthB o wa wb : Nat) : Int), .int .u64 ((low (widthB o wa wb) (numB o wa wb na nb) : Nat) : Int)]) (by simp [results, Try.results22, go_sem, g4, g5]) rfl ⟨rfl, (((HB5.out.setCell (show W.heap.size ≤ W.heap.size + 1 + 1 by omega) _).setCell (show W.heap.size ≤ W.heap.size + 1 + 1 by omega) _).setCell (show W.heap.size ≤ W.heap.size + 1 by omega) _).setCell (show W.heap.size ≤ W.heap.size + 1 by omega) _⟩

theorem one_ite (w n l b m mc : Nat)  (av : Value)   (wb k na : Nat) (hk : k < m) (hm : mayB 1 na = true) (j nb : Nat) (hj : j < m) (hm2 : mayB wb nb = true) (i nc : Nat) (hi : i < m) (hm3 : mayB wb nc = true)  (W : World) (HVk : Hid (VecAt W b k 1 na)) (HVj : Hid (VecAt W b j wb nb)) (HVi : Hid (VecAt W b i wb nc)) :
    Calls Try.prog 22 #[.agg #[.int .u8 25, .int .u8 ((w : Nat) : Int), .int .i64 ((k : Nat) : Int), .int .i64 ((j : Nat) : Int), .int .i64 ((i : Nat) : Int), .int .u64 ((n : Nat) : Int), .int .u8 ((l : Nat) : Int)], .slice (some ⟨b, 0, none⟩) m mc, av] W fun e W' => e = .returned (.agg #[.int .u8 ((wb : Nat) : Int), .int .u64 ((if na = 1 then nb else nc : Nat) : Int)]) ∧ Below W.heap.size W W' := by
  have HKI : Hid (∀ W : World, Calls Try.prog 27 #[.int .u8 25] W fun e W' => e = .returned (.int .i64 3) ∧ W = W') := fun W => by have h := rkids_any 25 W; rw [show rk 25 = 3 from by decide] at h; exact h
  generalize hrr : (if na = 1 then nb else nc : Nat) = rr
  have qk : ((k : Nat) : Int) < ((m : Nat) : Int) := by omega
  have zk : (0 : Int) ≤ ((k : Nat) : Int) := by omega
  have qj : ((j : Nat) : Int) < ((m : Nat) : Int) := by omega
  have zj : (0 : Int) ≤ ((j : Nat) : Int) := by omega
  have qi : ((i : Nat) : Int) < ((m : Nat) : Int) := by omega
  have zi : (0 : Int) ≤ ((i : Nat) : Int) := by omega
  have HS := Lib.hid (ones_start W (.int .u8 25) (.int .u8 ((w : Nat) : Int)) (.int .i64 ((k : Nat) : Int)) (.int .i64 ((j : Nat) : Int)) (.int .i64 ((i : Nat) : Int)) (.int .u64 ((n : Nat) : Int)) (.int .u8 ((l : Nat) : Int)))
  have HK : Hid (∀ w' : World, OneS W (.int .u8 25) (.int .u8 ((w : Nat) : Int)) (.int .i64 ((k : Nat) : Int)) (.int .i64 ((j : Nat) : Int)) (.int .i64 ((i : Nat) : Int)) (.int .u64 ((n : Nat) : Int)) (.int .u8 ((l : Nat) : Int)) w' → w'.cell? ⟨W.heap.size, 0, none⟩ = some (.int .u8 25) ∧ w'.cell? ⟨W.heap.size, 1, none⟩ = some (.int .u8 ((w : Nat) : Int)) ∧ w'.cell? ⟨W.heap.size, 2, none⟩ = some (.int .i64 ((k : Nat) : Int)) ∧ w'.cell? ⟨W.heap.size, 3, none⟩ = some (.int .i64 ((j : Nat) : Int)) ∧ w'.cell? ⟨W.heap.size, 4, none⟩ = some (.int .i64 ((i : Nat) : Int)) ∧ w'.cell? ⟨W.heap.size, 5, none⟩ = some (.int .u64 ((n : Nat) : Int)) ∧ w'.cell? ⟨W.heap.size, 6, none⟩ = some (.int .u8 ((l : Nat) : Int)) ∧ w'.cell? ⟨b, k * 2, none⟩ = some (.int .u8 ((1 : Nat) : Int)) ∧ w'.cell? ⟨b, k * 2 + 1, none⟩ = some (.int .u64 ((na : Nat) : Int)) ∧ w'.cell? ⟨b, j * 2, none⟩ = some (.int .u8 ((wb : Nat) : Int)) ∧ w'.cell? ⟨b, j * 2 + 1, none⟩ = some (.int .u64 ((nb : Nat) : Int)) ∧ w'.cell? ⟨b, i * 2, none⟩ = some (.int .u8 ((wb : Nat) : Int)) ∧ w'.cell? ⟨b, i * 2 + 1, none⟩ = some (.int .u64 ((nc : Nat) : Int))) := by
    show ∀ w' : World, _ → _
    intro w' hh
    have A := hh.box
    unfold At7 at A
    exact ⟨A.1, A.2.1, A.2.2.1, A.2.2.2.1, A.2.2.2.2.1, A.2.2.2.2.2.1, A.2.2.2.2.2.2, (HVk.out.keep hh.b).2.1, (HVk.out.keep hh.b).2.2, (HVj.out.keep hh.b).2.1, (HVj.out.keep hh.b).2.2, (HVi.out.keep hh.b).2.1, (HVi.out.keep hh.b).2.2⟩
  have HKF : Hid (∀ (w5 : World) (u v : Value), OneS W (.int .u8 25) (.int .u8 ((w : Nat) : Int)) (.int .i64 ((k : Nat) : Int)) (.int .i64 ((j : Nat) : Int)) (.int .i64 ((i : Nat) : Int)) (.int .u64 ((n : Nat) : Int)) (.int .u8 ((l : Nat) : Int)) w5 → ((w5.setCell ⟨W.heap.size + 1 + 1, 0, none⟩ u).setCell ⟨W.heap.size + 1 + 1, 1, none⟩ v).cell? ⟨W.heap.size, 0, none⟩ = some (.int .u8 25) ∧ ((w5.setCell ⟨W.heap.size + 1 + 1, 0, none⟩ u).setCell ⟨W.heap.size + 1 + 1, 1, none⟩ v).cell? ⟨W.heap.size, 1, none⟩ = some (.int .u8 ((w : Nat) : Int)) ∧ ((w5.setCell ⟨W.heap.size + 1 + 1, 0, none⟩ u).setCell ⟨W.heap.size + 1 + 1, 1, none⟩ v).cell? ⟨W.heap.size, 2, none⟩ = some (.int .i64 ((k : Nat) : Int)) ∧ ((w5.setCell ⟨W.heap.size + 1 + 1, 0, none⟩ u).setCell ⟨W.heap.size + 1 + 1, 1, none⟩ v).cell? ⟨W.heap.size, 3, none⟩ = some (.int .i64 ((j : Nat) : Int)) ∧ ((w5.setCell ⟨W.heap.size + 1 + 1, 0, none⟩ u).setCell ⟨W.heap.size + 1 + 1, 1, none⟩ v).cell? ⟨W.heap.size, 4, none⟩ = some (.int .i64 ((i : Nat) : Int)) ∧ ((w5.setCell ⟨W.heap.size + 1 + 1, 0, none⟩ u).setCell ⟨W.heap.size + 1 + 1, 1, none⟩ v).cell? ⟨W.heap.size, 5, none⟩ = some (.int .u64 ((n : Nat) : Int)) ∧ ((w5.setCell ⟨W.heap.size + 1 + 1, 0, none⟩ u).setCell ⟨W.heap.size + 1 + 1, 1, none⟩ v).cell? ⟨W.heap.size, 6, none⟩ = some (.int .u8 ((l : Nat) : Int)) ∧ ((w5.setCell ⟨W.heap.size + 1 + 1, 0, none⟩ u).setCell ⟨W.heap.size + 1 + 1, 1, none⟩ v).cell? ⟨b, k * 2, none⟩ = some (.int .u8 ((1 : Nat) : Int)) ∧ ((w5.setCell ⟨W.heap.size + 1 + 1, 0, none⟩ u).setCell ⟨W.heap.size + 1 + 1, 1, none⟩ v).cell? ⟨b, k * 2 + 1, none⟩ = some (.int .u64 ((na : Nat) : Int)) ∧ ((w5.setCell ⟨W.heap.size + 1 + 1, 0, none⟩ u).setCell ⟨W.heap.size + 1 + 1, 1, none⟩ v).cell? ⟨b, j * 2, none⟩ = some (.int .u8 ((wb : Nat) : Int)) ∧ ((w5.setCell ⟨W.heap.size + 1 + 1, 0, none⟩ u).setCell ⟨W.heap.size + 1 + 1, 1, none⟩ v).cell? ⟨b, j * 2 + 1, none⟩ = some (.int .u64 ((nb : Nat) : Int)) ∧ ((w5.setCell ⟨W.heap.size + 1 + 1, 0, none⟩ u).setCell ⟨W.heap.size + 1 + 1, 1, none⟩ v).cell? ⟨b, i * 2, none⟩ = some (.int .u8 ((wb : Nat) : Int)) ∧ ((w5.setCell ⟨W.heap.size + 1 + 1, 0, none⟩ u).setCell ⟨W.heap.size + 1 + 1, 1, none⟩ v).cell? ⟨b, i * 2 + 1, none⟩ = some (.int .u64 ((nc : Nat) : Int))) := by
    show ∀ (w5 : World) (u v : Value), _ → _
    intro w5 u v hh
    have A := hh.box
    unfold At7 at A
    have hf : ∀ bk o, bk ≠ W.heap.size + 1 + 1 → ((w5.setCell ⟨W.heap.size + 1 + 1, 0, none⟩ u).setCell ⟨W.heap.size + 1 + 1, 1, none⟩ v).cell? ⟨bk, o, none⟩ = w5.cell? ⟨bk, o, none⟩ := fun bk o hne => by
      rw [World.cell?_setCell_far _ _ _ _ (by simpa using Ne.symm hne), World.cell?_setCell_far _ _ _ _ (by simpa using Ne.symm hne)]
    exact ⟨(hf _ _ (by have := hh.l; omega)).trans A.1, (hf _ _ (by have := hh.l; omega)).trans A.2.1, (hf _ _ (by have := hh.l; omega)).trans A.2.2.1, (hf _ _ (by have := hh.l; omega)).trans A.2.2.2.1, (hf _ _ (by have := hh.l; omega)).trans A.2.2.2.2.1, (hf _ _ (by have := hh.l; omega)).trans A.2.2.2.2.2.1, (hf _ _ (by have := hh.l; omega)).trans A.2.2.2.2.2.2, (hf _ _ (by have := HVk.out.1; omega)).trans (HVk.out.keep hh.b).2.1, (hf _ _ (by have := HVk.out.1; omega)).trans (HVk.out.keep hh.b).2.2, (hf _ _ (by have := HVj.out.1; omega)).trans (HVj.out.keep hh.b).2.1, (hf _ _ (by have := HVj.out.1; omega)).trans (HVj.out.keep hh.b).2.2, (hf _ _ (by have := HVi.out.1; omega)).trans (HVi.out.keep hh.b).2.1, (hf _ _ (by have := HVi.out.1; omega)).trans (HVi.out.keep hh.b).2.2⟩
  have HCON := Lib.hid (fun W => rv_ite na wb nb nc hm hm2 hm3 W)
  rw [hrr] at HCON
  clear hrr
  have lb := HVk.out.1
  have ckk := HVk.out.2
  have lb := HVj.out.1
  have ckj := HVj.out.2
  have lb := HVi.out.1
  have cki := HVi.out.2
  have hks := HK.out _ HS.out
  have HSD := Lib.hid HS.out.drew
  clear hm hm2 hm3 hk hj hi
  go_enter Try.func22, Try.ntmps22
  go_wp2_with (go_at_call 27; refine (HKI.out _).mono ?_; rintro e z ⟨rfl, rfl⟩)
  go_region_held3 (fun w' => w'.cell? ⟨W.heap.size, 0, none⟩ = some (.int .u8 25) ∧ w'.cell? ⟨W.heap.size, 1, none⟩ = some (.int .u8 ((w : Nat) : Int)) ∧ w'.cell? ⟨W.heap.size, 2, none⟩ = some (.int .i64 ((k : Nat) : Int)) ∧ w'.cell? ⟨W.heap.size, 3, none⟩ = some (.int .i64 ((j : Nat) : Int)) ∧ w'.cell? ⟨W.heap.size, 4, none⟩ = some (.int .i64 ((i : Nat) : Int)) ∧ w'.cell? ⟨W.heap.size, 5, none⟩ = some (.int .u64 ((n : Nat) : Int)) ∧ w'.cell? ⟨W.heap.size, 6, none⟩ = some (.int .u8 ((l : Nat) : Int)) ∧ w'.cell? ⟨b, k * 2, none⟩ = some (.int .u8 ((1 : Nat) : Int)) ∧ w'.cell? ⟨b, k * 2 + 1, none⟩ = some (.int .u64 ((na : Nat) : Int)) ∧ w'.cell? ⟨b, j * 2, none⟩ = some (.int .u8 ((wb : Nat) : Int)) ∧ w'.cell? ⟨b, j * 2 + 1, none⟩ = some (.int .u64 ((nb : Nat) : Int)) ∧ w'.cell? ⟨b, i * 2, none⟩ = some (.int .u8 ((wb : Nat) : Int)) ∧ w'.cell? ⟨b, i * 2 + 1, none⟩ = some (.int .u64 ((nc : Nat) : Int)))
    (first | exact HK.out _ HS.out.drew | exact HK.out _ (HSD.out.call hb) | exact HKF.out _ _ _ (HSD.out.call hb))
    (first | (go_at_call 47; refine (HCON.out _).mono ?_; rintro e w5 ⟨rfl, hb⟩; have H5 := Lib.hid (HSD.out.call hb); have g0 := H5.out.v0; have g1 := H5.out.v1; have g2 := H5.out.fv 0; have g3 := H5.out.fv 1; have gl := H5.out.l; have g4 := H5.out.r0; have g5 := H5.out.r1; have g6 := H5.out.fr 0; have g7 := H5.out.fr 1))
  go_wp2_with fail
  have HB5 := Lib.hid H5.out.b
  exact bodyPost_ret (v := .agg #[.int .u8 ((wb : Nat) : Int), .int .u64 ((rr : Nat) : Int)]) (by simp [results, Try.results22, go_sem, g4, g5]) rfl ⟨rfl, (((HB5.out.setCell (show W.heap.size ≤ W.heap.size + 1 + 1 by omega) _).setCell (show W.heap.size ≤ W.heap.size + 1 + 1 by omega) _).setCell (show W.heap.size ≤ W.heap.size + 1 by omega) _).setCell (show W.heap.size ≤ W.heap.size + 1 by omega) _⟩

end Tm
end Go.Proofs.Ytigjbngedbbdbaa
