/-
  The program's heap, in memory; its small functions.
-/
import Derived.Test.YtdajnmlpghgeeaaHpRefC
import Derived.Test.YtdajnmlpghgeeaaHpTree
namespace Go.Proofs.Ytdajnmlpghgeeaa
open Go.RowKit
namespace Hp
set_option maxHeartbeats 1600000
set_option maxRecDepth 100000

theorem isnan_any (a : Nat) (W : World) : Calls Try.prog 34 #[.float .f64 a] W fun e w => e = .returned (.bool (keyF a).isNone) ∧ w = W := by
  cases ha : keyF a with
  | none =>
    have o1 : (FloatKind.f64.format.order a a != some .eq) = true := by rw [order_key, ha]; rfl
    go_enter Try.func34, Try.ntmps34
    go_wp2_with fail
    go_ret
    exact ⟨by simp, rfl⟩
  | some p =>
    have o1 : (FloatKind.f64.format.order a a != some .eq) = false := by rw [order_key, ha]; simp [cmpO, compare, compareOfLessAndEq]
    go_enter Try.func34, Try.ntmps34
    go_wp2_with fail
    go_ret
    exact ⟨by simp, rfl⟩
theorem above_any (a b : Nat) (W : World) : Calls Try.prog 22 #[.float .f64 a, .float .f64 b] W fun e w => e = .returned (.bool (aboveF a b)) ∧ w = W := by
  have HA := Lib.hid (fun w => isnan_any a w)
  have HB := Lib.hid (fun w => isnan_any b w)
  unfold aboveF
  cases ha : keyF a with
  | none =>
    have o3 : (FloatKind.f64.format.order a b == some .gt) = false := by rw [order_key, ha]; rfl
    rw [ha] at HA
    cases hb : keyF b with
    | none =>
      rw [hb] at HB
      go_enter Try.func22, Try.ntmps22
      go_wp2_with fail
      refine (HB.out _).mono ?_
      rintro e w ⟨rfl, rfl⟩
      go_wp2_with fail
      refine (HA.out _).mono ?_
      rintro e w ⟨rfl, rfl⟩
      go_wp2_with fail
      go_ret
      exact ⟨rfl, rfl⟩
    | some q =>
      rw [hb] at HB
      go_enter Try.func22, Try.ntmps22
      go_wp2_with fail
      refine (HB.out _).mono ?_
      rintro e w ⟨rfl, rfl⟩
      go_wp2_with fail
      go_ret
      exact ⟨rfl, rfl⟩
  | some p =>
    rw [ha] at HA
    cases hb : keyF b with
    | none =>
      have o3 : (FloatKind.f64.format.order a b == some .gt) = false := by rw [order_key, ha, hb]; rfl
      rw [hb] at HB
      go_enter Try.func22, Try.ntmps22
      go_wp2_with fail
      refine (HB.out _).mono ?_
      rintro e w ⟨rfl, rfl⟩
      go_wp2_with fail
      refine (HA.out _).mono ?_
      rintro e w ⟨rfl, rfl⟩
      go_wp2_with fail
      go_ret
      exact ⟨rfl, rfl⟩
    | some q =>
      rw [hb] at HB
      by_cases hq : q < p
      · have o3 : (FloatKind.f64.format.order a b == some .gt) = true := by
          rw [order_key, ha, hb]
          simp only [cmpO, compare, compareOfLessAndEq]
          rw [if_neg (by omega), if_neg (by omega)]; rfl
        have e9 : decide (q < p) = true := decide_eq_true hq
        go_enter Try.func22, Try.ntmps22
        go_wp2_with fail
        go_ret
        exact ⟨by simp [e9], rfl⟩
      · have o3 : (FloatKind.f64.format.order a b == some .gt) = false := by
          rw [order_key, ha, hb]
          simp only [cmpO, compare, compareOfLessAndEq]
          by_cases h1 : p < q
          · rw [if_pos h1]; rfl
          · rw [if_neg h1, if_pos (by omega)]; rfl
        have e9 : decide (q < p) = false := decide_eq_false hq
        go_enter Try.func22, Try.ntmps22
        go_wp2_with fail
        refine (HB.out _).mono ?_
        rintro e w ⟨rfl, rfl⟩
        go_wp2_with fail
        go_ret
        exact ⟨by simp [e9], rfl⟩

/-- The program's heap, in memory: n variables, m places. -/
structure PHp (w : World) (p sb tb qb n m : Nat) (S T P : Nat → Nat) : Prop where
  c0 : w.cell? ⟨p, 0, none⟩ = some (.slice (some ⟨sb, 0, none⟩) (n + 1) (n + 1))
  c1 : w.cell? ⟨p, 1, none⟩ = some (.slice (some ⟨tb, 0, none⟩) (m + 1) (n + 1))
  c2 : w.cell? ⟨p, 2, none⟩ = some (.slice (some ⟨qb, 0, none⟩) (n + 1) (n + 1))
  s : ∀ j, j ≤ n → w.cell? ⟨sb, j, none⟩ = some (.float .f64 (S j))
  t : ∀ j, j ≤ n → w.cell? ⟨tb, j, none⟩ = some (.int .i64 ((T j : Nat) : Int))
  q : ∀ j, j ≤ n → w.cell? ⟨qb, j, none⟩ = some (.int .i64 ((P j : Nat) : Int))
  fp : ∀ j, w.frozen? ⟨p, j, none⟩ = false
  fs : ∀ j, w.frozen? ⟨sb, j, none⟩ = false
  ft : ∀ j, w.frozen? ⟨tb, j, none⟩ = false
  fq : ∀ j, w.frozen? ⟨qb, j, none⟩ = false
  le : m ≤ n ∧ n ≤ 1000000
  lt : p < w.heap.size ∧ sb < w.heap.size ∧ tb < w.heap.size ∧ qb < w.heap.size
  sep : p ≠ sb ∧ p ≠ tb ∧ p ≠ qb ∧ sb ≠ tb ∧ sb ≠ qb ∧ tb ≠ qb
theorem PHp.drewN {w : World} {p sb tb qb n m : Nat} {S T P : Nat → Nat} (h : PHp w p sb tb qb n m S T P) (k : Nat) : PHp (w.drewN k) p sb tb qb n m S T P :=
  ⟨by simpa using h.c0, by simpa using h.c1, by simpa using h.c2, fun j hj => by simpa using h.s j hj, fun j hj => by simpa using h.t j hj, fun j hj => by simpa using h.q j hj, fun j => by simpa using h.fp j, fun j => by simpa using h.fs j, fun j => by simpa using h.ft j, fun j => by simpa using h.fq j, h.le, by simpa using h.lt, h.sep⟩
theorem set_other {w : World} {b i : Nat} {x : Value} (c o : Nat) (hc : c ≠ b) : (w.setCell ⟨b, i, none⟩ x).cell? ⟨c, o, none⟩ = w.cell? ⟨c, o, none⟩ := World.cell?_setCell_other _ _ _ _ (by simp; exact fun e => absurd e.symm hc)
theorem set_off {w : World} {b i : Nat} {x : Value} (o : Nat) (hc : o ≠ i) : (w.setCell ⟨b, i, none⟩ x).cell? ⟨b, o, none⟩ = w.cell? ⟨b, o, none⟩ := World.cell?_setCell_other _ _ _ _ (by simp; exact fun e => absurd e.symm hc)
theorem PHp.setT {w : World} {p sb tb qb n m : Nat} {S T P : Nat → Nat} (h : PHp w p sb tb qb n m S T P) {i x : Nat} (hi : i ≤ n) : PHp (w.setCell ⟨tb, i, none⟩ (.int .i64 ((x : Nat) : Int))) p sb tb qb n m S (upd T i x) P := by
  obtain ⟨s1, s2, s3, s4, s5, s6⟩ := h.sep
  refine ⟨(set_other _ _ s2).trans h.c0, (set_other _ _ s2).trans h.c1, (set_other _ _ s2).trans h.c2, fun j hj => (set_other _ _ s4).trans (h.s j hj), fun j hj => ?_, fun j hj => (set_other _ _ s6.symm).trans (h.q j hj), fun j => by rw [World.frozen?_setCell]; exact h.fp j, fun j => by rw [World.frozen?_setCell]; exact h.fs j, fun j => by rw [World.frozen?_setCell]; exact h.ft j, fun j => by rw [World.frozen?_setCell]; exact h.fq j, h.le, by simpa [World.setCell] using h.lt, h.sep⟩
  by_cases e : j = i
  · subst e
    rw [upd_at]
    exact World.cell?_setCell_same' _ _ _ (by rw [h.t j hj]; rfl)
  · rw [upd_ne e]
    exact (set_off _ e).trans (h.t j hj)
theorem PHp.setQ {w : World} {p sb tb qb n m : Nat} {S T P : Nat → Nat} (h : PHp w p sb tb qb n m S T P) {i x : Nat} (hi : i ≤ n) : PHp (w.setCell ⟨qb, i, none⟩ (.int .i64 ((x : Nat) : Int))) p sb tb qb n m S T (upd P i x) := by
  obtain ⟨s1, s2, s3, s4, s5, s6⟩ := h.sep
  refine ⟨(set_other _ _ s3).trans h.c0, (set_other _ _ s3).trans h.c1, (set_other _ _ s3).trans h.c2, fun j hj => (set_other _ _ s5).trans (h.s j hj), fun j hj => (set_other _ _ s6).trans (h.t j hj), fun j hj => ?_, fun j => by rw [World.frozen?_setCell]; exact h.fp j, fun j => by rw [World.frozen?_setCell]; exact h.fs j, fun j => by rw [World.frozen?_setCell]; exact h.ft j, fun j => by rw [World.frozen?_setCell]; exact h.fq j, h.le, by simpa [World.setCell] using h.lt, h.sep⟩
  by_cases e : j = i
  · subst e
    rw [upd_at]
    exact World.cell?_setCell_same' _ _ _ (by rw [h.q j hj]; rfl)
  · rw [upd_ne e]
    exact (set_off _ e).trans (h.q j hj)
theorem PHp.setS {w : World} {p sb tb qb n m : Nat} {S T P : Nat → Nat} (h : PHp w p sb tb qb n m S T P) {i x : Nat} (hi : i ≤ n) : PHp (w.setCell ⟨sb, i, none⟩ (.float .f64 x)) p sb tb qb n m (upd S i x) T P := by
  obtain ⟨s1, s2, s3, s4, s5, s6⟩ := h.sep
  refine ⟨(set_other _ _ s1).trans h.c0, (set_other _ _ s1).trans h.c1, (set_other _ _ s1).trans h.c2, fun j hj => ?_, fun j hj => (set_other _ _ s4.symm).trans (h.t j hj), fun j hj => (set_other _ _ s5.symm).trans (h.q j hj), fun j => by rw [World.frozen?_setCell]; exact h.fp j, fun j => by rw [World.frozen?_setCell]; exact h.fs j, fun j => by rw [World.frozen?_setCell]; exact h.ft j, fun j => by rw [World.frozen?_setCell]; exact h.fq j, h.le, by simpa [World.setCell] using h.lt, h.sep⟩
  by_cases e : j = i
  · subst e
    rw [upd_at]
    exact World.cell?_setCell_same' _ _ _ (by rw [h.s j hj]; rfl)
  · rw [upd_ne e]
    exact (set_off _ e).trans (h.s j hj)
/-- Another number of places. -/
theorem PHp.setM {w : World} {p sb tb qb n m : Nat} {S T P : Nat → Nat} (h : PHp w p sb tb qb n m S T P) {k : Nat} (hk : k ≤ n) : PHp (w.setCell ⟨p, 1, none⟩ (.slice (some ⟨tb, 0, none⟩) (k + 1) (n + 1))) p sb tb qb n k S T P := by
  obtain ⟨s1, s2, s3, s4, s5, s6⟩ := h.sep
  refine ⟨(set_off _ (by omega)).trans h.c0, World.cell?_setCell_same' _ _ _ (by rw [h.c1]; rfl), (set_off _ (by omega)).trans h.c2, fun j hj => (set_other _ _ s1.symm).trans (h.s j hj), fun j hj => (set_other _ _ s2.symm).trans (h.t j hj), fun j hj => (set_other _ _ s3.symm).trans (h.q j hj), fun j => by rw [World.frozen?_setCell]; exact h.fp j, fun j => by rw [World.frozen?_setCell]; exact h.fs j, fun j => by rw [World.frozen?_setCell]; exact h.ft j, fun j => by rw [World.frozen?_setCell]; exact h.fq j, ⟨hk, h.le.2⟩, by simpa [World.setCell] using h.lt, h.sep⟩
/-- Another world, with the same blocks. -/
theorem PHp.alloc {w : World} {p sb tb qb n m : Nat} {S T P : Nat → Nat} (h : PHp w p sb tb qb n m S T P) (o : Obj) : PHp (w.alloc o) p sb tb qb n m S T P := by
  obtain ⟨l1, l2, l3, l4⟩ := h.lt
  have q : ∀ c o', c < w.heap.size → (w.alloc o).cell? ⟨c, o', none⟩ = w.cell? ⟨c, o', none⟩ := fun c o' hc => (((Below.refl _ _).alloc (Nat.le_refl _) o).cell (p := ⟨c, o', none⟩) hc)
  have f : ∀ c o', c < w.heap.size → (w.alloc o).frozen? ⟨c, o', none⟩ = w.frozen? ⟨c, o', none⟩ := fun c o' hc => (((Below.refl _ _).alloc (Nat.le_refl _) o).frozen (p := ⟨c, o', none⟩) hc)
  exact ⟨(q _ _ l1).trans h.c0, (q _ _ l1).trans h.c1, (q _ _ l1).trans h.c2, fun j hj => (q _ _ l2).trans (h.s j hj), fun j hj => (q _ _ l3).trans (h.t j hj), fun j hj => (q _ _ l4).trans (h.q j hj), fun j => (f _ _ l1).trans (h.fp j), fun j => (f _ _ l2).trans (h.fs j), fun j => (f _ _ l3).trans (h.ft j), fun j => (f _ _ l4).trans (h.fq j), h.le, by simp; omega, h.sep⟩

theorem set_any {W : World} {p sb tb qb n m : Nat} {S T P : Nat → Nat} (h : PHp W p sb tb qb n m S T P) {i v : Nat} (hi : i ≤ m) (hv : v ≤ n) : Calls Try.prog 24 #[.pointer (some ⟨p, 0, none⟩), .int .i64 ((i : Nat) : Int), .int .i64 ((v : Nat) : Int)] W fun e w => e = .returned (.tuple #[]) ∧ PHp w p sb tb qb n m S (upd T i v) (upd P v i) ∧ Only [p, sb, tb, qb] W w := by
  have c1 := h.c1
  have c2 := h.c2
  have ht := h.t i (by have := h.le; omega)
  have hq := h.q v hv
  have ft := h.ft i
  have fq := h.fq v
  obtain ⟨s1, s2, s3, s4, s5, s6⟩ := h.sep
  have hle := h.le
  have i0 : (0 : Int) ≤ ((i : Nat) : Int) := by omega
  have i1 : ((i : Nat) : Int) < ((m : Nat) : Int) + 1 := by omega
  have v0 : (0 : Int) ≤ ((v : Nat) : Int) := by omega
  have v1 : ((v : Nat) : Int) < ((n : Nat) : Int) + 1 := by omega
  have H1 := h.setT (i := i) (x := v) (by omega)
  have g2 := H1.c2
  have gq := H1.q v hv
  have gf := H1.fq v
  have HH := Lib.hid h
  clear h H1 c2 hq fq
  go_enter Try.func24, Try.ntmps24
  go_wp2_with fail
  go_end0
  exact ⟨rfl, (HH.out.setT (by omega)).setQ hv, ((Only.refl _ _).set (by simp) _).set (by simp) _⟩
end Hp
end Go.Proofs.Ytdajnmlpghgeeaa
