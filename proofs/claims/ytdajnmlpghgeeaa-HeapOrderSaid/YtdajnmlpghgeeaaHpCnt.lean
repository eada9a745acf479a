/-
  How many are in. Plain facts.
-/
import Derived.Test.YtdajnmlpghgeeaaHpTree
namespace Go.Proofs.Ytdajnmlpghgeeaa
open Go.RowKit
namespace Hp
set_option maxHeartbeats 1600000
set_option maxRecDepth 100000

/-- How many of 1 to k are in. -/
def cntF (P : Nat → Nat) : Nat → Nat
  | 0 => 0
  | k + 1 => cntF P k + if P (k + 1) = 0 then 0 else 1
theorem cnt_same {P Q : Nat → Nat} : ∀ k, (∀ v, 1 ≤ v → v ≤ k → (P v = 0 ↔ Q v = 0)) → cntF P k = cntF Q k
  | 0, _ => rfl
  | k + 1, h => by
    rw [cntF, cntF, cnt_same k (fun v a b => h v a (by omega))]
    have := h (k + 1) (by omega) (by omega)
    by_cases e : P (k + 1) = 0
    · rw [if_pos e, if_pos (this.1 e)]
    · rw [if_neg e, if_neg (fun x => e (this.2 x))]
theorem cnt_off {P Q : Nat → Nat} {u : Nat} (hu : 1 ≤ u) (hp : P u ≠ 0) (hq : Q u = 0) : ∀ k, u ≤ k → (∀ v, 1 ≤ v → v ≤ k → v ≠ u → (P v = 0 ↔ Q v = 0)) → cntF P k = cntF Q k + 1
  | 0, h, _ => by omega
  | k + 1, hk, h => by
    rw [cntF, cntF]
    by_cases e : u = k + 1
    · subst e
      rw [if_neg hp, if_pos hq, cnt_same k (fun v a b => h v a (by omega) (by omega))]
    · rw [cnt_off hu hp hq k (by omega) (fun v a b => h v a (by omega))]
      have := h (k + 1) (by omega) (by omega) (Ne.symm e)
      by_cases e2 : P (k + 1) = 0
      · rw [if_pos e2, if_pos (this.1 e2)]
      · rw [if_neg e2, if_neg (fun x => e2 (this.2 x))]
theorem cnt_le (P : Nat → Nat) : ∀ k, cntF P k ≤ k
  | 0 => Nat.le_refl _
  | k + 1 => by have := cnt_le P k; rw [cntF]; split <;> omega
theorem cnt_lt {P : Nat → Nat} {u : Nat} (hu : 1 ≤ u) (hp : P u = 0) : ∀ k, u ≤ k → cntF P k < k
  | 0, h => by omega
  | k + 1, h => by
    rw [cntF]
    by_cases e : u = k + 1
    · subst e
      rw [if_pos hp]
      have := cnt_le P k; omega
    · have := cnt_lt hu hp k (by omega)
      split <;> omega
theorem Fit.cnt {n : Nat} : ∀ {m : Nat} {T P : Nat → Nat}, Fit n m T P → cntF P n = m
  | 0, T, P, h => by
    have h0 : cntF P n = cntF (fun _ => 0) n := cnt_same n (fun v a b => ⟨fun _ => rfl, fun _ => by have := (h.p v a b).1; omega⟩)
    rw [h0]
    generalize n = k
    induction k with
    | zero => rfl
    | succ k ih => rw [cntF, ih]; rfl
  | m + 1, T, P, h => by
    have hp := h.pop
    have ih := Fit.cnt hp
    obtain ⟨a1, a2, a3⟩ := h.t 1 (by omega) (by omega)
    rw [← ih]
    refine cnt_off (u := T 1) a1 (by rw [a3]; omega) (upd_at _ _ _) n a2 fun v hv hv2 hn => ?_
    rw [upd_ne hn]
    by_cases e : v = T (m + 1)
    · subst e
      rw [upd_at, (h.t (m + 1) (by omega) (by omega)).2.2]
      omega
    · rw [upd_ne e]
theorem Fit.room {n m : Nat} {T P : Nat → Nat} (h : Fit n m T P) {v : Nat} (hv : 1 ≤ v) (hv2 : v ≤ n) (hp : P v = 0) : m < n := by
  rw [← h.cnt]
  exact cnt_lt hv hp n hv2
end Hp
end Go.Proofs.Ytdajnmlpghgeeaa
