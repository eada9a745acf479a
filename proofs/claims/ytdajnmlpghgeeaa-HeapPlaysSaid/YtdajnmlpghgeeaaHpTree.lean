/-
  The tree of variables: which comes ahead, and what a step up or down leaves. Plain facts.
-/
import Derived.Test.YtdajnmlpghgeeaaHpFloat
namespace Go.Proofs.Ytdajnmlpghgeeaa
open Go.RowKit
namespace Hp
set_option maxHeartbeats 1600000
set_option maxRecDepth 100000

theorem above_neg {a b c : Nat} (h : aboveF a b = false) (k : aboveF b c = false) : aboveF a c = false := by
  unfold aboveF at *
  cases ha : keyF a <;> cases hb : keyF b <;> cases hc : keyF c <;> simp_all
  omega
/-- Does v come ahead of u? -/
def aheadF (S : Nat → Nat) (v u : Nat) : Bool := aboveF (S v) (S u) || (decide (v < u) && !aboveF (S u) (S v))
theorem ahead_asym {S : Nat → Nat} {v u : Nat} (h : aheadF S v u = true) : aheadF S u v = false := by
  unfold aheadF at *
  cases h1 : aboveF (S v) (S u) with
  | true => rw [above_asym h1]; simp
  | false =>
    rw [h1] at h
    simp only [Bool.false_or, Bool.and_eq_true, decide_eq_true_eq, Bool.not_eq_true'] at h
    rw [h.2]
    have : decide (u < v) = false := decide_eq_false (by omega)
    rw [this]; rfl
theorem ahead_total {S : Nat → Nat} {v u : Nat} (hn : v ≠ u) (h : aheadF S v u = false) : aheadF S u v = true := by
  unfold aheadF at *
  simp only [Bool.or_eq_false_iff, Bool.and_eq_false_iff, decide_eq_false_iff_not, Bool.not_eq_false'] at h
  rw [h.1]
  rcases h.2 with h2 | h2
  · have : decide (u < v) = true := decide_eq_true (by omega)
    rw [this]; simp
  · rw [h2]; rfl
theorem ahead_trans {S : Nat → Nat} {a b c : Nat} (h : aheadF S a b = true) (k : aheadF S b c = true) : aheadF S a c = true := by
  unfold aheadF at *
  cases h1 : aboveF (S a) (S b) with
  | true =>
    cases h2 : aboveF (S b) (S c) with
    | true => rw [above_trans h1 h2]; rfl
    | false =>
      rw [h2] at k
      simp only [Bool.false_or, Bool.and_eq_true, decide_eq_true_eq, Bool.not_eq_true'] at k
      cases h3 : aboveF (S a) (S c) with
      | true => rfl
      | false => rw [above_neg h3 k.2] at h1; cases h1
  | false =>
    rw [h1] at h
    simp only [Bool.false_or, Bool.and_eq_true, decide_eq_true_eq, Bool.not_eq_true'] at h
    cases h2 : aboveF (S b) (S c) with
    | true =>
      cases h3 : aboveF (S a) (S c) with
      | true => rfl
      | false => rw [above_neg h.2 h3] at h2; cases h2
    | false =>
      rw [h2] at k
      simp only [Bool.false_or, Bool.and_eq_true, decide_eq_true_eq, Bool.not_eq_true'] at k
      rw [above_neg k.2 h.2]
      have : decide (a < c) = true := decide_eq_true (by omega)
      rw [this]; simp
theorem ahead_irrefl (S : Nat → Nat) (v : Nat) : aheadF S v v = false := by
  cases h : aheadF S v v with
  | false => rfl
  | true => rw [ahead_asym h] at h; cases h
theorem ahead_same {S R : Nat → Nat} {v u : Nat} (h1 : keyF (S v) = keyF (R v)) (h2 : keyF (S u) = keyF (R u)) : aheadF S v u = aheadF R v u := by
  unfold aheadF aboveF
  rw [h1, h2]
def upd (f : Nat → Nat) (i x : Nat) : Nat → Nat := fun j => if j = i then x else f j
theorem upd_at (f : Nat → Nat) (i x : Nat) : upd f i x i = x := if_pos rfl
theorem upd_ne {f : Nat → Nat} {i x j : Nat} (h : j ≠ i) : upd f i x j = f j := if_neg h
theorem upd_self {f : Nat → Nat} {i x : Nat} (h : f i = x) : upd f i x = f := by
  funext j; unfold upd; split
  · subst_vars; rfl
  · rfl
theorem upd_upd (f : Nat → Nat) (i x y : Nat) : upd (upd f i x) i y = upd f i y := by
  funext j; unfold upd; split <;> rfl
/-- Places and variables fit each other: m of n variables are in. -/
structure Fit (n m : Nat) (T P : Nat → Nat) : Prop where
  t : ∀ i, 1 ≤ i → i ≤ m → 1 ≤ T i ∧ T i ≤ n ∧ P (T i) = i
  p : ∀ v, 1 ≤ v → v ≤ n → P v ≤ m ∧ (P v = 0 ∨ T (P v) = v)
theorem Fit.inj {n m : Nat} {T P : Nat → Nat} (h : Fit n m T P) {i j : Nat} (hi : 1 ≤ i) (hi2 : i ≤ m) (hj : 1 ≤ j) (hj2 : j ≤ m) (hn : i ≠ j) : T i ≠ T j := by
  intro e
  have h1 := (h.t i hi hi2).2.2
  have h2 := (h.t j hj hj2).2.2
  rw [e, h2] at h1
  exact hn h1.symm
/-- Two change places. -/
def swapT (T : Nat → Nat) (i k : Nat) : Nat → Nat := upd (upd T i (T k)) k (T i)
theorem Fit.swap {n m : Nat} {T P : Nat → Nat} (h : Fit n m T P) {i k : Nat} (hi : 1 ≤ i) (hi2 : i ≤ m) (hk : 1 ≤ k) (hk2 : k ≤ m) (hn : i ≠ k) : Fit n m (swapT T i k) (upd (upd P (T k) i) (T i) k) := by
  have hne := h.inj hi hi2 hk hk2 hn
  obtain ⟨a1, a2, a3⟩ := h.t i hi hi2
  obtain ⟨b1, b2, b3⟩ := h.t k hk hk2
  constructor
  · intro j hj hj2
    unfold swapT
    by_cases e1 : j = k
    · subst e1
      rw [upd_at]
      exact ⟨a1, a2, upd_at _ _ _⟩
    · rw [upd_ne e1]
      by_cases e2 : j = i
      · subst e2
        rw [upd_at]
        exact ⟨b1, b2, by rw [upd_ne (Ne.symm hne), upd_at]⟩
      · rw [upd_ne e2]
        obtain ⟨c1, c2, c3⟩ := h.t j hj hj2
        exact ⟨c1, c2, by rw [upd_ne (h.inj hj hj2 hi hi2 e2), upd_ne (h.inj hj hj2 hk hk2 e1), c3]⟩
  · intro v hv hv2
    unfold swapT
    by_cases e1 : v = T i
    · subst e1
      rw [upd_at]
      exact ⟨hk2, .inr (upd_at _ _ _)⟩
    · rw [upd_ne e1]
      by_cases e2 : v = T k
      · subst e2
        rw [upd_at]
        exact ⟨hi2, .inr (by rw [upd_ne hn, upd_at])⟩
      · rw [upd_ne e2]
        obtain ⟨c1, c2⟩ := h.p v hv hv2
        refine ⟨c1, ?_⟩
        rcases c2 with c2 | c2
        · exact .inl c2
        · right
          have q1 : P v ≠ i := fun e => e1 (by rw [← e, c2])
          have q2 : P v ≠ k := fun e => e2 (by rw [← e, c2])
          rw [upd_ne q2, upd_ne q1, c2]
def okT (S T : Nat → Nat) (i j : Nat) : Prop := aheadF S (T i) (T j) = true
/-- In order from lo on. -/
def Ord (S T : Nat → Nat) (m lo : Nat) : Prop := ∀ j, j ≤ m → lo ≤ j / 2 → okT S T (j / 2) j
/-- In order but below i. -/
def Dn (S T : Nat → Nat) (m lo i : Nat) : Prop := (∀ j, j ≤ m → lo ≤ j / 2 → j / 2 ≠ i → okT S T (j / 2) j) ∧ ∀ j, j ≤ m → j / 2 = i → lo ≤ i / 2 → okT S T (i / 2) j
theorem Dn.step {S T P : Nat → Nat} {n m lo i k : Nat} (h : Dn S T m lo i) (hf : Fit n m T P) (hlo : 1 ≤ lo) (hi : lo ≤ i) (hk : k / 2 = i) (hkm : k ≤ m) (hs : ∀ j, j ≤ m → j / 2 = i → j ≠ k → aheadF S (T k) (T j) = true) (hv : aheadF S (T i) (T k) = false) : Dn S (swapT T i k) m lo k := by
  have hik : aheadF S (T k) (T i) = true := ahead_total (hf.inj (by omega) (by omega) (by omega) (by omega) (by omega)) hv
  have si : swapT T i k i = T k := by unfold swapT; rw [upd_ne (by omega), upd_at]
  have sk : swapT T i k k = T i := by unfold swapT; rw [upd_at]
  have so : ∀ j, j ≠ i → j ≠ k → swapT T i k j = T j := fun j a b => by unfold swapT; rw [upd_ne b, upd_ne a]
  constructor
  · intro j hj hl hjk
    unfold okT
    by_cases e : j / 2 = i
    · rw [e, si]
      by_cases ek : j = k
      · rw [ek, sk]; exact hik
      · rw [so j (by omega) ek]; exact hs j hj e ek
    · by_cases ei : j = i
      · subst ei
        rw [si, so (j / 2) (by omega) (by omega)]
        exact h.2 k hkm hk hl
      · rw [so j ei (by omega), so (j / 2) e hjk]
        exact h.1 j hj hl e
  · intro j hj hjk hl
    unfold okT
    rw [hk, si, so j (by omega) (by omega)]
    have := h.1 j hj (by omega) (by omega)
    rw [hjk] at this
    exact this
theorem Dn.done {S T P : Nat → Nat} {n m lo i k : Nat} (h : Dn S T m lo i) (_hf : Fit n m T P) (_hlo : 1 ≤ lo) (_hi : lo ≤ i) (_hk : k / 2 = i) (_hkm : k ≤ m) (hs : ∀ j, j ≤ m → j / 2 = i → j ≠ k → aheadF S (T k) (T j) = true) (hv : aheadF S (T i) (T k) = true) : Ord S T m lo := by
  intro j hj hl
  by_cases e : j / 2 = i
  · rw [e]
    unfold okT
    by_cases ek : j = k
    · rw [ek]; exact hv
    · exact ahead_trans hv (hs j hj e ek)
  · exact h.1 j hj hl e
theorem Dn.leaf {S T : Nat → Nat} {m lo i : Nat} (h : Dn S T m lo i) (hk : m < 2 * i) : Ord S T m lo := fun j hj hl => h.1 j hj hl (by omega)
theorem Ord.dn {S T : Nat → Nat} {m i : Nat} (h : Ord S T m (i + 1)) (h1 : 1 ≤ i) : Dn S T m i i := ⟨fun j hj hl hn => h j hj (by omega), fun j hj e hl => by omega⟩
/-- In order but above i; where c: below it, too. -/
def Up (S T : Nat → Nat) (m i : Nat) (c : Prop) : Prop := (∀ j, j ≤ m → 1 ≤ j / 2 → j ≠ i → j / 2 ≠ i → okT S T (j / 2) j) ∧ (∀ j, j ≤ m → j / 2 = i → 2 ≤ i → okT S T (i / 2) j) ∧ (c → ∀ j, j ≤ m → j / 2 = i → okT S T i j)
theorem Up.step {S T : Nat → Nat} {m i : Nat} {c : Prop} (h : Up S T m i c) (hi : 2 ≤ i) (him : i ≤ m) (hv : aheadF S (T i) (T (i / 2)) = true) : Up S (swapT T i (i / 2)) m (i / 2) c := by
  have si : swapT T i (i / 2) i = T (i / 2) := by unfold swapT; rw [upd_ne (by omega), upd_at]
  have sk : swapT T i (i / 2) (i / 2) = T i := by unfold swapT; rw [upd_at]
  have so : ∀ j, j ≠ i → j ≠ i / 2 → swapT T i (i / 2) j = T j := fun j a b => by unfold swapT; rw [upd_ne b, upd_ne a]
  refine ⟨?_, ?_, ?_⟩
  · intro j hj h1 e1 e2
    unfold okT
    have eij : j ≠ i := fun e => e2 (by rw [e])
    rw [so j eij e1]
    by_cases e : j / 2 = i
    · rw [e, si]
      exact h.2.1 j hj e hi
    · rw [so (j / 2) e e2]
      exact h.1 j hj h1 eij e
  · intro j hj e h2
    unfold okT
    rw [so (i / 2 / 2) (by omega) (by omega)]
    have hp := h.1 (i / 2) (by omega) (by omega) (by omega) (by omega)
    by_cases ei : j = i
    · subst ei
      rw [si]; exact hp
    · rw [so j ei (by omega)]
      have hq := h.1 j hj (by omega) ei (by omega)
      rw [e] at hq
      exact ahead_trans hp hq
  · intro _ j hj e
    unfold okT
    rw [sk]
    by_cases ei : j = i
    · subst ei
      rw [si]; exact hv
    · rw [so j ei (by omega)]
      have hq := h.1 j hj (by omega) ei (by omega)
      rw [e] at hq
      exact ahead_trans hv hq
theorem Up.done {S T P : Nat → Nat} {n m i : Nat} {c : Prop} (h : Up S T m i c) (hf : Fit n m T P) (hi : 1 ≤ i) (him : i ≤ m) (hv : 2 ≤ i → aheadF S (T i) (T (i / 2)) = false) : Dn S T m 1 i ∧ (c → Ord S T m 1) := by
  have hd : Dn S T m 1 i := by
    constructor
    · intro j hj h1 hn
      by_cases e : j = i
      · subst e
        exact ahead_total (hf.inj (by omega) (by omega) (by omega) (by omega) (by omega)) (hv (by omega))
      · exact h.1 j hj h1 e hn
    · intro j hj e h1
      exact h.2.1 j hj e (by omega)
  refine ⟨hd, fun hc j hj h1 => ?_⟩
  by_cases e : j / 2 = i
  · rw [e]; exact h.2.2 hc j hj e
  · exact hd.1 j hj h1 e
/-- A score has changed. -/
theorem Ord.up {S T P : Nat → Nat} {n m i x : Nat} (h : Ord S T m 1) (hf : Fit n m T P) (hi : 1 ≤ i) (him : i ≤ m) : Up (upd S (T i) x) T m i False := by
  have so : ∀ j, 1 ≤ j → j ≤ m → j ≠ i → upd S (T i) x (T j) = S (T j) := fun j a b e => upd_ne (hf.inj a b hi him e)
  refine ⟨fun j hj h1 e1 e2 => ?_, fun j hj e h2 => ?_, fun c => c.elim⟩
  · unfold okT
    rw [ahead_same (R := S) (by rw [so (j / 2) h1 (by omega) e2]) (by rw [so j (by omega) hj e1])]
    exact h j hj h1
  · unfold okT
    rw [ahead_same (R := S) (by rw [so (i / 2) (by omega) (by omega) (by omega)]) (by rw [so j (by omega) hj (by omega)])]
    have h1 := h i him (by omega)
    have h3 := h j hj (by omega)
    rw [e] at h3
    exact ahead_trans h1 h3
/-- A score of one that is not in has changed. -/
theorem Ord.out {S T P : Nat → Nat} {n m v x : Nat} (h : Ord S T m 1) (hf : Fit n m T P) (_hv : 1 ≤ v) (_hv2 : v ≤ n) (hp : P v = 0) : Ord (upd S v x) T m 1 := by
  have so : ∀ j, 1 ≤ j → j ≤ m → upd S v x (T j) = S (T j) := fun j a b => upd_ne (fun e => by have := (hf.t j a b).2.2; rw [e, hp] at this; omega)
  intro j hj h1
  unfold okT
  rw [ahead_same (R := S) (by rw [so (j / 2) h1 (by omega)]) (by rw [so j (by omega) hj])]
  exact h j hj h1
/-- The first one comes ahead of all others. -/
theorem Ord.first {S T : Nat → Nat} {m : Nat} (h : Ord S T m 1) : ∀ k i, i ≤ k → 2 ≤ i → i ≤ m → aheadF S (T 1) (T i) = true
  | 0, i, hk, h2, _ => by omega
  | k + 1, i, hk, h2, hm => by
    have hp := h i hm (by omega)
    by_cases e : i / 2 = 1
    · rw [e] at hp; exact hp
    · exact ahead_trans (Ord.first h k (i / 2) (by omega) (by omega) (by omega)) hp
theorem first_of {S T P : Nat → Nat} {n m : Nat} (h : Ord S T m 1) (hf : Fit n m T P) {v : Nat} (hv : 1 ≤ v) (hv2 : v ≤ n) (hp : P v ≠ 0) (hn : v ≠ T 1) : aheadF S (T 1) v = true := by
  obtain ⟨a1, a2⟩ := hf.p v hv hv2
  have a2 := a2.resolve_left hp
  have hne : P v ≠ 1 := fun e => hn (by rw [← e, a2])
  have := h.first (P v) (P v) (Nat.le_refl _) (by omega) a1
  rw [a2] at this
  exact this
/-- The first one is taken out, the last one put in its place. -/
theorem Fit.pop {n m : Nat} {T P : Nat → Nat} (h : Fit n (m + 1) T P) : Fit n m (upd T 1 (T (m + 1))) (upd (upd P (T (m + 1)) 1) (T 1) 0) := by
  constructor
  · intro i hi hi2
    by_cases e : i = 1
    · subst e
      rw [upd_at]
      obtain ⟨a1, a2, _⟩ := h.t (m + 1) (by omega) (by omega)
      exact ⟨a1, a2, by rw [upd_ne (h.inj (by omega) (by omega) (by omega) (by omega) (by omega)), upd_at]⟩
    · rw [upd_ne e]
      obtain ⟨a1, a2, a3⟩ := h.t i hi (by omega)
      exact ⟨a1, a2, by rw [upd_ne (h.inj (by omega) (by omega) (by omega) (by omega) e), upd_ne (h.inj (by omega) (by omega) (by omega) (by omega) (by omega)), a3]⟩
  · intro v hv hv2
    by_cases e1 : v = T 1
    · subst e1
      rw [upd_at]; exact ⟨by omega, .inl rfl⟩
    · rw [upd_ne e1]
      by_cases e2 : v = T (m + 1)
      · subst e2
        rw [upd_at, upd_at]
        have : m ≠ 0 := fun e => e1 (by rw [e])
        exact ⟨by omega, .inr rfl⟩
      · rw [upd_ne e2]
        obtain ⟨c1, c2⟩ := h.p v hv hv2
        rcases c2 with c2 | c2
        · exact ⟨by omega, .inl c2⟩
        · have q1 : P v ≠ 1 := fun e => e1 (by rw [← e, c2])
          have q2 : P v ≠ m + 1 := fun e => e2 (by rw [← e, c2])
          exact ⟨by omega, .inr (by rw [upd_ne q1, c2])⟩
theorem Ord.pop {S T : Nat → Nat} {m x : Nat} (h : Ord S T (m + 1) 1) : Dn S (upd T 1 x) m 1 1 := by
  refine ⟨fun j hj h1 hn => ?_, fun j _ _ h1 => by omega⟩
  unfold okT
  rw [upd_ne hn, upd_ne (by omega)]
  exact h j (by omega) h1
/-- One more is put behind all. -/
theorem Fit.put {n m v : Nat} {T P : Nat → Nat} (h : Fit n m T P) (hv : 1 ≤ v) (hv2 : v ≤ n) (hp : P v = 0) : Fit n (m + 1) (upd T (m + 1) v) (upd P v (m + 1)) := by
  constructor
  · intro i hi hi2
    by_cases e : i = m + 1
    · subst e
      rw [upd_at]; exact ⟨hv, hv2, upd_at _ _ _⟩
    · rw [upd_ne e]
      obtain ⟨a1, a2, a3⟩ := h.t i hi (by omega)
      exact ⟨a1, a2, by rw [upd_ne (fun x => by rw [x, hp] at a3; omega), a3]⟩
  · intro u hu hu2
    by_cases e : u = v
    · subst e
      rw [upd_at]; exact ⟨Nat.le_refl _, .inr (upd_at _ _ _)⟩
    · rw [upd_ne e]
      obtain ⟨c1, c2⟩ := h.p u hu hu2
      exact ⟨by omega, c2.imp id fun c => by rw [upd_ne (by omega), c]⟩
theorem Ord.put {S T : Nat → Nat} {m v : Nat} (h : Ord S T m 1) : Up S (upd T (m + 1) v) (m + 1) (m + 1) True := by
  refine ⟨fun j hj h1 e1 e2 => ?_, fun j hj e h2 => by omega, fun _ j hj e => by omega⟩
  unfold okT
  rw [upd_ne (by omega), upd_ne e1]
  exact h j (by omega) h1
/-- Not more are in than there are. -/
theorem ord_none {S T : Nat → Nat} {m lo : Nat} (h : m < 2 * lo) : Ord S T m lo := fun j hj hl => by omega
end Hp
end Go.Proofs.Ytdajnmlpghgeeaa
