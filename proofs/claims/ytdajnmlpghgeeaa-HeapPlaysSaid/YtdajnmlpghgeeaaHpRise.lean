/-
  The program's heap: rise.
-/
import Derived.Test.YtdajnmlpghgeeaaHpSmall
namespace Go.Proofs.Ytdajnmlpghgeeaa
open Go.RowKit
namespace Hp
set_option maxHeartbeats 1600000
set_option maxRecDepth 100000

/-- The same are in. -/
def SameIn (P Q : Nat → Nat) : Prop := ∀ u, P u = 0 ↔ Q u = 0
theorem SameIn.refl (P : Nat → Nat) : SameIn P P := fun _ => Iff.rfl
theorem SameIn.trans {P Q R : Nat → Nat} (h : SameIn P Q) (k : SameIn Q R) : SameIn P R := fun u => (h u).trans (k u)
theorem SameIn.set {P Q : Nat → Nat} (h : SameIn P Q) {v x : Nat} (hv : P v ≠ 0) (hx : x ≠ 0) : SameIn P (upd Q v x) := by
  intro u
  by_cases e : u = v
  · subst e; rw [upd_at]; exact ⟨fun a => absurd a hv, fun a => absurd a hx⟩
  · rw [upd_ne e]; exact h u
/-- What rise has done. -/
def RiseE (W : World) (p sb tb qb n m : Nat) (S P : Nat → Nat) (v : Nat) (c : Prop) (e : Ending) (w : World) : Prop :=
  e = .returned (.tuple #[]) ∧ ∃ (i : Nat) (T Q : Nat → Nat), PHp w p sb tb qb n m S T Q ∧ Fit n m T Q ∧ Dn S T m 1 i ∧ (c → Ord S T m 1) ∧ 1 ≤ i ∧ i ≤ m ∧ T i = v ∧ SameIn P Q ∧ Only [p, sb, tb, qb] W w
/-- While it goes up: what lies in memory but for the one that rises. -/
structure Going (W w : World) (p sb tb qb n m : Nat) (S P0 : Nat → Nat) (v i : Nat) (T P : Nat → Nat) : Prop where
  h : PHp w p sb tb qb n m S T P
  fit : Fit n m (upd T i v) (upd P v i)
  same : SameIn P0 (upd P v i)
  o : Only [p, sb, tb, qb] W w
  i : 1 ≤ i ∧ i ≤ m
  v : v ≤ n
/-- One place is taken by another one, and the rest goes on from there. -/
theorem going_next {W w w' : World} {p sb tb qb n m : Nat} {S P0 T P : Nat → Nat} {v i k : Nat} (g : Going W w p sb tb qb n m S P0 v i T P) (hk : 1 ≤ k) (hkm : k ≤ m) (hn : k ≠ i)
    (h' : PHp w' p sb tb qb n m S (upd T i (T k)) (upd P (T k) i)) (o' : Only [p, sb, tb, qb] w w') : Going W w' p sb tb qb n m S P0 v k (upd T i (T k)) (upd P (T k) i) ∧ upd (upd T i (T k)) k v = swapT (upd T i v) i k := by
  obtain ⟨i1, i2⟩ := g.i
  have hT : swapT (upd T i v) i k = upd (upd T i (T k)) k v := by
    funext j
    unfold swapT
    unfold upd
    by_cases e1 : j = k
    · simp [e1]
    · by_cases e2 : j = i
      · simp [e2, hn]
      · simp [e1, e2]
  have hf := g.fit.swap i1 i2 hk hkm (Ne.symm hn)
  have hvk : v ≠ T k := by
    have := g.fit.inj i1 i2 hk hkm (Ne.symm hn)
    rw [upd_at, upd_ne hn] at this
    exact this
  rw [hT, upd_at, upd_ne hn] at hf
  have hP : upd (upd (upd P v i) (T k) i) v k = upd (upd P (T k) i) v k := by
    funext j
    unfold upd
    by_cases e1 : j = v
    · simp [e1]
    · simp [e1]
  rw [hP] at hf
  have hz : P0 v ≠ 0 := fun e => by have := (g.same v).1 e; rw [upd_at] at this; omega
  have hz2 : P0 (T k) ≠ 0 := fun e => by
    have h1 := (g.same (T k)).1 e
    rw [upd_ne (Ne.symm hvk)] at h1
    have h2 := (g.fit.t k hk hkm).2.2
    rw [upd_ne hn, upd_ne (Ne.symm hvk), h1] at h2
    omega
  refine ⟨⟨h', hf, ?_, g.o.trans o', ⟨hk, hkm⟩, g.v⟩, hT.symm⟩
  have := (g.same.set hz2 (x := i) (by omega)).set hz (x := k) (by omega)
  rw [hP] at this
  exact this
theorem rise_any {W : World} {p sb tb qb n m : Nat} {S T P : Nat → Nat} (h : PHp W p sb tb qb n m S T P) {i v : Nat} {c : Prop} (hi : 1 ≤ i) (him : i ≤ m) (hv : T i = v) (hvn : v ≤ n) (hf : Fit n m T (upd P v i)) (hu : Up S T m i c) : Calls Try.prog 32 #[.pointer (some ⟨p, 0, none⟩), .int .i64 ((i : Nat) : Int)] W (RiseE W p sb tb qb n m S (upd P v i) v c) := by
  have c1 := h.c1
  have hle := h.le
  have ht := h.t i (by omega)
  have i0 : (0 : Int) ≤ ((i : Nat) : Int) := by omega
  have i1 : ((i : Nat) : Int) < ((m : Nat) : Int) + 1 := by omega
  have HS : Hid (Going W W p sb tb qb n m S (upd P v i) v i T P ∧ Up S (upd T i v) m i c) := Lib.hid ⟨⟨h, by rw [upd_self hv]; exact hf, SameIn.refl _, Only.refl _ _, ⟨hi, him⟩, hvn⟩, by rw [upd_self hv]; exact hu⟩
  rw [hv] at ht
  clear h hf hu hv
  go_enter Try.func32, Try.ntmps32
  go_wp2_with fail
  go_loopg [1] i (fun gk v1 wr => ∃ (k : Nat) (T1 P1 : Nat → Nat), v1 = .int .i64 ((k : Nat) : Int) ∧ k = gk ∧ Hid (Going W wr p sb tb qb n m S (upd P v i) v k T1 P1 ∧ Up S (upd T1 k v) m k c))
  case atStart => exact ⟨i, T, P, rfl, rfl, HS⟩
  case round =>
    obtain ⟨k, T1, P1, rfl, rfl, HG⟩ := hrel
    clear HS
    have hk := HG.out.1.i
    have c1 := HG.out.1.h.c1
    have k0 : (0 : Int) ≤ ((k : Nat) : Int) := by omega
    have k1 : ((k : Nat) : Int) < ((m : Nat) : Int) + 1 := by omega
    have HSET := Lib.hid (fun (w : World) (g : PHp w p sb tb qb n m S T1 P1) => set_any g hk.2 hvn)
    have HEND : Hid (∀ w w', PHp w p sb tb qb n m S T1 P1 → (∃ q, w = wr.drewN q) → (2 ≤ k → aheadF S v (T1 (k / 2)) = false) → PHp w' p sb tb qb n m S (upd T1 k v) (upd P1 v k) → Only [p, sb, tb, qb] w w' → RiseE W p sb tb qb n m S (upd P v i) v c (.returned (.tuple #[])) w') := Lib.hid (fun w w' _ hq hno g' o' => by
      obtain ⟨q, rfl⟩ := hq
      obtain ⟨d1, d2⟩ := HG.out.2.done HG.out.1.fit hk.1 hk.2 (fun h2 => by rw [upd_at, upd_ne (by omega)]; exact hno h2)
      exact ⟨rfl, k, _, _, g', HG.out.1.fit, d1, d2, hk.1, hk.2, upd_at _ _ _, HG.out.1.same, (HG.out.1.o.drewN q).trans o'⟩)
    by_cases h2 : 2 ≤ k
    · have d1 : decide (1 < ((k : Nat) : Int)) = true := decide_eq_true (by omega)
      have d2 : 1 < ((k : Nat) : Int) := by omega
      have ht := HG.out.1.h.t (k / 2) (by omega)
      have hun : T1 (k / 2) ≤ n := by
        have := (HG.out.1.fit.t (k / 2) (by omega) (by omega)).2.1
        rw [upd_ne (by omega)] at this
        exact this
      have q0 : (0 : Int) ≤ ((k / 2 : Nat) : Int) := by omega
      have q1 : ((k / 2 : Nat) : Int) < ((m : Nat) : Int) + 1 := by omega
      have q2 : ((k : Nat) : Int) / 2 < ((m : Nat) : Int) + 1 := by omega
      have HA := Lib.hid (ahead_any HG.out.1.h hvn hun)
      have HSET2 := Lib.hid (fun (w : World) (g : PHp w p sb tb qb n m S T1 P1) => set_any g hk.2 hun)
      have HNX := Lib.hid (fun (w w' : World) (g : Going W w p sb tb qb n m S (upd P v i) v k T1 P1) => going_next (w' := w') (k := k / 2) g (by omega) (by omega) (by omega))
      obtain ⟨u, hu⟩ : ∃ u, u = T1 (k / 2) := ⟨_, rfl⟩
      rw [← hu] at ht HA HSET2 HEND HNX
      have HU := Lib.hid hu
      clear hu hun
      cases ha : aheadF S v u with
      | true =>
        rw [ha] at HA
        have HT := Lib.hid ha
        clear ha
        go_wp2_with fail
        refine HA.out.mono ?_
        rintro e w ⟨rfl, q, rfl⟩
        go_wp2_with fail
        refine (HSET2.out _ (HG.out.1.h.drewN q)).mono ?_
        rintro e w ⟨rfl, g', o'⟩
        have G' := Lib.hid g'
        have O' := Lib.hid o'
        clear g' o'
        go_wp2_with fail
        go_roundg (k / 2)
        case measure => omega
        case rel =>
          obtain ⟨r1, r2⟩ := HNX.out _ _ (⟨HG.out.1.h.drewN q, HG.out.1.fit, HG.out.1.same, HG.out.1.o.drewN q, HG.out.1.i, HG.out.1.v⟩) G'.out O'.out
          refine ⟨k / 2, _, _, rfl, rfl, Lib.hid ⟨r1, ?_⟩⟩
          rw [r2]
          exact HG.out.2.step h2 hk.2 (by rw [upd_at, upd_ne (by omega), ← HU.out]; exact HT.out)
      | false =>
        rw [ha] at HA
        have HT := Lib.hid ha
        clear ha
        go_wp2_with fail
        refine HA.out.mono ?_
        rintro e w ⟨rfl, q, rfl⟩
        go_wp2_with fail
        refine (HSET.out _ (HG.out.1.h.drewN q)).mono ?_
        rintro e w ⟨rfl, g', o'⟩
        have G' := Lib.hid g'
        have O' := Lib.hid o'
        clear g' o'
        go_wp2_with fail
        go_end0
        exact HEND.out _ _ (HG.out.1.h.drewN q) ⟨q, rfl⟩ (fun _ => HT.out) G'.out O'.out
    · have d1 : decide (1 < ((k : Nat) : Int)) = false := decide_eq_false (by omega)
      have d2 : ¬ 1 < ((k : Nat) : Int) := by omega
      go_wp2_with fail
      refine (HSET.out _ (HG.out.1.h)).mono ?_
      rintro e w ⟨rfl, g', o'⟩
      have G' := Lib.hid g'
      have O' := Lib.hid o'
      clear g' o'
      go_wp2_with fail
      go_end0
      exact HEND.out _ _ HG.out.1.h ⟨0, rfl⟩ (fun x => absurd x h2) G'.out O'.out
end Hp
end Go.Proofs.Ytdajnmlpghgeeaa
