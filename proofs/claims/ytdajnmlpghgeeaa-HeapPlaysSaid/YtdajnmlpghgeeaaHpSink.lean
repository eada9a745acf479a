/-
  The program's heap: sink.
-/
import Derived.Test.YtdajnmlpghgeeaaHpRise
namespace Go.Proofs.Ytdajnmlpghgeeaa
open Go.RowKit
namespace Hp
set_option maxHeartbeats 1600000
set_option maxRecDepth 100000

/-- What sink has done. -/
def SinkE (W : World) (p sb tb qb n m : Nat) (S P : Nat → Nat) (lo : Nat) (e : Ending) (w : World) : Prop :=
  e = .returned (.tuple #[]) ∧ ∃ T Q : Nat → Nat, PHp w p sb tb qb n m S T Q ∧ Fit n m T Q ∧ Ord S T m lo ∧ SameIn P Q ∧ Only [p, sb, tb, qb] W w
theorem sink_any {W : World} {p sb tb qb n m : Nat} {S T P : Nat → Nat} (h : PHp W p sb tb qb n m S T P) {i v lo : Nat} (hlo : 1 ≤ lo) (hi : lo ≤ i) (him : i ≤ m) (hv : T i = v) (hvn : v ≤ n) (hf : Fit n m T (upd P v i)) (hu : Dn S T m lo i) : Calls Try.prog 33 #[.pointer (some ⟨p, 0, none⟩), .int .i64 ((i : Nat) : Int)] W (SinkE W p sb tb qb n m S (upd P v i) lo) := by
  have c1 := h.c1
  have hle := h.le
  have ht := h.t i (by omega)
  have i0 : (0 : Int) ≤ ((i : Nat) : Int) := by omega
  have i1 : ((i : Nat) : Int) < ((m : Nat) : Int) + 1 := by omega
  have HS : Hid (Going W W p sb tb qb n m S (upd P v i) v i T P ∧ Dn S (upd T i v) m lo i) := Lib.hid ⟨⟨h, by rw [upd_self hv]; exact hf, SameIn.refl _, Only.refl _ _, ⟨by omega, him⟩, hvn⟩, by rw [upd_self hv]; exact hu⟩
  rw [hv] at ht
  clear h hf hu hv
  go_enter Try.func33, Try.ntmps33
  go_wp2_with fail
  go_loopg [1] (m - i) (fun gk v1 wr => ∃ (k : Nat) (T1 P1 : Nat → Nat), v1 = .int .i64 ((k : Nat) : Int) ∧ k + gk = m ∧ lo ≤ k ∧ Hid (Going W wr p sb tb qb n m S (upd P v i) v k T1 P1 ∧ Dn S (upd T1 k v) m lo k))
  case atStart => exact ⟨i, T, P, rfl, by omega, hi, HS⟩
  case round =>
    obtain ⟨k, T1, P1, rfl, hkg, hlk, HG⟩ := hrel
    clear HS
    have HKG := Lib.hid hkg
    clear hkg
    have hk := HG.out.1.i
    have c1 := HG.out.1.h.c1
    have k0 : (0 : Int) ≤ ((k : Nat) : Int) := by omega
    have k1 : ((k : Nat) : Int) < ((m : Nat) : Int) + 1 := by omega
    have HSET := Lib.hid (fun (w : World) (g : PHp w p sb tb qb n m S T1 P1) => set_any g hk.2 hvn)
    have HEND : Hid (∀ q w', Ord S (upd T1 k v) m lo → PHp w' p sb tb qb n m S (upd T1 k v) (upd P1 v k) → Only [p, sb, tb, qb] (wr.drewN q) w' → SinkE W p sb tb qb n m S (upd P v i) lo (.returned (.tuple #[])) w') := Lib.hid (fun q w' ho g' o' =>
      ⟨rfl, _, _, g', HG.out.1.fit, ho, HG.out.1.same, (HG.out.1.o.drewN q).trans o'⟩)
    by_cases h2 : 2 * k ≤ m
    · have d1 : decide (2 * ((k : Nat) : Int) < ((m : Nat) : Int) + 1) = true := decide_eq_true (by omega)
      have d2 : 2 * ((k : Nat) : Int) < ((m : Nat) : Int) + 1 := by omega
      have q0 : (0 : Int) ≤ 2 * ((k : Nat) : Int) := by omega
      have s1 : wrap64 (2 * ((k : Nat) : Int)) = 2 * ((k : Nat) : Int) := IntWalk.wrap64_in _ (by omega)
      have r1 : IntKind.i64.wrap (2 * ((k : Nat) : Int)) = 2 * ((k : Nat) : Int) := IntWalk.i64_in _ (by omega)
      have r2 : IntKind.i64.wrap (2 * ((k : Nat) : Int) + 1) = 2 * ((k : Nat) : Int) + 1 := IntWalk.i64_in _ (by omega)
      have ht0 := HG.out.1.h.t (2 * k) (by omega)
      by_cases h3 : 2 * k + 1 ≤ m
      · have d3 : decide (2 * ((k : Nat) : Int) + 1 < ((m : Nat) : Int) + 1) = true := decide_eq_true (by omega)
        have d4 : 2 * ((k : Nat) : Int) + 1 < ((m : Nat) : Int) + 1 := by omega
        have ht1 := HG.out.1.h.t (2 * k + 1) (by omega)
        have q3 : (2 * ((k : Nat) : Int) + 1).toNat = 2 * k + 1 := by omega
        have q4 : (2 * ((k : Nat) : Int)).toNat = 2 * k := by omega
        have x1 : T1 (2 * k) ≤ n := by
          have := (HG.out.1.fit.t (2 * k) (by omega) (by omega)).2.1
          rw [upd_ne (by omega)] at this
          exact this
        have x2 : T1 (2 * k + 1) ≤ n := by
          have := (HG.out.1.fit.t (2 * k + 1) (by omega) (by omega)).2.1
          rw [upd_ne (by omega)] at this
          exact this
        have HN : T1 (2 * k) ≠ T1 (2 * k + 1) := by
          have := HG.out.1.fit.inj (i := 2 * k) (j := 2 * k + 1) (by omega) (by omega) (by omega) (by omega) (by omega)
          rw [upd_ne (by omega), upd_ne (by omega)] at this
          exact this
        have HNN := Lib.hid HN
        clear HN
        have HC := Lib.hid (fun q => ahead_any (HG.out.1.h.drewN q) x2 x1)
        cases hb : aheadF S (T1 (2 * k + 1)) (T1 (2 * k)) with
        | true =>
          rw [hb] at HC
          have HB : Hid (∀ j, j ≤ m → j / 2 = k → j ≠ 2 * k + 1 → aheadF S (T1 (2 * k + 1)) (T1 j) = true) := Lib.hid (fun j h1 h4 h5 => by
            obtain rfl : j = 2 * k := by omega
            exact hb)
          clear hb x1 x2
          go_wp2_with fail
          go_quiet ((go_at_call 35; refine Calls.quiet_of (HC.out _)))
          rename_i q1 _
          clear HC HNN q3 q4 d4 d3 ht0
          clear r1 r2 s1
          have hun : T1 (2 * k + 1) ≤ n := by
            have := (HG.out.1.fit.t (2 * k + 1) (by omega) (by omega)).2.1
            rw [upd_ne (by omega)] at this
            exact this
          have HA := Lib.hid (fun w (g : PHp w p sb tb qb n m S T1 P1) => ahead_any g hvn hun)
          have HSET2 := Lib.hid (fun (w : World) (g : PHp w p sb tb qb n m S T1 P1) => set_any g hk.2 hun)
          have HNX := Lib.hid (fun (w w' : World) (g : Going W w p sb tb qb n m S (upd P v i) v k T1 P1) => going_next (w' := w') (k := 2 * k + 1) g (by omega) (by omega) (by omega))
          have HKD : Hid (∀ j, j ≤ m → j / 2 = k → j ≠ 2 * k + 1 → aheadF S (upd T1 k v (2 * k + 1)) (upd T1 k v j) = true) := Lib.hid (fun j h1 h4 h5 => by
            rw [upd_ne (by omega), upd_ne (by omega)]; exact HB.out j h1 h4 h5)
          obtain ⟨u, hu⟩ : ∃ u, u = T1 (2 * k + 1) := ⟨_, rfl⟩
          rw [← hu] at ht1 HA HSET2 HNX
          have HU := Lib.hid hu
          clear hu hun HB
          cases ha : aheadF S v u with
          | true =>
            have HA := Lib.hid (fun w g => by have := HA.out w g; rw [ha] at this; exact this)
            have HT := Lib.hid ha
            clear ha
            go_wp2_with fail
            refine (HA.out _ (HG.out.1.h.drewN _)).mono ?_
            rintro e w ⟨rfl, q2, rfl⟩
            go_wp2_with fail
            refine (HSET.out _ (HG.out.1.h.drewN _)).mono ?_
            rintro e w ⟨rfl, g', o'⟩
            have G' := Lib.hid g'
            have O' := Lib.hid o'
            clear g' o'
            go_wp2_with fail
            go_end0
            exact HEND.out _ _ (HG.out.2.done HG.out.1.fit hlo hlk (by omega) (by omega) HKD.out (by rw [upd_at, upd_ne (by omega), ← HU.out]; exact HT.out)) G'.out O'.out
          | false =>
            have HA := Lib.hid (fun w g => by have := HA.out w g; rw [ha] at this; exact this)
            have HT := Lib.hid ha
            clear ha
            go_wp2_with fail
            refine (HA.out _ (HG.out.1.h.drewN _)).mono ?_
            rintro e w ⟨rfl, q2, rfl⟩
            go_wp2_with fail
            refine (HSET2.out _ (HG.out.1.h.drewN _)).mono ?_
            rintro e w ⟨rfl, g', o'⟩
            have G' := Lib.hid g'
            have O' := Lib.hid o'
            clear g' o'
            go_wp2_with fail
            go_roundg (m - (2 * k + 1))
            case measure => have := HKG.out; omega
            case rel =>
              obtain ⟨r1, r2⟩ := HNX.out _ _ (⟨HG.out.1.h.drewN _, HG.out.1.fit, HG.out.1.same, HG.out.1.o.drewN _, HG.out.1.i, HG.out.1.v⟩) G'.out O'.out
              refine ⟨2 * k + 1, _, _, by go_num, by omega, by omega, Lib.hid ⟨r1, ?_⟩⟩
              rw [r2]
              exact HG.out.2.step HG.out.1.fit hlo hlk (by omega) (by omega) HKD.out (by rw [upd_at, upd_ne (by omega), ← HU.out]; exact HT.out)
        | false =>
          rw [hb] at HC
          have HB : Hid (∀ j, j ≤ m → j / 2 = k → j ≠ 2 * k → aheadF S (T1 (2 * k)) (T1 j) = true) := Lib.hid (fun j h1 h4 h5 => by
            obtain rfl : j = 2 * k + 1 := by omega
            exact ahead_total (Ne.symm HNN.out) hb)
          clear hb x1 x2
          go_wp2_with fail
          go_quiet ((go_at_call 35; refine Calls.quiet_of (HC.out _)))
          rename_i q1 _
          clear HC HNN q3 q4 d4 d3 ht1
          clear r1 r2 s1
          have hun : T1 (2 * k) ≤ n := by
            have := (HG.out.1.fit.t (2 * k) (by omega) (by omega)).2.1
            rw [upd_ne (by omega)] at this
            exact this
          have HA := Lib.hid (fun w (g : PHp w p sb tb qb n m S T1 P1) => ahead_any g hvn hun)
          have HSET2 := Lib.hid (fun (w : World) (g : PHp w p sb tb qb n m S T1 P1) => set_any g hk.2 hun)
          have HNX := Lib.hid (fun (w w' : World) (g : Going W w p sb tb qb n m S (upd P v i) v k T1 P1) => going_next (w' := w') (k := 2 * k) g (by omega) (by omega) (by omega))
          have HKD : Hid (∀ j, j ≤ m → j / 2 = k → j ≠ 2 * k → aheadF S (upd T1 k v (2 * k)) (upd T1 k v j) = true) := Lib.hid (fun j h1 h4 h5 => by
            rw [upd_ne (by omega), upd_ne (by omega)]; exact HB.out j h1 h4 h5)
          obtain ⟨u, hu⟩ : ∃ u, u = T1 (2 * k) := ⟨_, rfl⟩
          rw [← hu] at ht0 HA HSET2 HNX
          have HU := Lib.hid hu
          clear hu hun HB
          cases ha : aheadF S v u with
          | true =>
            have HA := Lib.hid (fun w g => by have := HA.out w g; rw [ha] at this; exact this)
            have HT := Lib.hid ha
            clear ha
            go_wp2_with fail
            refine (HA.out _ (HG.out.1.h.drewN _)).mono ?_
            rintro e w ⟨rfl, q2, rfl⟩
            go_wp2_with fail
            refine (HSET.out _ (HG.out.1.h.drewN _)).mono ?_
            rintro e w ⟨rfl, g', o'⟩
            have G' := Lib.hid g'
            have O' := Lib.hid o'
            clear g' o'
            go_wp2_with fail
            go_end0
            exact HEND.out _ _ (HG.out.2.done HG.out.1.fit hlo hlk (by omega) (by omega) HKD.out (by rw [upd_at, upd_ne (by omega), ← HU.out]; exact HT.out)) G'.out O'.out
          | false =>
            have HA := Lib.hid (fun w g => by have := HA.out w g; rw [ha] at this; exact this)
            have HT := Lib.hid ha
            clear ha
            go_wp2_with fail
            refine (HA.out _ (HG.out.1.h.drewN _)).mono ?_
            rintro e w ⟨rfl, q2, rfl⟩
            go_wp2_with fail
            refine (HSET2.out _ (HG.out.1.h.drewN _)).mono ?_
            rintro e w ⟨rfl, g', o'⟩
            have G' := Lib.hid g'
            have O' := Lib.hid o'
            clear g' o'
            go_wp2_with fail
            go_roundg (m - (2 * k))
            case measure => have := HKG.out; omega
            case rel =>
              obtain ⟨r1, r2⟩ := HNX.out _ _ (⟨HG.out.1.h.drewN _, HG.out.1.fit, HG.out.1.same, HG.out.1.o.drewN _, HG.out.1.i, HG.out.1.v⟩) G'.out O'.out
              refine ⟨2 * k, _, _, by go_num, by omega, by omega, Lib.hid ⟨r1, ?_⟩⟩
              rw [r2]
              exact HG.out.2.step HG.out.1.fit hlo hlk (by omega) (by omega) HKD.out (by rw [upd_at, upd_ne (by omega), ← HU.out]; exact HT.out)
      · have d3 : decide (2 * ((k : Nat) : Int) + 1 < ((m : Nat) : Int) + 1) = false := decide_eq_false (by omega)
        have d4 : ¬ 2 * ((k : Nat) : Int) + 1 < ((m : Nat) : Int) + 1 := by omega
        have d5 : decide (2 * ((k : Nat) : Int) < ((m : Nat) : Int)) = false := decide_eq_false (by omega)
        have HB : Hid (∀ j, j ≤ m → j / 2 = k → j ≠ 2 * k → aheadF S (T1 (2 * k)) (T1 j) = true) := Lib.hid (fun j h1 h4 h5 => by omega)
        go_wp2_with fail
        go_quiet (fail)
        rename_i q1 _
        clear d3 d4 d5
        clear r1 r2 s1
        have hun : T1 (2 * k) ≤ n := by
          have := (HG.out.1.fit.t (2 * k) (by omega) (by omega)).2.1
          rw [upd_ne (by omega)] at this
          exact this
        have HA := Lib.hid (fun w (g : PHp w p sb tb qb n m S T1 P1) => ahead_any g hvn hun)
        have HSET2 := Lib.hid (fun (w : World) (g : PHp w p sb tb qb n m S T1 P1) => set_any g hk.2 hun)
        have HNX := Lib.hid (fun (w w' : World) (g : Going W w p sb tb qb n m S (upd P v i) v k T1 P1) => going_next (w' := w') (k := 2 * k) g (by omega) (by omega) (by omega))
        have HKD : Hid (∀ j, j ≤ m → j / 2 = k → j ≠ 2 * k → aheadF S (upd T1 k v (2 * k)) (upd T1 k v j) = true) := Lib.hid (fun j h1 h4 h5 => by
          rw [upd_ne (by omega), upd_ne (by omega)]; exact HB.out j h1 h4 h5)
        obtain ⟨u, hu⟩ : ∃ u, u = T1 (2 * k) := ⟨_, rfl⟩
        rw [← hu] at ht0 HA HSET2 HNX
        have HU := Lib.hid hu
        clear hu hun HB
        cases ha : aheadF S v u with
        | true =>
          have HA := Lib.hid (fun w g => by have := HA.out w g; rw [ha] at this; exact this)
          have HT := Lib.hid ha
          clear ha
          go_wp2_with fail
          refine (HA.out _ (HG.out.1.h.drewN _)).mono ?_
          rintro e w ⟨rfl, q2, rfl⟩
          go_wp2_with fail
          refine (HSET.out _ (HG.out.1.h.drewN _)).mono ?_
          rintro e w ⟨rfl, g', o'⟩
          have G' := Lib.hid g'
          have O' := Lib.hid o'
          clear g' o'
          go_wp2_with fail
          go_end0
          exact HEND.out _ _ (HG.out.2.done HG.out.1.fit hlo hlk (by omega) (by omega) HKD.out (by rw [upd_at, upd_ne (by omega), ← HU.out]; exact HT.out)) G'.out O'.out
        | false =>
          have HA := Lib.hid (fun w g => by have := HA.out w g; rw [ha] at this; exact this)
          have HT := Lib.hid ha
          clear ha
          go_wp2_with fail
          refine (HA.out _ (HG.out.1.h.drewN _)).mono ?_
          rintro e w ⟨rfl, q2, rfl⟩
          go_wp2_with fail
          refine (HSET2.out _ (HG.out.1.h.drewN _)).mono ?_
          rintro e w ⟨rfl, g', o'⟩
          have G' := Lib.hid g'
          have O' := Lib.hid o'
          clear g' o'
          go_wp2_with fail
          go_roundg (m - (2 * k))
          case measure => have := HKG.out; omega
          case rel =>
            obtain ⟨r1, r2⟩ := HNX.out _ _ (⟨HG.out.1.h.drewN _, HG.out.1.fit, HG.out.1.same, HG.out.1.o.drewN _, HG.out.1.i, HG.out.1.v⟩) G'.out O'.out
            refine ⟨2 * k, _, _, by go_num, by omega, by omega, Lib.hid ⟨r1, ?_⟩⟩
            rw [r2]
            exact HG.out.2.step HG.out.1.fit hlo hlk (by omega) (by omega) HKD.out (by rw [upd_at, upd_ne (by omega), ← HU.out]; exact HT.out)
    · have d1 : decide (2 * ((k : Nat) : Int) < ((m : Nat) : Int) + 1) = false := decide_eq_false (by omega)
      have d2 : ¬ 2 * ((k : Nat) : Int) < ((m : Nat) : Int) + 1 := by omega
      go_wp2_with fail
      refine (HSET.out _ (HG.out.1.h)).mono ?_
      rintro e w ⟨rfl, g', o'⟩
      have G' := Lib.hid g'
      have O' := Lib.hid o'
      clear g' o'
      go_wp2_with fail
      go_end0
      exact HEND.out 0 _ (HG.out.2.leaf (by omega)) G'.out O'.out
end Hp
end Go.Proofs.Ytdajnmlpghgeeaa
