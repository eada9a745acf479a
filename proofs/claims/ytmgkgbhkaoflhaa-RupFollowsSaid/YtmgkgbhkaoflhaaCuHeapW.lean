/-
  container/heap's up and down over a queue in memory, and the methods that they call.
-/
import Derived.Test.YtmgkgbhkaoflhaaCuHeap
import Derived.Test.YtmgkgbhkaoflhaaCfData
import Derived.RegionTactic
import Derived.Deep.DeepMust
import Derived.Sort.WalkB12
import Derived.Sort.WalkB2
import Derived.Sort.WalkA
import Derived.Sort.Row
namespace Go.Proofs.Ytmgkgbhkaoflhaa
open Go.RowKit Go.Sort
namespace Cf
set_option maxHeartbeats 4000000
set_option maxRecDepth 1000000

theorem slen_any (p : Option Addr) (n c : Nat) (W : World) : Calls Try.prog 36 #[.slice p n c] W fun e w' => e = .returned (.int .i64 n) ∧ w' = W := by
  go_enter Try.func36, Try.ntmps36
  go_wp2
  go_ret
  exact ⟨rfl, rfl⟩
theorem sless_any (blk off c size : Nat) (W : World) (G : Nat → Int) (hc : ∀ t, t < size → W.cell? ⟨blk, off + t, none⟩ = some (.int .i64 (G t))) (i j : Nat) (hi : i < size) (hj : j < size) (_hsz : size < 4611686018427387904) :
    Calls Try.prog 101 #[.slice (some ⟨blk, off, none⟩) size c, .int .i64 i, .int .i64 j] W fun e w' => e = .returned (.bool (decide (G i < G j))) ∧ ∃ q, w' = W.drewN q := by
  have ci := hc i hi
  have cj := hc j hj
  go_enter Try.func101, Try.ntmps101
  go_wp2
  go_quiet (fail)
  go_wp2
  go_ret
  exact ⟨rfl, nq, rfl⟩
theorem cell_some {w : World} {p q : Addr} {x v : Value} (h : w.cell? q = some v) : ∃ v', (w.setCell p x).cell? q = some v' := by
  by_cases e : p = q
  · subst e; exact ⟨x, World.cell?_setCell_same w p x h⟩
  · exact ⟨v, (World.cell?_setCell_other w p q x e).trans h⟩
theorem sswap_any (blk off c size : Nat) (W : World) (x y : Int) (i j : Nat) (hi : i < size) (hj : j < size) (_hsz : size < 4611686018427387904)
    (ci : W.cell? ⟨blk, off + i, none⟩ = some (.int .i64 x)) (cj : W.cell? ⟨blk, off + j, none⟩ = some (.int .i64 y)) (fi : W.frozen? ⟨blk, off + i, none⟩ = false) (fj : W.frozen? ⟨blk, off + j, none⟩ = false) :
    Calls Try.prog 103 #[.slice (some ⟨blk, off, none⟩) size c, .int .i64 i, .int .i64 j] W fun e w' => e = .returned (.tuple #[]) ∧ ∃ q, w' = ((W.setCell ⟨blk, off + i, none⟩ (.int .i64 y)).setCell ⟨blk, off + j, none⟩ (.int .i64 x)).drewN q := by
  obtain ⟨v', hy'⟩ := cell_some (w := W) (p := ⟨blk, off + i, none⟩) (x := .int .i64 y) (q := ⟨blk, off + j, none⟩) cj
  go_enter Try.func103, Try.ntmps103
  go_wp2
  go_region
  all_goals (try go_wp2)
  all_goals go_end0
  all_goals exact ⟨rfl, 1, rfl⟩

/-- The methods of a queue, as they are found. -/
theorem found (u : Nat) (sv : Value) (W : World) (h : W.cell? ⟨u, 7, none⟩ = some sv) :
    (method (Try.prog.types.size + Made.depth) 68 (.pointer (some ⟨u, 7, none⟩)) "Len").run Try.prog W = .ok (36, sv) W ∧
    (method (Try.prog.types.size + Made.depth) 68 (.pointer (some ⟨u, 7, none⟩)) "Less").run Try.prog W = .ok (101, sv) W ∧
    (method (Try.prog.types.size + Made.depth) 68 (.pointer (some ⟨u, 7, none⟩)) "Swap").run Try.prog W = .ok (103, sv) W := by
  have e1 : (method (Try.prog.types.size + Made.depth) 68 (.pointer (some ⟨u, 7, none⟩)) "Len").run Try.prog W = (load ⟨u, 7, none⟩ >>= fun v => pure (36, v)).run Try.prog W := by kernel_rfl
  have e2 : (method (Try.prog.types.size + Made.depth) 68 (.pointer (some ⟨u, 7, none⟩)) "Less").run Try.prog W = (load ⟨u, 7, none⟩ >>= fun v => pure (101, v)).run Try.prog W := by kernel_rfl
  have e3 : (method (Try.prog.types.size + Made.depth) 68 (.pointer (some ⟨u, 7, none⟩)) "Swap").run Try.prog W = (load ⟨u, 7, none⟩ >>= fun v => pure (103, v)).run Try.prog W := by kernel_rfl
  rw [e1, e2, e3]
  simp [h, go_sem]

def QI : Int → Value := Value.int .i64
/-- The queue's slice, and its numbers. -/
structure QueAt (w : World) (u g n cap : Nat) (d : Array Int) : Prop where
  ug : u ≠ g
  sz : d.size = n
  c : w.cell? ⟨u, 7, none⟩ = some (.slice (some ⟨g, 0, none⟩) n cap)
  h : Holds QI w g 0 d
theorem que_put {w : World} {u g n cap : Nat} {d : Array Int} (h : QueAt w u g n cap d) (m : Nat) {dk : Array Int} (hk : dk.size = n) : QueAt (putRow QI (Sort.ahead w m) g 0 dk) u g n cap dk := by
  refine ⟨h.ug, hk, ?_, holds_putRow QI _ g 0 d dk (holds_ahead _ _ _ _ _ _ h.h) (by rw [hk, h.sz])⟩
  rw [cell?_putRow_other QI _ g 0 dk _ (.inl h.ug)]
  exact h.c
theorem less_put {w : World} {u g n cap : Nat} {d : Array Int} (h : QueAt w u g n cap d) (m : Nat) {dk : Array Int} (hk : dk.size = n) (hn : n < 4611686018427387904) {i j : Nat} (hi : i < n) (hj : j < n) :
    Calls Try.prog 101 #[.slice (some ⟨g, 0, none⟩) n cap, .int .i64 i, .int .i64 j] (putRow QI (Sort.ahead w m) g 0 dk) fun e w' => e = .returned (.bool (decide (dk[i]! < dk[j]!))) ∧ ∃ q, w' = putRow QI (Sort.ahead w (m + q)) g 0 dk := by
  have hq := que_put h m hk
  refine (sless_any g 0 cap n _ (fun t => dk[t]!) (fun t ht => (hq.h t (by omega)).1) i j hi hj hn).mono ?_
  rintro e w' ⟨rfl, q, rfl⟩
  exact ⟨rfl, q, putRow_drewN QI w m q g 0 dk⟩
theorem swap_put {w : World} {u g n cap : Nat} {d : Array Int} (h : QueAt w u g n cap d) (m : Nat) {dk : Array Int} (hk : dk.size = n) (hn : n < 4611686018427387904) {i j : Nat} (hi : i < n) (hj : j < n) :
    Calls Try.prog 103 #[.slice (some ⟨g, 0, none⟩) n cap, .int .i64 i, .int .i64 j] (putRow QI (Sort.ahead w m) g 0 dk) fun e w' => e = .returned (.tuple #[]) ∧ ∃ q, w' = putRow QI (Sort.ahead w (m + q)) g 0 (swp dk i j) := by
  have hq := que_put h m hk
  refine (sswap_any g 0 cap n _ dk[i]! dk[j]! i j hi hj hn (hq.h i (by omega)).1 (hq.h j (by omega)).1 (hq.h i (by omega)).2 (hq.h j (by omega)).2).mono ?_
  rintro e w' ⟨rfl, q, rfl⟩
  refine ⟨rfl, q, ?_⟩
  have := putRow_swp QI (Sort.ahead w m) g 0 dk i j (by omega) (by omega)
  unfold QI at this ⊢
  rw [this]
  exact putRow_drewN _ w m q g 0 _

theorem fuel_is : 231 = Try.prog.types.size + 100 := by kernel_rfl
theorem hup_any {w : World} {u g n cap : Nat} {d : Array Int} (h : QueAt w u g n cap d) (hn : n < 1000000000) {j : Nat} (hj : j < n) :
    Calls Try.prog 65 #[.iface 68 (.pointer (some ⟨u, 7, none⟩)), .int .i64 j] w fun e w' => e = .returned (.tuple #[]) ∧ ∃ q, w' = putRow QI (Sort.ahead w q) g 0 (siftUp j d) := by
  have HQ := Lib.hid h
  have hd := h.sz
  have mL : ∀ m dk, dk.size = n → Sem.run Try.prog (method (Try.prog.types.size + 100) 68 (.pointer (some ⟨u, 7, none⟩)) "Less") (putRow QI (Sort.ahead w m) g 0 dk) = .ok (101, .slice (some ⟨g, 0, none⟩) n cap) (putRow QI (Sort.ahead w m) g 0 dk) := fun m dk hk => (found u _ _ (que_put h m hk).c).2.1
  have h0 : w = putRow QI (Sort.ahead w 0) g 0 d := (putRow_self QI _ g 0 d h.h).symm
  have H0 := Lib.hid h0
  have ML := Lib.hid mL
  clear h h0 mL
  go_enter Try.func65, Try.ntmps65
  go_wp2_with fail
  go_loopg [1] j (fun kx s wr => ∃ (i m : Nat) (dk : Array Int), s = .int .i64 i ∧ i ≤ kx ∧ i < n ∧ dk.size = n ∧ wr = putRow QI (Sort.ahead w m) g 0 dk ∧ Hid (siftUp i dk = siftUp j d))
  case atStart => exact ⟨j, 0, d, rfl, Nat.le_refl _, hj, hd, H0.out, rfl⟩
  case round =>
    obtain ⟨i, m, dk, rfl, hik, hin, hk, rfl, HE⟩ := hrel
    have mL := fun m => ML.out m dk hk
    by_cases hi0 : i = 0
    · subst hi0
      go_wp2_with fail
      go_end0
      exact ⟨rfl, m, by rw [← HE.out, up_stop (.inl rfl)]⟩
    · have hi1 : ¬ ((i : Nat) : Int) = 0 := by omega
      obtain ⟨p, hp⟩ : ∃ p, p = (i - 1) / 2 := ⟨_, rfl⟩
      have HP := Lib.hid hp
      have e1 : (((i : Nat) : Int) - 1) / 2 = ((p : Nat) : Int) := by omega
      have e2 : (((p : Nat) : Int) == ((i : Nat) : Int)) = false := by
        simp only [beq_eq_false_iff_ne, ne_eq]
        omega
      have hpi : p < i := by omega
      have HL := Lib.hid (fun m => less_put HQ.out m hk (by omega) hin (show p < n by omega))
      have HS := Lib.hid (fun m => swap_put HQ.out m hk (by omega) (show p < n by omega) hin)
      simp only [← fuel_is] at mL
      clear hp
      cases hc : decide (dk[i]! < dk[p]!) with
      | true =>
        rw [hc] at HL
        have HC := Lib.hid (of_decide_eq_true hc)
        have mS := fun m => (found u _ _ (que_put HQ.out m hk).c).2.2
        simp only [Made.depth, ← fuel_is] at mS
        clear hc
        go_wp2_with (first | (go_at_call 101; with_reducible refine (HL.out _).mono ?_; rintro e w' ⟨rfl, q1, rfl⟩) | (go_at_call 103; with_reducible refine (HS.out _).mono ?_; rintro e w' ⟨rfl, q2, rfl⟩))
        go_roundg p
        case measure => omega
        case rel => exact ⟨p, _, swp dk p i, rfl, Nat.le_refl _, by omega, by rw [size_swp]; exact hk, rfl, (show Hid _ from by
          show _ = _
          rw [← HE.out, up_go (j := i) (d := dk) hi0 (by rw [← HP.out]; exact HC.out), ← HP.out])⟩
      | false =>
        rw [hc] at HL
        have HC := Lib.hid (of_decide_eq_false hc)
        clear hc
        go_wp2_with (first | (go_at_call 101; with_reducible refine (HL.out _).mono ?_; rintro e w' ⟨rfl, q1, rfl⟩))
        go_end0
        exact ⟨rfl, _, by rw [← HE.out, up_stop (j := i) (d := dk) (.inr (by rw [← HP.out]; exact Int.not_lt.2 HC.out))]⟩

theorem hdown_any {w : World} {u g n cap : Nat} {d : Array Int} (h : QueAt w u g n cap d) (hn : n < 1000000000) {hi : Nat} (hhi : hi ≤ n) :
    Calls Try.prog 54 #[.iface 68 (.pointer (some ⟨u, 7, none⟩)), .int .i64 0, .int .i64 hi] w fun e w' => (∃ b, e = .returned (.bool b)) ∧ ∃ q, w' = putRow QI (Sort.ahead w q) g 0 (siftDown ltR hi 0 0 d) := by
  have HQ := Lib.hid h
  have hd := h.sz
  have h0 : w = putRow QI (Sort.ahead w 0) g 0 d := (putRow_self QI _ g 0 d h.h).symm
  have H0 := Lib.hid h0
  clear h h0
  go_enter Try.func54, Try.ntmps54
  go_wp2_with fail
  go_loopg [7] hi (fun kx s wr => ∃ (i m : Nat) (dk : Array Int), s = .int .i64 i ∧ (hi - i ≤ kx) ∧ i ≤ n ∧ dk.size = n ∧ wr = putRow QI (Sort.ahead w m) g 0 dk ∧ Hid (siftDown ltR hi 0 i dk = siftDown ltR hi 0 0 d))
  case atStart => exact ⟨0, 0, d, rfl, by omega, by omega, hd, H0.out, rfl⟩
  case round =>
    obtain ⟨i, m, dk, rfl, hik, hin, hk, rfl, HE⟩ := hrel
    by_cases h0 : hi ≤ 2 * i + 1
    · have h0z : (hi : Int) ≤ 2 * (i : Int) + 1 := by omega
      go_wp2_with fail
      go_ret
      exact ⟨⟨_, rfl⟩, m, by rw [← HE.out, sd_end ltR dk h0]⟩
    · have h0z : ¬ ((hi : Int) ≤ 2 * (i : Int) + 1) := by omega
      have mL := fun m => (found u _ _ (que_put HQ.out m hk).c).2.1
      have mS := fun m => (found u _ _ (que_put HQ.out m hk).c).2.2
      simp only [Made.depth, ← fuel_is] at mL mS
      have e1 : ((2 * i + 1 : Nat) : Int) = 2 * (i : Int) + 1 := by omega
      have e2 : ((2 * i + 2 : Nat) : Int) = 2 * (i : Int) + 1 + 1 := by omega
      by_cases h1 : 2 * i + 2 < hi
      · have h1z : 2 * (i : Int) + 1 + 1 < (hi : Int) := by omega
        have hl := fun m => less_put HQ.out m hk (by omega) (show 2 * i + 2 < n by omega) (show 2 * i + 1 < n by omega)
        rw [e1, e2] at hl
        have HL := Lib.hid hl
        clear hl
        cases hL : decide (dk[2 * i + 2]! < dk[2 * i + 1]!) with
        | true =>
          rw [hL] at HL
          have hl2 := fun m => less_put HQ.out m hk (by omega) (show 2 * i + 2 < n by omega) (show i < n by omega)
          have hs := fun m => swap_put HQ.out m hk (by omega) (show i < n by omega) (show 2 * i + 2 < n by omega)
          rw [e2] at hl2 hs
          have HL2 := Lib.hid hl2
          have HS := Lib.hid hs
          have HA : Hid (ltR dk[0 + (2 * i + 1)]! dk[0 + (2 * i + 2)]! = true) := by simpa [Hid, ltR] using hL
          clear hl2 hs hL e1 e2
          cases hG : decide (dk[2 * i + 2]! < dk[i]!) with
          | true =>
            rw [hG] at HL2
            have HB : Hid (ltR dk[0 + i]! dk[0 + (2 * i + 2)]! = true) := by simpa [Hid, ltR] using hG
            clear hG
            go_wp2_with (first | (go_at_call 101; with_reducible refine (HL.out _).mono ?_; rintro e w' ⟨rfl, q1, rfl⟩) | (go_at_call 101; with_reducible refine (HL2.out _).mono ?_; rintro e w' ⟨rfl, q1, rfl⟩) | (go_at_call 103; with_reducible refine (HS.out _).mono ?_; rintro e w' ⟨rfl, q2, rfl⟩))
            go_roundg (hi - (2 * i + 2))
            case measure => omega
            case rel => exact ⟨2 * i + 2, _, swp dk i (2 * i + 2), by go_num, Nat.le_refl _, by omega, by rw [size_swp]; exact hk, rfl, (show Hid _ from by
              show _ = _
              rw [← HE.out, sd_right_go ltR dk h1 HA.out HB.out, Nat.zero_add, Nat.zero_add])⟩
          | false =>
            rw [hG] at HL2
            have HB : Hid (ltR dk[0 + i]! dk[0 + (2 * i + 2)]! = false) := by simpa [Hid, ltR] using hG
            clear hG
            go_wp2_with (first | (go_at_call 101; with_reducible refine (HL.out _).mono ?_; rintro e w' ⟨rfl, q1, rfl⟩) | (go_at_call 101; with_reducible refine (HL2.out _).mono ?_; rintro e w' ⟨rfl, q1, rfl⟩))
            go_ret
            exact ⟨⟨_, rfl⟩, _, by rw [← HE.out, sd_right_stop ltR dk h1 HA.out HB.out]⟩
        | false =>
          rw [hL] at HL
          have hl2 := fun m => less_put HQ.out m hk (by omega) (show 2 * i + 1 < n by omega) (show i < n by omega)
          have hs := fun m => swap_put HQ.out m hk (by omega) (show i < n by omega) (show 2 * i + 1 < n by omega)
          rw [e1] at hl2 hs
          have HL2 := Lib.hid hl2
          have HS := Lib.hid hs
          have HA : Hid (ltR dk[0 + (2 * i + 1)]! dk[0 + (2 * i + 2)]! = false) := by simpa [Hid, ltR] using hL
          clear hl2 hs hL e1 e2
          cases hG : decide (dk[2 * i + 1]! < dk[i]!) with
          | true =>
            rw [hG] at HL2
            have HB : Hid (ltR dk[0 + i]! dk[0 + (2 * i + 1)]! = true) := by simpa [Hid, ltR] using hG
            clear hG
            go_wp2_with (first | (go_at_call 101; with_reducible refine (HL.out _).mono ?_; rintro e w' ⟨rfl, q1, rfl⟩) | (go_at_call 101; with_reducible refine (HL2.out _).mono ?_; rintro e w' ⟨rfl, q1, rfl⟩) | (go_at_call 103; with_reducible refine (HS.out _).mono ?_; rintro e w' ⟨rfl, q2, rfl⟩))
            go_roundg (hi - (2 * i + 1))
            case measure => omega
            case rel => exact ⟨2 * i + 1, _, swp dk i (2 * i + 1), by go_num, Nat.le_refl _, by omega, by rw [size_swp]; exact hk, rfl, (show Hid _ from by
              show _ = _
              rw [← HE.out, sd_left_go ltR dk (by omega) (fun _ => HA.out) HB.out, Nat.zero_add, Nat.zero_add])⟩
          | false =>
            rw [hG] at HL2
            have HB : Hid (ltR dk[0 + i]! dk[0 + (2 * i + 1)]! = false) := by simpa [Hid, ltR] using hG
            clear hG
            go_wp2_with (first | (go_at_call 101; with_reducible refine (HL.out _).mono ?_; rintro e w' ⟨rfl, q1, rfl⟩) | (go_at_call 101; with_reducible refine (HL2.out _).mono ?_; rintro e w' ⟨rfl, q1, rfl⟩))
            go_ret
            exact ⟨⟨_, rfl⟩, _, by rw [← HE.out, sd_left_stop ltR dk (by omega) (fun _ => HA.out) HB.out]⟩
      · have h1z : ¬ (2 * (i : Int) + 1 + 1 < (hi : Int)) := by omega
        have hl2 := fun m => less_put HQ.out m hk (by omega) (show 2 * i + 1 < n by omega) (show i < n by omega)
        have hs := fun m => swap_put HQ.out m hk (by omega) (show i < n by omega) (show 2 * i + 1 < n by omega)
        rw [e1] at hl2 hs
        have HL2 := Lib.hid hl2
        have HS := Lib.hid hs
        clear hl2 hs e1 e2
        cases hG : decide (dk[2 * i + 1]! < dk[i]!) with
        | true =>
          rw [hG] at HL2
          have HB : Hid (ltR dk[0 + i]! dk[0 + (2 * i + 1)]! = true) := by simpa [Hid, ltR] using hG
          clear hG
          go_wp2_with (first | (go_at_call 101; with_reducible refine (HL2.out _).mono ?_; rintro e w' ⟨rfl, q1, rfl⟩) | (go_at_call 103; with_reducible refine (HS.out _).mono ?_; rintro e w' ⟨rfl, q2, rfl⟩))
          go_roundg (hi - (2 * i + 1))
          case measure => omega
          case rel => exact ⟨2 * i + 1, _, swp dk i (2 * i + 1), by go_num, Nat.le_refl _, by omega, by rw [size_swp]; exact hk, rfl, (show Hid _ from by
            show _ = _
            rw [← HE.out, sd_left_go ltR dk (by omega) (fun c => absurd c h1) HB.out, Nat.zero_add, Nat.zero_add])⟩
        | false =>
          rw [hG] at HL2
          have HB : Hid (ltR dk[0 + i]! dk[0 + (2 * i + 1)]! = false) := by simpa [Hid, ltR] using hG
          clear hG
          go_wp2_with (first | (go_at_call 101; with_reducible refine (HL2.out _).mono ?_; rintro e w' ⟨rfl, q1, rfl⟩))
          go_ret
          exact ⟨⟨_, rfl⟩, _, by rw [← HE.out, sd_left_stop ltR dk (by omega) (fun c => absurd c h1) HB.out]⟩
end Cf
end Go.Proofs.Ytmgkgbhkaoflhaa
