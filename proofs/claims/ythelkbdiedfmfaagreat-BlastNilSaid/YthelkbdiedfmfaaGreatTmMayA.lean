/-
  own, vector of layer term: for every node, each as a fact on one call.
-/
import Derived.Test.YthelkbdiedfmfaaGreatTmOwn
import Derived.Test.YthelkbdiedfmfaaGreatTmVec
import Derived.Test.YthelkbdiedfmfaaGreatBvRefuse
namespace Go.Proofs.YthelkbdiedfmfaaGreat
open Go.RowKit Bv
namespace Tm
set_option maxHeartbeats 400000
set_option maxRecDepth 100000

theorem kids_is {o k : Nat} (h : kc o = k) (W : World) : Calls Tryz.prog 74 #[.int .u8 o] W fun e W' => e = .returned (.int .i64 ((k : Nat) : Int)) ∧ W = W' := by
  have := kids_any o W
  rw [h] at this
  exact this

theorem own_any (x : Nd) (W : World) : Calls Tryz.prog 73 #[x.val] W fun e W' => e = .returned (own x).val ∧ Below W.heap.size W W' := by
  obtain ⟨o, w, k0, k1, k2, n, l⟩ := x
  by_cases h1 : o = 1
  · subst h1
    have h := own_v1 w n l k0 k1 k2 (fun W => kids_is (by decide) W) W
    exact h
  by_cases h2 : o = 2
  · subst h2
    have h := own_v2 w n l k0 k1 k2 (fun W => kids_is (by decide) W) W
    exact h
  by_cases h22 : o = 22
  · subst h22
    have h := own_x22 w n l k0 k1 k2 (fun W => kids_is (by decide) W) W
    exact h
  have d1 : ((o : Int) == 1) = false := by simp; omega
  have d2 : ((o : Int) == 2) = false := by simp; omega
  have d22 : ((o : Int) == 22) = false := by simp; omega
  have hk := kc_le o
  have e : (own ⟨o, w, k0, k1, k2, n, l⟩) = ⟨o, w, if 1 ≤ kc o then k0 else 0, if 2 ≤ kc o then k1 else 0, if 3 ≤ kc o then k2 else 0, 0, 0⟩ := by
    simp [own, h1, h2, h22]
  rw [e]
  rcases (by omega : kc o = 0 ∨ kc o = 1 ∨ kc o = 2 ∨ kc o = 3) with h | h | h | h
  · have r := own_k0 o w n l k0 k1 k2 d1 d2 d22 (fun W => kids_is h W) W
    simpa [h, Nd.val] using r
  · have r := own_k1 o w n l k0 k1 k2 d1 d2 d22 (fun W => kids_is h W) W
    simpa [h, Nd.val] using r
  · have r := own_k2 o w n l k0 k1 k2 d1 d2 d22 (fun W => kids_is h W) W
    simpa [h, Nd.val] using r
  · have r := own_k3 o w n l k0 k1 k2 d1 d2 d22 (fun W => kids_is h W) W
    simpa [h, Nd.val] using r

theorem own_ok {x : Nd} (hx : x.Ok) : (own x).Ok := by
  have z : I64 0 := by unfold I64; omega
  refine ⟨hx.o, hx.w, ?_, ?_, ?_, ?_, ?_⟩
  · show I64 (if _ then _ else _); split; exact hx.k0; exact z
  · show I64 (if _ then _ else _); split; exact hx.k1; exact z
  · show I64 (if _ then _ else _); split; exact hx.k2; exact z
  · show (if _ then _ else _) < _; split; exact hx.n; omega
  · show (if _ then _ else _) ≤ _; split; exact hx.l; omega

/-! ### what bv makes of vectors that are 0 -/
theorem mayB0 (w : Nat) : mayB w 0 = decide (1 ≤ w ∧ w ≤ 64) := by
  unfold mayB
  simp [pow_pos']
theorem mayB0_t {w : Nat} (h1 : 1 ≤ w) (h2 : w ≤ 64) : mayB w 0 = true := by rw [mayB0]; simp [h1, h2]
theorem mayB0_f {w : Nat} (h : ¬ (1 ≤ w ∧ w ≤ 64)) : mayB w 0 = false := by rw [mayB0]; simp only [h, decide_false]

/-- What one of bv's functions answers: a vector of r bits, or ErrArg where r is 0. -/
def Tells (f : FuncId) (args : Array Value) (r : Nat) : Prop :=
  ∃ num : Nat, ∀ W : World, Calls Tryz.prog f args W fun e W' => e = .returned (.tuple #[.agg #[.int .u8 ((r : Nat) : Int), .int .u64 ((num : Nat) : Int)], .int .i64 (if r = 0 then 2 else 0)]) ∧ Below W.heap.size W W'

theorem tells_ok {f : FuncId} {args : Array Value} {r num : Nat} (h : ∀ W : World, Calls Tryz.prog f args W fun e W' => e = .returned (.tuple #[.agg #[.int .u8 ((r : Nat) : Int), .int .u64 ((num : Nat) : Int)], .int .i64 0]) ∧ Below W.heap.size W W') (hr : ¬ r = 0) : Tells f args r := by
  refine ⟨num, fun W => ?_⟩
  rw [if_neg hr]
  exact h W
theorem tells_bad {f : FuncId} {args : Array Value} {r : Nat} (h : ∀ W : World, Calls Tryz.prog f args W fun e W' => e = .returned (.tuple #[.agg #[.int .u8 0, .int .u64 0], .int .i64 2]) ∧ Below W.heap.size W W') (hr : r = 0) : Tells f args r := by
  subst hr
  exact ⟨0, fun W => h W⟩

theorem tells_unary (o w l a b c : Nat) (ho : o = 3 ∨ o = 4) : Tells 86 #[.int .u8 o, .agg #[.int .u8 ((a : Nat) : Int), .int .u64 0]] (vecW o w l a b c) := by
  unfold vecW
  rw [if_pos ho]
  by_cases h : 1 ≤ a ∧ a ≤ 64
  · rw [if_pos h]
    exact tells_ok (fun W => unary_ok o a 0 ho (mayB0_t h.1 h.2) W) (by omega)
  · rw [if_neg h]
    exact tells_bad (fun W => unary_bad o a 0 (.inl (mayB0_f h)) W) rfl

theorem tells_extract (w l a b c : Nat) (hw : w ≤ 255) : Tells 87 #[.agg #[.int .u8 ((a : Nat) : Int), .int .u64 0], .int .i64 ((l : Nat) : Int), .int .i64 ((w : Nat) : Int)] (vecW 22 w l a b c) := by
  unfold vecW
  rw [if_neg (by omega), if_pos rfl]
  by_cases h : 1 ≤ a ∧ a ≤ 64
  · by_cases hr : 1 ≤ w ∧ l + w ≤ a
    · rw [if_pos ⟨h.1, h.2, hr.1, hr.2⟩]
      exact tells_ok (fun W => extract_ok a 0 l w (mayB0_t h.1 h.2) hr.1 hr.2 W) (by omega)
    · rw [if_neg (by omega)]
      refine tells_bad (fun W => ?_) rfl
      by_cases h1 : 1 ≤ w
      · exact extract_b4 a 0 l w (mayB0_t h.1 h.2) h.2 (by omega) (by omega) (by omega) (by omega) W
      · exact extract_b3 a 0 l w (mayB0_t h.1 h.2) (by omega) (by omega) W
  · rw [if_neg (by omega)]
    exact tells_bad (fun W => extract_b1 a 0 l w (mayB0_f h) W) rfl

theorem tells_extend (o w l a b c : Nat) (ho : o = 23 ∨ o = 24) : Tells 88 #[.int .u8 o, .agg #[.int .u8 ((a : Nat) : Int), .int .u64 0], .int .i64 ((w : Nat) : Int)] (vecW o w l a b c) := by
  unfold vecW
  rw [if_neg (by omega), if_neg (by omega), if_pos ho]
  by_cases h : 1 ≤ a ∧ a ≤ 64
  · by_cases hr : a ≤ w
    · by_cases hq : w ≤ 64
      · rw [if_pos ⟨h.1, hr, hq⟩]
        exact tells_ok (fun W => extend_ok o a 0 w ho (mayB0_t h.1 h.2) hr hq W) (by omega)
      · rw [if_neg (by omega)]
        exact tells_bad (fun W => extend_b3 o a 0 w (mayB0_t h.1 h.2) h.2 (by omega) (by omega) W) rfl
    · rw [if_neg (by omega)]
      exact tells_bad (fun W => extend_b2 o a 0 w (mayB0_t h.1 h.2) h.2 (by omega) W) rfl
  · rw [if_neg (by omega)]
    exact tells_bad (fun W => extend_b1 o a 0 w (mayB0_f h) W) rfl

theorem tells_ite (w l a b c : Nat) : Tells 89 #[.agg #[.int .u8 ((a : Nat) : Int), .int .u64 0], .agg #[.int .u8 ((b : Nat) : Int), .int .u64 0], .agg #[.int .u8 ((c : Nat) : Int), .int .u64 0]] (vecW 25 w l a b c) := by
  unfold vecW
  rw [if_neg (by omega), if_neg (by omega), if_neg (by omega), if_pos rfl]
  by_cases ha : 1 ≤ a ∧ a ≤ 64
  · by_cases hb : 1 ≤ b ∧ b ≤ 64
    · by_cases hc : 1 ≤ c ∧ c ≤ 64
      · by_cases h1 : a = 1
        · subst h1
          by_cases h2 : b = c
          · subst h2
            rw [if_pos ⟨rfl, rfl, hb.1, hb.2⟩]
            exact tells_ok (fun W => ite_b 1 0 b 0 b 0 (mayB0_t ha.1 ha.2) (mayB0_t hb.1 hb.2) (mayB0_t hb.1 hb.2) (by simp) (by simp) (by simp) W) (by omega)
          · rw [if_neg (by omega)]
            exact tells_bad (fun W => ite_b5 1 0 b 0 c 0 (mayB0_t ha.1 ha.2) (mayB0_t hb.1 hb.2) (mayB0_t hc.1 hc.2) (by simp) (by simp; omega) W) rfl
        · rw [if_neg (by omega)]
          exact tells_bad (fun W => ite_b4 a 0 b 0 c 0 (mayB0_t ha.1 ha.2) (mayB0_t hb.1 hb.2) (mayB0_t hc.1 hc.2) (by simp; omega) W) rfl
      · rw [if_neg (by omega)]
        exact tells_bad (fun W => ite_b3 a 0 b 0 c 0 (mayB0_t ha.1 ha.2) (mayB0_t hb.1 hb.2) (mayB0_f hc) W) rfl
    · rw [if_neg (by omega)]
      exact tells_bad (fun W => ite_b2 a 0 b 0 c 0 (mayB0_t ha.1 ha.2) (mayB0_f hb) W) rfl
  · rw [if_neg (by omega)]
    exact tells_bad (fun W => ite_b1 a 0 b 0 c 0 (mayB0_f ha) W) rfl

theorem tells_binary (o w l a b c : Nat) (h3 : ¬ (o = 3 ∨ o = 4)) (h22 : ¬ o = 22) (h23 : ¬ (o = 23 ∨ o = 24)) (h25 : ¬ o = 25) : Tells 90 #[.int .u8 o, .agg #[.int .u8 ((a : Nat) : Int), .int .u64 0], .agg #[.int .u8 ((b : Nat) : Int), .int .u64 0]] (vecW o w l a b c) := by
  unfold vecW
  rw [if_neg h3, if_neg h22, if_neg h23, if_neg h25]
  by_cases ha : 1 ≤ a ∧ a ≤ 64
  · by_cases hb : 1 ≤ b ∧ b ≤ 64
    · rw [if_pos ⟨ha.1, ha.2, hb.1, hb.2⟩]
      by_cases hr : widthB o a b = 0
      · exact tells_bad (fun W => binary_bad o a b 0 0 (.inr (.inr hr)) W) hr
      · exact tells_ok (fun W => binary_ok o a b 0 0 (mayB0_t ha.1 ha.2) (mayB0_t hb.1 hb.2) hr W) hr
    · rw [if_neg (by omega)]
      exact tells_bad (fun W => binary_bad o a b 0 0 (.inr (.inl (mayB0_f hb))) W) rfl
  · rw [if_neg (by omega)]
    exact tells_bad (fun W => binary_bad o a b 0 0 (.inl (mayB0_f ha)) W) rfl

end Tm
end Go.Proofs.YthelkbdiedfmfaaGreat
