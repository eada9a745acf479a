/-
The document's bits of a shift by a number.
What the walks of the document's bits share.
The document's bits of a node by its kids' bits: operators not, and, or, xor.
-/
import Derived.Test.YtigjbngedbbdbaaPt23
import Derived.Test.YtigjbngedbbdbaaPt14
import Derived.Laws.Bits64b
namespace Go.Proofs.Ytigjbngedbbdbaa
open Go.RowKit Go.Maps Bv Tm Kn
namespace Kr
set_option maxHeartbeats 1000000
set_option maxRecDepth 100000

theorem OutAt.twice {W w : World} {v0 v1 v2 v3 v4 v5 v6 : Value} {n : Nat} {T : Nat → Nat} {i x y : Nat} (h : OutAt W w v0 v1 v2 v3 v4 v5 v6 n (mix T i)) (hi : i < n) (hy : T i = y) : OutAt W ((w.setCell ⟨W.heap.size + 1, i, none⟩ (.int .u8 ((x : Nat) : Int))).setCell ⟨W.heap.size + 1, i, none⟩ (.int .u8 ((y : Nat) : Int))) v0 v1 v2 v3 v4 v5 v6 n (mix T (i + 1)) :=
  ((h.set (y := x) hi).set (y := y) hi).ext (fun j _ => by
    unfold mix
    by_cases e : j = i
    · subst e; rw [if_pos rfl, if_pos (by omega), hy]
    · rw [if_neg e, if_neg e]
      by_cases c : j < i
      · rw [if_pos c, if_pos (by omega)]
      · rw [if_neg c, if_neg (by omega)])
theorem mix_zero (T : Nat → Nat) : mix T 0 = fun _ => 2 := by funext j; unfold mix; rw [if_neg (by omega)]
/-- The first i of the row are told. -/
def Told (W w : World) (v0 v1 v2 v3 v4 v5 v6 : Value) (n : Nat) (T : Nat → Nat) (i : Nat) : Prop := ∃ f, OutAt W w v0 v1 v2 v3 v4 v5 v6 n f ∧ ∀ j, j < i → f j = T j
theorem Told.one {W w : World} {v0 v1 v2 v3 v4 v5 v6 : Value} {n : Nat} {T : Nat → Nat} {i y : Nat} (h : Told W w v0 v1 v2 v3 v4 v5 v6 n T i) (hi : i < n) (hy : T i = y) : Told W (w.setCell ⟨W.heap.size + 1, i, none⟩ (.int .u8 ((y : Nat) : Int))) v0 v1 v2 v3 v4 v5 v6 n T (i + 1) := by
  obtain ⟨f, h, hf⟩ := h
  refine ⟨_, h.set hi, fun j hj => ?_⟩
  by_cases e : j = i
  · subst e; rw [if_pos rfl, hy]
  · rw [if_neg e]; exact hf j (by omega)
theorem Told.two {W w : World} {v0 v1 v2 v3 v4 v5 v6 : Value} {n : Nat} {T : Nat → Nat} {i x y : Nat} (h : Told W w v0 v1 v2 v3 v4 v5 v6 n T i) (hi : i < n) (hy : T i = y) : Told W ((w.setCell ⟨W.heap.size + 1, i, none⟩ (.int .u8 ((x : Nat) : Int))).setCell ⟨W.heap.size + 1, i, none⟩ (.int .u8 ((y : Nat) : Int))) v0 v1 v2 v3 v4 v5 v6 n T (i + 1) := by
  obtain ⟨f, h, hf⟩ := h
  refine ⟨_, (h.set hi).set hi, fun j hj => ?_⟩
  by_cases e : j = i
  · subst e; rw [if_pos rfl, hy]
  · rw [if_neg e, if_neg e]; exact hf j (by omega)
theorem Told.done {W w : World} {v0 v1 v2 v3 v4 v5 v6 : Value} {n : Nat} {T : Nat → Nat} (h : Told W w v0 v1 v2 v3 v4 v5 v6 n T n) : RowAt w (W.heap.size + 1) n T ∧ Below W.heap.size W w := by
  obtain ⟨f, h, hf⟩ := h
  exact ⟨⟨h.lt, fun j hj => by rw [h.cs j hj, hf j hj]⟩, h.bel⟩
theorem rsh_shl {W : World} {a n ca by_ : Nat} {f : Nat → Nat} (v1 v2 v3 v4 v5 v6 : Value) (h1 : 1 ≤ n) (hn : n ≤ 64) (hby : by_ < 18446744073709551616) (ha : RowAt W a n f) :
    Calls Try.prog 19 #[.agg #[.int .u8 15, v1, v2, v3, v4, v5, v6], .slice (some ⟨a, 0, none⟩) n ca, .int .u64 ((by_ : Nat) : Int)] W (NewRow W n (shT 15 n f by_)) := by
  have HA := Lib.hid ha
  have HLA := Lib.hid ha.1
  have hmb := make_bytes n (by omega)
  have H0 : Hid (Told W ((W.alloc (.cells #[.int .u8 15, v1, v2, v3, v4, v5, v6] 57)).alloc (.cells (Array.replicate n (Value.int .u8 0)) 5)) (.int .u8 15) v1 v2 v3 v4 v5 v6 n (shT 15 n f by_) 0) := Lib.hid ⟨_, out_new W (.int .u8 15) v1 v2 v3 v4 v5 v6 n, fun j hj => by omega⟩
  have n0 : (0 : Int) ≤ ((n : Nat) : Int) := by omega
  have HBY := Lib.hid hby
  clear ha hby
  go_enter Try.func19, Try.ntmps19
  go_wp2_with fail
  go_loopg [9] n (fun gk v9 wr => ∃ i : Nat, v9 = .int .i64 ((i : Nat) : Int) ∧ i + gk = n ∧ Told W wr (.int .u8 15) v1 v2 v3 v4 v5 v6 n (shT 15 n f by_) i)
  case atStart => exact ⟨0, rfl, by omega, H0.out⟩
  case round =>
    obtain ⟨i, rfl, hgk, hT⟩ := hrel
    have HGK := Lib.hid hgk
    have HT := Lib.hid hT
    have i0 : (0 : Int) ≤ ((i : Nat) : Int) := by omega
    by_cases hlt : i < n
    · have g1 : decide (((i : Nat) : Int) < ((n : Nat) : Int)) = true := decide_eq_true (by omega)
      have g2 : ((i : Nat) : Int) < ((n : Nat) : Int) := by omega
      obtain ⟨F, hO, hF⟩ := hT
      have hx := hO.box
      unfold At7 at hx
      obtain ⟨x0, x1, x2, x3, x4, x5, x6⟩ := hx
      have hc := hO.cs i hlt
      have hf := hO.fr i
      have hl := hO.lt
      have old := fun j hj => (hO.old HLA.out j).trans (HA.out.2 j hj)
      have OLD := Lib.hid old
      have HLT := Lib.hid hlt
      clear hgk old hO hF x1 x2 x3 x4 x5 x6 H0
      by_cases hb : by_ ≤ i
      · have g3 : decide (((by_ : Nat) : Int) ≤ ((i : Nat) : Int)) = true := decide_eq_true (by omega)
        have g4 : ((by_ : Nat) : Int) ≤ ((i : Nat) : Int) := by omega
        obtain ⟨d, rfl⟩ : ∃ d, i = by_ + d := ⟨i - by_, by omega⟩
        have c1 := OLD.out d (by omega)
        have c2 : ¬ a = W.heap.size + 1 := by have := HLA.out; omega
        have c3 : wr.cell? ⟨a, by_ + d - by_, none⟩ = some (.int .u8 ((f d : Nat) : Int)) := by rw [show by_ + d - by_ = d by omega]; exact c1
        have e1 : ((by_ + d : Nat) : Int) - ((by_ : Nat) : Int) = ((d : Nat) : Int) := by omega
        clear hlt hb HA
        go_wp2_with fail
        go_roundg (gk - 1)
        case measure => have := HGK.out; have := HLT.out; omega
        case rel => exact ⟨by_ + d + 1, by go_num, by have := HGK.out; have := HLT.out; omega, HT.out.two HLT.out (by unfold shT; rw [if_pos rfl, if_pos (by omega), Nat.add_sub_cancel_left])⟩
      · have g3 : decide (((by_ : Nat) : Int) ≤ ((i : Nat) : Int)) = false := decide_eq_false (by omega)
        have HB := Lib.hid hb
        clear hlt hb OLD HA
        go_wp2_with fail
        go_roundg (gk - 1)
        case measure => have := HGK.out; have := HLT.out; omega
        case rel => exact ⟨i + 1, by go_num, by have := HGK.out; have := HLT.out; omega, HT.out.one HLT.out (by unfold shT; rw [if_pos rfl, if_neg HB.out])⟩
    · obtain rfl : i = n := by omega
      have g1 : decide (((i : Nat) : Int) < ((i : Nat) : Int)) = false := decide_eq_false (by omega)
      clear hgk hT H0
      go_wp2_with fail
      go_ret
      exact ⟨_, rfl, by omega, HT.out.done.1, HT.out.done.2⟩
theorem rsh_lshr {W : World} {a n ca by_ : Nat} {f : Nat → Nat} (v1 v2 v3 v4 v5 v6 : Value) (h1 : 1 ≤ n) (hn : n ≤ 64) (hby : by_ < 18446744073709551616) (ha : RowAt W a n f) :
    Calls Try.prog 19 #[.agg #[.int .u8 16, v1, v2, v3, v4, v5, v6], .slice (some ⟨a, 0, none⟩) n ca, .int .u64 ((by_ : Nat) : Int)] W (NewRow W n (shT 16 n f by_)) := by
  have HA := Lib.hid ha
  have HLA := Lib.hid ha.1
  have hmb := make_bytes n (by omega)
  have H0 : Hid (Told W ((W.alloc (.cells #[.int .u8 16, v1, v2, v3, v4, v5, v6] 57)).alloc (.cells (Array.replicate n (Value.int .u8 0)) 5)) (.int .u8 16) v1 v2 v3 v4 v5 v6 n (shT 16 n f by_) 0) := Lib.hid ⟨_, out_new W (.int .u8 16) v1 v2 v3 v4 v5 v6 n, fun j hj => by omega⟩
  have n0 : (0 : Int) ≤ ((n : Nat) : Int) := by omega
  have HBY := Lib.hid hby
  clear ha hby
  go_enter Try.func19, Try.ntmps19
  go_wp2_with fail
  go_loopg [9] n (fun gk v9 wr => ∃ i : Nat, v9 = .int .i64 ((i : Nat) : Int) ∧ i + gk = n ∧ Told W wr (.int .u8 16) v1 v2 v3 v4 v5 v6 n (shT 16 n f by_) i)
  case atStart => exact ⟨0, rfl, by omega, H0.out⟩
  case round =>
    obtain ⟨i, rfl, hgk, hT⟩ := hrel
    have HGK := Lib.hid hgk
    have HT := Lib.hid hT
    have i0 : (0 : Int) ≤ ((i : Nat) : Int) := by omega
    by_cases hlt : i < n
    · have g1 : decide (((i : Nat) : Int) < ((n : Nat) : Int)) = true := decide_eq_true (by omega)
      have g2 : ((i : Nat) : Int) < ((n : Nat) : Int) := by omega
      obtain ⟨F, hO, hF⟩ := hT
      have hx := hO.box
      unfold At7 at hx
      obtain ⟨x0, x1, x2, x3, x4, x5, x6⟩ := hx
      have hc := hO.cs i hlt
      have hf := hO.fr i
      have hl := hO.lt
      have old := fun j hj => (hO.old HLA.out j).trans (HA.out.2 j hj)
      have OLD := Lib.hid old
      have HLT := Lib.hid hlt
      clear hgk old hO hF x1 x2 x3 x4 x5 x6 H0
      have c2 : ¬ a = W.heap.size + 1 := by have := HLA.out; omega
      obtain ⟨m, rfl⟩ : ∃ m, n = m + 1 := ⟨n - 1, by omega⟩
      have cn := OLD.out m (by omega)
      by_cases hb : by_ < m + 1 - i
      · have g3 : decide (((by_ : Nat) : Int) < ((m : Nat) : Int) + 1 - ((i : Nat) : Int)) = true := decide_eq_true (by omega)
        have g4 : ((i : Nat) : Int) + ((by_ : Nat) : Int) < ((m + 1 : Nat) : Int) := by omega
        have c1 := OLD.out (i + by_) (by omega)
        have HB := Lib.hid hb
        clear hlt hb HA OLD
        go_wp2_with fail
        go_roundg (gk - 1)
        case measure => have := HGK.out; have := HLT.out; omega
        case rel => exact ⟨i + 1, by go_num, by have := HGK.out; have := HLT.out; omega, HT.out.two HLT.out (by unfold shT; rw [if_neg (by decide), if_pos HB.out])⟩
      · have g3 : decide (((by_ : Nat) : Int) < ((m : Nat) : Int) + 1 - ((i : Nat) : Int)) = false := decide_eq_false (by omega)
        have HB := Lib.hid hb
        clear hlt hb OLD HA
        go_wp2_with fail
        go_roundg (gk - 1)
        case measure => have := HGK.out; have := HLT.out; omega
        case rel => exact ⟨i + 1, by go_num, by have := HGK.out; have := HLT.out; omega, HT.out.one HLT.out (by unfold shT; rw [if_neg (by decide), if_neg HB.out, if_neg (by decide)])⟩
    · obtain rfl : i = n := by omega
      have g1 : decide (((i : Nat) : Int) < ((i : Nat) : Int)) = false := decide_eq_false (by omega)
      clear hgk hT H0
      go_wp2_with fail
      go_ret
      exact ⟨_, rfl, by omega, HT.out.done.1, HT.out.done.2⟩
theorem rsh_ashr {W : World} {a n ca by_ : Nat} {f : Nat → Nat} (v1 v2 v3 v4 v5 v6 : Value) (h1 : 1 ≤ n) (hn : n ≤ 64) (hby : by_ < 18446744073709551616) (ha : RowAt W a n f) :
    Calls Try.prog 19 #[.agg #[.int .u8 17, v1, v2, v3, v4, v5, v6], .slice (some ⟨a, 0, none⟩) n ca, .int .u64 ((by_ : Nat) : Int)] W (NewRow W n (shT 17 n f by_)) := by
  have HA := Lib.hid ha
  have HLA := Lib.hid ha.1
  have hmb := make_bytes n (by omega)
  have H0 : Hid (Told W ((W.alloc (.cells #[.int .u8 17, v1, v2, v3, v4, v5, v6] 57)).alloc (.cells (Array.replicate n (Value.int .u8 0)) 5)) (.int .u8 17) v1 v2 v3 v4 v5 v6 n (shT 17 n f by_) 0) := Lib.hid ⟨_, out_new W (.int .u8 17) v1 v2 v3 v4 v5 v6 n, fun j hj => by omega⟩
  have n0 : (0 : Int) ≤ ((n : Nat) : Int) := by omega
  have HBY := Lib.hid hby
  clear ha hby
  go_enter Try.func19, Try.ntmps19
  go_wp2_with fail
  go_loopg [9] n (fun gk v9 wr => ∃ i : Nat, v9 = .int .i64 ((i : Nat) : Int) ∧ i + gk = n ∧ Told W wr (.int .u8 17) v1 v2 v3 v4 v5 v6 n (shT 17 n f by_) i)
  case atStart => exact ⟨0, rfl, by omega, H0.out⟩
  case round =>
    obtain ⟨i, rfl, hgk, hT⟩ := hrel
    have HGK := Lib.hid hgk
    have HT := Lib.hid hT
    have i0 : (0 : Int) ≤ ((i : Nat) : Int) := by omega
    by_cases hlt : i < n
    · have g1 : decide (((i : Nat) : Int) < ((n : Nat) : Int)) = true := decide_eq_true (by omega)
      have g2 : ((i : Nat) : Int) < ((n : Nat) : Int) := by omega
      obtain ⟨F, hO, hF⟩ := hT
      have hx := hO.box
      unfold At7 at hx
      obtain ⟨x0, x1, x2, x3, x4, x5, x6⟩ := hx
      have hc := hO.cs i hlt
      have hf := hO.fr i
      have hl := hO.lt
      have old := fun j hj => (hO.old HLA.out j).trans (HA.out.2 j hj)
      have OLD := Lib.hid old
      have HLT := Lib.hid hlt
      clear hgk old hO hF x1 x2 x3 x4 x5 x6 H0
      have c2 : ¬ a = W.heap.size + 1 := by have := HLA.out; omega
      obtain ⟨m, rfl⟩ : ∃ m, n = m + 1 := ⟨n - 1, by omega⟩
      have cn := OLD.out m (by omega)
      by_cases hb : by_ < m + 1 - i
      · have g3 : decide (((by_ : Nat) : Int) < ((m : Nat) : Int) + 1 - ((i : Nat) : Int)) = true := decide_eq_true (by omega)
        have g4 : ((i : Nat) : Int) + ((by_ : Nat) : Int) < ((m + 1 : Nat) : Int) := by omega
        have c1 := OLD.out (i + by_) (by omega)
        have HB := Lib.hid hb
        clear hlt hb HA OLD
        go_wp2_with fail
        go_roundg (gk - 1)
        case measure => have := HGK.out; have := HLT.out; omega
        case rel => exact ⟨i + 1, by go_num, by have := HGK.out; have := HLT.out; omega, HT.out.two HLT.out (by unfold shT; rw [if_neg (by decide), if_pos HB.out])⟩
      · have g3 : decide (((by_ : Nat) : Int) < ((m : Nat) : Int) + 1 - ((i : Nat) : Int)) = false := decide_eq_false (by omega)
        have HB := Lib.hid hb
        clear hlt hb OLD HA
        go_wp2_with fail
        go_roundg (gk - 1)
        case measure => have := HGK.out; have := HLT.out; omega
        case rel => exact ⟨i + 1, by go_num, by have := HGK.out; have := HLT.out; omega, HT.out.one HLT.out (by unfold shT; rw [if_neg (by decide), if_neg HB.out, if_pos rfl]; rfl)⟩
    · obtain rfl : i = n := by omega
      have g1 : decide (((i : Nat) : Int) < ((i : Nat) : Int)) = false := decide_eq_false (by omega)
      clear hgk hT H0
      go_wp2_with fail
      go_ret
      exact ⟨_, rfl, by omega, HT.out.done.1, HT.out.done.2⟩
end Kr
end Go.Proofs.Ytigjbngedbbdbaa

namespace Go.Proofs.Ytigjbngedbbdbaa
open Go.RowKit Go.Maps Bv Tm Kn
namespace Kr
set_option maxHeartbeats 400000

theorem add_mix {f g : Nat → Nat} {m n : Nat} (hz : ∀ j, j < m → f j = 0 ∧ g j = 0) (h : f m = 0 ∧ g m = 0 → False) : ∀ j, j < n → mix (fun _ => 0) m j = addT f g j := by
  intro j _
  unfold mix addT
  by_cases c : j < m
  · rw [if_pos c, if_pos (fun i hi => hz i (by omega))]
  · rw [if_neg c, if_neg (fun e => h (e m (by omega)))]
theorem add_full {f g : Nat → Nat} {n : Nat} (hz : ∀ j, j < n → f j = 0 ∧ g j = 0) : ∀ j, j < n → mix (fun _ => 0) n j = addT f g j := by
  intro j c
  unfold mix addT
  rw [if_pos c, if_pos (fun i hi => hz i (by omega))]
/-- The first p and the first q are 0. -/
def two (p q : Nat) : Nat → Nat := fun j => if j < p ∨ j < q then 0 else 2
theorem two_zero (p : Nat) : two p 0 = mix (fun _ => 0) p := by
  funext j
  unfold two mix
  by_cases c : j < p
  · rw [if_pos (.inl c), if_pos c]
  · rw [if_neg (by omega), if_neg c]
theorem two_step (p q : Nat) {n : Nat} : ∀ j, j < n → (fun j => if j = q then 0 else two p q j) j = two p (q + 1) j := by
  intro j _
  show (if j = q then 0 else two p q j) = _
  unfold two
  by_cases e : j = q
  · rw [if_pos e, if_pos (.inr (by omega))]
  · rw [if_neg e]
    by_cases c : j < p ∨ j < q
    · rw [if_pos c, if_pos (by omega)]
    · rw [if_neg c, if_neg (by omega)]
theorem mul_two {f g : Nat → Nat} {p q n : Nat} (hp : (∀ j, j < p → f j = 0) ∧ (p = n ∨ f p ≠ 0)) (hq : q = n ∨ g q ≠ 0) (hz : ∀ j, j < q → g j = 0) : ∀ j, j < n → two p q j = mulT f g j := by
  intro j hj
  unfold two mulT
  by_cases c : j < p ∨ j < q
  · rw [if_pos c, if_pos]
    rcases c with c | c
    · exact .inl (fun i hi => hp.1 i (by omega))
    · exact .inr (fun i hi => hz i (by omega))
  · rw [if_neg c, if_neg]
    rintro (e | e)
    · rcases hp.2 with d | d
      · omega
      · exact d (e p (by omega))
    · rcases hq with d | d
      · omega
      · exact d (e q (by omega))
theorem and_shr {n m : Nat} (hn : n < 18446744073709551616) : bits BinOp.and IntKind.u64 (((n : Nat) : Int) / 2 ^ m) 1 % 256 = ((n / 2 ^ m % 2 : Nat) : Int) := by
  have e : ((n : Nat) : Int) / 2 ^ m = ((n / 2 ^ m : Nat) : Int) := by simp
  have h := bits_and_u64_nat (n / 2 ^ m) 1 (Nat.lt_of_le_of_lt (Nat.div_le_self _ _) hn) (by omega)
  have h2 : bits BinOp.and IntKind.u64 (((n / 2 ^ m : Nat) : Nat) : Int) 1 = (((n / 2 ^ m) &&& 1 : Nat) : Int) := by simpa using h
  rw [e, h2, Nat.and_one_is_mod]
  omega
theorem OutAt.skip {W w : World} {v0 v1 v2 v3 v4 v5 v6 : Value} {n : Nat} {T : Nat → Nat} {i : Nat} (h : OutAt W w v0 v1 v2 v3 v4 v5 v6 n (mix T i)) (hy : T i = 2) : OutAt W w v0 v1 v2 v3 v4 v5 v6 n (mix T (i + 1)) :=
  h.ext (fun j _ => by
    unfold mix
    by_cases e : j = i
    · subst e; rw [if_neg (by omega), if_pos (by omega), hy]
    · by_cases c : j < i
      · rw [if_pos c, if_pos (by omega)]
      · rw [if_neg c, if_neg (by omega)])
end Kr
end Go.Proofs.Ytigjbngedbbdbaa

namespace Go.Proofs.Ytigjbngedbbdbaa
open Go.RowKit Go.Maps Bv Tm Kn
namespace Kr
set_option maxHeartbeats 1600000
set_option maxRecDepth 100000

theorem rall_not {W : World} {bl ln lc w n l : Nat} {a na ca p0 : Nat} {f : Nat → Nat} (x1 x2 : Value) (h1 : 1 ≤ w) (h64 : w ≤ 64) (hbl : bl < W.heap.size) (hp0 : p0 < ln) (hr0 : W.cell? ⟨bl, p0, none⟩ = some (.slice (some ⟨a, 0, none⟩) na ca)) (hw0 : RowAt W a na f) (hsa : w ≤ na) (hqa : ∀ j, f j ≤ 2) :
    Calls Try.prog 18 #[.agg #[.int .u8 3, .int .u8 ((w : Nat) : Int), .int .i64 ((p0 : Nat) : Int), x1, x2, .int .u64 ((n : Nat) : Int), .int .u8 ((l : Nat) : Int)], .slice (some ⟨bl, 0, none⟩) ln lc] W (NewRow W w (fun j => bwT 3 (f j) (0))) := by
  have HBL := Lib.hid hbl
  have hmb := make_bytes w (by omega)
  have H0 : Hid (Told W ((W.alloc (.cells #[.int .u8 3, .int .u8 ((w : Nat) : Int), .int .i64 ((p0 : Nat) : Int), x1, x2, .int .u64 ((n : Nat) : Int), .int .u8 ((l : Nat) : Int)] 57)).alloc (.cells (Array.replicate w (Value.int .u8 0)) 5)) (.int .u8 3) (.int .u8 ((w : Nat) : Int)) (.int .i64 ((p0 : Nat) : Int)) (x1) (x2) (.int .u64 ((n : Nat) : Int)) (.int .u8 ((l : Nat) : Int)) w (fun _ => 2) 0) := Lib.hid ⟨_, out_new W (.int .u8 3) (.int .u8 ((w : Nat) : Int)) (.int .i64 ((p0 : Nat) : Int)) (x1) (x2) (.int .u64 ((n : Nat) : Int)) (.int .u8 ((l : Nat) : Int)) w, fun j hj => by omega⟩
  have HKD : Hid (∀ W, Calls Try.prog 27 #[.int .u8 3] W fun e W' => e = .returned (.int .i64 1) ∧ W = W') := Lib.hid (fun W => rkids_any 3 W)
  have HR0 := Lib.hid hr0
  have HW0 := Lib.hid hw0
  have HQA := Lib.hid hqa
  clear hqa
  have w0 : (0 : Int) ≤ ((w : Nat) : Int) := by omega
  clear hbl hr0 hw0
  go_enter Try.func18, Try.ntmps18
  go_wp2_with fail
  go_loopg [7] w (fun gk v7 wr => ∃ i : Nat, v7 = .int .i64 ((i : Nat) : Int) ∧ i + gk = w ∧ Told W wr (.int .u8 3) (.int .u8 ((w : Nat) : Int)) (.int .i64 ((p0 : Nat) : Int)) (x1) (x2) (.int .u64 ((n : Nat) : Int)) (.int .u8 ((l : Nat) : Int)) w (fun _ => 2) i)
  case atStart => exact ⟨0, rfl, by omega, H0.out⟩
  case round =>
    obtain ⟨i, rfl, hgk, hT⟩ := hrel
    have HGK := Lib.hid hgk
    have HT := Lib.hid hT
    have i0 : (0 : Int) ≤ ((i : Nat) : Int) := by omega
    clear H0
    by_cases hlt : i < w
    · have g1 : decide (((i : Nat) : Int) < ((w : Nat) : Int)) = true := decide_eq_true (by omega)
      have g2 : ((i : Nat) : Int) < ((w : Nat) : Int) := by omega
      obtain ⟨F, hO, _⟩ := hT
      have hc := hO.cs i hlt
      have hf := hO.fr i
      have HLT := Lib.hid hlt
      clear hgk hO hlt
      go_wp2_with fail
      go_roundg (gk - 1)
      case measure => have := HGK.out; have := HLT.out; omega
      case rel => exact ⟨i + 1, by go_num, by have := HGK.out; have := HLT.out; omega, HT.out.one HLT.out rfl⟩
    · obtain rfl : i = w := by omega
      have g1 : decide (((i : Nat) : Int) < ((i : Nat) : Int)) = false := decide_eq_false (by omega)
      obtain ⟨wA, hwA⟩ : ∃ wA, wA = wr := ⟨_, rfl⟩
      subst hwA
      obtain ⟨F, hO, hF⟩ := hT
      have HO := Lib.hid (hO.ext (g := fun _ => 2) hF)
      have hx := hO.box
      unfold At7 at hx
      obtain ⟨y0, y1, y2, y3, y4, y5, y6⟩ := hx
      have OLD := Lib.hid (fun (b : Nat) (hb : b < W.heap.size) (j : Nat) => hO.old hb j)
      have r0 : wA.cell? ⟨bl, p0, none⟩ = some (.slice (some ⟨a, 0, none⟩) na ca) := (OLD.out bl HBL.out p0).trans HR0.out
      have hi0 : (0 : Int) ≤ ((p0 : Nat) : Int) := by omega
      clear hgk hO hF HT g1
      go_wp2_with ((with_reducible refine (HKD.out _).mono ?_); rintro e wk ⟨rfl, rfl⟩)
      go_loopg [13] i (fun gk v13 wr => ∃ m : Nat, v13 = .int .i64 ((m : Nat) : Int) ∧ m + gk = i ∧ OutAt W wr (.int .u8 3) (.int .u8 ((i : Nat) : Int)) (.int .i64 ((p0 : Nat) : Int)) (x1) (x2) (.int .u64 ((n : Nat) : Int)) (.int .u8 ((l : Nat) : Int)) i (mix (fun j => bwT 3 (f j) (0)) m))
      case atStart => exact ⟨0, rfl, by omega, by rw [mix_zero]; exact HO.out⟩
      case round =>
        obtain ⟨m, rfl, hgk, hO⟩ := hrel
        have HGK := Lib.hid hgk
        have HM := Lib.hid hO
        have m0 : (0 : Int) ≤ ((m : Nat) : Int) := by omega
        by_cases hlt : m < i
        · have g1 : decide (((m : Nat) : Int) < ((i : Nat) : Int)) = true := decide_eq_true (by omega)
          have g2 : ((m : Nat) : Int) < ((i : Nat) : Int) := by omega
          have HLT := Lib.hid hlt
          have hx := hO.box
          unfold At7 at hx
          obtain ⟨z0, z1, z2, z3, z4, z5, z6⟩ := hx
          have hc := hO.cs m hlt
          have hf := hO.fr m
          have lz := hO.lt
          have k0 : wr.cell? ⟨a, m, none⟩ = some (.int .u8 ((f (m) : Nat) : Int)) := (hO.old HW0.out.1 _).trans (HW0.out.2 _ (by omega))
          have lk0 : ¬ a = W.heap.size + 1 := by have := HW0.out.1; omega
          have HBW := Lib.hid (fun bv => bw_not (ca := ca) (y := 0) (bv := bv) (show m < na by omega) (HQA.out m) k0)
          have hi : m < i := hlt
          clear hgk hlt hO k0
          go_wp2_with fail
          refine (HBW.out _).mono ?_
          rintro e wb ⟨rfl, hb⟩
          have HMB := Lib.hid (HM.out.call hb)
          have hc2 := HMB.out.cs m hi
          have hf2 := HMB.out.fr m
          have lz2 := HMB.out.lt
          clear hb hc hf lz
          go_wp2_with fail
          go_roundg (gk - 1)
          case measure => have := HGK.out; have := HLT.out; omega
          case rel => exact ⟨m + 1, by go_num, by have := HGK.out; have := HLT.out; omega, HMB.out.step HLT.out rfl⟩
        · obtain rfl : m = i := by omega
          have g1 : decide (((m : Nat) : Int) < ((m : Nat) : Int)) = false := decide_eq_false (by omega)
          clear hgk hO
          go_wp2_with fail
          go_ret
          exact ⟨_, rfl, by omega, HM.out.done.1, HM.out.done.2⟩
theorem rall_and {W : World} {bl ln lc w n l : Nat} {a na ca p0 : Nat} {f : Nat → Nat} {b nb cb p1 : Nat} {g : Nat → Nat} (x2 : Value) (h1 : 1 ≤ w) (h64 : w ≤ 64) (hbl : bl < W.heap.size) (hp0 : p0 < ln) (hr0 : W.cell? ⟨bl, p0, none⟩ = some (.slice (some ⟨a, 0, none⟩) na ca)) (hw0 : RowAt W a na f) (hp1 : p1 < ln) (hr1 : W.cell? ⟨bl, p1, none⟩ = some (.slice (some ⟨b, 0, none⟩) nb cb)) (hw1 : RowAt W b nb g) (hsa : w ≤ na) (hqa : ∀ j, f j ≤ 2) (hsb : w ≤ nb) (hqb : ∀ j, g j ≤ 2) :
    Calls Try.prog 18 #[.agg #[.int .u8 5, .int .u8 ((w : Nat) : Int), .int .i64 ((p0 : Nat) : Int), .int .i64 ((p1 : Nat) : Int), x2, .int .u64 ((n : Nat) : Int), .int .u8 ((l : Nat) : Int)], .slice (some ⟨bl, 0, none⟩) ln lc] W (NewRow W w (fun j => bwT 5 (f j) (g j))) := by
  have HBL := Lib.hid hbl
  have hmb := make_bytes w (by omega)
  have H0 : Hid (Told W ((W.alloc (.cells #[.int .u8 5, .int .u8 ((w : Nat) : Int), .int .i64 ((p0 : Nat) : Int), .int .i64 ((p1 : Nat) : Int), x2, .int .u64 ((n : Nat) : Int), .int .u8 ((l : Nat) : Int)] 57)).alloc (.cells (Array.replicate w (Value.int .u8 0)) 5)) (.int .u8 5) (.int .u8 ((w : Nat) : Int)) (.int .i64 ((p0 : Nat) : Int)) (.int .i64 ((p1 : Nat) : Int)) (x2) (.int .u64 ((n : Nat) : Int)) (.int .u8 ((l : Nat) : Int)) w (fun _ => 2) 0) := Lib.hid ⟨_, out_new W (.int .u8 5) (.int .u8 ((w : Nat) : Int)) (.int .i64 ((p0 : Nat) : Int)) (.int .i64 ((p1 : Nat) : Int)) (x2) (.int .u64 ((n : Nat) : Int)) (.int .u8 ((l : Nat) : Int)) w, fun j hj => by omega⟩
  have HKD : Hid (∀ W, Calls Try.prog 27 #[.int .u8 5] W fun e W' => e = .returned (.int .i64 2) ∧ W = W') := Lib.hid (fun W => rkids_any 5 W)
  have HR0 := Lib.hid hr0
  have HW0 := Lib.hid hw0
  have HR1 := Lib.hid hr1
  have HW1 := Lib.hid hw1
  have HQA := Lib.hid hqa
  clear hqa
  have HQB := Lib.hid hqb
  clear hqb
  have w0 : (0 : Int) ≤ ((w : Nat) : Int) := by omega
  clear hbl hr0 hw0 hr1 hw1
  go_enter Try.func18, Try.ntmps18
  go_wp2_with fail
  go_loopg [7] w (fun gk v7 wr => ∃ i : Nat, v7 = .int .i64 ((i : Nat) : Int) ∧ i + gk = w ∧ Told W wr (.int .u8 5) (.int .u8 ((w : Nat) : Int)) (.int .i64 ((p0 : Nat) : Int)) (.int .i64 ((p1 : Nat) : Int)) (x2) (.int .u64 ((n : Nat) : Int)) (.int .u8 ((l : Nat) : Int)) w (fun _ => 2) i)
  case atStart => exact ⟨0, rfl, by omega, H0.out⟩
  case round =>
    obtain ⟨i, rfl, hgk, hT⟩ := hrel
    have HGK := Lib.hid hgk
    have HT := Lib.hid hT
    have i0 : (0 : Int) ≤ ((i : Nat) : Int) := by omega
    clear H0
    by_cases hlt : i < w
    · have g1 : decide (((i : Nat) : Int) < ((w : Nat) : Int)) = true := decide_eq_true (by omega)
      have g2 : ((i : Nat) : Int) < ((w : Nat) : Int) := by omega
      obtain ⟨F, hO, _⟩ := hT
      have hc := hO.cs i hlt
      have hf := hO.fr i
      have HLT := Lib.hid hlt
      clear hgk hO hlt
      go_wp2_with fail
      go_roundg (gk - 1)
      case measure => have := HGK.out; have := HLT.out; omega
      case rel => exact ⟨i + 1, by go_num, by have := HGK.out; have := HLT.out; omega, HT.out.one HLT.out rfl⟩
    · obtain rfl : i = w := by omega
      have g1 : decide (((i : Nat) : Int) < ((i : Nat) : Int)) = false := decide_eq_false (by omega)
      obtain ⟨wA, hwA⟩ : ∃ wA, wA = wr := ⟨_, rfl⟩
      subst hwA
      obtain ⟨F, hO, hF⟩ := hT
      have HO := Lib.hid (hO.ext (g := fun _ => 2) hF)
      have hx := hO.box
      unfold At7 at hx
      obtain ⟨y0, y1, y2, y3, y4, y5, y6⟩ := hx
      have OLD := Lib.hid (fun (b : Nat) (hb : b < W.heap.size) (j : Nat) => hO.old hb j)
      have r0 : wA.cell? ⟨bl, p0, none⟩ = some (.slice (some ⟨a, 0, none⟩) na ca) := (OLD.out bl HBL.out p0).trans HR0.out
      have hi0 : (0 : Int) ≤ ((p0 : Nat) : Int) := by omega
      have r1 : wA.cell? ⟨bl, p1, none⟩ = some (.slice (some ⟨b, 0, none⟩) nb cb) := (OLD.out bl HBL.out p1).trans HR1.out
      have hi1 : (0 : Int) ≤ ((p1 : Nat) : Int) := by omega
      clear hgk hO hF HT g1
      go_wp2_with ((with_reducible refine (HKD.out _).mono ?_); rintro e wk ⟨rfl, rfl⟩)
      go_loopg [13] i (fun gk v13 wr => ∃ m : Nat, v13 = .int .i64 ((m : Nat) : Int) ∧ m + gk = i ∧ OutAt W wr (.int .u8 5) (.int .u8 ((i : Nat) : Int)) (.int .i64 ((p0 : Nat) : Int)) (.int .i64 ((p1 : Nat) : Int)) (x2) (.int .u64 ((n : Nat) : Int)) (.int .u8 ((l : Nat) : Int)) i (mix (fun j => bwT 5 (f j) (g j)) m))
      case atStart => exact ⟨0, rfl, by omega, by rw [mix_zero]; exact HO.out⟩
      case round =>
        obtain ⟨m, rfl, hgk, hO⟩ := hrel
        have HGK := Lib.hid hgk
        have HM := Lib.hid hO
        have m0 : (0 : Int) ≤ ((m : Nat) : Int) := by omega
        by_cases hlt : m < i
        · have g1 : decide (((m : Nat) : Int) < ((i : Nat) : Int)) = true := decide_eq_true (by omega)
          have g2 : ((m : Nat) : Int) < ((i : Nat) : Int) := by omega
          have HLT := Lib.hid hlt
          have hx := hO.box
          unfold At7 at hx
          obtain ⟨z0, z1, z2, z3, z4, z5, z6⟩ := hx
          have hc := hO.cs m hlt
          have hf := hO.fr m
          have lz := hO.lt
          have k0 : wr.cell? ⟨a, m, none⟩ = some (.int .u8 ((f (m) : Nat) : Int)) := (hO.old HW0.out.1 _).trans (HW0.out.2 _ (by omega))
          have lk0 : ¬ a = W.heap.size + 1 := by have := HW0.out.1; omega
          have k1 : wr.cell? ⟨b, m, none⟩ = some (.int .u8 ((g (m) : Nat) : Int)) := (hO.old HW1.out.1 _).trans (HW1.out.2 _ (by omega))
          have lk1 : ¬ b = W.heap.size + 1 := by have := HW1.out.1; omega
          have HBW := Lib.hid (bw_and (ca := ca) (cb := cb) (show m < na by omega) (show m < nb by omega) (HQA.out m) (HQB.out m) k0 k1)
          have hi : m < i := hlt
          clear hgk hlt hO k0 k1
          go_wp2_with fail
          refine (HBW.out).mono ?_
          rintro e wb ⟨rfl, hb⟩
          have HMB := Lib.hid (HM.out.call hb)
          have hc2 := HMB.out.cs m hi
          have hf2 := HMB.out.fr m
          have lz2 := HMB.out.lt
          clear hb hc hf lz
          go_wp2_with fail
          go_roundg (gk - 1)
          case measure => have := HGK.out; have := HLT.out; omega
          case rel => exact ⟨m + 1, by go_num, by have := HGK.out; have := HLT.out; omega, HMB.out.step HLT.out rfl⟩
        · obtain rfl : m = i := by omega
          have g1 : decide (((m : Nat) : Int) < ((m : Nat) : Int)) = false := decide_eq_false (by omega)
          clear hgk hO
          go_wp2_with fail
          go_ret
          exact ⟨_, rfl, by omega, HM.out.done.1, HM.out.done.2⟩
theorem rall_or {W : World} {bl ln lc w n l : Nat} {a na ca p0 : Nat} {f : Nat → Nat} {b nb cb p1 : Nat} {g : Nat → Nat} (x2 : Value) (h1 : 1 ≤ w) (h64 : w ≤ 64) (hbl : bl < W.heap.size) (hp0 : p0 < ln) (hr0 : W.cell? ⟨bl, p0, none⟩ = some (.slice (some ⟨a, 0, none⟩) na ca)) (hw0 : RowAt W a na f) (hp1 : p1 < ln) (hr1 : W.cell? ⟨bl, p1, none⟩ = some (.slice (some ⟨b, 0, none⟩) nb cb)) (hw1 : RowAt W b nb g) (hsa : w ≤ na) (hqa : ∀ j, f j ≤ 2) (hsb : w ≤ nb) (hqb : ∀ j, g j ≤ 2) :
    Calls Try.prog 18 #[.agg #[.int .u8 6, .int .u8 ((w : Nat) : Int), .int .i64 ((p0 : Nat) : Int), .int .i64 ((p1 : Nat) : Int), x2, .int .u64 ((n : Nat) : Int), .int .u8 ((l : Nat) : Int)], .slice (some ⟨bl, 0, none⟩) ln lc] W (NewRow W w (fun j => bwT 6 (f j) (g j))) := by
  have HBL := Lib.hid hbl
  have hmb := make_bytes w (by omega)
  have H0 : Hid (Told W ((W.alloc (.cells #[.int .u8 6, .int .u8 ((w : Nat) : Int), .int .i64 ((p0 : Nat) : Int), .int .i64 ((p1 : Nat) : Int), x2, .int .u64 ((n : Nat) : Int), .int .u8 ((l : Nat) : Int)] 57)).alloc (.cells (Array.replicate w (Value.int .u8 0)) 5)) (.int .u8 6) (.int .u8 ((w : Nat) : Int)) (.int .i64 ((p0 : Nat) : Int)) (.int .i64 ((p1 : Nat) : Int)) (x2) (.int .u64 ((n : Nat) : Int)) (.int .u8 ((l : Nat) : Int)) w (fun _ => 2) 0) := Lib.hid ⟨_, out_new W (.int .u8 6) (.int .u8 ((w : Nat) : Int)) (.int .i64 ((p0 : Nat) : Int)) (.int .i64 ((p1 : Nat) : Int)) (x2) (.int .u64 ((n : Nat) : Int)) (.int .u8 ((l : Nat) : Int)) w, fun j hj => by omega⟩
  have HKD : Hid (∀ W, Calls Try.prog 27 #[.int .u8 6] W fun e W' => e = .returned (.int .i64 2) ∧ W = W') := Lib.hid (fun W => rkids_any 6 W)
  have HR0 := Lib.hid hr0
  have HW0 := Lib.hid hw0
  have HR1 := Lib.hid hr1
  have HW1 := Lib.hid hw1
  have HQA := Lib.hid hqa
  clear hqa
  have HQB := Lib.hid hqb
  clear hqb
  have w0 : (0 : Int) ≤ ((w : Nat) : Int) := by omega
  clear hbl hr0 hw0 hr1 hw1
  go_enter Try.func18, Try.ntmps18
  go_wp2_with fail
  go_loopg [7] w (fun gk v7 wr => ∃ i : Nat, v7 = .int .i64 ((i : Nat) : Int) ∧ i + gk = w ∧ Told W wr (.int .u8 6) (.int .u8 ((w : Nat) : Int)) (.int .i64 ((p0 : Nat) : Int)) (.int .i64 ((p1 : Nat) : Int)) (x2) (.int .u64 ((n : Nat) : Int)) (.int .u8 ((l : Nat) : Int)) w (fun _ => 2) i)
  case atStart => exact ⟨0, rfl, by omega, H0.out⟩
  case round =>
    obtain ⟨i, rfl, hgk, hT⟩ := hrel
    have HGK := Lib.hid hgk
    have HT := Lib.hid hT
    have i0 : (0 : Int) ≤ ((i : Nat) : Int) := by omega
    clear H0
    by_cases hlt : i < w
    · have g1 : decide (((i : Nat) : Int) < ((w : Nat) : Int)) = true := decide_eq_true (by omega)
      have g2 : ((i : Nat) : Int) < ((w : Nat) : Int) := by omega
      obtain ⟨F, hO, _⟩ := hT
      have hc := hO.cs i hlt
      have hf := hO.fr i
      have HLT := Lib.hid hlt
      clear hgk hO hlt
      go_wp2_with fail
      go_roundg (gk - 1)
      case measure => have := HGK.out; have := HLT.out; omega
      case rel => exact ⟨i + 1, by go_num, by have := HGK.out; have := HLT.out; omega, HT.out.one HLT.out rfl⟩
    · obtain rfl : i = w := by omega
      have g1 : decide (((i : Nat) : Int) < ((i : Nat) : Int)) = false := decide_eq_false (by omega)
      obtain ⟨wA, hwA⟩ : ∃ wA, wA = wr := ⟨_, rfl⟩
      subst hwA
      obtain ⟨F, hO, hF⟩ := hT
      have HO := Lib.hid (hO.ext (g := fun _ => 2) hF)
      have hx := hO.box
      unfold At7 at hx
      obtain ⟨y0, y1, y2, y3, y4, y5, y6⟩ := hx
      have OLD := Lib.hid (fun (b : Nat) (hb : b < W.heap.size) (j : Nat) => hO.old hb j)
      have r0 : wA.cell? ⟨bl, p0, none⟩ = some (.slice (some ⟨a, 0, none⟩) na ca) := (OLD.out bl HBL.out p0).trans HR0.out
      have hi0 : (0 : Int) ≤ ((p0 : Nat) : Int) := by omega
      have r1 : wA.cell? ⟨bl, p1, none⟩ = some (.slice (some ⟨b, 0, none⟩) nb cb) := (OLD.out bl HBL.out p1).trans HR1.out
      have hi1 : (0 : Int) ≤ ((p1 : Nat) : Int) := by omega
      clear hgk hO hF HT g1
      go_wp2_with ((with_reducible refine (HKD.out _).mono ?_); rintro e wk ⟨rfl, rfl⟩)
      go_loopg [13] i (fun gk v13 wr => ∃ m : Nat, v13 = .int .i64 ((m : Nat) : Int) ∧ m + gk = i ∧ OutAt W wr (.int .u8 6) (.int .u8 ((i : Nat) : Int)) (.int .i64 ((p0 : Nat) : Int)) (.int .i64 ((p1 : Nat) : Int)) (x2) (.int .u64 ((n : Nat) : Int)) (.int .u8 ((l : Nat) : Int)) i (mix (fun j => bwT 6 (f j) (g j)) m))
      case atStart => exact ⟨0, rfl, by omega, by rw [mix_zero]; exact HO.out⟩
      case round =>
        obtain ⟨m, rfl, hgk, hO⟩ := hrel
        have HGK := Lib.hid hgk
        have HM := Lib.hid hO
        have m0 : (0 : Int) ≤ ((m : Nat) : Int) := by omega
        by_cases hlt : m < i
        · have g1 : decide (((m : Nat) : Int) < ((i : Nat) : Int)) = true := decide_eq_true (by omega)
          have g2 : ((m : Nat) : Int) < ((i : Nat) : Int) := by omega
          have HLT := Lib.hid hlt
          have hx := hO.box
          unfold At7 at hx
          obtain ⟨z0, z1, z2, z3, z4, z5, z6⟩ := hx
          have hc := hO.cs m hlt
          have hf := hO.fr m
          have lz := hO.lt
          have k0 : wr.cell? ⟨a, m, none⟩ = some (.int .u8 ((f (m) : Nat) : Int)) := (hO.old HW0.out.1 _).trans (HW0.out.2 _ (by omega))
          have lk0 : ¬ a = W.heap.size + 1 := by have := HW0.out.1; omega
          have k1 : wr.cell? ⟨b, m, none⟩ = some (.int .u8 ((g (m) : Nat) : Int)) := (hO.old HW1.out.1 _).trans (HW1.out.2 _ (by omega))
          have lk1 : ¬ b = W.heap.size + 1 := by have := HW1.out.1; omega
          have HBW := Lib.hid (bw_or (ca := ca) (cb := cb) (show m < na by omega) (show m < nb by omega) (HQA.out m) (HQB.out m) k0 k1)
          have hi : m < i := hlt
          clear hgk hlt hO k0 k1
          go_wp2_with fail
          refine (HBW.out).mono ?_
          rintro e wb ⟨rfl, hb⟩
          have HMB := Lib.hid (HM.out.call hb)
          have hc2 := HMB.out.cs m hi
          have hf2 := HMB.out.fr m
          have lz2 := HMB.out.lt
          clear hb hc hf lz
          go_wp2_with fail
          go_roundg (gk - 1)
          case measure => have := HGK.out; have := HLT.out; omega
          case rel => exact ⟨m + 1, by go_num, by have := HGK.out; have := HLT.out; omega, HMB.out.step HLT.out rfl⟩
        · obtain rfl : m = i := by omega
          have g1 : decide (((m : Nat) : Int) < ((m : Nat) : Int)) = false := decide_eq_false (by omega)
          clear hgk hO
          go_wp2_with fail
          go_ret
          exact ⟨_, rfl, by omega, HM.out.done.1, HM.out.done.2⟩
theorem rall_xor {W : World} {bl ln lc w n l : Nat} {a na ca p0 : Nat} {f : Nat → Nat} {b nb cb p1 : Nat} {g : Nat → Nat} (x2 : Value) (h1 : 1 ≤ w) (h64 : w ≤ 64) (hbl : bl < W.heap.size) (hp0 : p0 < ln) (hr0 : W.cell? ⟨bl, p0, none⟩ = some (.slice (some ⟨a, 0, none⟩) na ca)) (hw0 : RowAt W a na f) (hp1 : p1 < ln) (hr1 : W.cell? ⟨bl, p1, none⟩ = some (.slice (some ⟨b, 0, none⟩) nb cb)) (hw1 : RowAt W b nb g) (hsa : w ≤ na) (hqa : ∀ j, f j ≤ 2) (hsb : w ≤ nb) (hqb : ∀ j, g j ≤ 2) :
    Calls Try.prog 18 #[.agg #[.int .u8 7, .int .u8 ((w : Nat) : Int), .int .i64 ((p0 : Nat) : Int), .int .i64 ((p1 : Nat) : Int), x2, .int .u64 ((n : Nat) : Int), .int .u8 ((l : Nat) : Int)], .slice (some ⟨bl, 0, none⟩) ln lc] W (NewRow W w (fun j => bwT 7 (f j) (g j))) := by
  have HBL := Lib.hid hbl
  have hmb := make_bytes w (by omega)
  have H0 : Hid (Told W ((W.alloc (.cells #[.int .u8 7, .int .u8 ((w : Nat) : Int), .int .i64 ((p0 : Nat) : Int), .int .i64 ((p1 : Nat) : Int), x2, .int .u64 ((n : Nat) : Int), .int .u8 ((l : Nat) : Int)] 57)).alloc (.cells (Array.replicate w (Value.int .u8 0)) 5)) (.int .u8 7) (.int .u8 ((w : Nat) : Int)) (.int .i64 ((p0 : Nat) : Int)) (.int .i64 ((p1 : Nat) : Int)) (x2) (.int .u64 ((n : Nat) : Int)) (.int .u8 ((l : Nat) : Int)) w (fun _ => 2) 0) := Lib.hid ⟨_, out_new W (.int .u8 7) (.int .u8 ((w : Nat) : Int)) (.int .i64 ((p0 : Nat) : Int)) (.int .i64 ((p1 : Nat) : Int)) (x2) (.int .u64 ((n : Nat) : Int)) (.int .u8 ((l : Nat) : Int)) w, fun j hj => by omega⟩
  have HKD : Hid (∀ W, Calls Try.prog 27 #[.int .u8 7] W fun e W' => e = .returned (.int .i64 2) ∧ W = W') := Lib.hid (fun W => rkids_any 7 W)
  have HR0 := Lib.hid hr0
  have HW0 := Lib.hid hw0
  have HR1 := Lib.hid hr1
  have HW1 := Lib.hid hw1
  have HQA := Lib.hid hqa
  clear hqa
  have HQB := Lib.hid hqb
  clear hqb
  have w0 : (0 : Int) ≤ ((w : Nat) : Int) := by omega
  clear hbl hr0 hw0 hr1 hw1
  go_enter Try.func18, Try.ntmps18
  go_wp2_with fail
  go_loopg [7] w (fun gk v7 wr => ∃ i : Nat, v7 = .int .i64 ((i : Nat) : Int) ∧ i + gk = w ∧ Told W wr (.int .u8 7) (.int .u8 ((w : Nat) : Int)) (.int .i64 ((p0 : Nat) : Int)) (.int .i64 ((p1 : Nat) : Int)) (x2) (.int .u64 ((n : Nat) : Int)) (.int .u8 ((l : Nat) : Int)) w (fun _ => 2) i)
  case atStart => exact ⟨0, rfl, by omega, H0.out⟩
  case round =>
    obtain ⟨i, rfl, hgk, hT⟩ := hrel
    have HGK := Lib.hid hgk
    have HT := Lib.hid hT
    have i0 : (0 : Int) ≤ ((i : Nat) : Int) := by omega
    clear H0
    by_cases hlt : i < w
    · have g1 : decide (((i : Nat) : Int) < ((w : Nat) : Int)) = true := decide_eq_true (by omega)
      have g2 : ((i : Nat) : Int) < ((w : Nat) : Int) := by omega
      obtain ⟨F, hO, _⟩ := hT
      have hc := hO.cs i hlt
      have hf := hO.fr i
      have HLT := Lib.hid hlt
      clear hgk hO hlt
      go_wp2_with fail
      go_roundg (gk - 1)
      case measure => have := HGK.out; have := HLT.out; omega
      case rel => exact ⟨i + 1, by go_num, by have := HGK.out; have := HLT.out; omega, HT.out.one HLT.out rfl⟩
    · obtain rfl : i = w := by omega
      have g1 : decide (((i : Nat) : Int) < ((i : Nat) : Int)) = false := decide_eq_false (by omega)
      obtain ⟨wA, hwA⟩ : ∃ wA, wA = wr := ⟨_, rfl⟩
      subst hwA
      obtain ⟨F, hO, hF⟩ := hT
      have HO := Lib.hid (hO.ext (g := fun _ => 2) hF)
      have hx := hO.box
      unfold At7 at hx
      obtain ⟨y0, y1, y2, y3, y4, y5, y6⟩ := hx
      have OLD := Lib.hid (fun (b : Nat) (hb : b < W.heap.size) (j : Nat) => hO.old hb j)
      have r0 : wA.cell? ⟨bl, p0, none⟩ = some (.slice (some ⟨a, 0, none⟩) na ca) := (OLD.out bl HBL.out p0).trans HR0.out
      have hi0 : (0 : Int) ≤ ((p0 : Nat) : Int) := by omega
      have r1 : wA.cell? ⟨bl, p1, none⟩ = some (.slice (some ⟨b, 0, none⟩) nb cb) := (OLD.out bl HBL.out p1).trans HR1.out
      have hi1 : (0 : Int) ≤ ((p1 : Nat) : Int) := by omega
      clear hgk hO hF HT g1
      go_wp2_with ((with_reducible refine (HKD.out _).mono ?_); rintro e wk ⟨rfl, rfl⟩)
      go_loopg [13] i (fun gk v13 wr => ∃ m : Nat, v13 = .int .i64 ((m : Nat) : Int) ∧ m + gk = i ∧ OutAt W wr (.int .u8 7) (.int .u8 ((i : Nat) : Int)) (.int .i64 ((p0 : Nat) : Int)) (.int .i64 ((p1 : Nat) : Int)) (x2) (.int .u64 ((n : Nat) : Int)) (.int .u8 ((l : Nat) : Int)) i (mix (fun j => bwT 7 (f j) (g j)) m))
      case atStart => exact ⟨0, rfl, by omega, by rw [mix_zero]; exact HO.out⟩
      case round =>
        obtain ⟨m, rfl, hgk, hO⟩ := hrel
        have HGK := Lib.hid hgk
        have HM := Lib.hid hO
        have m0 : (0 : Int) ≤ ((m : Nat) : Int) := by omega
        by_cases hlt : m < i
        · have g1 : decide (((m : Nat) : Int) < ((i : Nat) : Int)) = true := decide_eq_true (by omega)
          have g2 : ((m : Nat) : Int) < ((i : Nat) : Int) := by omega
          have HLT := Lib.hid hlt
          have hx := hO.box
          unfold At7 at hx
          obtain ⟨z0, z1, z2, z3, z4, z5, z6⟩ := hx
          have hc := hO.cs m hlt
          have hf := hO.fr m
          have lz := hO.lt
          have k0 : wr.cell? ⟨a, m, none⟩ = some (.int .u8 ((f (m) : Nat) : Int)) := (hO.old HW0.out.1 _).trans (HW0.out.2 _ (by omega))
          have lk0 : ¬ a = W.heap.size + 1 := by have := HW0.out.1; omega
          have k1 : wr.cell? ⟨b, m, none⟩ = some (.int .u8 ((g (m) : Nat) : Int)) := (hO.old HW1.out.1 _).trans (HW1.out.2 _ (by omega))
          have lk1 : ¬ b = W.heap.size + 1 := by have := HW1.out.1; omega
          have HBW := Lib.hid (bw_xor (ca := ca) (cb := cb) (show m < na by omega) (show m < nb by omega) (HQA.out m) (HQB.out m) k0 k1)
          have hi : m < i := hlt
          clear hgk hlt hO k0 k1
          go_wp2_with fail
          refine (HBW.out).mono ?_
          rintro e wb ⟨rfl, hb⟩
          have HMB := Lib.hid (HM.out.call hb)
          have hc2 := HMB.out.cs m hi
          have hf2 := HMB.out.fr m
          have lz2 := HMB.out.lt
          clear hb hc hf lz
          go_wp2_with fail
          go_roundg (gk - 1)
          case measure => have := HGK.out; have := HLT.out; omega
          case rel => exact ⟨m + 1, by go_num, by have := HGK.out; have := HLT.out; omega, HMB.out.step HLT.out rfl⟩
        · obtain rfl : m = i := by omega
          have g1 : decide (((m : Nat) : Int) < ((m : Nat) : Int)) = false := decide_eq_false (by omega)
          clear hgk hO
          go_wp2_with fail
          go_ret
          exact ⟨_, rfl, by omega, HM.out.done.1, HM.out.done.2⟩
end Kr
end Go.Proofs.Ytigjbngedbbdbaa
