/-
  The program's store and the document's own beside each other: what stays while nodes are made in both.
-/
import Derived.Test.YtjhghfndhpaapaaTmRefD
import Derived.Test.YtjhghfndhpaapaaTmP6
namespace Go.Proofs.Ytjhghfndhpaapaa
open Go.RowKit Go.Maps Bv
namespace Tm
set_option maxHeartbeats 400000
set_option maxRecDepth 100000

theorem rfoot_lt {B : Nat} {w : World} {q : Nat} {rv : Value} {L : List Nd} (S : RefAt B w q rv L) {i : Nat} (h : rfoot q rv i) : B ≤ i ∧ i < w.heap.size := by
  rcases h with c | c
  · subst c; exact ⟨S.bp, S.lt⟩
  · exact S.row.lt i c

/-- Both stores, no block shared; what was there before the call is as it was. -/
structure Two (W : World) (p m q : Nat) (sv rv : Value) (L1 L2 : List Nd) (w : World) : Prop where
  s : StoreAt W.heap.size w p m sv L1
  r : RefAt W.heap.size w q rv L2
  ap : ∀ g, rfoot q rv g → ¬ foot p m sv g
  b : Below W.heap.size W w
def TwoE (W : World) (p m q : Nat) (L1 L2 : List Nd) (w : World) : Prop := ∃ sv rv, Two W p m q sv rv L1 L2 w

theorem Two.smake {W w w' : World} {p m q : Nat} {sv rv v : Value} {L1 L2 L' : List Nd} (h : Two W p m q sv rv L1 L2 w) (S' : StoreAt W.heap.size w' p m v L') (K : Kept (foot p m sv) w w') (loc : v.ownBlock = sv.ownBlock ∨ ∃ g, w.heap.size ≤ g ∧ v.ownBlock = some g) :
    Two W p m q v rv L' L2 w' := by
  refine ⟨S', h.r.kept K (fun i hi c => h.ap i hi c), fun g hg c => ?_, h.b.trans (K.below (fun i hi c => by have := (foot_lt h.s c).1; omega) h.b.size)⟩
  rcases c with c | c | c
  · exact h.ap g hg (.inl c)
  · exact h.ap g hg (.inr (.inl c))
  · rcases loc with l | ⟨g2, hg2, l⟩
    · rw [l] at c; exact h.ap g hg (.inr (.inr c))
    · rw [l] at c
      have := (rfoot_lt h.r hg).2
      simp at c
      omega
theorem Two.rmake {W w w' : World} {p m q : Nat} {sv rv v : Value} {L1 L2 L' : List Nd} (h : Two W p m q sv rv L1 L2 w) (S' : RefAt W.heap.size w' q v L') (K : Kept (rfoot q rv) w w') (loc : v.ownBlock = rv.ownBlock ∨ ∃ g, w.heap.size ≤ g ∧ v.ownBlock = some g) :
    Two W p m q sv v L1 L' w' := by
  refine ⟨h.s.kept K (fun i hi c => h.ap i c hi), S', fun g hg c => ?_, h.b.trans (K.below (fun i hi c => by have := (rfoot_lt h.r c).1; omega) h.b.size)⟩
  rcases hg with d | d
  · exact h.ap g (.inl d) c
  · rcases loc with l | ⟨g2, hg2, l⟩
    · rw [l] at d; exact h.ap g (.inr d) c
    · rw [l] at d
      have := (foot_lt h.s c).2
      simp at d
      omega
theorem Two.call {W w w' : World} {p m q : Nat} {sv rv : Value} {L1 L2 : List Nd} (h : Two W p m q sv rv L1 L2 w) (k : Below w.heap.size w w') : Two W p m q sv rv L1 L2 w' :=
  ⟨h.s.call k, h.r.call k, h.ap, h.b.trans (k.mono h.b.size)⟩
theorem TwoE.call {W w w' : World} {p m q : Nat} {L1 L2 : List Nd} (h : TwoE W p m q L1 L2 w) (k : Below w.heap.size w w') : TwoE W p m q L1 L2 w' := by obtain ⟨sv, rv, s⟩ := h; exact ⟨sv, rv, s.call k⟩
theorem TwoE.b {W w : World} {p m q : Nat} {L1 L2 : List Nd} (h : TwoE W p m q L1 L2 w) : Below W.heap.size W w := by obtain ⟨sv, rv, s⟩ := h; exact s.b
theorem TwoE.good {W w : World} {p m q : Nat} {L1 L2 : List Nd} (h : TwoE W p m q L1 L2 w) : Gd L1 := by obtain ⟨sv, rv, s⟩ := h; exact s.s.good

/-- A call that has made the node x in the program's store. -/
theorem two_made {W w : World} {p m q : Nat} {L1 L2 : List Nd} {x : Nd} {f : FuncId} {args : Array Value} {a er : Nat} (h : TwoE W p m q L1 L2 w) (hc : ∀ sv, StoreAt W.heap.size w p m sv L1 → W.heap.size ≤ w.heap.size → Calls Try.prog f args w (Made W.heap.size p m sv L1 x w)) (ha : (mk L1 x).2.1 = a) (he : (mk L1 x).2.2 = er) :
    Calls Try.prog f args w fun e w' => e = .returned (.tuple #[.int .i64 ((a : Nat) : Int), .int .i64 ((er : Nat) : Int)]) ∧ TwoE W p m q (mk L1 x).1 L2 w' := by
  obtain ⟨sv, rv, s⟩ := h
  subst ha; subst he
  refine (hc sv s.s s.b.size).mono ?_
  rintro e w' ⟨rfl, v, S', K, loc⟩
  exact ⟨rfl, v, rv, s.smake S' K loc⟩
theorem two_make {W w : World} {p m q : Nat} {L1 L2 : List Nd} {x : Nd} (h : TwoE W p m q L1 L2 w) (hx : x.Ok) (a er : Nat) (ha : (mk L1 x).2.1 = a) (he : (mk L1 x).2.2 = er) :
    Calls Try.prog 16 #[.pointer (some ⟨p, 0, none⟩), x.val] w fun e w' => e = .returned (.tuple #[.int .i64 ((a : Nat) : Int), .int .i64 ((er : Nat) : Int)]) ∧ TwoE W p m q (mk L1 x).1 L2 w' :=
  two_made h (fun _ S hB => make_any S hB hx) ha he
theorem two_rmake {W w : World} {p m q : Nat} {L1 L2 : List Nd} {x : Nd} (h : TwoE W p m q L1 L2 w) (hx : x.Ok) (a er : Nat) (ha : (mk L2 x).2.1 = a) (he : (mk L2 x).2.2 = er) :
    Calls Try.prog 17 #[.pointer (some ⟨q, 0, none⟩), x.val] w fun e w' => e = .returned (.tuple #[.int .i64 ((a : Nat) : Int), .int .i64 ((er : Nat) : Int)]) ∧ TwoE W p m q L1 (mk L2 x).1 w' := by
  obtain ⟨sv, rv, s⟩ := h
  subst ha; subst he
  refine (rmake_any s.r s.b.size hx).mono ?_
  rintro e w' ⟨rfl, v, S', K, loc⟩
  exact ⟨rfl, sv, v, s.rmake S' K loc⟩

/-! ### the widths and numbers that TermWays asks of the document's -/
def wd6 (w : Int) : Nat := if 0 ≤ w ∧ w ≤ 64 then w.toNat else 0
def nm6 (n : Int) : Nat := if 0 ≤ n then n.toNat else 256
theorem mk_refuse {L : List Nd} {x : Nd} (h : mayN L x = false) : mk L x = (L, 0, 2) := by unfold mk; rw [if_pos h]
theorem may_wide {L : List Nd} {x : Nd} (h : ¬ (1 ≤ x.w ∧ x.w ≤ 64)) : mayN L x = false := by
  cases hm : mayN L x with
  | false => rfl
  | true => exact absurd (mayN_w hm) h
theorem ways_const (L : List Nd) (w : Int) (c : Nat) : mk L (cnd w c) = mk L ⟨1, wd6 w, 0, 0, 0, c, 0⟩ := by
  by_cases h : 0 ≤ w ∧ w ≤ 64
  · have : nar w = wd6 w := by unfold nar wd6; rw [if_pos (by omega), if_pos h]
    unfold cnd
    rw [this]
  · rw [mk_refuse (may_wide (x := ⟨1, wd6 w, 0, 0, 0, c, 0⟩) (by show ¬ (1 ≤ wd6 w ∧ wd6 w ≤ 64); unfold wd6; rw [if_neg h]; omega)),
      mk_refuse (may_wide (x := cnd w c) (by show ¬ (1 ≤ nar w ∧ nar w ≤ 64); unfold nar; split <;> omega))]
theorem may_far {L : List Nd} {x : Nd} (ho : x.o = 2) (h : 256 ≤ x.n) : mayN L x = false := by
  cases hm : mayN L x with
  | false => rfl
  | true => have := mayN_var hm ho; omega
theorem ways_var (L : List Nd) (w n : Int) (hn : I64 n) : mk L (vnd w n) = mk L ⟨2, wd6 w, 0, 0, 0, nm6 n, 0⟩ := by
  by_cases hz : 0 ≤ n
  · have hu : u64 n = nm6 n := by
      unfold u64 nm6; rw [if_pos hz, IntKind.wrap_u64]
      unfold I64 at hn
      omega
    by_cases h : 0 ≤ w ∧ w ≤ 64
    · have : nar w = wd6 w := by unfold nar wd6; rw [if_pos (by omega), if_pos h]
      unfold vnd
      rw [this, hu]
    · rw [mk_refuse (may_wide (x := ⟨2, wd6 w, 0, 0, 0, nm6 n, 0⟩) (by show ¬ (1 ≤ wd6 w ∧ wd6 w ≤ 64); unfold wd6; rw [if_neg h]; omega)),
        mk_refuse (may_wide (x := vnd w n) (by show ¬ (1 ≤ nar w ∧ nar w ≤ 64); unfold nar; split <;> omega))]
  · have hu : 256 ≤ u64 n := by
      unfold u64; rw [IntKind.wrap_u64]
      unfold I64 at hn
      omega
    rw [mk_refuse (may_far (x := ⟨2, wd6 w, 0, 0, 0, nm6 n, 0⟩) rfl (by show 256 ≤ nm6 n; unfold nm6; rw [if_neg hz]; exact Nat.le_refl _)),
      mk_refuse (may_far (x := vnd w n) rfl hu)]

/-- Ahead of each node of the loop that makes them in both. -/
structure Loop2 (W : World) (p m q n k i : Nat) (w : World) : Prop where
  st : ∃ L, TwoE W p m q L L w
  le : i ≤ n
  lek : i ≤ k

/-! ### the document's store as it begins -/
theorem rzero_is : Try.zeroCells37 = #[.slice none 0 0] ++ Array.replicate 256 (.int .u8 0) := by kernel_rfl
theorem ref_store (w : World) : RefAt w.heap.size (w.alloc (.cells Try.zeroCells37 37)) w.heap.size (.slice none 0 0) [] := by
  have hh := (MapKept.heap_alloc w (.cells Try.zeroCells37 37)).1
  have hz : ∀ j, Try.zeroCells37[j]? = if j = 0 then some (.slice none 0 0) else if j < 257 then some (.int .u8 0) else none := by
    intro j
    rw [rzero_is, Array.getElem?_append]
    by_cases h0 : j = 0
    · subst h0; simp
    · rw [if_neg (by simp; omega), if_neg h0, Array.getElem?_replicate]
      simp only [List.size_toArray, List.length_cons, List.length_nil]
      by_cases hj : j < 257
      · rw [if_pos (by omega), if_pos hj]
      · rw [if_neg (by omega), if_neg hj]
  generalize Try.zeroCells37 = C at hh hz ⊢
  have hs : (w.alloc (.cells C 37)).heap.size = w.heap.size + 1 := by simp
  generalize (w.alloc (.cells C 37)) = W2 at hh hs ⊢
  have hc : ∀ j, W2.cell? ⟨w.heap.size, j, none⟩ = C[j]? := by
    intro j
    unfold World.cell?
    rw [hh]
    rfl
  refine ⟨Nat.le_refl _, by omega, ?_, ?_, ?_, World.ownsRow_nil _ _ _ _, by simp [Value.ownBlock], gd_nil⟩
  · rw [hc, hz]; rfl
  · intro v hv
    rw [hc, hz, if_neg (by omega), if_pos (by omega)]
    rfl
  · intro o
    unfold World.frozen?
    rw [hh]
    simp

theorem two_start {W v : World} (S : StoreAt W.heap.size v (W.heap.size + 1) W.heap.size (.slice none 0 0) []) (hb : Below W.heap.size W v) : TwoE W (W.heap.size + 1) W.heap.size v.heap.size [] [] (v.alloc (.cells Try.zeroCells37 37)) := by
  have R := ref_store v
  refine ⟨_, _, S.alloc _, ⟨?_, R.lt, R.c0, R.cw, R.fr, World.ownsRow_nil _ _ _ _, R.gp, gd_nil⟩, fun g hg c => ?_, bel_alloc hb _⟩
  · have := S.lt; omega
  · have h1 := (foot_lt S c).2
    rcases hg with d | d
    · omega
    · simp [Value.ownBlock] at d

end Tm
end Go.Proofs.Ytjhghfndhpaapaa
