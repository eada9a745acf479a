/-
What is there behind each node that the statements' loops hand to Make; the argument, a list of nodes; the document's own number of kids.
The program's store and the document's own beside each other: what stays while nodes are made in both.
The two stores of the statements of layer text: what made answers of a list of nodes, as a fact on one call.
A node handed in by value, or in a list: how it is read, and read again.
A list of nodes handed in; types are laid out.
The document's own Put of layer text, and the statement that the two answer the same, as facts on one call.
-/
import Derived.Test.YtjinjddcnjcffaaGreatDoorTmOnceA
import Derived.Test.YtjinjddcnjcffaaGreatDoorTmRefD
import Derived.Test.YtjinjddcnjcffaaGreatDoorPt22
import Derived.Deep.LoopGhost
import Derived.Test.YtjinjddcnjcffaaGreatDoorRows
import Derived.Test.YtjinjddcnjcffaaGreatDoorPt02
import Derived.WalkKit
import Derived.ProofKit
import Derived.OpenShut
import Derived.Lib.SmallJoins
import Derived.Laws.IdiomArrays
import Derived.Below
import Derived.ChangeSame
import Derived.Deep.Slices
import Derived.Carry
import Derived.Test.YtjinjddcnjcffaaGreatDoorTxRPutC
namespace Go.Proofs.YtjinjddcnjcffaaGreatDoor
open Go.RowKit Go.Maps Bv
namespace Tm
set_option maxHeartbeats 400000
set_option maxRecDepth 100000

/-- The argument: a list of nodes, in memory that was there before the call. -/
def ArgAt (W : World) (al : Option Addr) (X : List Nd) : Prop :=
  X = [] ∨ ∃ bl ol, al = some ⟨bl, ol, none⟩ ∧ bl < W.heap.size ∧ ∀ (i : Nat) (x : Nd), X[i]? = some x → ∀ j u, x.cells.toList[j]? = some u → W.cell? ⟨bl, ol + i * 7 + j, none⟩ = some u
theorem ArgAt.at' {W : World} {al : Option Addr} {X : List Nd} (h : ArgAt W al X) {i : Nat} {x : Nd} (hx : X[i]? = some x) :
    ∃ bl ol, al = some ⟨bl, ol, none⟩ ∧ bl < W.heap.size ∧ (∀ w, Below W.heap.size W w → ∀ j u, x.cells.toList[j]? = some u → w.cell? ⟨bl, ol + i * 7 + j, none⟩ = some u) := by
  rcases h with h | ⟨bl, ol, h1, h2, h3⟩
  · subst h; simp at hx
  · exact ⟨bl, ol, h1, h2, fun w hb j u hj => (hb.cell (p := ⟨bl, ol + i * 7 + j, none⟩) h2).trans (h3 i x hx j u hj)⟩

theorem st_make {W : World} {p m : Nat} {u4 u5 : Value} {L : List Nd} {ids : List Nat} {N : List Nd} {w : World} {x : Nd} (h : StE W p m u4 u5 L ids N w) (hx : x.Ok) (a er : Nat) (ha : (mk L x).2.1 = a) (he : (mk L x).2.2 = er) :
    Calls Tryz.prog 14 #[.pointer (some ⟨p, 0, none⟩), x.val] w fun e w' => e = .returned (.tuple #[.int .i64 ((a : Nat) : Int), .int .i64 ((er : Nat) : Int)]) ∧ StE W p m u4 u5 (mk L x).1 ids N w' := by
  obtain ⟨sv, s⟩ := h
  subst ha; subst he
  refine (make_any s.s s.b.size hx).mono ?_
  rintro e w' ⟨rfl, v, S', K, loc⟩
  exact ⟨rfl, v, s.make S' K loc⟩

theorem StE.b {W : World} {p m : Nat} {u4 u5 : Value} {L : List Nd} {ids : List Nat} {N : List Nd} {w : World} (h : StE W p m u4 u5 L ids N w) : Below W.heap.size W w := by obtain ⟨sv, s⟩ := h; exact s.b
theorem StE.r4 {W : World} {p m : Nat} {u4 u5 : Value} {L : List Nd} {ids : List Nat} {N : List Nd} {w : World} (h : StE W p m u4 u5 L ids N w) : w.ownsRow W.heap.size 3 1 u4 ids.length (todoRow ids) := by obtain ⟨sv, s⟩ := h; exact s.r4
theorem StE.r5 {W : World} {p m : Nat} {u4 u5 : Value} {L : List Nd} {ids : List Nat} {N : List Nd} {w : World} (h : StE W p m u4 u5 L ids N w) : w.ownsRow W.heap.size 48 7 u5 N.length (rowOf N) := by obtain ⟨sv, s⟩ := h; exact s.r5
theorem StE.good {W : World} {p m : Nat} {u4 u5 : Value} {L : List Nd} {ids : List Nat} {N : List Nd} {w : World} (h : StE W p m u4 u5 L ids N w) : Gd L := by obtain ⟨sv, s⟩ := h; exact s.s.good
theorem StE.call {W : World} {p m : Nat} {u4 u5 : Value} {L : List Nd} {ids : List Nat} {N : List Nd} {w w' : World} (h : StE W p m u4 u5 L ids N w) (k : Below w.heap.size w w') : StE W p m u4 u5 L ids N w' := by obtain ⟨sv, s⟩ := h; exact ⟨sv, s.call k⟩
theorem StE.push4 {W : World} {p m : Nat} {u4 u5 v : Value} {L : List Nd} {ids : List Nat} {N : List Nd} {w w' : World} {a : Nat} {o : Obj} (h : StE W p m u4 u5 L ids N w) (hr : w'.ownsRow W.heap.size 3 1 v (ids.length + 1) (todoRow ids ++ [.int .i64 ((a : Nat) : Int)])) (hg : (w.alloc o).grownBy w' u4.ownBlock) (hl : v.ownBlock = u4.ownBlock ∨ v.ownBlock = some (w.alloc o).heap.size) : StE W p m v u5 L (ids ++ [a]) N w' := by
  obtain ⟨sv, s⟩ := h; exact ⟨sv, s.push4 hr hg hl⟩
theorem StE.push5 {W : World} {p m : Nat} {u4 u5 v : Value} {L : List Nd} {ids : List Nat} {N : List Nd} {w w' : World} {x : Nd} {o : Obj} (h : StE W p m u4 u5 L ids N w) (hr : w'.ownsRow W.heap.size 48 7 v (N.length + 1) (rowOf N ++ x.cells.toList)) (hg : (w.alloc o).grownBy w' u5.ownBlock) (hl : v.ownBlock = u5.ownBlock ∨ v.ownBlock = some (w.alloc o).heap.size) : StE W p m u4 v L ids (N ++ [x]) w' := by
  obtain ⟨sv, s⟩ := h; exact ⟨sv, s.push5 hr hg hl⟩

/-- Ahead of each node of the loop that makes them. -/
structure Loop1 (W : World) (p m n i : Nat) (u4 u5 : Value) (w : World) : Prop where
  st : ∃ L ids N, StE W p m u4 u5 L ids N w ∧ NumOf L ids N ∧ ids.length ≤ i ∧ (∀ x ∈ N, x.Ok)
  le : i ≤ n
  le100 : i ≤ 100

theorem loop1_start {W w : World} {n : Nat} (S : StoreAt W.heap.size w (W.heap.size + 1) W.heap.size (.slice none 0 0) []) (hb : Below W.heap.size W w) : Loop1 W (W.heap.size + 1) W.heap.size n 0 (.slice none 0 0) (.slice none 0 0) w :=
  ⟨⟨[], [], [], ⟨_, S, World.ownsRow_nil _ _ _ _, World.ownsRow_nil _ _ _ _, fun g e => by simp [Value.ownBlock] at e, fun g e => by simp [Value.ownBlock] at e, hb⟩, ⟨rfl, fun j a x h => by simp at h⟩, Nat.le_refl _, by simp⟩, Nat.zero_le _, Nat.zero_le _⟩

end Tm
end Go.Proofs.YtjinjddcnjcffaaGreatDoor

namespace Go.Proofs.YtjinjddcnjcffaaGreatDoor
open Go.RowKit Go.Maps Bv
namespace Tm
set_option maxHeartbeats 400000
set_option maxRecDepth 100000

theorem rfoot_lt {B : Nat} {w : World} {q : Nat} {rv : Value} {L : List Nd} (S : RefAt B w q rv L) {i : Nat} (h : rfoot q rv i) : B ≤ i ∧ i < w.heap.size := by
  rcases h with c | c
  · subst c; exact ⟨S.bp, S.lt⟩
  · exact S.row.lt i c

/-- Both stores, no block shared; what was there before the call is as it was. -/
structure Two (W : World) (p m q : Nat) (sv rv : Value) (L1 L2 : List Nd) (w : World) : Prop where
  s : StoreAt W.heap.size w p m sv L1
  r : RefAt W.heap.size w q rv L2
  ap : ∀ g, rfoot q rv g → ¬ foot p m sv g
  b : Below W.heap.size W w
def TwoE (W : World) (p m q : Nat) (L1 L2 : List Nd) (w : World) : Prop := ∃ sv rv, Two W p m q sv rv L1 L2 w

theorem Two.smake {W w w' : World} {p m q : Nat} {sv rv v : Value} {L1 L2 L' : List Nd} (h : Two W p m q sv rv L1 L2 w) (S' : StoreAt W.heap.size w' p m v L') (K : Kept (foot p m sv) w w') (loc : v.ownBlock = sv.ownBlock ∨ ∃ g, w.heap.size ≤ g ∧ v.ownBlock = some g) :
    Two W p m q v rv L' L2 w' := by
  refine ⟨S', h.r.kept K (fun i hi c => h.ap i hi c), fun g hg c => ?_, h.b.trans (K.below (fun i hi c => by have := (foot_lt h.s c).1; omega) h.b.size)⟩
  rcases c with c | c | c
  · exact h.ap g hg (.inl c)
  · exact h.ap g hg (.inr (.inl c))
  · rcases loc with l | ⟨g2, hg2, l⟩
    · rw [l] at c; exact h.ap g hg (.inr (.inr c))
    · rw [l] at c
      have := (rfoot_lt h.r hg).2
      simp at c
      omega
theorem Two.rmake {W w w' : World} {p m q : Nat} {sv rv v : Value} {L1 L2 L' : List Nd} (h : Two W p m q sv rv L1 L2 w) (S' : RefAt W.heap.size w' q v L') (K : Kept (rfoot q rv) w w') (loc : v.ownBlock = rv.ownBlock ∨ ∃ g, w.heap.size ≤ g ∧ v.ownBlock = some g) :
    Two W p m q sv v L1 L' w' := by
  refine ⟨h.s.kept K (fun i hi c => h.ap i c hi), S', fun g hg c => ?_, h.b.trans (K.below (fun i hi c => by have := (rfoot_lt h.r c).1; omega) h.b.size)⟩
  rcases hg with d | d
  · exact h.ap g (.inl d) c
  · rcases loc with l | ⟨g2, hg2, l⟩
    · rw [l] at d; exact h.ap g (.inr d) c
    · rw [l] at d
      have := (foot_lt h.s c).2
      simp at d
      omega
theorem Two.call {W w w' : World} {p m q : Nat} {sv rv : Value} {L1 L2 : List Nd} (h : Two W p m q sv rv L1 L2 w) (k : Below w.heap.size w w') : Two W p m q sv rv L1 L2 w' :=
  ⟨h.s.call k, h.r.call k, h.ap, h.b.trans (k.mono h.b.size)⟩
theorem TwoE.call {W w w' : World} {p m q : Nat} {L1 L2 : List Nd} (h : TwoE W p m q L1 L2 w) (k : Below w.heap.size w w') : TwoE W p m q L1 L2 w' := by obtain ⟨sv, rv, s⟩ := h; exact ⟨sv, rv, s.call k⟩
theorem TwoE.b {W w : World} {p m q : Nat} {L1 L2 : List Nd} (h : TwoE W p m q L1 L2 w) : Below W.heap.size W w := by obtain ⟨sv, rv, s⟩ := h; exact s.b
theorem TwoE.good {W w : World} {p m q : Nat} {L1 L2 : List Nd} (h : TwoE W p m q L1 L2 w) : Gd L1 := by obtain ⟨sv, rv, s⟩ := h; exact s.s.good

/-- A call that has made the node x in the program's store. -/
theorem two_made {W w : World} {p m q : Nat} {L1 L2 : List Nd} {x : Nd} {f : FuncId} {args : Array Value} {a er : Nat} (h : TwoE W p m q L1 L2 w) (hc : ∀ sv, StoreAt W.heap.size w p m sv L1 → W.heap.size ≤ w.heap.size → Calls Tryz.prog f args w (Made W.heap.size p m sv L1 x w)) (ha : (mk L1 x).2.1 = a) (he : (mk L1 x).2.2 = er) :
    Calls Tryz.prog f args w fun e w' => e = .returned (.tuple #[.int .i64 ((a : Nat) : Int), .int .i64 ((er : Nat) : Int)]) ∧ TwoE W p m q (mk L1 x).1 L2 w' := by
  obtain ⟨sv, rv, s⟩ := h
  subst ha; subst he
  refine (hc sv s.s s.b.size).mono ?_
  rintro e w' ⟨rfl, v, S', K, loc⟩
  exact ⟨rfl, v, rv, s.smake S' K loc⟩
theorem two_make {W w : World} {p m q : Nat} {L1 L2 : List Nd} {x : Nd} (h : TwoE W p m q L1 L2 w) (hx : x.Ok) (a er : Nat) (ha : (mk L1 x).2.1 = a) (he : (mk L1 x).2.2 = er) :
    Calls Tryz.prog 14 #[.pointer (some ⟨p, 0, none⟩), x.val] w fun e w' => e = .returned (.tuple #[.int .i64 ((a : Nat) : Int), .int .i64 ((er : Nat) : Int)]) ∧ TwoE W p m q (mk L1 x).1 L2 w' :=
  two_made h (fun _ S hB => make_any S hB hx) ha he
theorem two_rmake {W w : World} {p m q : Nat} {L1 L2 : List Nd} {x : Nd} (h : TwoE W p m q L1 L2 w) (hx : x.Ok) (a er : Nat) (ha : (mk L2 x).2.1 = a) (he : (mk L2 x).2.2 = er) :
    Calls Tryz.prog 15 #[.pointer (some ⟨q, 0, none⟩), x.val] w fun e w' => e = .returned (.tuple #[.int .i64 ((a : Nat) : Int), .int .i64 ((er : Nat) : Int)]) ∧ TwoE W p m q L1 (mk L2 x).1 w' := by
  obtain ⟨sv, rv, s⟩ := h
  subst ha; subst he
  refine (rmake_any s.r s.b.size hx).mono ?_
  rintro e w' ⟨rfl, v, S', K, loc⟩
  exact ⟨rfl, sv, v, s.rmake S' K loc⟩

/-! ### the widths and numbers that TermWays asks of the document's -/
def wd6 (w : Int) : Nat := if 0 ≤ w ∧ w ≤ 64 then w.toNat else 0
def nm6 (n : Int) : Nat := if 0 ≤ n then n.toNat else 256
theorem mk_refuse {L : List Nd} {x : Nd} (h : mayN L x = false) : mk L x = (L, 0, 2) := by unfold mk; rw [if_pos h]
theorem may_wide {L : List Nd} {x : Nd} (h : ¬ (1 ≤ x.w ∧ x.w ≤ 64)) : mayN L x = false := by
  cases hm : mayN L x with
  | false => rfl
  | true => exact absurd (mayN_w hm) h
theorem ways_const (L : List Nd) (w : Int) (c : Nat) : mk L (cnd w c) = mk L ⟨1, wd6 w, 0, 0, 0, c, 0⟩ := by
  by_cases h : 0 ≤ w ∧ w ≤ 64
  · have : nar w = wd6 w := by unfold nar wd6; rw [if_pos (by omega), if_pos h]
    unfold cnd
    rw [this]
  · rw [mk_refuse (may_wide (x := ⟨1, wd6 w, 0, 0, 0, c, 0⟩) (by show ¬ (1 ≤ wd6 w ∧ wd6 w ≤ 64); unfold wd6; rw [if_neg h]; omega)),
      mk_refuse (may_wide (x := cnd w c) (by show ¬ (1 ≤ nar w ∧ nar w ≤ 64); unfold nar; split <;> omega))]
theorem may_far {L : List Nd} {x : Nd} (ho : x.o = 2) (h : 256 ≤ x.n) : mayN L x = false := by
  cases hm : mayN L x with
  | false => rfl
  | true => have := mayN_var hm ho; omega
theorem ways_var (L : List Nd) (w n : Int) (hn : I64 n) : mk L (vnd w n) = mk L ⟨2, wd6 w, 0, 0, 0, nm6 n, 0⟩ := by
  by_cases hz : 0 ≤ n
  · have hu : u64 n = nm6 n := by
      unfold u64 nm6; rw [if_pos hz, IntKind.wrap_u64]
      unfold I64 at hn
      omega
    by_cases h : 0 ≤ w ∧ w ≤ 64
    · have : nar w = wd6 w := by unfold nar wd6; rw [if_pos (by omega), if_pos h]
      unfold vnd
      rw [this, hu]
    · rw [mk_refuse (may_wide (x := ⟨2, wd6 w, 0, 0, 0, nm6 n, 0⟩) (by show ¬ (1 ≤ wd6 w ∧ wd6 w ≤ 64); unfold wd6; rw [if_neg h]; omega)),
        mk_refuse (may_wide (x := vnd w n) (by show ¬ (1 ≤ nar w ∧ nar w ≤ 64); unfold nar; split <;> omega))]
  · have hu : 256 ≤ u64 n := by
      unfold u64; rw [IntKind.wrap_u64]
      unfold I64 at hn
      omega
    rw [mk_refuse (may_far (x := ⟨2, wd6 w, 0, 0, 0, nm6 n, 0⟩) rfl (by show 256 ≤ nm6 n; unfold nm6; rw [if_neg hz]; exact Nat.le_refl _)),
      mk_refuse (may_far (x := vnd w n) rfl hu)]

/-- Ahead of each node of the loop that makes them in both. -/
structure Loop2 (W : World) (p m q n k i : Nat) (w : World) : Prop where
  st : ∃ L, TwoE W p m q L L w
  le : i ≤ n
  lek : i ≤ k

/-! ### the document's store as it begins -/
theorem rzero_is : Tryz.zeroCells37 = #[.slice none 0 0] ++ Array.replicate 256 (.int .u8 0) := by kernel_rfl
theorem ref_store (w : World) : RefAt w.heap.size (w.alloc (.cells Tryz.zeroCells37 37)) w.heap.size (.slice none 0 0) [] := by
  have hh := (MapKept.heap_alloc w (.cells Tryz.zeroCells37 37)).1
  have hz : ∀ j, Tryz.zeroCells37[j]? = if j = 0 then some (.slice none 0 0) else if j < 257 then some (.int .u8 0) else none := by
    intro j
    rw [rzero_is, Array.getElem?_append]
    by_cases h0 : j = 0
    · subst h0; simp
    · rw [if_neg (by simp; omega), if_neg h0, Array.getElem?_replicate]
      simp only [List.size_toArray, List.length_cons, List.length_nil]
      by_cases hj : j < 257
      · rw [if_pos (by omega), if_pos hj]
      · rw [if_neg (by omega), if_neg hj]
  generalize Tryz.zeroCells37 = C at hh hz ⊢
  have hs : (w.alloc (.cells C 37)).heap.size = w.heap.size + 1 := by simp
  generalize (w.alloc (.cells C 37)) = W2 at hh hs ⊢
  have hc : ∀ j, W2.cell? ⟨w.heap.size, j, none⟩ = C[j]? := by
    intro j
    unfold World.cell?
    rw [hh]
    rfl
  refine ⟨Nat.le_refl _, by omega, ?_, ?_, ?_, World.ownsRow_nil _ _ _ _, by simp [Value.ownBlock], gd_nil⟩
  · rw [hc, hz]; rfl
  · intro v hv
    rw [hc, hz, if_neg (by omega), if_pos (by omega)]
    rfl
  · intro o
    unfold World.frozen?
    rw [hh]
    simp

theorem two_start {W v : World} (S : StoreAt W.heap.size v (W.heap.size + 1) W.heap.size (.slice none 0 0) []) (hb : Below W.heap.size W v) : TwoE W (W.heap.size + 1) W.heap.size v.heap.size [] [] (v.alloc (.cells Tryz.zeroCells37 37)) := by
  have R := ref_store v
  refine ⟨_, _, S.alloc _, ⟨?_, R.lt, R.c0, R.cw, R.fr, World.ownsRow_nil _ _ _ _, R.gp, gd_nil⟩, fun g hg c => ?_, bel_alloc hb _⟩
  · have := S.lt; omega
  · have h1 := (foot_lt S c).2
    rcases hg with d | d
    · omega
    · simp [Value.ownBlock] at d

end Tm
end Go.Proofs.YtjinjddcnjcffaaGreatDoor

namespace Go.Proofs.YtjinjddcnjcffaaGreatDoor
open Go.RowKit Go.Maps Bv
namespace Tm
set_option maxHeartbeats 1000000
set_option maxRecDepth 100000

theorem mk_len_le (L : List Nd) (x : Nd) : (mk L x).1.length ≤ L.length + 1 := by
  unfold mk
  (repeat' split) <;> simp

/-- Ahead of each node. -/
structure LoopM (W : World) (p m q n k i : Nat) (w : World) : Prop where
  st : ∃ L, TwoE W p m q L L w ∧ MayL L ∧ L.length ≤ i
  le : i ≤ n
  lek : i ≤ k

theorem made_any {W : World} {al : Option Addr} {X : List Nd} {cl n : Nat} (hX : ArgAt W al X) (hok : ∀ x ∈ X, x.Ok) (hn : n = X.length) :
    Calls Tryz.prog 5 #[.slice al n cl] W fun e W' => ∃ (q : Nat) (L : List Nd), e = .returned (.tuple #[.pointer (some ⟨W.heap.size + 1, 0, none⟩), .pointer (some ⟨q, 0, none⟩)]) ∧ TwoE W (W.heap.size + 1) W.heap.size q L L W' ∧ MayL L ∧ L.length ≤ 60 := by
  have HX := Lib.hid hX
  have HOK := Lib.hid hok
  have HN := Lib.hid hn
  clear hX hok hn
  go_enter Tryz.func5, Tryz.ntmps5
  go_wp2_with (go_at_call 13; refine (new_at W).mono ?_; rintro e v0 ⟨rfl, S0, hb0⟩)
  have HT0 := Lib.hid (two_start S0 hb0)
  clear S0 hb0
  obtain ⟨qq, hqq⟩ : ∃ qq, v0.heap.size = qq := ⟨_, rfl⟩
  rw [hqq] at HT0
  simp only [hqq]
  go_loopg [6] (min n 60) (fun gk u6 wr => ∃ i : Nat, u6 = .int .i64 ((i : Nat) : Int) ∧ i + gk = min n 60 ∧ LoopM W (W.heap.size + 1) W.heap.size qq n 60 i wr)
  case atStart => exact ⟨0, rfl, by omega, ⟨_, HT0.out, mayL_nil, Nat.le_refl _⟩, Nat.zero_le _, Nat.zero_le _⟩
  case round =>
    obtain ⟨i, rfl, hgk, ⟨⟨L, hst, hmay, hll⟩, hle, hlek⟩⟩ := hrel
    clear HT0 hqq
    have HMAY := Lib.hid hmay
    have HLL := Lib.hid (And.intro hll hlek)
    clear hll
    by_cases hin : i < n ∧ i < 60
    case pos =>
      obtain ⟨x, hx⟩ : ∃ x, X[i]? = some x := ⟨_, List.getElem?_eq_getElem (by rw [← HN.out]; exact hin.1)⟩
      obtain ⟨bl, ol, rfl, lbl, hcell⟩ := HX.out.at' hx
      have hxok := HOK.out x (List.mem_of_getElem? hx)
      have hb := hst.b
      obtain ⟨f0, f1, f2, f3, f4, f5, f6⟩ := cells_far (hcell wr hb)
      have q1 : ((i : Nat) : Int) < ((n : Nat) : Int) := by omega
      have q2 : ((i : Nat) : Int) < 60 := by omega
      have q0 : (0 : Int) ≤ ((i : Nat) : Int) := by omega
      have r1 : IntKind.i64.wrap (((i : Nat) : Int) + 1) = (((i + 1 : Nat) : Nat) : Int) := by rw [IntKind.wrap_i64]; omega
      have r2 : wrap64 (((i : Nat) : Int) + 1) = (((i + 1 : Nat) : Nat) : Int) := by unfold wrap64; rw [← IntKind.wrap_i64]; exact r1
      have HR2 := Lib.hid r2
      obtain ⟨a, ha⟩ : ∃ a, (mk L x).2.1 = a := ⟨_, rfl⟩
      obtain ⟨er, he⟩ : ∃ er, (mk L x).2.2 = er := ⟨_, rfl⟩
      have HM := Lib.hid (two_make hst hxok a er ha he)
      have HM2 := Lib.hid (fun w1 (h : TwoE W (W.heap.size + 1) W.heap.size qq (mk L x).1 L w1) => two_rmake h hxok a er ha he)
      unfold Nd.val at HM HM2
      have HC := Lib.hid hcell
      have HGK := Lib.hid (And.intro hgk hin)
      clear hst hgk hle hlek hx hcell hxok ha he r1 r2 hb hin hmay
      go_wp2_with (first | (go_at_call 14; refine HM.out.mono ?_; rintro e w1 ⟨rfl, hs1⟩; obtain ⟨g0, g1, g2, g3, g4, g5, g6⟩ := cells_far (HC.out w1 hs1.b); have HS1 := Lib.hid hs1; clear hs1) | (go_at_call 15; refine (HM2.out _ HS1.out).mono ?_; rintro e w2 ⟨rfl, hs2⟩; have HS2 := Lib.hid hs2; clear hs2))
      go_roundg (gk - 1)
      case measure => have := HGK.out; omega
      case rel => exact ⟨i + 1, by first | rfl | (rw [HR2.out]) | (congr 1; exact HR2.out), by have := HGK.out; omega, ⟨_, HS2.out, mayL_step HMAY.out x, Nat.le_trans (mk_len_le L x) (Nat.succ_le_succ HLL.out.1)⟩, by have := HGK.out; omega, by have := HGK.out; omega⟩
    case neg =>
      have ex : (n ≤ i) ∨ (i < n ∧ (60 : Int) ≤ ((i : Nat) : Int)) := by omega
      have HST := Lib.hid hst
      clear hin hgk hle hlek hst hmay
      rcases ex with ex | ⟨ex1, ex2⟩
      all_goals
        go_wp2_with fail
        refine bodyPost_ret (v := .tuple #[.pointer (some ⟨W.heap.size + 1, 0, none⟩), .pointer (some ⟨qq, 0, none⟩)]) (by simp [results, Tryz.results5, go_sem]) rfl ?_
        exact ⟨qq, L, rfl, HST.out, HMAY.out, Nat.le_trans HLL.out.1 HLL.out.2⟩
end Tm
end Go.Proofs.YtjinjddcnjcffaaGreatDoor

namespace Go.Proofs.YtjinjddcnjcffaaGreatDoor
open Go.ChangeShapes Go.WideShapes Go.ChangeAt Go.RowKit Go.Joins Bv
namespace Tm
set_option maxHeartbeats 400000
set_option maxRecDepth 100000

theorem ownk : ownKnob Tryz.prog.godebug = none := by kernel_rfl

section
variable {H : Type} {enc : TypeId × Value → H} {P : Program}
/-- The row's last step, where the arguments hold no memory and the call has made new blocks alone. -/
theorem post_new {f : Func} {s : ChangeSpec} {W W' : World} {args : Array Value} {v : Value} {ds : List (DataW H)}
    (hW : DataW.Whole enc P f.params.toList s.vars false W args.toList ds [] [])
    (hres : ∀ (b : Nat) (sp : Nat → Bool) (hd : Bool), DataW.TrodAll enc P W' b sp hd f.resultTypes.toList (v.resultList f.resultTypes.size) (s.fn H (ds ++ [])).results [])
    (hargs : ∀ sp : Nat → Bool, DataW.TrodAll enc P W' 0 sp true f.params.toList args.toList (s.fn H (ds ++ [])).args [])
    (hvars : ∀ sp : Nat → Bool, DataW.TrodVars enc P W' sp s.vars (s.fn H (ds ++ [])).vars []) (hb : Below W.heap.size W W') :
    s.post enc P f false true false false W args v W' :=
  ⟨ds, [], [], [], [], [], hW, hres _ _ _, hargs _, hvars _, hb.frame _, fun h => by cases h⟩
end

section
variable {H : Type} {enc : TypeId × Value → H}

def Nd.datum {H : Type} (x : Nd) : DataW H := .agg [.lit (.int .u8 x.o), .lit (.int .u8 x.w), .agg [.lit (.int .i64 x.k0), .lit (.int .i64 x.k1), .lit (.int .i64 x.k2)], .lit (.int .u64 x.n), .lit (.int .u8 x.l)]

theorem nd_reads (x : Nd) (hx : x.Ok) (W : World) (base : Nat) (sp : Nat → Bool) (hd : Bool) (n : Nat) : DataW.trod enc Tryz.prog W base sp hd (n + 3) 48 x.cells.toList = some (x.datum, []) := by
  have a0 := wf_u8 hx.o
  have a1 := wf_u8 hx.w
  have a2 := wf_i64 hx.k0
  have a3 := wf_i64 hx.k1
  have a4 := wf_i64 hx.k2
  have a5 := wf_u64 hx.n
  have a6 := wf_u8 hx.l
  simp [DataW.trod, Tryz.underlying48, Tryz.underlying45, Tryz.underlying23, Tryz.underlying5, Tryz.underlying3, Tryz.underlying46, cells_nd, cells_kids, cells_op, cells_u8, cells_int, cells_u64,
    Nd.cells, Nd.datum, List.range, List.range.loop, a0, a1, a2, a3, a4, a5, a6]

theorem u8_of {a : Int} (h : (Lit.int .u8 a).wf = true) : ∃ n : Nat, a = (n : Int) ∧ n ≤ 255 := by
  simp only [Lit.wf, IntKind.min, IntKind.max, IntKind.signed, IntKind.bits, Bool.and_eq_true] at h
  obtain ⟨n, rfl⟩ := Int.eq_ofNat_of_zero_le (a := a) (by simpa using h.1)
  exact ⟨n, rfl, by have := h.2; simp at this; omega⟩
theorem u64_of {a : Int} (h : (Lit.int .u64 a).wf = true) : ∃ n : Nat, a = (n : Int) ∧ n < 18446744073709551616 := by
  simp only [Lit.wf, IntKind.min, IntKind.max, IntKind.signed, IntKind.bits, Bool.and_eq_true] at h
  obtain ⟨n, rfl⟩ := Int.eq_ofNat_of_zero_le (a := a) (by simpa using h.1)
  exact ⟨n, rfl, by have := h.2; simp at this; omega⟩
theorem i64_of {a : Int} (h : (Lit.int .i64 a).wf = true) : I64 a := by
  simp only [Lit.wf, IntKind.min, IntKind.max, IntKind.signed, IntKind.bits, Bool.and_eq_true] at h
  have h1 := h.1
  have h2 := h.2
  simp at h1 h2
  exact ⟨by omega, by omega⟩

theorem nd_open {W : World} {base : Nat} {sp : Nat → Bool} {hd : Bool} {fuel : Nat} {cs : List Value} {y : DataW H × List MemPlace} (h : DataW.trod enc Tryz.prog W base sp hd fuel 48 cs = some y) :
    ∃ x : Nd, x.Ok ∧ cs = x.cells.toList ∧ y = (x.datum, []) := by
  obtain ⟨xs, n, _, rfl, hl, hlen, hf⟩ := DataW.trod_struct Tryz.underlying48 h
  rw [cells_nd] at hl
  match cs, hl with
  | [c0, c1, c2, c3, c4, c5, c6], _ =>
  match xs, hlen with
  | [y0, y1, y2, y3, y4], _ =>
  have h0 := hf 0 _ rfl
  have h1 := hf 1 _ rfl
  have h2 := hf 2 _ rfl
  have h3 := hf 3 _ rfl
  have h4 := hf 4 _ rfl
  simp [cells_op, cells_u8, cells_kids, cells_u64] at h0 h1 h2 h3 h4
  obtain ⟨a0, e0, z0, w0⟩ := DataW.trod_int Tryz.underlying23 h0
  obtain ⟨a1, e1, z1, w1⟩ := DataW.trod_int Tryz.underlying5 h1
  obtain ⟨t0, t1, t2, n2, z2, k0, k1, k2⟩ := trod_array3 Tryz.underlying45 cells_int h2
  obtain ⟨b0, f0, v0, u0⟩ := DataW.trod_int Tryz.underlying3 k0
  obtain ⟨b1, f1, v1, u1⟩ := DataW.trod_int Tryz.underlying3 k1
  obtain ⟨b2, f2, v2, u2⟩ := DataW.trod_int Tryz.underlying3 k2
  obtain ⟨a3, e3, z3, w3⟩ := DataW.trod_int Tryz.underlying46 h3
  obtain ⟨a4, e4, z4, w4⟩ := DataW.trod_int Tryz.underlying5 h4
  simp only [List.cons.injEq, and_true] at e0 e1 f0 f1 f2 e3 e4
  subst e0 e1 f0 f1 f2 e3 e4
  subst v0 v1 v2
  subst z0 z1 z2 z3 z4
  obtain ⟨o, rfl, ho⟩ := u8_of w0
  obtain ⟨w, rfl, hw⟩ := u8_of w1
  obtain ⟨m, rfl, hm⟩ := u64_of w3
  obtain ⟨l, rfl, hl⟩ := u8_of w4
  exact ⟨⟨o, w, b0, b1, b2, m, l⟩, ⟨ho, hw, i64_of u0, i64_of u1, i64_of u2, hm, hl⟩, rfl, rfl⟩

/-- A node by value. -/
theorem open_nd {W : World} {base b0 : Nat} {spare : Nat → Bool} {held : Bool} {r : Go.Reach} {v : Value} {d : DataW H} {p : List MemPlace}
    (hv : Value.okWide Tryz.prog W r b0 48 v) (h : DataW.Trod enc Tryz.prog W base spare held 48 v d p) :
    ∃ x : Nd, x.Ok ∧ v = x.val ∧ p = [] ∧ ∀ (W' : World) (b : Nat) (sp : Nat → Bool) (hd : Bool), DataW.Trod enc Tryz.prog W' b sp hd 48 x.val d [] := by
  obtain ⟨cs, rfl, _⟩ := okWide_struct Tryz.underlying48 hv
  obtain ⟨fuel, hf⟩ := h
  obtain ⟨x, hx, hc, hy⟩ := nd_open hf
  simp only [Prod.mk.injEq] at hy
  obtain ⟨rfl, rfl⟩ := hy
  refine ⟨x, hx, ?_, rfl, fun W' b sp hd => ⟨3, nd_reads x hx W' b sp hd 0⟩⟩
  have : cs = x.cells := by
    simp only [Value.cells] at hc
    exact Array.toList_inj.1 hc
  rw [this]
  rfl
end
end Tm
end Go.Proofs.YtjinjddcnjcffaaGreatDoor

namespace Go.Proofs.YtjinjddcnjcffaaGreatDoor
open Go.ChangeShapes Go.WideShapes Go.ChangeAt Go.RowKit Go.Joins Bv
namespace Tm
set_option maxHeartbeats 400000

/-- A list of nodes handed in. -/
theorem open_nodes {H : Type} {enc : TypeId × Value → H} {W : World} {al : Option Addr} {len cap : Nat} {d : DataW H} {ps : List MemPlace} (h : DataW.Trod enc Tryz.prog W 0 (fun _ => true) true 22 (.slice al len cap) d ps) :
    ∃ X : List Nd, len = X.length ∧ (∀ x ∈ X, x.Ok) ∧ ArgAt W al X := by
  obtain ⟨fuel, hf⟩ := h
  rcases Go.Deep.open_slice Tryz.underlying22 hf with ⟨hcs, _⟩ | ⟨a, len', cap', m, n, D, Pl, hcs, _, hl, _, hm, _, hall⟩
  · simp [Value.cells] at hcs
    obtain ⟨_, rfl, _⟩ := hcs
    exact ⟨[], rfl, by simp, .inl rfl⟩
  · simp [Value.cells] at hcs
    obtain ⟨rfl, rfl, rfl⟩ := hcs
    simp only [if_true] at hm
    have hex : ∀ i : Nat, ∃ x : Nd, i < m → x.Ok ∧ W.cells? 0 (a.add (i * 7)) 7 = some x.cells.toList := by
      intro i
      by_cases hi : i < m
      · obtain ⟨cs', h1, h2⟩ := hall i hi
        obtain ⟨x, hx, rfl, _⟩ := nd_open h2
        rw [cells_nd] at h1
        exact ⟨x, fun _ => ⟨hx, h1⟩⟩
      · exact ⟨⟨0, 0, 0, 0, 0, 0, 0⟩, fun c => absurd c hi⟩
    obtain ⟨f, hfx⟩ := Classical.axiomOfChoice hex
    refine ⟨(List.range len).map f, by simp, ?_, ?_⟩
    · intro x hx
      obtain ⟨i, hi, rfl⟩ := List.mem_map.1 hx
      exact (hfx i (by have := List.mem_range.1 hi; omega)).1
    · by_cases h0 : len = 0
      · left; subst h0; rfl
      · right
        obtain ⟨bl, ol, sp⟩ := a
        have hcell : ∀ i, i < len → ∀ j u, (f i).cells.toList[j]? = some u → W.cell? (((⟨bl, ol, sp⟩ : Addr).add (i * 7)).add j) = some u := by
          intro i hi j u hj
          have hc := (hfx i (by omega)).2
          obtain ⟨_, hc1, hc2⟩ := World.cells?_some hc
          have hj7 : j < 7 := by have := (List.getElem?_eq_some_iff.1 hj).1; simpa [Nd.cells] using this
          have := hc2 j hj7
          rw [this, hj]
        have c0 := hcell 0 (by omega) 0 _ rfl
        simp only [Nat.zero_mul, Addr.add, if_true] at c0
        have hs : sp = none := by simpa using World.cell?_spot c0
        subst hs
        refine ⟨bl, ol, rfl, World.block_lt_of_cell? W _ c0, ?_⟩
        intro i x hx j u hj
        have hi : i < len := by have := (List.getElem?_eq_some_iff.1 hx).1; simpa using this
        have hx' : x = f i := by simp [hi] at hx; exact hx.symm
        subst hx'
        have := hcell i hi j u hj
        have e : ((⟨bl, ol, none⟩ : Addr).add (i * 7)).add j = ⟨bl, ol + i * 7 + j, none⟩ := by
          unfold Addr.add
          split <;> split <;> simp_all
        rw [e] at this
        exact this

theorem laid : laidOutB Tryz.prog = true := by kernel_rfl

end Tm
end Go.Proofs.YtjinjddcnjcffaaGreatDoor

namespace Go.Proofs.YtjinjddcnjcffaaGreatDoor
open Go.RowKit Go.Maps Bv Tm
namespace Tx
set_option maxHeartbeats 3200000
set_option maxRecDepth 100000

theorem rkids_all {L : List Nd} (hm : MayL L) (hL : L.length ≤ 60) {B p : Nat} {rv : Value} : ∀ k, k ≤ L.length → RKids L k B p 1000000 rv
  | 0, _ => fun j hj => by omega
  | k + 1, hk => by
    have ih := rkids_all hm hL (B := B) (p := p) (rv := rv) k (by omega)
    intro j hj acc u S hE hl
    by_cases hjk : j < k
    · exact ih j hjk acc u S hE hl
    obtain rfl : j = k := by omega
    obtain ⟨x, hx⟩ : ∃ x, L[j]? = some x := ⟨_, List.getElem?_eq_getElem (by omega)⟩
    have hop := mayN_op (hm j x hx)
    obtain ⟨o, w, k0, k1, k2, n, l⟩ := x
    simp only at hop
    by_cases h1 : o = 1
    · subst h1
      exact rput_const S hE hx (by omega)
    by_cases h2 : o = 2
    · subst h2
      exact rput_var S hE hx (by omega)
    by_cases h22 : o = 22
    · exact rput_low h22 ih S hE hx hl (by omega) (by omega)
    by_cases h23 : o = 23
    · exact rput_ext23 h23 ih S hE hx hl (by omega) (by omega)
    by_cases h24 : o = 24
    · exact rput_ext24 h24 ih S hE hx hl (by omega) (by omega)
    exact rput_plain ⟨by omega, by omega, h22, h23, h24⟩ ih S hE hx hl (by omega) (by omega)

theorem rputs_yes {B p k : Nat} {rv : Value} {L : List Nd} {W : World} (S : RefAt B W p rv L) (hm : MayL L) (hL : L.length ≤ 60) (hE : EnvAt (fun i => W.heap.size ≤ i) W) (hk : k < L.length) :
    Calls Tryz.prog 7 #[.pointer (some ⟨p, 0, none⟩), .int .i64 ((k : Nat) : Int)] W fun e W' => e = .returned (putR L k) ∧ Below W.heap.size W W' := by
  have hput := rkids_all hm hL (B := B) (p := p) (rv := rv) L.length (Nat.le_refl _) k hk [] W S hE (by simp; omega)
  rw [List.nil_append] at hput
  obtain ⟨va, vc, rfl⟩ := S.shape
  have s0 := S.c0
  have lpr := S.lt
  have q0 : (0 : Int) ≤ ((k : Nat) : Int) := by omega
  have q0' : ¬ ((k : Nat) : Int) < 0 := by omega
  have q1 : ¬ ((L.length : Nat) : Int) ≤ ((k : Nat) : Int) := by omega
  unfold putR
  generalize txt L k = t at hput ⊢
  clear S hE hk hm hL
  by_cases ht : t.length ≤ 10000
  · rw [if_pos ht]
    have HP : Hid (Calls Tryz.prog 19 #[.pointer (some ⟨p, 0, none⟩), .int .i64 ((k : Nat) : Int), .string ⟨#[]⟩] W fun e v => e = .returned (.tuple #[.string ⟨t.toArray⟩, .bool true]) ∧ Below W.heap.size W v) := by
      refine Lib.hid (hput.mono ?_)
      rintro e v ⟨hb, ⟨_, rfl⟩ | ⟨h, _⟩⟩
      · exact ⟨rfl, hb⟩
      · omega
    clear hput ht
    go_enter Tryz.func7, Tryz.ntmps7
    go_wp2_with (go_at_call 19; refine HP.out.mono ?_; rintro e w1 ⟨rfl, hb1⟩; have HB1 := Lib.hid hb1; clear hb1)
    exact bodyPost_ret (v := .tuple #[.string ⟨t.toArray⟩, .int .i64 0]) (by simp [results, Tryz.results7, go_sem]) rfl ⟨rfl, HB1.out⟩
  · rw [if_neg ht]
    have HP : Hid (Calls Tryz.prog 19 #[.pointer (some ⟨p, 0, none⟩), .int .i64 ((k : Nat) : Int), .string ⟨#[]⟩] W fun e v => ∃ s, e = .returned (.tuple #[.string s, .bool false]) ∧ Below W.heap.size W v) := by
      refine Lib.hid (hput.mono ?_)
      rintro e v ⟨hb, ⟨h, _⟩ | ⟨_, s, rfl⟩⟩
      · omega
      · exact ⟨s, rfl, hb⟩
    clear hput ht
    go_enter Tryz.func7, Tryz.ntmps7
    go_wp2_with (go_at_call 19; refine HP.out.mono ?_; rintro e w1 ⟨s1, rfl, hb1⟩; have HB1 := Lib.hid hb1; clear hb1)
    exact bodyPost_ret (v := .tuple #[.string ⟨#[]⟩, .int .i64 3]) (by simp [results, Tryz.results7, go_sem]) rfl ⟨rfl, HB1.out⟩

theorem rputs_no {B p : Nat} {k : Int} {rv : Value} {L : List Nd} {W : World} (S : RefAt B W p rv L) (hi : inB L k = false) :
    Calls Tryz.prog 7 #[.pointer (some ⟨p, 0, none⟩), .int .i64 k] W fun e W' => e = .returned (.tuple #[.string ⟨#[]⟩, .int .i64 2]) ∧ Below W.heap.size W W' := by
  obtain ⟨va, vc, rfl⟩ := S.shape
  have s0 := S.c0
  have lpr := S.lt
  have hk : k < 0 ∨ (¬ k < 0 ∧ ((L.length : Nat) : Int) ≤ k) := by
    unfold inB at hi
    simp at hi
    omega
  clear S hi
  rcases hk with q0 | ⟨q0, q1⟩
  all_goals
    go_enter Tryz.func7, Tryz.ntmps7
    go_wp2_with fail
    exact bodyPost_ret (v := .tuple #[.string ⟨#[]⟩, .int .i64 2]) (by simp [results, Tryz.results7, go_sem]) rfl ⟨rfl, by first | exact Below.refl _ _ | exact (Below.refl _ _).drew⟩

/-- The two answer the same, and tell the same error. -/
theorem puts_two {p m q : Nat} {L : List Nd} {W w : World} (id : Int) (hT : TwoE W p m q L L w) (hM : MayL L) (hL : L.length ≤ 60) (hE : EnvAt (fun i => W.heap.size ≤ i) W) :
    ∃ (t : By) (er : Nat), Calls Tryz.prog 6 #[.pointer (some ⟨p, 0, none⟩), .int .i64 id] w (fun e w' => e = .returned (.tuple #[.string ⟨t.toArray⟩, .int .i64 ((er : Nat) : Int)]) ∧ Below w.heap.size w w') ∧
      ∀ v, Below w.heap.size w v → Calls Tryz.prog 7 #[.pointer (some ⟨q, 0, none⟩), .int .i64 id] v (fun e w' => e = .returned (.tuple #[.string ⟨t.toArray⟩, .int .i64 ((er : Nat) : Int)]) ∧ Below v.heap.size v w') := by
  have hb := hT.b
  have hE1 := env_at (B := 0) hE hb
  obtain ⟨sv, rv, T⟩ := hT
  by_cases hi : inB L id = true
  · obtain ⟨k, rfl, hk⟩ : ∃ k : Nat, id = ((k : Nat) : Int) ∧ k < L.length := by
      unfold inB at hi
      simp at hi
      exact ⟨id.toNat, by omega, by omega⟩
    have h1 := put_yes T.s hM hE1 hk
    have h2 := fun v (hv : Below w.heap.size w v) => rputs_yes (T.r.call hv) hM hL (env_at (B := 0) hE1 hv) hk
    unfold putR at h1 h2
    by_cases ht : (txt L k).length ≤ 10000
    · rw [if_pos ht] at h1
      refine ⟨_, 0, h1, fun v hv => ?_⟩
      have := h2 v hv
      rw [if_pos ht] at this
      exact this
    · rw [if_neg ht] at h1
      refine ⟨[], 3, h1, fun v hv => ?_⟩
      have := h2 v hv
      rw [if_neg ht] at this
      exact this
  · have hi : inB L id = false := by simpa using hi
    exact ⟨[], 2, put_err (er := 2) (by omega) (.inr ⟨p, rfl⟩) (fun v hv => node_no (T.s.call hv) hi), fun v hv => rputs_no (T.r.call hv) hi⟩

theorem puts_any {W : World} {al : Option Addr} {X : List Nd} {cl n o : Nat} (id : Int) (hX : ArgAt W al X) (hok : ∀ x ∈ X, x.Ok) (hn : n = X.length) (ho : o < 256) (hE : EnvAt (fun i => W.heap.size ≤ i) W) :
    Calls Tryz.prog 3 #[.slice al n cl, .int .i64 id, .int .u8 ((o : Nat) : Int)] W fun e W' => e = .returned (.bool true) ∧ Below W.heap.size W W' := by
  have HM := Lib.hid (made_any (cl := cl) hX hok hn)
  have HE := Lib.hid hE
  have HO := Lib.hid ho
  clear hX hok hn hE ho
  go_enter Tryz.func3, Tryz.ntmps3
  go_wp2_with (go_at_call 5; refine HM.out.mono ?_; rintro e w1 ⟨q, L, rfl, hT, hM, hL⟩; refine Hid.out ?_)
  refine Lib.hid ?_
  obtain ⟨t, er, h1, h2⟩ := puts_two id hT hM hL HE.out
  have H1 := Lib.hid h1
  have H2 := Lib.hid h2
  have HB := Lib.hid hT.b
  clear h1 h2 hT hM hL HM
  go_wp2_with (first
    | (go_at_call 6; refine H1.out.mono ?_; rintro e w2 ⟨rfl, hb2⟩; have HB2 := Lib.hid hb2; have HC2 := Lib.hid (bel_call HB.out hb2); clear hb2)
    | (go_at_call 7; refine (H2.out _ HB2.out).mono ?_; rintro e w3 ⟨rfl, hb3⟩; have HC3 := Lib.hid (bel_call HC2.out hb3); clear hb3)
    | (go_at_call 8; refine (name_any (o := o) (env_at (B := 0) HE.out HC3.out) (by have := HO.out; omega)).mono ?_; rintro e w4 ⟨rfl, rfl⟩)
    | (go_at_call 9; refine (rname_any (o := o) HO.out _).mono ?_; rintro e w5 ⟨rfl, hb5⟩; have HC5 := Lib.hid (bel_call HC3.out hb5); clear hb5)
    | (go_at_call 10; refine (works_any (env_at (B := 0) HE.out HC5.out)).mono ?_; rintro e w6 ⟨rfl, hb6⟩))
  go_ret
  exact ⟨rfl, bel_call HC5.out hb6⟩
end Tx
end Go.Proofs.YtjinjddcnjcffaaGreatDoor
