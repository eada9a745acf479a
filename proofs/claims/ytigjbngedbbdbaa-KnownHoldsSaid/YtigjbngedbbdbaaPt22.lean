/-
What is there behind each node that the statements' loops hand to Make; the argument, a list of nodes; the document's own number of kids.
The program's store and the document's own beside each other: what stays while nodes are made in both.
The statements' two stores: what 'made' answers of a list of nodes, as a fact on one call.
Plain facts for layer known: under whatever assignment the bits that are sure are so.
-/
import Derived.Test.YtigjbngedbbdbaaPt21
import Derived.Test.YtigjbngedbbdbaaTmRefD
import Derived.Test.YtigjbngedbbdbaaPt01
import Derived.Deep.LoopGhost
import Derived.Test.YtigjbngedbbdbaaPt11
import Derived.Test.YtigjbngedbbdbaaPt02
namespace Go.Proofs.Ytigjbngedbbdbaa
open Go.RowKit Go.Maps Bv
namespace Tm
set_option maxHeartbeats 400000
set_option maxRecDepth 100000

/-- The argument: a list of nodes, in memory that was there before the call. -/
def ArgAt (W : World) (al : Option Addr) (X : List Nd) : Prop :=
  X = [] ∨ ∃ bl ol, al = some ⟨bl, ol, none⟩ ∧ bl < W.heap.size ∧ ∀ (i : Nat) (x : Nd), X[i]? = some x → ∀ j u, x.cells.toList[j]? = some u → W.cell? ⟨bl, ol + i * 7 + j, none⟩ = some u
theorem ArgAt.at' {W : World} {al : Option Addr} {X : List Nd} (h : ArgAt W al X) {i : Nat} {x : Nd} (hx : X[i]? = some x) :
    ∃ bl ol, al = some ⟨bl, ol, none⟩ ∧ bl < W.heap.size ∧ (∀ w, Below W.heap.size W w → ∀ j u, x.cells.toList[j]? = some u → w.cell? ⟨bl, ol + i * 7 + j, none⟩ = some u) := by
  rcases h with h | ⟨bl, ol, h1, h2, h3⟩
  · subst h; simp at hx
  · exact ⟨bl, ol, h1, h2, fun w hb j u hj => (hb.cell (p := ⟨bl, ol + i * 7 + j, none⟩) h2).trans (h3 i x hx j u hj)⟩

theorem st_make {W : World} {p m : Nat} {u4 u5 : Value} {L : List Nd} {ids : List Nat} {N : List Nd} {w : World} {x : Nd} (h : StE W p m u4 u5 L ids N w) (hx : x.Ok) (a er : Nat) (ha : (mk L x).2.1 = a) (he : (mk L x).2.2 = er) :
    Calls Try.prog 13 #[.pointer (some ⟨p, 0, none⟩), x.val] w fun e w' => e = .returned (.tuple #[.int .i64 ((a : Nat) : Int), .int .i64 ((er : Nat) : Int)]) ∧ StE W p m u4 u5 (mk L x).1 ids N w' := by
  obtain ⟨sv, s⟩ := h
  subst ha; subst he
  refine (make_any s.s s.b.size hx).mono ?_
  rintro e w' ⟨rfl, v, S', K, loc⟩
  exact ⟨rfl, v, s.make S' K loc⟩

theorem StE.b {W : World} {p m : Nat} {u4 u5 : Value} {L : List Nd} {ids : List Nat} {N : List Nd} {w : World} (h : StE W p m u4 u5 L ids N w) : Below W.heap.size W w := by obtain ⟨sv, s⟩ := h; exact s.b
theorem StE.r4 {W : World} {p m : Nat} {u4 u5 : Value} {L : List Nd} {ids : List Nat} {N : List Nd} {w : World} (h : StE W p m u4 u5 L ids N w) : w.ownsRow W.heap.size 3 1 u4 ids.length (todoRow ids) := by obtain ⟨sv, s⟩ := h; exact s.r4
theorem StE.r5 {W : World} {p m : Nat} {u4 u5 : Value} {L : List Nd} {ids : List Nat} {N : List Nd} {w : World} (h : StE W p m u4 u5 L ids N w) : w.ownsRow W.heap.size 57 7 u5 N.length (rowOf N) := by obtain ⟨sv, s⟩ := h; exact s.r5
theorem StE.good {W : World} {p m : Nat} {u4 u5 : Value} {L : List Nd} {ids : List Nat} {N : List Nd} {w : World} (h : StE W p m u4 u5 L ids N w) : Gd L := by obtain ⟨sv, s⟩ := h; exact s.s.good
theorem StE.call {W : World} {p m : Nat} {u4 u5 : Value} {L : List Nd} {ids : List Nat} {N : List Nd} {w w' : World} (h : StE W p m u4 u5 L ids N w) (k : Below w.heap.size w w') : StE W p m u4 u5 L ids N w' := by obtain ⟨sv, s⟩ := h; exact ⟨sv, s.call k⟩
theorem StE.push4 {W : World} {p m : Nat} {u4 u5 v : Value} {L : List Nd} {ids : List Nat} {N : List Nd} {w w' : World} {a : Nat} {o : Obj} (h : StE W p m u4 u5 L ids N w) (hr : w'.ownsRow W.heap.size 3 1 v (ids.length + 1) (todoRow ids ++ [.int .i64 ((a : Nat) : Int)])) (hg : (w.alloc o).grownBy w' u4.ownBlock) (hl : v.ownBlock = u4.ownBlock ∨ v.ownBlock = some (w.alloc o).heap.size) : StE W p m v u5 L (ids ++ [a]) N w' := by
  obtain ⟨sv, s⟩ := h; exact ⟨sv, s.push4 hr hg hl⟩
theorem StE.push5 {W : World} {p m : Nat} {u4 u5 v : Value} {L : List Nd} {ids : List Nat} {N : List Nd} {w w' : World} {x : Nd} {o : Obj} (h : StE W p m u4 u5 L ids N w) (hr : w'.ownsRow W.heap.size 57 7 v (N.length + 1) (rowOf N ++ x.cells.toList)) (hg : (w.alloc o).grownBy w' u5.ownBlock) (hl : v.ownBlock = u5.ownBlock ∨ v.ownBlock = some (w.alloc o).heap.size) : StE W p m u4 v L ids (N ++ [x]) w' := by
  obtain ⟨sv, s⟩ := h; exact ⟨sv, s.push5 hr hg hl⟩

/-- Ahead of each node of the loop that makes them. -/
structure Loop1 (W : World) (p m n i : Nat) (u4 u5 : Value) (w : World) : Prop where
  st : ∃ L ids N, StE W p m u4 u5 L ids N w ∧ NumOf L ids N ∧ ids.length ≤ i ∧ (∀ x ∈ N, x.Ok)
  le : i ≤ n
  le100 : i ≤ 100

theorem loop1_start {W w : World} {n : Nat} (S : StoreAt W.heap.size w (W.heap.size + 1) W.heap.size (.slice none 0 0) []) (hb : Below W.heap.size W w) : Loop1 W (W.heap.size + 1) W.heap.size n 0 (.slice none 0 0) (.slice none 0 0) w :=
  ⟨⟨[], [], [], ⟨_, S, World.ownsRow_nil _ _ _ _, World.ownsRow_nil _ _ _ _, fun g e => by simp [Value.ownBlock] at e, fun g e => by simp [Value.ownBlock] at e, hb⟩, ⟨rfl, fun j a x h => by simp at h⟩, Nat.le_refl _, by simp⟩, Nat.zero_le _, Nat.zero_le _⟩

end Tm
end Go.Proofs.Ytigjbngedbbdbaa

namespace Go.Proofs.Ytigjbngedbbdbaa
open Go.RowKit Go.Maps Bv
namespace Tm
set_option maxHeartbeats 400000
set_option maxRecDepth 100000

theorem rfoot_lt {B : Nat} {w : World} {q : Nat} {rv : Value} {L : List Nd} (S : RefAt B w q rv L) {i : Nat} (h : rfoot q rv i) : B ≤ i ∧ i < w.heap.size := by
  rcases h with c | c
  · subst c; exact ⟨S.bp, S.lt⟩
  · exact S.row.lt i c

/-- Both stores, no block shared; what was there before the call is as it was. -/
structure Two (W : World) (p m q : Nat) (sv rv : Value) (L1 L2 : List Nd) (w : World) : Prop where
  s : StoreAt W.heap.size w p m sv L1
  r : RefAt W.heap.size w q rv L2
  ap : ∀ g, rfoot q rv g → ¬ foot p m sv g
  b : Below W.heap.size W w
def TwoE (W : World) (p m q : Nat) (L1 L2 : List Nd) (w : World) : Prop := ∃ sv rv, Two W p m q sv rv L1 L2 w

theorem Two.smake {W w w' : World} {p m q : Nat} {sv rv v : Value} {L1 L2 L' : List Nd} (h : Two W p m q sv rv L1 L2 w) (S' : StoreAt W.heap.size w' p m v L') (K : Kept (foot p m sv) w w') (loc : v.ownBlock = sv.ownBlock ∨ ∃ g, w.heap.size ≤ g ∧ v.ownBlock = some g) :
    Two W p m q v rv L' L2 w' := by
  refine ⟨S', h.r.kept K (fun i hi c => h.ap i hi c), fun g hg c => ?_, h.b.trans (K.below (fun i hi c => by have := (foot_lt h.s c).1; omega) h.b.size)⟩
  rcases c with c | c | c
  · exact h.ap g hg (.inl c)
  · exact h.ap g hg (.inr (.inl c))
  · rcases loc with l | ⟨g2, hg2, l⟩
    · rw [l] at c; exact h.ap g hg (.inr (.inr c))
    · rw [l] at c
      have := (rfoot_lt h.r hg).2
      simp at c
      omega
theorem Two.rmake {W w w' : World} {p m q : Nat} {sv rv v : Value} {L1 L2 L' : List Nd} (h : Two W p m q sv rv L1 L2 w) (S' : RefAt W.heap.size w' q v L') (K : Kept (rfoot q rv) w w') (loc : v.ownBlock = rv.ownBlock ∨ ∃ g, w.heap.size ≤ g ∧ v.ownBlock = some g) :
    Two W p m q sv v L1 L' w' := by
  refine ⟨h.s.kept K (fun i hi c => h.ap i c hi), S', fun g hg c => ?_, h.b.trans (K.below (fun i hi c => by have := (rfoot_lt h.r c).1; omega) h.b.size)⟩
  rcases hg with d | d
  · exact h.ap g (.inl d) c
  · rcases loc with l | ⟨g2, hg2, l⟩
    · rw [l] at d; exact h.ap g (.inr d) c
    · rw [l] at d
      have := (foot_lt h.s c).2
      simp at d
      omega
theorem Two.call {W w w' : World} {p m q : Nat} {sv rv : Value} {L1 L2 : List Nd} (h : Two W p m q sv rv L1 L2 w) (k : Below w.heap.size w w') : Two W p m q sv rv L1 L2 w' :=
  ⟨h.s.call k, h.r.call k, h.ap, h.b.trans (k.mono h.b.size)⟩
theorem TwoE.call {W w w' : World} {p m q : Nat} {L1 L2 : List Nd} (h : TwoE W p m q L1 L2 w) (k : Below w.heap.size w w') : TwoE W p m q L1 L2 w' := by obtain ⟨sv, rv, s⟩ := h; exact ⟨sv, rv, s.call k⟩
theorem TwoE.b {W w : World} {p m q : Nat} {L1 L2 : List Nd} (h : TwoE W p m q L1 L2 w) : Below W.heap.size W w := by obtain ⟨sv, rv, s⟩ := h; exact s.b
theorem TwoE.good {W w : World} {p m q : Nat} {L1 L2 : List Nd} (h : TwoE W p m q L1 L2 w) : Gd L1 := by obtain ⟨sv, rv, s⟩ := h; exact s.s.good

/-- A call that has made the node x in the program's store. -/
theorem two_made {W w : World} {p m q : Nat} {L1 L2 : List Nd} {x : Nd} {f : FuncId} {args : Array Value} {a er : Nat} (h : TwoE W p m q L1 L2 w) (hc : ∀ sv, StoreAt W.heap.size w p m sv L1 → W.heap.size ≤ w.heap.size → Calls Try.prog f args w (Made W.heap.size p m sv L1 x w)) (ha : (mk L1 x).2.1 = a) (he : (mk L1 x).2.2 = er) :
    Calls Try.prog f args w fun e w' => e = .returned (.tuple #[.int .i64 ((a : Nat) : Int), .int .i64 ((er : Nat) : Int)]) ∧ TwoE W p m q (mk L1 x).1 L2 w' := by
  obtain ⟨sv, rv, s⟩ := h
  subst ha; subst he
  refine (hc sv s.s s.b.size).mono ?_
  rintro e w' ⟨rfl, v, S', K, loc⟩
  exact ⟨rfl, v, rv, s.smake S' K loc⟩
theorem two_make {W w : World} {p m q : Nat} {L1 L2 : List Nd} {x : Nd} (h : TwoE W p m q L1 L2 w) (hx : x.Ok) (a er : Nat) (ha : (mk L1 x).2.1 = a) (he : (mk L1 x).2.2 = er) :
    Calls Try.prog 13 #[.pointer (some ⟨p, 0, none⟩), x.val] w fun e w' => e = .returned (.tuple #[.int .i64 ((a : Nat) : Int), .int .i64 ((er : Nat) : Int)]) ∧ TwoE W p m q (mk L1 x).1 L2 w' :=
  two_made h (fun _ S hB => make_any S hB hx) ha he
theorem two_rmake {W w : World} {p m q : Nat} {L1 L2 : List Nd} {x : Nd} (h : TwoE W p m q L1 L2 w) (hx : x.Ok) (a er : Nat) (ha : (mk L2 x).2.1 = a) (he : (mk L2 x).2.2 = er) :
    Calls Try.prog 14 #[.pointer (some ⟨q, 0, none⟩), x.val] w fun e w' => e = .returned (.tuple #[.int .i64 ((a : Nat) : Int), .int .i64 ((er : Nat) : Int)]) ∧ TwoE W p m q L1 (mk L2 x).1 w' := by
  obtain ⟨sv, rv, s⟩ := h
  subst ha; subst he
  refine (rmake_any s.r s.b.size hx).mono ?_
  rintro e w' ⟨rfl, v, S', K, loc⟩
  exact ⟨rfl, sv, v, s.rmake S' K loc⟩

/-! ### the widths and numbers that TermWays asks of the document's -/
def wd6 (w : Int) : Nat := if 0 ≤ w ∧ w ≤ 64 then w.toNat else 0
def nm6 (n : Int) : Nat := if 0 ≤ n then n.toNat else 256
theorem mk_refuse {L : List Nd} {x : Nd} (h : mayN L x = false) : mk L x = (L, 0, 2) := by unfold mk; rw [if_pos h]
theorem may_wide {L : List Nd} {x : Nd} (h : ¬ (1 ≤ x.w ∧ x.w ≤ 64)) : mayN L x = false := by
  cases hm : mayN L x with
  | false => rfl
  | true => exact absurd (mayN_w hm) h
theorem ways_const (L : List Nd) (w : Int) (c : Nat) : mk L (cnd w c) = mk L ⟨1, wd6 w, 0, 0, 0, c, 0⟩ := by
  by_cases h : 0 ≤ w ∧ w ≤ 64
  · have : nar w = wd6 w := by unfold nar wd6; rw [if_pos (by omega), if_pos h]
    unfold cnd
    rw [this]
  · rw [mk_refuse (may_wide (x := ⟨1, wd6 w, 0, 0, 0, c, 0⟩) (by show ¬ (1 ≤ wd6 w ∧ wd6 w ≤ 64); unfold wd6; rw [if_neg h]; omega)),
      mk_refuse (may_wide (x := cnd w c) (by show ¬ (1 ≤ nar w ∧ nar w ≤ 64); unfold nar; split <;> omega))]
theorem may_far {L : List Nd} {x : Nd} (ho : x.o = 2) (h : 256 ≤ x.n) : mayN L x = false := by
  cases hm : mayN L x with
  | false => rfl
  | true => have := mayN_var hm ho; omega
theorem ways_var (L : List Nd) (w n : Int) (hn : I64 n) : mk L (vnd w n) = mk L ⟨2, wd6 w, 0, 0, 0, nm6 n, 0⟩ := by
  by_cases hz : 0 ≤ n
  · have hu : u64 n = nm6 n := by
      unfold u64 nm6; rw [if_pos hz, IntKind.wrap_u64]
      unfold I64 at hn
      omega
    by_cases h : 0 ≤ w ∧ w ≤ 64
    · have : nar w = wd6 w := by unfold nar wd6; rw [if_pos (by omega), if_pos h]
      unfold vnd
      rw [this, hu]
    · rw [mk_refuse (may_wide (x := ⟨2, wd6 w, 0, 0, 0, nm6 n, 0⟩) (by show ¬ (1 ≤ wd6 w ∧ wd6 w ≤ 64); unfold wd6; rw [if_neg h]; omega)),
        mk_refuse (may_wide (x := vnd w n) (by show ¬ (1 ≤ nar w ∧ nar w ≤ 64); unfold nar; split <;> omega))]
  · have hu : 256 ≤ u64 n := by
      unfold u64; rw [IntKind.wrap_u64]
      unfold I64 at hn
      omega
    rw [mk_refuse (may_far (x := ⟨2, wd6 w, 0, 0, 0, nm6 n, 0⟩) rfl (by show 256 ≤ nm6 n; unfold nm6; rw [if_neg hz]; exact Nat.le_refl _)),
      mk_refuse (may_far (x := vnd w n) rfl hu)]

/-- Ahead of each node of the loop that makes them in both. -/
structure Loop2 (W : World) (p m q n k i : Nat) (w : World) : Prop where
  st : ∃ L, TwoE W p m q L L w
  le : i ≤ n
  lek : i ≤ k

/-! ### the document's store as it begins -/
theorem rzero_is : Try.zeroCells40 = #[.slice none 0 0] ++ Array.replicate 256 (.int .u8 0) := by kernel_rfl
theorem ref_store (w : World) : RefAt w.heap.size (w.alloc (.cells Try.zeroCells40 40)) w.heap.size (.slice none 0 0) [] := by
  have hh := (MapKept.heap_alloc w (.cells Try.zeroCells40 40)).1
  have hz : ∀ j, Try.zeroCells40[j]? = if j = 0 then some (.slice none 0 0) else if j < 257 then some (.int .u8 0) else none := by
    intro j
    rw [rzero_is, Array.getElem?_append]
    by_cases h0 : j = 0
    · subst h0; simp
    · rw [if_neg (by simp; omega), if_neg h0, Array.getElem?_replicate]
      simp only [List.size_toArray, List.length_cons, List.length_nil]
      by_cases hj : j < 257
      · rw [if_pos (by omega), if_pos hj]
      · rw [if_neg (by omega), if_neg hj]
  generalize Try.zeroCells40 = C at hh hz ⊢
  have hs : (w.alloc (.cells C 40)).heap.size = w.heap.size + 1 := by simp
  generalize (w.alloc (.cells C 40)) = W2 at hh hs ⊢
  have hc : ∀ j, W2.cell? ⟨w.heap.size, j, none⟩ = C[j]? := by
    intro j
    unfold World.cell?
    rw [hh]
    rfl
  refine ⟨Nat.le_refl _, by omega, ?_, ?_, ?_, World.ownsRow_nil _ _ _ _, by simp [Value.ownBlock], gd_nil⟩
  · rw [hc, hz]; rfl
  · intro v hv
    rw [hc, hz, if_neg (by omega), if_pos (by omega)]
    rfl
  · intro o
    unfold World.frozen?
    rw [hh]
    simp

theorem two_start {W v : World} (S : StoreAt W.heap.size v (W.heap.size + 1) W.heap.size (.slice none 0 0) []) (hb : Below W.heap.size W v) : TwoE W (W.heap.size + 1) W.heap.size v.heap.size [] [] (v.alloc (.cells Try.zeroCells40 40)) := by
  have R := ref_store v
  refine ⟨_, _, S.alloc _, ⟨?_, R.lt, R.c0, R.cw, R.fr, World.ownsRow_nil _ _ _ _, R.gp, gd_nil⟩, fun g hg c => ?_, bel_alloc hb _⟩
  · have := S.lt; omega
  · have h1 := (foot_lt S c).2
    rcases hg with d | d
    · omega
    · simp [Value.ownBlock] at d

end Tm
end Go.Proofs.Ytigjbngedbbdbaa

namespace Go.Proofs.Ytigjbngedbbdbaa
open Go.RowKit Go.Maps Bv
namespace Tm
set_option maxHeartbeats 1000000
set_option maxRecDepth 100000

theorem mk_len_le (L : List Nd) (x : Nd) : (mk L x).1.length ≤ L.length + 1 := by
  unfold mk
  (repeat' split) <;> simp

/-- Ahead of each node. -/
structure LoopM (W : World) (p m q n k i : Nat) (w : World) : Prop where
  st : ∃ L, TwoE W p m q L L w ∧ MayL L ∧ L.length ≤ i
  le : i ≤ n
  lek : i ≤ k

theorem made_any {W : World} {al : Option Addr} {X : List Nd} {cl n : Nat} (hX : ArgAt W al X) (hok : ∀ x ∈ X, x.Ok) (hn : n = X.length) :
    Calls Try.prog 6 #[.slice al n cl] W fun e W' => ∃ (q : Nat) (L : List Nd), e = .returned (.tuple #[.pointer (some ⟨W.heap.size + 1, 0, none⟩), .pointer (some ⟨q, 0, none⟩)]) ∧ TwoE W (W.heap.size + 1) W.heap.size q L L W' ∧ MayL L ∧ L.length ≤ 60 := by
  have HX := Lib.hid hX
  have HOK := Lib.hid hok
  have HN := Lib.hid hn
  clear hX hok hn
  go_enter Try.func6, Try.ntmps6
  go_wp2_with (go_at_call 12; refine (new_at W).mono ?_; rintro e v0 ⟨rfl, S0, hb0⟩)
  have HT0 := Lib.hid (two_start S0 hb0)
  clear S0 hb0
  obtain ⟨qq, hqq⟩ : ∃ qq, v0.heap.size = qq := ⟨_, rfl⟩
  rw [hqq] at HT0
  simp only [hqq]
  go_loopg [6] (min n 60) (fun gk u6 wr => ∃ i : Nat, u6 = .int .i64 ((i : Nat) : Int) ∧ i + gk = min n 60 ∧ LoopM W (W.heap.size + 1) W.heap.size qq n 60 i wr)
  case atStart => exact ⟨0, rfl, by omega, ⟨_, HT0.out, mayL_nil, Nat.le_refl _⟩, Nat.zero_le _, Nat.zero_le _⟩
  case round =>
    obtain ⟨i, rfl, hgk, ⟨⟨L, hst, hmay, hll⟩, hle, hlek⟩⟩ := hrel
    clear HT0 hqq
    have HMAY := Lib.hid hmay
    have HLL := Lib.hid (And.intro hll hlek)
    clear hll
    by_cases hin : i < n ∧ i < 60
    case pos =>
      obtain ⟨x, hx⟩ : ∃ x, X[i]? = some x := ⟨_, List.getElem?_eq_getElem (by rw [← HN.out]; exact hin.1)⟩
      obtain ⟨bl, ol, rfl, lbl, hcell⟩ := HX.out.at' hx
      have hxok := HOK.out x (List.mem_of_getElem? hx)
      have hb := hst.b
      obtain ⟨f0, f1, f2, f3, f4, f5, f6⟩ := cells_far (hcell wr hb)
      have q1 : ((i : Nat) : Int) < ((n : Nat) : Int) := by omega
      have q2 : ((i : Nat) : Int) < 60 := by omega
      have q0 : (0 : Int) ≤ ((i : Nat) : Int) := by omega
      have r1 : IntKind.i64.wrap (((i : Nat) : Int) + 1) = (((i + 1 : Nat) : Nat) : Int) := by rw [IntKind.wrap_i64]; omega
      have r2 : wrap64 (((i : Nat) : Int) + 1) = (((i + 1 : Nat) : Nat) : Int) := by unfold wrap64; rw [← IntKind.wrap_i64]; exact r1
      have HR2 := Lib.hid r2
      obtain ⟨a, ha⟩ : ∃ a, (mk L x).2.1 = a := ⟨_, rfl⟩
      obtain ⟨er, he⟩ : ∃ er, (mk L x).2.2 = er := ⟨_, rfl⟩
      have HM := Lib.hid (two_make hst hxok a er ha he)
      have HM2 := Lib.hid (fun w1 (h : TwoE W (W.heap.size + 1) W.heap.size qq (mk L x).1 L w1) => two_rmake h hxok a er ha he)
      unfold Nd.val at HM HM2
      have HC := Lib.hid hcell
      have HGK := Lib.hid (And.intro hgk hin)
      clear hst hgk hle hlek hx hcell hxok ha he r1 r2 hb hin hmay
      go_wp2_with (first | (go_at_call 13; refine HM.out.mono ?_; rintro e w1 ⟨rfl, hs1⟩; obtain ⟨g0, g1, g2, g3, g4, g5, g6⟩ := cells_far (HC.out w1 hs1.b); have HS1 := Lib.hid hs1; clear hs1) | (go_at_call 14; refine (HM2.out _ HS1.out).mono ?_; rintro e w2 ⟨rfl, hs2⟩; have HS2 := Lib.hid hs2; clear hs2))
      go_roundg (gk - 1)
      case measure => have := HGK.out; omega
      case rel => exact ⟨i + 1, by first | rfl | (rw [HR2.out]) | (congr 1; exact HR2.out), by have := HGK.out; omega, ⟨_, HS2.out, mayL_step HMAY.out x, Nat.le_trans (mk_len_le L x) (Nat.succ_le_succ HLL.out.1)⟩, by have := HGK.out; omega, by have := HGK.out; omega⟩
    case neg =>
      have ex : (n ≤ i) ∨ (i < n ∧ (60 : Int) ≤ ((i : Nat) : Int)) := by omega
      have HST := Lib.hid hst
      clear hin hgk hle hlek hst hmay
      rcases ex with ex | ⟨ex1, ex2⟩
      all_goals
        go_wp2_with fail
        refine bodyPost_ret (v := .tuple #[.pointer (some ⟨W.heap.size + 1, 0, none⟩), .pointer (some ⟨qq, 0, none⟩)]) (by simp [results, Try.results6, go_sem]) rfl ?_
        exact ⟨qq, L, rfl, HST.out, HMAY.out, Nat.le_trans HLL.out.1 HLL.out.2⟩
end Tm
end Go.Proofs.Ytigjbngedbbdbaa

namespace Go.Proofs.Ytigjbngedbbdbaa
open Bv Tm
namespace Kn
set_option maxHeartbeats 400000

theorem tb_low (w x b : Nat) : (low w x).testBit b = (decide (b < w) && x.testBit b) := by unfold low; rw [Nat.testBit_mod_two_pow]
theorem tb_not {n b : Nat} (hn : n < 18446744073709551616) (hb : b < 64) : (18446744073709551615 - n).testBit b = !n.testBit b := by
  rw [show 18446744073709551615 - n = 2 ^ 64 - (n + 1) by omega, Nat.testBit_two_pow_sub_succ (by omega)]
  simp [hb]
theorem sure_nil (n : Nat) : Sure (0, 0) n := ⟨fun b h => by simp at h, fun b h => by simp at h⟩
/-- Bits may be told within the width alone. -/
theorem sure_low {w z o n : Nat} (h : ∀ b, b < w → (z.testBit b = true → n.testBit b = false) ∧ (o.testBit b = true → n.testBit b = true)) : Sure (low w z, low w o) (low w n) := by
  refine ⟨fun b hb => ?_, fun b hb => ?_⟩
  · simp only [tb_low, Bool.and_eq_true, decide_eq_true_eq] at hb ⊢
    rw [(h b hb.1).1 hb.2]
    simp
  · simp only [tb_low, Bool.and_eq_true, decide_eq_true_eq] at hb ⊢
    exact ⟨hb.1, (h b hb.1).2 hb.2⟩
theorem sure_low0 {w z n : Nat} (h : ∀ b, b < w → z.testBit b = true → n.testBit b = false) : Sure (low w z, 0) (low w n) := by
  have := sure_low (w := w) (z := z) (o := 0) (n := n) (fun b hb => ⟨h b hb, fun c => by simp at c⟩)
  rw [show low w 0 = 0 by unfold low; simp] at this
  exact this
/-- Low bits that are all nought. -/
theorem low_zero {n b : Nat} (h : ∀ j, j ≤ b → n.testBit j = false) : n % 2 ^ (b + 1) = 0 := by
  apply Nat.eq_of_testBit_eq
  intro j
  rw [Nat.testBit_mod_two_pow]
  by_cases hj : j < b + 1
  · simp [h j (by omega)]
  · simp [hj]
theorem zero_low {n b : Nat} (h : n % 2 ^ (b + 1) = 0) : n.testBit b = false := by
  have : (n % 2 ^ (b + 1)).testBit b = n.testBit b := by rw [Nat.testBit_mod_two_pow]; simp
  rw [← this, h]
  simp
theorem all_ones {m b : Nat} (h : m % 2 ^ b = 2 ^ b - 1) : ∀ j, j < b → m.testBit j = true := by
  intro j hj
  have : (m % 2 ^ b).testBit j = m.testBit j := by rw [Nat.testBit_mod_two_pow]; simp [hj]
  rw [← this, h, Nat.testBit_two_pow_sub_one]
  simp [hj]
/-- What lows tells. -/
theorem lows_bit {m b : Nat} (_hm : m < 18446744073709551616) (hb : b < 64) (h : (lows m).testBit b = true) : ∀ j, j ≤ b → m.testBit j = true := by
  unfold lows at h
  rw [Nat.testBit_and, Bool.and_eq_true, tb_not (Nat.mod_lt _ (by decide)) hb] at h
  obtain ⟨h1, h2⟩ := h
  have h3 : (m + 1).testBit b = false := by
    rw [← mod64_bit (m + 1) b hb]
    simpa using h2
  have hp := pow_pos' b
  have key : m % 2 ^ b = 2 ^ b - 1 := by
    refine Classical.byContradiction fun hne => ?_
    have hlt := Nat.mod_lt m hp
    have e : (m + 1) / 2 ^ b = m / 2 ^ b := by
      have e1 : m + 1 = 2 ^ b * (m / 2 ^ b) + (m % 2 ^ b + 1) := by have := Nat.div_add_mod m (2 ^ b); omega
      rw [e1, Nat.mul_add_div hp, Nat.div_eq_of_lt (show m % 2 ^ b + 1 < 2 ^ b by omega), Nat.add_zero]
    rw [Nat.testBit_eq_decide_div_mod_eq] at h1 h3
    rw [e] at h3
    rw [h1] at h3
    simp at h3
  intro j hj
  by_cases e : j = b
  · rw [e]; exact h1
  · exact all_ones key j (by omega)
theorem sum_zero {n m b : Nat} (h1 : n % 2 ^ (b + 1) = 0) (h2 : m % 2 ^ (b + 1) = 0) : (n + m).testBit b = false := zero_low (by rw [Nat.add_mod, h1, h2]; simp)
theorem prod_zero {n m b : Nat} (h1 : n % 2 ^ (b + 1) = 0 ∨ m % 2 ^ (b + 1) = 0) : (n * m).testBit b = false := by
  refine zero_low ?_
  rcases h1 with h | h
  · rw [Nat.mul_mod, h]; simp
  · rw [Nat.mul_mod, h]; simp
theorem lows_zero {z n b : Nat} (hz : z < 18446744073709551616) (hb : b < 64) (h : (lows z).testBit b = true) (hs : ∀ j, z.testBit j = true → n.testBit j = false) : n % 2 ^ (b + 1) = 0 :=
  low_zero (fun j hj => hs j (lows_bit hz hb h j hj))
theorem hs_add {w z0 z1 n m : Nat} (h2 : w ≤ 64) (hz : z0 < 18446744073709551616) (s0 : ∀ j, z0.testBit j = true → n.testBit j = false) (s1 : ∀ j, z1.testBit j = true → m.testBit j = false) :
    Sure (low w (lows (z0 &&& z1)), 0) (low w ((n + m) % 18446744073709551616)) := by
  refine sure_low0 (fun b hb h => ?_)
  have hzz : z0 &&& z1 < 18446744073709551616 := Nat.lt_of_le_of_lt Nat.and_le_left hz
  rw [mod64_bit _ _ (by omega)]
  exact sum_zero (lows_zero hzz (by omega) h (fun j hj => s0 j (by rw [Nat.testBit_and, Bool.and_eq_true] at hj; exact hj.1))) (lows_zero hzz (by omega) h (fun j hj => s1 j (by rw [Nat.testBit_and, Bool.and_eq_true] at hj; exact hj.2)))
theorem neg_zero {m b : Nat} (hb : b < 64) (_hm : m < 18446744073709551616) (h : m % 2 ^ (b + 1) = 0) : (18446744073709551616 - m) % 2 ^ (b + 1) = 0 := by
  have hd : 2 ^ (b + 1) ∣ m := Nat.dvd_of_mod_eq_zero h
  have he : 2 ^ (b + 1) ∣ 18446744073709551616 := ⟨2 ^ (64 - (b + 1)), (pow_split (by omega)).symm⟩
  exact Nat.mod_eq_zero_of_dvd (Nat.dvd_sub he hd)
theorem hs_sub {w z0 z1 n m : Nat} (h2 : w ≤ 64) (hz : z0 < 18446744073709551616) (hm : m < 18446744073709551616) (s0 : ∀ j, z0.testBit j = true → n.testBit j = false) (s1 : ∀ j, z1.testBit j = true → m.testBit j = false) :
    Sure (low w (lows (z0 &&& z1)), 0) (low w ((n + (18446744073709551616 - m)) % 18446744073709551616)) := by
  refine sure_low0 (fun b hb h => ?_)
  have hzz : z0 &&& z1 < 18446744073709551616 := Nat.lt_of_le_of_lt Nat.and_le_left hz
  rw [mod64_bit _ _ (by omega)]
  exact sum_zero (lows_zero hzz (by omega) h (fun j hj => s0 j (by rw [Nat.testBit_and, Bool.and_eq_true] at hj; exact hj.1))) (neg_zero (by omega) hm (lows_zero hzz (by omega) h (fun j hj => s1 j (by rw [Nat.testBit_and, Bool.and_eq_true] at hj; exact hj.2))))
theorem hs_mul {w z0 z1 n m : Nat} (h2 : w ≤ 64) (hz0 : z0 < 18446744073709551616) (hz1 : z1 < 18446744073709551616) (s0 : ∀ j, z0.testBit j = true → n.testBit j = false) (s1 : ∀ j, z1.testBit j = true → m.testBit j = false) :
    Sure (low w (lows z0 ||| lows z1), 0) (low w (n * m % 18446744073709551616)) := by
  refine sure_low0 (fun b hb h => ?_)
  rw [mod64_bit _ _ (by omega)]
  rw [Nat.testBit_or, Bool.or_eq_true] at h
  refine prod_zero ?_
  rcases h with h | h
  · exact .inl (lows_zero hz0 (by omega) h s0)
  · exact .inr (lows_zero hz1 (by omega) h s1)
theorem hs_ite {w a b c : Nat} {c0 c1 c2 : Kb} (ha : a < 2) (s0 : Sure c0 a) (s1 : Sure c1 b) (s2 : Sure c2 c) (_hb : b < 2 ^ w) (_hc : c < 2 ^ w) : Sure (iteK w c0 c1 c2) (if a = 1 then b else c) := by
  unfold iteK
  split
  · rename_i h
    have : a = 1 := by
      have := s0.2 0 (by rw [h]; decide)
      rw [Nat.testBit_zero] at this
      simp at this
      omega
    rw [if_pos this]
    exact s1
  · split
    · rename_i h
      have : ¬ a = 1 := by
        have := s0.1 0 (by rw [h]; decide)
        rw [Nat.testBit_zero] at this
        simp at this
        omega
      rw [if_neg this]
      exact s2
    · refine ⟨fun j hj => ?_, fun j hj => ?_⟩
      all_goals
        simp only [tb_low, Nat.testBit_and, Bool.and_eq_true, decide_eq_true_eq] at hj
        split
      · exact s1.1 j hj.2.1
      · exact s2.1 j hj.2.2
      · exact s1.2 j hj.2.1
      · exact s2.2 j hj.2.2
theorem hs_eq {w n m : Nat} {a b : Kb} (_h2 : w ≤ 64) (s0 : Sure a n) (s1 : Sure b m) (hn : n < 2 ^ w) (hm : m < 2 ^ w) : Sure (eqK w a b) (n == m).toNat := by
  unfold eqK
  split
  · rename_i h
    have hne : (n == m) = false := by
      rw [beq_eq_false_iff_ne]
      intro e
      subst e
      apply h
      apply Nat.eq_of_testBit_eq
      intro j
      rw [Nat.zero_testBit, Nat.testBit_or, Nat.testBit_and, Nat.testBit_and]
      have p1 := s0.1 j
      have p2 := s0.2 j
      have p3 := s1.1 j
      have p4 := s1.2 j
      revert p1 p2 p3 p4
      cases a.1.testBit j <;> cases a.2.testBit j <;> cases b.1.testBit j <;> cases b.2.testBit j <;> cases n.testBit j <;> simp
    rw [hne]
    exact ⟨fun b _ => by simp, fun b h => by simp at h⟩
  · split
    · rename_i h0 h
      have he : n = m := by
        apply Nat.eq_of_testBit_eq
        intro j
        by_cases hj : j < w
        · have hb : ((a.1 ||| a.2) &&& (b.1 ||| b.2)).testBit j = true := by rw [h, Nat.testBit_two_pow_sub_one]; simp [hj]
          have hz : (a.1 &&& b.2 ||| a.2 &&& b.1).testBit j = false := by rw [Classical.not_not.1 h0]; simp
          rw [Nat.testBit_and, Nat.testBit_or, Nat.testBit_or] at hb
          rw [Nat.testBit_or, Nat.testBit_and, Nat.testBit_and] at hz
          have p1 := s0.1 j
          have p2 := s0.2 j
          have p3 := s1.1 j
          have p4 := s1.2 j
          revert hb hz p1 p2 p3 p4
          cases a.1.testBit j <;> cases a.2.testBit j <;> cases b.1.testBit j <;> cases b.2.testBit j <;> cases n.testBit j <;> cases m.testBit j <;> simp
        · rw [high_bit hn (by omega), high_bit hm (by omega)]
      subst he
      rw [beq_self_eq_true]
      exact ⟨fun b h => by simp at h, fun b h => h⟩
    · exact sure_nil _
theorem numE_bit {w n b : Nat} (h1 : 1 ≤ w) (h2 : w ≤ 64) (hn : n < 2 ^ w) (hb : b < 64) : (numE 24 w n).testBit b = if b < w then n.testBit b else decide (2 ^ (w - 1) ≤ n) := by
  show ((wo w n % 18446744073709551616).toNat).testBit b = _
  have hh := pow_half h1
  have hle := pow_le64 h2
  unfold wo
  by_cases hs : n < 2 ^ (w - 1)
  · rw [if_pos hs]
    have e : (((n : Nat) : Int) % 18446744073709551616).toNat = n := by omega
    rw [e]
    by_cases hbw : b < w
    · rw [if_pos hbw]
    · rw [if_neg hbw, high_bit hn (by omega)]
      symm
      rw [decide_eq_false_iff_not]
      omega
  · rw [if_neg hs]
    have e : ((((n : Nat) : Int) - ((2 ^ w : Nat) : Int)) % 18446744073709551616).toNat = n + (18446744073709551616 - 2 ^ w) := by omega
    rw [e]
    have hd : 18446744073709551616 - 2 ^ w = 2 ^ w * (2 ^ (64 - w) - 1) := by
      rw [Nat.mul_sub, pow_split h2, Nat.mul_one]
    have e2 : n + (18446744073709551616 - 2 ^ w) = 2 ^ w * (2 ^ (64 - w) - 1) + n := by omega
    rw [e2, Nat.testBit_two_pow_mul_add _ hn]
    by_cases hbw : b < w
    · rw [if_pos hbw, if_pos hbw]
    · rw [if_neg hbw, if_neg hbw, Nat.testBit_two_pow_sub_one]
      have a1 : b - w < 64 - w := by omega
      have a2 : 2 ^ (w - 1) ≤ n := by omega
      simp [a1, a2]
theorem sign_bit {w n : Nat} (h1 : 1 ≤ w) (hn : n < 2 ^ w) : decide (2 ^ (w - 1) ≤ n) = n.testBit (w - 1) := (sign_iff h1 hn).symm
theorem hs_sext {w v n : Nat} {a : Kb} (h1 : 1 ≤ v) (hv : v ≤ w) (h2 : w ≤ 64) (s : Sure a n) (ha : a.1 < 2 ^ v ∧ a.2 < 2 ^ v) (hn : n < 2 ^ v) : Sure (low w (numE 24 v a.1), low w (numE 24 v a.2)) (low w (numE 24 v n)) := by
  refine sure_low (fun b hb => ?_)
  rw [numE_bit h1 (by omega) ha.1 (by omega), numE_bit h1 (by omega) ha.2 (by omega), numE_bit h1 (by omega) hn (by omega)]
  by_cases hbv : b < v
  · rw [if_pos hbv, if_pos hbv, if_pos hbv]
    exact ⟨s.1 b, s.2 b⟩
  · rw [if_neg hbv, if_neg hbv, if_neg hbv, sign_bit h1 ha.1, sign_bit h1 ha.2, sign_bit h1 hn]
    exact ⟨s.1 _, s.2 _⟩
theorem hs_zext {w v n : Nat} {a : Kb} (hv : v ≤ w) (h2 : w ≤ 64) (s : Sure a n) (hn : n < 2 ^ v) : Sure (low w (a.1 ||| (18446744073709551615 - (2 ^ v - 1))), low w a.2) (low w n) := by
  refine sure_low (fun b hb => ⟨fun h => ?_, s.2 b⟩)
  rw [Nat.testBit_or, Bool.or_eq_true] at h
  rcases h with h | h
  · exact s.1 b h
  · have hle := pow_le64 (show v ≤ 64 by omega)
    have hp := pow_pos' v
    rw [tb_not (by omega) (by omega), Nat.testBit_two_pow_sub_one] at h
    simp at h
    exact high_bit hn h
theorem shl_bit {n v b : Nat} (hb : b < 64) : (n * 2 ^ v % 18446744073709551616).testBit b = (decide (v ≤ b) && n.testBit (b - v)) := by
  rw [mod64_bit _ _ hb, Nat.testBit_mul_two_pow]
theorem sure_concat' {w v n m : Nat} {a b : Kb} (h2 : w ≤ 64) (hv : v ≤ 64) (s0 : Sure a n) (s1 : Sure b m) (hb1 : b.1 < 2 ^ v) (hm : m < 2 ^ v) : Sure (low w (a.1 * 2 ^ min v 64 % 18446744073709551616 ||| b.1), low w (a.2 * 2 ^ min v 64 % 18446744073709551616 ||| b.2)) (low w (n * 2 ^ v % 18446744073709551616 ||| m)) := by
  rw [Nat.min_eq_left hv]
  refine sure_low (fun j hj => ⟨fun h => ?_, fun h => ?_⟩)
  · rw [Nat.testBit_or, shl_bit (by omega), Bool.or_eq_true] at h
    rw [Nat.testBit_or, shl_bit (by omega), Bool.or_eq_false_iff]
    rcases h with h | h
    · rw [Bool.and_eq_true, decide_eq_true_eq] at h
      exact ⟨by rw [s0.1 _ h.2]; simp, high_bit hm h.1⟩
    · have hjv : j < v := by
        refine Classical.byContradiction fun hn => ?_
        rw [high_bit hb1 (by omega)] at h
        simp at h
      exact ⟨by rw [decide_eq_false (by omega)]; rfl, s1.1 _ h⟩
  · rw [Nat.testBit_or, shl_bit (by omega), Bool.or_eq_true] at h
    rw [Nat.testBit_or, shl_bit (by omega), Bool.or_eq_true]
    rcases h with h | h
    · rw [Bool.and_eq_true] at h
      exact .inl (by rw [Bool.and_eq_true]; exact ⟨h.1, s0.2 _ h.2⟩)
    · exact .inr (s1.2 _ h)
theorem sure_extract' {w l n : Nat} {a : Kb} (hl : l ≤ 64) (s : Sure a n) : Sure (low w (a.1 / 2 ^ min l 64), low w (a.2 / 2 ^ min l 64)) (low w (n / 2 ^ l)) := by
  rw [Nat.min_eq_left hl]
  refine sure_low (fun b _ => ?_)
  rw [Nat.testBit_div_two_pow, Nat.testBit_div_two_pow, Nat.testBit_div_two_pow]
  exact ⟨s.1 _, s.2 _⟩
theorem sure_shl' {w v n far : Nat} {a : Kb} (h2 : w ≤ 64) (s : Sure a n) : Sure (shK 15 w a far) (low w (numB 15 w v n far)) := by
  unfold shK
  rw [if_pos rfl]
  refine sure_low (fun j hj => ?_)
  have e : (numB 15 w v n far).testBit j = (decide (far ≤ j) && n.testBit (j - far)) := by rw [← low_bit w _ j hj]; exact shl_bits h2 hj
  have ez : ∀ x, (x * 2 ^ min far 64 % 18446744073709551616).testBit j = (decide (far ≤ j) && x.testBit (j - far)) := fun x => by
    rw [← low_bit w _ j hj]; exact shl_bits (v := v) h2 hj
  rw [e, Nat.testBit_or, ez, ez, tb_not (Nat.mod_lt _ (by decide)) (by omega), ez]
  refine ⟨fun h => ?_, fun h => ?_⟩
  · rw [Bool.or_eq_true] at h
    rcases h with h | h
    · rw [Bool.and_eq_true] at h
      rw [s.1 _ h.2]
      simp
    · have hall : far ≤ j → (18446744073709551615 : Nat).testBit (j - far) = true := fun _ => by
        rw [show (18446744073709551615 : Nat) = 2 ^ 64 - 1 by decide, Nat.testBit_two_pow_sub_one]
        simp
        omega
      by_cases hf : far ≤ j
      · rw [hall hf] at h; simp [hf] at h
      · simp [hf]
  · rw [Bool.and_eq_true] at h
    rw [Bool.and_eq_true]
    exact ⟨h.1, s.2 _ h.2⟩
theorem sure_lshr' {w v n far : Nat} {a : Kb} (h2 : w ≤ 64) (s : Sure a n) (ha : a.1 < 2 ^ w ∧ a.2 < 2 ^ w) (hn : n < 2 ^ w) : Sure (shK 16 w a far) (low w (numB 16 w v n far)) := by
  unfold shK
  rw [if_neg (by decide), if_pos rfl]
  refine sure_low (fun j hj => ?_)
  have ez : ∀ x, x < 2 ^ w → (x / 2 ^ min far 64).testBit j = (decide (far < w ∧ j + far < w) && x.testBit (j + far)) := fun x hx => by
    rw [← low_bit w _ j hj]; exact lshr_bits (v := v) h2 hx hj
  have e : (numB 16 w v n far).testBit j = (decide (far < w ∧ j + far < w) && n.testBit (j + far)) := ez n hn
  have hp := pow_pos' w
  have hle := pow_le64 h2
  rw [e, Nat.testBit_or, ez _ ha.1, ez _ ha.2, tb_not (Nat.lt_of_le_of_lt (Nat.div_le_self _ _) (by omega)) (by omega), ez _ (by omega)]
  refine ⟨fun h => ?_, fun h => ?_⟩
  · rw [Bool.or_eq_true] at h
    rcases h with h | h
    · rw [Bool.and_eq_true] at h
      rw [s.1 _ h.2]
      simp
    · by_cases hf : far < w ∧ j + far < w
      · rw [Nat.testBit_two_pow_sub_one] at h
        simp [hf] at h
      · simp [hf]
  · rw [Bool.and_eq_true] at h
    rw [Bool.and_eq_true]
    exact ⟨h.1, s.2 _ h.2⟩
theorem sure_ashr' {w v n far : Nat} {a : Kb} (h1 : 1 ≤ w) (h2 : w ≤ 64) (s : Sure a n) (ha : a.1 < 2 ^ w ∧ a.2 < 2 ^ w) (hn : n < 2 ^ w) : Sure (shK 17 w a far) (low w (numB 17 w v n far)) := by
  unfold shK
  rw [if_neg (by decide), if_neg (by decide)]
  refine sure_low (fun j hj => ?_)
  have ez : ∀ v x, x < 2 ^ w → (numB 17 w v x far).testBit j = if far < w ∧ j + far < w then x.testBit (j + far) else x.testBit (w - 1) := fun v x hx => by
    rw [← low_bit w _ j hj, ashr_bits h1 h2 hx hj, sign_bit h1 hx]
  rw [ez _ n hn, ez _ _ ha.1, ez _ _ ha.2]
  split
  · exact ⟨s.1 _, s.2 _⟩
  · exact ⟨s.1 _, s.2 _⟩

/-- Under whatever assignment the bits that are sure are so. -/
theorem sure_kn {L : List Nd} (g : Gd L) (h : MayL L) (asg0 : List Nat) : ∀ (i : Nat) (x : Nd), L[i]? = some x → Sure (kn L i) (evN L asg0 i) := by
  intro i
  induction i using Nat.strongRecOn with
  | _ i ih =>
    intro x hx
    have hop := mayN_op (h i x hx)
    have hw := g.w x (List.mem_of_getElem? hx)
    have hok := g.ok x (List.mem_of_getElem? hx)
    have kid : ∀ j, j < kc x.o → ∃ n, vAt (valsN L asg0 i) (x.kid j) = n ∧ n < 2 ^ widAt L (x.kid j) ∧ Sure (kbAt (kvals L i) (x.kid j)) n ∧ (kbAt (kvals L i) (x.kid j)).1 < 2 ^ widAt L (x.kid j) ∧ (kbAt (kvals L i) (x.kid j)).2 < 2 ^ widAt L (x.kid j) := by
      intro j hj
      obtain ⟨y, hy, hlt, h0, hyw, hv⟩ := kid_in h hx hj
      have hl := kn_lt h _ y hy
      have hm := mayB_true (ev_may g h asg0 _ y hy)
      rw [hv, hyw]
      exact ⟨_, vAt_ev h0 (by omega), hm.2.2, ih _ hlt y hy, hl.1, hl.2⟩
    have far : 1 < kc x.o → ∀ n, farOf L x.k1 = some n → vAt (valsN L asg0 i) (x.kid 1) = n := by
      intro hk n hf
      obtain ⟨y, hy, hlt, h0, _, _⟩ := kid_in h hx hk
      have hk1 : x.kid 1 = x.k1 := rfl
      rw [vAt_ev h0 (by omega), evN_is hy]
      unfold farOf at hf
      rw [← hk1, hy] at hf
      simp only at hf
      split at hf
      · rename_i ho
        unfold oneN
        rw [if_pos ho]
        exact Option.some.inj hf
      · cases hf
    have wun := wd_un h hx
    have wbin := wd_bin h hx
    have wcmp := wd_cmp h hx
    have wcat := wd_cat h hx
    have wcut := wd_cut h hx
    have wwide := wd_wide h hx
    have wite := wd_ite h hx
    rw [kn_is hx, evN_is hx]
    unfold oneK oneN
    obtain ⟨o, w, k0, k1, k2, n, l⟩ := x
    have f0 : Nd.kid ⟨o, w, k0, k1, k2, n, l⟩ 0 = k0 := rfl
    have f1 : Nd.kid ⟨o, w, k0, k1, k2, n, l⟩ 1 = k1 := rfl
    have f2 : Nd.kid ⟨o, w, k0, k1, k2, n, l⟩ 2 = k2 := rfl
    have p0 := kid 0
    have p1 := kid 1
    have p2 := kid 2
    rw [f0] at p0
    rw [f1] at p1
    rw [f2] at p2
    rw [f1] at far
    simp only at *
    clear kid ih f0 f1 f2
    have le : ∀ {a b : Nat}, b ≤ 64 → a < 2 ^ b → a < 18446744073709551616 := fun hb ha => Nat.lt_of_lt_of_le ha (pow_le64 hb)
    have hcases : o = 1 ∨ o = 3 ∨ o = 5 ∨ o = 6 ∨ o = 7 ∨ o = 8 ∨ o = 9 ∨ o = 10 ∨ o = 15 ∨ o = 16 ∨ o = 17 ∨ o = 18 ∨ o = 21 ∨ o = 22 ∨ o = 23 ∨ o = 24 ∨ o = 25 ∨ (o = 2 ∨ o = 4 ∨ (11 ≤ o ∧ o ≤ 14) ∨ o = 19 ∨ o = 20) := by omega
    rcases hcases with rfl | rfl | rfl | rfl | rfl | rfl | rfl | rfl | rfl | rfl | rfl | rfl | rfl | rfl | rfl | rfl | rfl | hn
    · have hm := mayB_true (mayL_const h hx rfl)
      have := sure_low (w := w) (z := 18446744073709551615 - n) (o := n) (n := n) (fun b hb => ⟨fun hc => by rw [tb_not hok.n (by omega)] at hc; simpa using hc, fun hc => hc⟩)
      rw [low_same hm.2.2] at this
      rw [show (opK 1 w n l (widAt L k0) (widAt L k1) (kbAt (kvals L i) k0) (kbAt (kvals L i) k1) (kbAt (kvals L i) k2) (farOf L k1)) = (low w (18446744073709551615 - n), low w n) from rfl, low_same hm.2.2]
      exact this
    · obtain ⟨v0, e0, _, s0, b0⟩ := p0 (by decide)
      rw [e0]
      have hv : v0 < 18446744073709551616 := le hw.2 (by rw [← wun (.inl rfl)]; assumption)
      exact sure_low (fun b hb => ⟨fun hc => by show (18446744073709551615 - v0).testBit b = false; rw [tb_not hv (by omega), s0.2 b hc]; rfl, fun hc => by show (18446744073709551615 - v0).testBit b = true; rw [tb_not hv (by omega), s0.1 b hc]; rfl⟩)
    · obtain ⟨v0, e0, _, s0, b0⟩ := p0 (by decide)
      obtain ⟨v1, e1, _, s1, b1⟩ := p1 (by decide)
      rw [e0, e1]
      refine sure_low (fun b _ => ⟨fun hc => ?_, fun hc => ?_⟩)
      · show (v0 &&& v1).testBit b = false
        rw [Nat.testBit_or, Bool.or_eq_true] at hc
        rw [Nat.testBit_and, Bool.and_eq_false_iff]
        exact hc.imp (s0.1 b) (s1.1 b)
      · show (v0 &&& v1).testBit b = true
        rw [Nat.testBit_and, Bool.and_eq_true] at hc ⊢
        exact ⟨s0.2 b hc.1, s1.2 b hc.2⟩
    · obtain ⟨v0, e0, _, s0, b0⟩ := p0 (by decide)
      obtain ⟨v1, e1, _, s1, b1⟩ := p1 (by decide)
      rw [e0, e1]
      refine sure_low (fun b _ => ⟨fun hc => ?_, fun hc => ?_⟩)
      · show (v0 ||| v1).testBit b = false
        rw [Nat.testBit_and, Bool.and_eq_true] at hc
        rw [Nat.testBit_or, Bool.or_eq_false_iff]
        exact ⟨s0.1 b hc.1, s1.1 b hc.2⟩
      · show (v0 ||| v1).testBit b = true
        rw [Nat.testBit_or, Bool.or_eq_true] at hc ⊢
        exact hc.imp (s0.2 b) (s1.2 b)
    · obtain ⟨v0, e0, _, s0, b0⟩ := p0 (by decide)
      obtain ⟨v1, e1, _, s1, b1⟩ := p1 (by decide)
      rw [e0, e1]
      refine sure_low (fun b _ => ⟨fun hc => ?_, fun hc => ?_⟩)
      · show (v0 ^^^ v1).testBit b = false
        rw [Nat.testBit_or, Nat.testBit_and, Nat.testBit_and, Bool.or_eq_true, Bool.and_eq_true, Bool.and_eq_true] at hc
        rw [Nat.testBit_xor]
        rcases hc with c | c
        · rw [s0.1 b c.1, s1.1 b c.2]; rfl
        · rw [s0.2 b c.1, s1.2 b c.2]; rfl
      · show (v0 ^^^ v1).testBit b = true
        rw [Nat.testBit_or, Nat.testBit_and, Nat.testBit_and, Bool.or_eq_true, Bool.and_eq_true, Bool.and_eq_true] at hc
        rw [Nat.testBit_xor]
        rcases hc with c | c
        · rw [s0.1 b c.1, s1.2 b c.2]; rfl
        · rw [s0.2 b c.1, s1.1 b c.2]; rfl
    · obtain ⟨v0, e0, _, s0, b0⟩ := p0 (by decide)
      obtain ⟨v1, e1, _, s1, b1⟩ := p1 (by decide)
      rw [e0, e1]
      exact hs_add hw.2 (le (show widAt L k0 ≤ 64 by rw [(wbin (by omega)).1]; exact hw.2) b0.1) s0.1 s1.1
    · obtain ⟨v0, e0, _, s0, b0⟩ := p0 (by decide)
      obtain ⟨v1, e1, l1, s1, b1⟩ := p1 (by decide)
      rw [e0, e1]
      exact hs_sub hw.2 (le (show widAt L k0 ≤ 64 by rw [(wbin (by omega)).1]; exact hw.2) b0.1) (le (show widAt L k1 ≤ 64 by rw [(wbin (by omega)).2]; exact hw.2) l1) s0.1 s1.1
    · obtain ⟨v0, e0, _, s0, b0⟩ := p0 (by decide)
      obtain ⟨v1, e1, l1, s1, b1⟩ := p1 (by decide)
      rw [e0, e1]
      exact hs_mul hw.2 (le (show widAt L k0 ≤ 64 by rw [(wbin (by omega)).1]; exact hw.2) b0.1) (le (show widAt L k1 ≤ 64 by rw [(wbin (by omega)).2]; exact hw.2) b1.1) s0.1 s1.1
    · obtain ⟨v0, e0, l0, s0, b0⟩ := p0 (by decide)
      have ww := wbin (by omega)
      rw [ww.1] at l0 b0
      show Sure (farK 15 (widAt L k0) (kbAt (kvals L i) k0) (farOf L k1)) (low w (numB 15 (widAt L k0) (widAt L k1) (vAt (valsN L asg0 i) k0) (vAt (valsN L asg0 i) k1)))
      rw [ww.1, e0]
      cases hf : farOf L k1 with
      | none => exact sure_nil _
      | some m =>
        rw [far (by decide) m hf]
        exact sure_shl' hw.2 s0
    · obtain ⟨v0, e0, l0, s0, b0⟩ := p0 (by decide)
      have ww := wbin (by omega)
      rw [ww.1] at l0 b0
      show Sure (farK 16 (widAt L k0) (kbAt (kvals L i) k0) (farOf L k1)) (low w (numB 16 (widAt L k0) (widAt L k1) (vAt (valsN L asg0 i) k0) (vAt (valsN L asg0 i) k1)))
      rw [ww.1, e0]
      cases hf : farOf L k1 with
      | none => exact sure_nil _
      | some m =>
        rw [far (by decide) m hf]
        exact sure_lshr' hw.2 s0 b0 l0
    · obtain ⟨v0, e0, l0, s0, b0⟩ := p0 (by decide)
      have ww := wbin (by omega)
      rw [ww.1] at l0 b0
      show Sure (farK 17 (widAt L k0) (kbAt (kvals L i) k0) (farOf L k1)) (low w (numB 17 (widAt L k0) (widAt L k1) (vAt (valsN L asg0 i) k0) (vAt (valsN L asg0 i) k1)))
      rw [ww.1, e0]
      cases hf : farOf L k1 with
      | none => exact sure_nil _
      | some m =>
        rw [far (by decide) m hf]
        exact sure_ashr' hw.1 hw.2 s0 b0 l0
    · obtain ⟨v0, e0, l0, s0, b0⟩ := p0 (by decide)
      obtain ⟨v1, e1, l1, s1, b1⟩ := p1 (by decide)
      have ww := wcmp (by omega)
      rw [ww.2.1] at l1
      have R := hs_eq ww.2.2.2 s0 s1 l0 l1
      obtain rfl := ww.1
      rw [e0, e1]
      have e : low 1 (numB 18 (widAt L k0) (widAt L k1) v0 v1) = (v0 == v1).toNat := by
        show low 1 (v0 == v1).toNat = _
        cases (v0 == v1) <;> decide
      show Sure (eqK (widAt L k0) (kbAt (kvals L i) k0) (kbAt (kvals L i) k1)) (low 1 (numB 18 (widAt L k0) (widAt L k1) v0 v1))
      rw [e]
      exact R
    · obtain ⟨v0, e0, l0, s0, b0⟩ := p0 (by decide)
      obtain ⟨v1, e1, l1, s1, b1⟩ := p1 (by decide)
      have ww := wcat rfl
      rw [e0, e1]
      exact sure_concat' hw.2 (by omega) s0 s1 b1.1 l1
    · obtain ⟨v0, e0, l0, s0, b0⟩ := p0 (by decide)
      have ww := wcut rfl
      rw [e0]
      exact sure_extract' (by omega) s0
    · obtain ⟨v0, e0, l0, s0, b0⟩ := p0 (by decide)
      have ww := wwide (.inl rfl)
      rw [e0]
      exact hs_zext ww.2.1 ww.2.2 s0 l0
    · obtain ⟨v0, e0, l0, s0, b0⟩ := p0 (by decide)
      have ww := wwide (.inr rfl)
      rw [e0]
      exact hs_sext ww.1 ww.2.1 ww.2.2 s0 b0 l0
    · obtain ⟨v0, e0, l0, s0, b0⟩ := p0 (by decide)
      obtain ⟨v1, e1, l1, s1, b1⟩ := p1 (by decide)
      obtain ⟨v2, e2, l2, s2, b2⟩ := p2 (by decide)
      have ww := wite rfl
      rw [ww.1] at l0
      rw [ww.2.1] at l1
      rw [ww.2.2] at l2
      show Sure (iteK (widAt L k1) (kbAt (kvals L i) k0) (kbAt (kvals L i) k1) (kbAt (kvals L i) k2)) (if vAt (valsN L asg0 i) k0 = 1 then vAt (valsN L asg0 i) k1 else vAt (valsN L asg0 i) k2)
      rw [ww.2.1, e0, e1, e2]
      exact hs_ite (by simpa using l0) s0 s1 s2 l1 l2
    · have e : opK o w n l (widAt L k0) (widAt L k1) (kbAt (kvals L i) k0) (kbAt (kvals L i) k1) (kbAt (kvals L i) k2) (farOf L k1) = (0, 0) := by
        unfold opK
        rw [if_neg (by omega), if_neg (by omega), if_neg (by omega), if_neg (by omega), if_neg (by omega), if_neg (by omega), if_neg (by omega), if_neg (by omega), if_neg (by omega), if_neg (by omega), if_neg (by omega), if_neg (by omega), if_neg (by omega), if_neg (by omega)]
      rw [e]
      exact sure_nil _
end Kn
end Go.Proofs.Ytigjbngedbbdbaa
