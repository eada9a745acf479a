/-
What is there behind each node that the statements' loops hand to Make; the argument, a list of nodes; the document's own number of kids.
The program's store and the document's own beside each other: what stays while nodes are made in both.
The statements' two stores: what 'made' answers of a list of nodes, as a fact on one call.
-/
import Derived.Test.YtkiegiofholofaaTmOnceA
import Derived.Test.YtkiegiofholofaaTmRefD
import Derived.Test.YtkiegiofholofaaPt02
import Derived.Deep.LoopGhost
namespace Go.Proofs.Ytkiegiofholofaa
open Go.RowKit Go.Maps Bv
namespace Tm
set_option maxHeartbeats 400000
set_option maxRecDepth 100000

/-- The argument: a list of nodes, in memory that was there before the call. -/
def ArgAt (W : World) (al : Option Addr) (X : List Nd) : Prop :=
  X = [] ∨ ∃ bl ol, al = some ⟨bl, ol, none⟩ ∧ bl < W.heap.size ∧ ∀ (i : Nat) (x : Nd), X[i]? = some x → ∀ j u, x.cells.toList[j]? = some u → W.cell? ⟨bl, ol + i * 7 + j, none⟩ = some u
theorem ArgAt.at' {W : World} {al : Option Addr} {X : List Nd} (h : ArgAt W al X) {i : Nat} {x : Nd} (hx : X[i]? = some x) :
    ∃ bl ol, al = some ⟨bl, ol, none⟩ ∧ bl < W.heap.size ∧ (∀ w, Below W.heap.size W w → ∀ j u, x.cells.toList[j]? = some u → w.cell? ⟨bl, ol + i * 7 + j, none⟩ = some u) := by
  rcases h with h | ⟨bl, ol, h1, h2, h3⟩
  · subst h; simp at hx
  · exact ⟨bl, ol, h1, h2, fun w hb j u hj => (hb.cell (p := ⟨bl, ol + i * 7 + j, none⟩) h2).trans (h3 i x hx j u hj)⟩

theorem st_make {W : World} {p m : Nat} {u4 u5 : Value} {L : List Nd} {ids : List Nat} {N : List Nd} {w : World} {x : Nd} (h : StE W p m u4 u5 L ids N w) (hx : x.Ok) (a er : Nat) (ha : (mk L x).2.1 = a) (he : (mk L x).2.2 = er) :
    Calls Try.prog 13 #[.pointer (some ⟨p, 0, none⟩), x.val] w fun e w' => e = .returned (.tuple #[.int .i64 ((a : Nat) : Int), .int .i64 ((er : Nat) : Int)]) ∧ StE W p m u4 u5 (mk L x).1 ids N w' := by
  obtain ⟨sv, s⟩ := h
  subst ha; subst he
  refine (make_any s.s s.b.size hx).mono ?_
  rintro e w' ⟨rfl, v, S', K, loc⟩
  exact ⟨rfl, v, s.make S' K loc⟩

theorem StE.b {W : World} {p m : Nat} {u4 u5 : Value} {L : List Nd} {ids : List Nat} {N : List Nd} {w : World} (h : StE W p m u4 u5 L ids N w) : Below W.heap.size W w := by obtain ⟨sv, s⟩ := h; exact s.b
theorem StE.r4 {W : World} {p m : Nat} {u4 u5 : Value} {L : List Nd} {ids : List Nat} {N : List Nd} {w : World} (h : StE W p m u4 u5 L ids N w) : w.ownsRow W.heap.size 3 1 u4 ids.length (todoRow ids) := by obtain ⟨sv, s⟩ := h; exact s.r4
theorem StE.r5 {W : World} {p m : Nat} {u4 u5 : Value} {L : List Nd} {ids : List Nat} {N : List Nd} {w : World} (h : StE W p m u4 u5 L ids N w) : w.ownsRow W.heap.size 57 7 u5 N.length (rowOf N) := by obtain ⟨sv, s⟩ := h; exact s.r5
theorem StE.good {W : World} {p m : Nat} {u4 u5 : Value} {L : List Nd} {ids : List Nat} {N : List Nd} {w : World} (h : StE W p m u4 u5 L ids N w) : Gd L := by obtain ⟨sv, s⟩ := h; exact s.s.good
theorem StE.call {W : World} {p m : Nat} {u4 u5 : Value} {L : List Nd} {ids : List Nat} {N : List Nd} {w w' : World} (h : StE W p m u4 u5 L ids N w) (k : Below w.heap.size w w') : StE W p m u4 u5 L ids N w' := by obtain ⟨sv, s⟩ := h; exact ⟨sv, s.call k⟩
theorem StE.push4 {W : World} {p m : Nat} {u4 u5 v : Value} {L : List Nd} {ids : List Nat} {N : List Nd} {w w' : World} {a : Nat} {o : Obj} (h : StE W p m u4 u5 L ids N w) (hr : w'.ownsRow W.heap.size 3 1 v (ids.length + 1) (todoRow ids ++ [.int .i64 ((a : Nat) : Int)])) (hg : (w.alloc o).grownBy w' u4.ownBlock) (hl : v.ownBlock = u4.ownBlock ∨ v.ownBlock = some (w.alloc o).heap.size) : StE W p m v u5 L (ids ++ [a]) N w' := by
  obtain ⟨sv, s⟩ := h; exact ⟨sv, s.push4 hr hg hl⟩
theorem StE.push5 {W : World} {p m : Nat} {u4 u5 v : Value} {L : List Nd} {ids : List Nat} {N : List Nd} {w w' : World} {x : Nd} {o : Obj} (h : StE W p m u4 u5 L ids N w) (hr : w'.ownsRow W.heap.size 57 7 v (N.length + 1) (rowOf N ++ x.cells.toList)) (hg : (w.alloc o).grownBy w' u5.ownBlock) (hl : v.ownBlock = u5.ownBlock ∨ v.ownBlock = some (w.alloc o).heap.size) : StE W p m u4 v L ids (N ++ [x]) w' := by
  obtain ⟨sv, s⟩ := h; exact ⟨sv, s.push5 hr hg hl⟩

/-- Ahead of each node of the loop that makes them. -/
structure Loop1 (W : World) (p m n i : Nat) (u4 u5 : Value) (w : World) : Prop where
  st : ∃ L ids N, StE W p m u4 u5 L ids N w ∧ NumOf L ids N ∧ ids.length ≤ i ∧ (∀ x ∈ N, x.Ok)
  le : i ≤ n
  le100 : i ≤ 100

theorem loop1_start {W w : World} {n : Nat} (S : StoreAt W.heap.size w (W.heap.size + 1) W.heap.size (.slice none 0 0) []) (hb : Below W.heap.size W w) : Loop1 W (W.heap.size + 1) W.heap.size n 0 (.slice none 0 0) (.slice none 0 0) w :=
  ⟨⟨[], [], [], ⟨_, S, World.ownsRow_nil _ _ _ _, World.ownsRow_nil _ _ _ _, fun g e => by simp [Value.ownBlock] at e, fun g e => by simp [Value.ownBlock] at e, hb⟩, ⟨rfl, fun j a x h => by simp at h⟩, Nat.le_refl _, by simp⟩, Nat.zero_le _, Nat.zero_le _⟩

end Tm
end Go.Proofs.Ytkiegiofholofaa

namespace Go.Proofs.Ytkiegiofholofaa
open Go.RowKit Go.Maps Bv
namespace Tm
set_option maxHeartbeats 400000
set_option maxRecDepth 100000

theorem rfoot_lt {B : Nat} {w : World} {q : Nat} {rv : Value} {L : List Nd} (S : RefAt B w q rv L) {i : Nat} (h : rfoot q rv i) : B ≤ i ∧ i < w.heap.size := by
  rcases h with c | c
  · subst c; exact ⟨S.bp, S.lt⟩
  · exact S.row.lt i c

/-- Both stores, no block shared; what was there before the call is as it was. -/
structure Two (W : World) (p m q : Nat) (sv rv : Value) (L1 L2 : List Nd) (w : World) : Prop where
  s : StoreAt W.heap.size w p m sv L1
  r : RefAt W.heap.size w q rv L2
  ap : ∀ g, rfoot q rv g → ¬ foot p m sv g
  b : Below W.heap.size W w
def TwoE (W : World) (p m q : Nat) (L1 L2 : List Nd) (w : World) : Prop := ∃ sv rv, Two W p m q sv rv L1 L2 w

theorem Two.smake {W w w' : World} {p m q : Nat} {sv rv v : Value} {L1 L2 L' : List Nd} (h : Two W p m q sv rv L1 L2 w) (S' : StoreAt W.heap.size w' p m v L') (K : Kept (foot p m sv) w w') (loc : v.ownBlock = sv.ownBlock ∨ ∃ g, w.heap.size ≤ g ∧ v.ownBlock = some g) :
    Two W p m q v rv L' L2 w' := by
  refine ⟨S', h.r.kept K (fun i hi c => h.ap i hi c), fun g hg c => ?_, h.b.trans (K.below (fun i hi c => by have := (foot_lt h.s c).1; omega) h.b.size)⟩
  rcases c with c | c | c
  · exact h.ap g hg (.inl c)
  · exact h.ap g hg (.inr (.inl c))
  · rcases loc with l | ⟨g2, hg2, l⟩
    · rw [l] at c; exact h.ap g hg (.inr (.inr c))
    · rw [l] at c
      have := (rfoot_lt h.r hg).2
      simp at c
      omega
theorem Two.rmake {W w w' : World} {p m q : Nat} {sv rv v : Value} {L1 L2 L' : List Nd} (h : Two W p m q sv rv L1 L2 w) (S' : RefAt W.heap.size w' q v L') (K : Kept (rfoot q rv) w w') (loc : v.ownBlock = rv.ownBlock ∨ ∃ g, w.heap.size ≤ g ∧ v.ownBlock = some g) :
    Two W p m q sv v L1 L' w' := by
  refine ⟨h.s.kept K (fun i hi c => h.ap i c hi), S', fun g hg c => ?_, h.b.trans (K.below (fun i hi c => by have := (rfoot_lt h.r c).1; omega) h.b.size)⟩
  rcases hg with d | d
  · exact h.ap g (.inl d) c
  · rcases loc with l | ⟨g2, hg2, l⟩
    · rw [l] at d; exact h.ap g (.inr d) c
    · rw [l] at d
      have := (foot_lt h.s c).2
      simp at d
      omega
theorem Two.call {W w w' : World} {p m q : Nat} {sv rv : Value} {L1 L2 : List Nd} (h : Two W p m q sv rv L1 L2 w) (k : Below w.heap.size w w') : Two W p m q sv rv L1 L2 w' :=
  ⟨h.s.call k, h.r.call k, h.ap, h.b.trans (k.mono h.b.size)⟩
theorem TwoE.call {W w w' : World} {p m q : Nat} {L1 L2 : List Nd} (h : TwoE W p m q L1 L2 w) (k : Below w.heap.size w w') : TwoE W p m q L1 L2 w' := by obtain ⟨sv, rv, s⟩ := h; exact ⟨sv, rv, s.call k⟩
theorem TwoE.b {W w : World} {p m q : Nat} {L1 L2 : List Nd} (h : TwoE W p m q L1 L2 w) : Below W.heap.size W w := by obtain ⟨sv, rv, s⟩ := h; exact s.b
theorem TwoE.good {W w : World} {p m q : Nat} {L1 L2 : List Nd} (h : TwoE W p m q L1 L2 w) : Gd L1 := by obtain ⟨sv, rv, s⟩ := h; exact s.s.good

/-- A call that has made the node x in the program's store. -/
theorem two_made {W w : World} {p m q : Nat} {L1 L2 : List Nd} {x : Nd} {f : FuncId} {args : Array Value} {a er : Nat} (h : TwoE W p m q L1 L2 w) (hc : ∀ sv, StoreAt W.heap.size w p m sv L1 → W.heap.size ≤ w.heap.size → Calls Try.prog f args w (Made W.heap.size p m sv L1 x w)) (ha : (mk L1 x).2.1 = a) (he : (mk L1 x).2.2 = er) :
    Calls Try.prog f args w fun e w' => e = .returned (.tuple #[.int .i64 ((a : Nat) : Int), .int .i64 ((er : Nat) : Int)]) ∧ TwoE W p m q (mk L1 x).1 L2 w' := by
  obtain ⟨sv, rv, s⟩ := h
  subst ha; subst he
  refine (hc sv s.s s.b.size).mono ?_
  rintro e w' ⟨rfl, v, S', K, loc⟩
  exact ⟨rfl, v, rv, s.smake S' K loc⟩
theorem two_make {W w : World} {p m q : Nat} {L1 L2 : List Nd} {x : Nd} (h : TwoE W p m q L1 L2 w) (hx : x.Ok) (a er : Nat) (ha : (mk L1 x).2.1 = a) (he : (mk L1 x).2.2 = er) :
    Calls Try.prog 13 #[.pointer (some ⟨p, 0, none⟩), x.val] w fun e w' => e = .returned (.tuple #[.int .i64 ((a : Nat) : Int), .int .i64 ((er : Nat) : Int)]) ∧ TwoE W p m q (mk L1 x).1 L2 w' :=
  two_made h (fun _ S hB => make_any S hB hx) ha he
theorem two_rmake {W w : World} {p m q : Nat} {L1 L2 : List Nd} {x : Nd} (h : TwoE W p m q L1 L2 w) (hx : x.Ok) (a er : Nat) (ha : (mk L2 x).2.1 = a) (he : (mk L2 x).2.2 = er) :
    Calls Try.prog 14 #[.pointer (some ⟨q, 0, none⟩), x.val] w fun e w' => e = .returned (.tuple #[.int .i64 ((a : Nat) : Int), .int .i64 ((er : Nat) : Int)]) ∧ TwoE W p m q L1 (mk L2 x).1 w' := by
  obtain ⟨sv, rv, s⟩ := h
  subst ha; subst he
  refine (rmake_any s.r s.b.size hx).mono ?_
  rintro e w' ⟨rfl, v, S', K, loc⟩
  exact ⟨rfl, sv, v, s.rmake S' K loc⟩

/-! ### the widths and numbers that TermWays asks of the document's -/
def wd6 (w : Int) : Nat := if 0 ≤ w ∧ w ≤ 64 then w.toNat else 0
def nm6 (n : Int) : Nat := if 0 ≤ n then n.toNat else 256
theorem mk_refuse {L : List Nd} {x : Nd} (h : mayN L x = false) : mk L x = (L, 0, 2) := by unfold mk; rw [if_pos h]
theorem may_wide {L : List Nd} {x : Nd} (h : ¬ (1 ≤ x.w ∧ x.w ≤ 64)) : mayN L x = false := by
  cases hm : mayN L x with
  | false => rfl
  | true => exact absurd (mayN_w hm) h
theorem ways_const (L : List Nd) (w : Int) (c : Nat) : mk L (cnd w c) = mk L ⟨1, wd6 w, 0, 0, 0, c, 0⟩ := by
  by_cases h : 0 ≤ w ∧ w ≤ 64
  · have : nar w = wd6 w := by unfold nar wd6; rw [if_pos (by omega), if_pos h]
    unfold cnd
    rw [this]
  · rw [mk_refuse (may_wide (x := ⟨1, wd6 w, 0, 0, 0, c, 0⟩) (by show ¬ (1 ≤ wd6 w ∧ wd6 w ≤ 64); unfold wd6; rw [if_neg h]; omega)),
      mk_refuse (may_wide (x := cnd w c) (by show ¬ (1 ≤ nar w ∧ nar w ≤ 64); unfold nar; split <;> omega))]
theorem may_far {L : List Nd} {x : Nd} (ho : x.o = 2) (h : 256 ≤ x.n) : mayN L x = false := by
  cases hm : mayN L x with
  | false => rfl
  | true => have := mayN_var hm ho; omega
theorem ways_var (L : List Nd) (w n : Int) (hn : I64 n) : mk L (vnd w n) = mk L ⟨2, wd6 w, 0, 0, 0, nm6 n, 0⟩ := by
  by_cases hz : 0 ≤ n
  · have hu : u64 n = nm6 n := by
      unfold u64 nm6; rw [if_pos hz, IntKind.wrap_u64]
      unfold I64 at hn
      omega
    by_cases h : 0 ≤ w ∧ w ≤ 64
    · have : nar w = wd6 w := by unfold nar wd6; rw [if_pos (by omega), if_pos h]
      unfold vnd
      rw [this, hu]
    · rw [mk_refuse (may_wide (x := ⟨2, wd6 w, 0, 0, 0, nm6 n, 0⟩) (by show ¬ (1 ≤ wd6 w ∧ wd6 w ≤ 64); unfold wd6; rw [if_neg h]; omega)),
        mk_refuse (may_wide (x := vnd w n) (by show ¬ (1 ≤ nar w ∧ nar w ≤ 64); unfold nar; split <;> omega))]
  · have hu : 256 ≤ u64 n := by
      unfold u64; rw [IntKind.wrap_u64]
      unfold I64 at hn
      omega
    rw [mk_refuse (may_far (x := ⟨2, wd6 w, 0, 0, 0, nm6 n, 0⟩) rfl (by show 256 ≤ nm6 n; unfold nm6; rw [if_neg hz]; exact Nat.le_refl _)),
      mk_refuse (may_far (x := vnd w n) rfl hu)]

/-- Ahead of each node of the loop that makes them in both. -/
structure Loop2 (W : World) (p m q n k i : Nat) (w : World) : Prop where
  st : ∃ L, TwoE W p m q L L w
  le : i ≤ n
  lek : i ≤ k

/-! ### the document's store as it begins -/
theorem rzero_is : Try.zeroCells40 = #[.slice none 0 0] ++ Array.replicate 256 (.int .u8 0) := by kernel_rfl
theorem ref_store (w : World) : RefAt w.heap.size (w.alloc (.cells Try.zeroCells40 40)) w.heap.size (.slice none 0 0) [] := by
  have hh := (MapKept.heap_alloc w (.cells Try.zeroCells40 40)).1
  have hz : ∀ j, Try.zeroCells40[j]? = if j = 0 then some (.slice none 0 0) else if j < 257 then some (.int .u8 0) else none := by
    intro j
    rw [rzero_is, Array.getElem?_append]
    by_cases h0 : j = 0
    · subst h0; simp
    · rw [if_neg (by simp; omega), if_neg h0, Array.getElem?_replicate]
      simp only [List.size_toArray, List.length_cons, List.length_nil]
      by_cases hj : j < 257
      · rw [if_pos (by omega), if_pos hj]
      · rw [if_neg (by omega), if_neg hj]
  generalize Try.zeroCells40 = C at hh hz ⊢
  have hs : (w.alloc (.cells C 40)).heap.size = w.heap.size + 1 := by simp
  generalize (w.alloc (.cells C 40)) = W2 at hh hs ⊢
  have hc : ∀ j, W2.cell? ⟨w.heap.size, j, none⟩ = C[j]? := by
    intro j
    unfold World.cell?
    rw [hh]
    rfl
  refine ⟨Nat.le_refl _, by omega, ?_, ?_, ?_, World.ownsRow_nil _ _ _ _, by simp [Value.ownBlock], gd_nil⟩
  · rw [hc, hz]; rfl
  · intro v hv
    rw [hc, hz, if_neg (by omega), if_pos (by omega)]
    rfl
  · intro o
    unfold World.frozen?
    rw [hh]
    simp

theorem two_start {W v : World} (S : StoreAt W.heap.size v (W.heap.size + 1) W.heap.size (.slice none 0 0) []) (hb : Below W.heap.size W v) : TwoE W (W.heap.size + 1) W.heap.size v.heap.size [] [] (v.alloc (.cells Try.zeroCells40 40)) := by
  have R := ref_store v
  refine ⟨_, _, S.alloc _, ⟨?_, R.lt, R.c0, R.cw, R.fr, World.ownsRow_nil _ _ _ _, R.gp, gd_nil⟩, fun g hg c => ?_, bel_alloc hb _⟩
  · have := S.lt; omega
  · have h1 := (foot_lt S c).2
    rcases hg with d | d
    · omega
    · simp [Value.ownBlock] at d

end Tm
end Go.Proofs.Ytkiegiofholofaa

namespace Go.Proofs.Ytkiegiofholofaa
open Go.RowKit Go.Maps Bv
namespace Tm
set_option maxHeartbeats 1000000
set_option maxRecDepth 100000

theorem mk_len_le (L : List Nd) (x : Nd) : (mk L x).1.length ≤ L.length + 1 := by
  unfold mk
  (repeat' split) <;> simp

/-- Ahead of each node. -/
structure LoopM (W : World) (p m q n k i : Nat) (w : World) : Prop where
  st : ∃ L, TwoE W p m q L L w ∧ MayL L ∧ L.length ≤ i
  le : i ≤ n
  lek : i ≤ k

theorem made_any {W : World} {al : Option Addr} {X : List Nd} {cl n : Nat} (hX : ArgAt W al X) (hok : ∀ x ∈ X, x.Ok) (hn : n = X.length) :
    Calls Try.prog 6 #[.slice al n cl] W fun e W' => ∃ (q : Nat) (L : List Nd), e = .returned (.tuple #[.pointer (some ⟨W.heap.size + 1, 0, none⟩), .pointer (some ⟨q, 0, none⟩)]) ∧ TwoE W (W.heap.size + 1) W.heap.size q L L W' ∧ MayL L ∧ L.length ≤ 60 := by
  have HX := Lib.hid hX
  have HOK := Lib.hid hok
  have HN := Lib.hid hn
  clear hX hok hn
  go_enter Try.func6, Try.ntmps6
  go_wp2_with (go_at_call 12; refine (new_at W).mono ?_; rintro e v0 ⟨rfl, S0, hb0⟩)
  have HT0 := Lib.hid (two_start S0 hb0)
  clear S0 hb0
  obtain ⟨qq, hqq⟩ : ∃ qq, v0.heap.size = qq := ⟨_, rfl⟩
  rw [hqq] at HT0
  simp only [hqq]
  go_loopg [6] (min n 60) (fun gk u6 wr => ∃ i : Nat, u6 = .int .i64 ((i : Nat) : Int) ∧ i + gk = min n 60 ∧ LoopM W (W.heap.size + 1) W.heap.size qq n 60 i wr)
  case atStart => exact ⟨0, rfl, by omega, ⟨_, HT0.out, mayL_nil, Nat.le_refl _⟩, Nat.zero_le _, Nat.zero_le _⟩
  case round =>
    obtain ⟨i, rfl, hgk, ⟨⟨L, hst, hmay, hll⟩, hle, hlek⟩⟩ := hrel
    clear HT0 hqq
    have HMAY := Lib.hid hmay
    have HLL := Lib.hid (And.intro hll hlek)
    clear hll
    by_cases hin : i < n ∧ i < 60
    case pos =>
      obtain ⟨x, hx⟩ : ∃ x, X[i]? = some x := ⟨_, List.getElem?_eq_getElem (by rw [← HN.out]; exact hin.1)⟩
      obtain ⟨bl, ol, rfl, lbl, hcell⟩ := HX.out.at' hx
      have hxok := HOK.out x (List.mem_of_getElem? hx)
      have hb := hst.b
      obtain ⟨f0, f1, f2, f3, f4, f5, f6⟩ := cells_far (hcell wr hb)
      have q1 : ((i : Nat) : Int) < ((n : Nat) : Int) := by omega
      have q2 : ((i : Nat) : Int) < 60 := by omega
      have q0 : (0 : Int) ≤ ((i : Nat) : Int) := by omega
      have r1 : IntKind.i64.wrap (((i : Nat) : Int) + 1) = (((i + 1 : Nat) : Nat) : Int) := by rw [IntKind.wrap_i64]; omega
      have r2 : wrap64 (((i : Nat) : Int) + 1) = (((i + 1 : Nat) : Nat) : Int) := by unfold wrap64; rw [← IntKind.wrap_i64]; exact r1
      have HR2 := Lib.hid r2
      obtain ⟨a, ha⟩ : ∃ a, (mk L x).2.1 = a := ⟨_, rfl⟩
      obtain ⟨er, he⟩ : ∃ er, (mk L x).2.2 = er := ⟨_, rfl⟩
      have HM := Lib.hid (two_make hst hxok a er ha he)
      have HM2 := Lib.hid (fun w1 (h : TwoE W (W.heap.size + 1) W.heap.size qq (mk L x).1 L w1) => two_rmake h hxok a er ha he)
      unfold Nd.val at HM HM2
      have HC := Lib.hid hcell
      have HGK := Lib.hid (And.intro hgk hin)
      clear hst hgk hle hlek hx hcell hxok ha he r1 r2 hb hin hmay
      go_wp2_with (first | (go_at_call 13; refine HM.out.mono ?_; rintro e w1 ⟨rfl, hs1⟩; obtain ⟨g0, g1, g2, g3, g4, g5, g6⟩ := cells_far (HC.out w1 hs1.b); have HS1 := Lib.hid hs1; clear hs1) | (go_at_call 14; refine (HM2.out _ HS1.out).mono ?_; rintro e w2 ⟨rfl, hs2⟩; have HS2 := Lib.hid hs2; clear hs2))
      go_roundg (gk - 1)
      case measure => have := HGK.out; omega
      case rel => exact ⟨i + 1, by first | rfl | (rw [HR2.out]) | (congr 1; exact HR2.out), by have := HGK.out; omega, ⟨_, HS2.out, mayL_step HMAY.out x, Nat.le_trans (mk_len_le L x) (Nat.succ_le_succ HLL.out.1)⟩, by have := HGK.out; omega, by have := HGK.out; omega⟩
    case neg =>
      have ex : (n ≤ i) ∨ (i < n ∧ (60 : Int) ≤ ((i : Nat) : Int)) := by omega
      have HST := Lib.hid hst
      clear hin hgk hle hlek hst hmay
      rcases ex with ex | ⟨ex1, ex2⟩
      all_goals
        go_wp2_with fail
        refine bodyPost_ret (v := .tuple #[.pointer (some ⟨W.heap.size + 1, 0, none⟩), .pointer (some ⟨qq, 0, none⟩)]) (by simp [results, Try.results6, go_sem]) rfl ?_
        exact ⟨qq, L, rfl, HST.out, HMAY.out, Nat.le_trans HLL.out.1 HLL.out.2⟩
end Tm
end Go.Proofs.Ytkiegiofholofaa
