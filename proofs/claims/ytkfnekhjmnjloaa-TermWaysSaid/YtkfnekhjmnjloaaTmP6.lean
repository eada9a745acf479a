/-
The comparison of two lists that are the same; Vars of a number that no node has; the statements' own small check of examples.
The statements' own small check of examples: it returns true, as a fact on one call.
A store beside a list of numbers and a list of nodes, all of the call's own: what stays while nodes are made and the lists grow.
What is there behind each node that the statements' loops hand to Make; the argument, a list of nodes; the document's own number of kids.
-/
import Derived.Test.YtkfnekhjmnjloaaTmVars
import Derived.Deep.LoopGhost
import Derived.BigQuiet
namespace Go.Proofs.Ytkfnekhjmnjloaa
open Go.RowKit Go.Maps Bv
namespace Tm
set_option maxHeartbeats 1000000
set_option maxRecDepth 100000

theorem row_at {w : World} {base : Nat} {v : Value} {T : List Nat} (h : w.ownsRow base 3 1 v T.length (todoRow T)) (hT : 0 < T.length) :
    ∃ g c, v = .slice (some ⟨g, 0, none⟩) T.length c ∧ ∀ j i, T[j]? = some i → w.cell? ⟨g, j, none⟩ = some (.int .i64 ((i : Nat) : Int)) := by
  have hr := h
  rcases h with ⟨hl, ⟨_, h2⟩ | ⟨g, cap, cur, hv, hb, hh, hn, _⟩⟩
  · omega
  · refine ⟨g, cap, hv, fun j i hj => ?_⟩
    have hc := hr.cells (g := g) (by rw [hv]; rfl) j (.int .i64 ((i : Nat) : Int)) (by simp [todoRow, hj])
    have e : (⟨g, 0, none⟩ : Addr).add j = ⟨g, j, none⟩ := by
      unfold Addr.add
      split <;> simp_all
    rw [e] at hc
    exact hc

theorem row_zero {w : World} {base : Nat} {v : Value} {xs : List Value} (h : w.ownsRow base 3 1 v 0 xs) : ∃ a c, v = .slice a 0 c := by
  rcases h with ⟨hl, ⟨h1, _⟩ | ⟨g, cap, cur, hv, _⟩⟩
  · exact ⟨none, 0, h1⟩
  · exact ⟨_, _, hv⟩

theorem ints_same {W : World} {b1 b2 : Nat} {v u : Value} {T : List Nat} (hv : W.ownsRow b1 3 1 v T.length (todoRow T)) (hu : W.ownsRow b2 3 1 u T.length (todoRow T)) (hl : T.length ≤ 1000000) :
    Calls Try.prog 14 #[v, u] W fun e W' => e = .returned (.bool true) ∧ ∃ c, W' = W.drewN c := by
  by_cases hz : T.length = 0
  · rw [hz] at hv hu
    obtain ⟨a1, c1, rfl⟩ := row_zero hv
    obtain ⟨a2, c2, rfl⟩ := row_zero hu
    clear hv hu
    go_enter Try.func14, Try.ntmps14
    go_wp2_with fail
    refine wp_loop_rounds 1 ?_
    rw [rounds_succ]
    go_wp2_with fail
    go_ret
    exact ⟨rfl, 0, rfl⟩
  · obtain ⟨g1, c1, rfl, h1⟩ := row_at hv (by omega)
    obtain ⟨g2, c2, rfl, h2⟩ := row_at hu (by omega)
    obtain ⟨n, hn⟩ : ∃ n, n = T.length := ⟨_, rfl⟩
    have H1 := Lib.hid h1
    have H2 := Lib.hid h2
    have HN := Lib.hid hn
    rw [← hn]
    have dn : (((n : Nat) : Int) != ((n : Nat) : Int)) = false := by simp
    clear hv hu h1 h2 hn hz
    go_enter Try.func14, Try.ntmps14
    go_wp2_with fail
    go_loopg [5] n (fun gk v5 wr => ∃ j c : Nat, v5 = .int .i64 ((j : Nat) : Int) ∧ j + gk = n ∧ wr = W.drewN c)
    case atStart => exact ⟨0, 0, rfl, by omega, rfl⟩
    case round =>
      obtain ⟨j, c, rfl, hj, rfl⟩ := hrel
      by_cases hlt : j < n
      · obtain ⟨i, hi⟩ : ∃ i, T[j]? = some i := ⟨_, List.getElem?_eq_getElem (by rw [← HN.out]; exact hlt)⟩
        have f1 := H1.out j i hi
        have f2 := H2.out j i hi
        have q1 : ((j : Nat) : Int) < ((n : Nat) : Int) := by omega
        have q0 : (0 : Int) ≤ ((j : Nat) : Int) := by omega
        have r1 : IntKind.i64.wrap (((j : Nat) : Int) + 1) = (((j + 1 : Nat) : Nat) : Int) := by rw [IntKind.wrap_i64]; have := HN.out; omega
        have r2 : wrap64 (((j : Nat) : Int) + 1) = (((j + 1 : Nat) : Nat) : Int) := by unfold wrap64; rw [← IntKind.wrap_i64]; exact r1
        have HR2 := Lib.hid r2
        have HJ := Lib.hid hj
        clear hi r1 r2 hj
        go_wp2_with fail
        go_quiet (fail)
        go_wp2_with fail
        go_roundg (gk - 1)
        case measure => have := HJ.out; omega
        case rel => exact ⟨j + 1, _, by first | rfl | (rw [HR2.out]) | (congr 1; exact HR2.out), by have := HJ.out; omega, by first | rfl | (rw [World.drewN_drewN])⟩
      · have q1 : decide (((j : Nat) : Int) < ((n : Nat) : Int)) = false := decide_eq_false (by omega)
        clear hj
        go_wp2_with fail
        go_ret
        exact ⟨rfl, c, rfl⟩

theorem vars_no {B p m : Nat} {k : Int} {sv : Value} {L : List Nd} {W : World} (S : StoreAt B W p m sv L) (hk : inB L k = false) :
    Calls Try.prog 12 #[.pointer (some ⟨p, 0, none⟩), .int .i64 k] W fun e W' => e = .returned (.tuple #[.slice none 0 0, .int .i64 2]) ∧ W = W' := by
  obtain ⟨a, c, rfl⟩ := S.shape
  have c0 := S.c0
  have c1 := S.c1
  have HI := Lib.hid hk
  clear S hk
  go_enter Try.func12, Try.ntmps12
  go_wp2_with (first | (go_at_call 21; refine (none_made p m _ c1).mono ?_; rintro e w' ⟨rfl, rfl⟩) | (go_at_call 25; refine (has_any p _ L c _ _ c0).mono ?_; rw [HI.out]; rintro e w' ⟨rfl, rfl⟩))
  exact bodyPost_ret (v := .tuple #[.slice none 0 0, .int .i64 2]) (by simp [results, Try.results12, go_sem]) rfl ⟨rfl, rfl⟩

/-! ### the small check -/
theorem made_to {B p m : Nat} {sv : Value} {L L' : List Nd} {x : Nd} {W : World} {f : FuncId} {args : Array Value} {a b : Int} (S : StoreAt B W p m sv L) (hB : B ≤ W.heap.size) (h : Calls Try.prog f args W (Made B p m sv L x W)) (h1 : (mk L x).1 = L') (h2 : (((mk L x).2.1 : Nat) : Int) = a) (h3 : (((mk L x).2.2 : Nat) : Int) = b) :
    Calls Try.prog f args W (fun e W' => e = .returned (.tuple #[.int .i64 a, .int .i64 b]) ∧ ∃ v, StoreAt B W' p m v L' ∧ Below B W W') := by
  refine h.mono ?_
  rintro e w' ⟨he, v, S', K, _⟩
  subst h1; subst h2; subst h3
  refine ⟨he, v, S', K.below (fun i hi hc => ?_) hB⟩
  rcases hc with c | c | c
  · have := S.bp; omega
  · have := S.bm; omega
  · have := (S.row.lt i c).1; omega

def w1 : Nd := ⟨2, 8, 0, 0, 0, 0, 0⟩
def w2 : Nd := ⟨1, 8, 0, 0, 0, 1, 0⟩
def w3 : Nd := ⟨8, 8, 0, 1, 0, 0, 0⟩
theorem w3_ok : w3.Ok := ⟨by decide, by decide, by simp [w3, I64], by simp [w3, I64], by simp [w3, I64], by decide, by decide⟩

theorem works_vars : varsOf [w1, w2, w3] 2 = [0] := by
  have g1 := gd_step gd_nil (x := w1) ⟨by decide, by decide, by simp [w1, I64], by simp [w1, I64], by simp [w1, I64], by decide, by decide⟩
  rw [show (mk [] w1).1 = [w1] by decide] at g1
  have g2 := gd_step g1 (x := w2) ⟨by decide, by decide, by simp [w2, I64], by simp [w2, I64], by simp [w2, I64], by decide, by decide⟩
  rw [show (mk [w1] w2).1 = [w1, w2] by decide] at g2
  have g3 := gd_step g2 (x := w3) w3_ok
  rw [show (mk [w1, w2] w3).1 = [w1, w2, w3] by decide] at g3
  refine rising_ext _ _ (varsOf_rising _ _) (by simp) (fun v => ?_)
  rw [mem_varsOf g3]
  constructor
  · rintro ⟨i, x, _, hx, ho, hn⟩
    have : i < 3 := (List.getElem?_eq_some_iff.1 hx).1
    match i, hx with
    | 0, hx => simp at hx; subst hx; subst hn; simp [w1]
    | 1, hx => simp at hx; subst hx; simp [w2] at ho
    | 2, hx => simp at hx; subst hx; simp [w3] at ho
  · intro h
    simp at h
    subst h
    have r2 : Reach [w1, w2, w3] 2 2 := .top
    have r0 := Reach.kid (j := 0) r2 (x := w3) rfl (by decide)
    exact ⟨0, w1, r0, rfl, rfl, rfl⟩

end Tm
end Go.Proofs.Ytkfnekhjmnjloaa

namespace Go.Proofs.Ytkfnekhjmnjloaa
open Go.RowKit Go.Maps Bv
namespace Tm
set_option maxHeartbeats 1000000
set_option maxRecDepth 100000

theorem new_at (W : World) :
    Calls Try.prog 7 #[] W fun e W' => e = .returned (.pointer (some ⟨W.heap.size + 1, 0, none⟩)) ∧
      StoreAt W.heap.size W' (W.heap.size + 1) W.heap.size (.slice none 0 0) [] ∧ Below W.heap.size W W' := by
  refine (new_any W).mono ?_
  rintro e w' ⟨rfl, rfl⟩
  exact ⟨rfl, new_store W, new_kept W _ _⟩

theorem works_any (W : World) :
    Calls Try.prog 17 #[] W fun e W' => e = .returned (.bool true) ∧ Below W.heap.size W W' := by
  go_enter Try.func17, Try.ntmps17
  go_wp2_with (go_at_call 7; refine (new_at W).mono ?_; rintro e v0 ⟨rfl, S0, hb0⟩)
  have hB0 := hb0.size
  have HC0 := Lib.hid (made_to S0 hB0 (var_any S0 (B := W.heap.size) hB0 8 0) (L' := [w1]) (a := 0) (b := 0) (by decide) (by decide) (by decide))
  clear S0
  go_wp2_with (go_at_call 19; refine HC0.out.mono ?_; rintro e v1 ⟨rfl, s1, S1, hb1⟩)
  replace hb1 := hb0.trans hb1
  have hB1 := hb1.size
  clear HC0
  have HC1 := Lib.hid (made_to S1 hB1 (const_any S1 hB1 8 1 (by decide)) (L' := [w1, w2]) (a := 1) (b := 0) (by decide) (by decide) (by decide))
  clear S1
  go_wp2_with (go_at_call 18; refine HC1.out.mono ?_; rintro e v2 ⟨rfl, s2, S2, hb2⟩)
  replace hb2 := hb1.trans hb2
  have hB2 := hb2.size
  clear HC1
  have HC2 := Lib.hid (made_to S2 hB2 (make_any (x := w3) S2 hB2 w3_ok) (L' := [w1, w2, w3]) (a := 2) (b := 0) (by decide) (by decide) (by decide))
  clear S2
  go_wp2_with (go_at_call 8; refine HC2.out.mono ?_; rintro e v3 ⟨rfl, s3, S3, hb3⟩)
  replace hb3 := hb2.trans hb3
  have hB3 := hb3.size
  clear HC2
  have HC3 := Lib.hid (made_to S3 hB3 (make_any (x := w3) S3 hB3 w3_ok) (L' := [w1, w2, w3]) (a := 2) (b := 0) (by decide) (by decide) (by decide))
  clear S3
  go_wp2_with (go_at_call 8; refine HC3.out.mono ?_; rintro e v4 ⟨rfl, s4, S4, hb4⟩)
  replace hb4 := hb3.trans hb4
  have hB4 := hb4.size
  clear HC3
  have HC4 := Lib.hid (made_to S4 hB4 (var_any S4 hB4 4 0) (L' := [w1, w2, w3]) (a := 0) (b := 7) (by decide) (by decide) (by decide))
  clear S4
  go_wp2_with (go_at_call 19; refine HC4.out.mono ?_; rintro e v5 ⟨rfl, s5, S5, hb5⟩)
  replace hb5 := hb4.trans hb5
  have hB5 := hb5.size
  clear HC4
  have HC5 := Lib.hid (made_to S5 hB5 (const_any S5 hB5 8 256 (by decide)) (L' := [w1, w2, w3]) (a := 0) (b := 2) (by decide) (by decide) (by decide))
  clear S5
  go_wp2_with (go_at_call 18; refine HC5.out.mono ?_; rintro e v6 ⟨rfl, s6, S6, hb6⟩)
  replace hb6 := hb5.trans hb6
  have hB6 := hb6.size
  clear HC5
  have HV := Lib.hid (vars_yes (k := 2) S6 (by decide))
  rw [works_vars] at HV
  have HS := Lib.hid S6
  clear S6
  go_wp2_with (go_at_call 12; refine HV.out.mono ?_; rintro e v7 ⟨u, rfl, hrow, hbv⟩)
  have S7 := HS.out.call hbv
  replace hb7 := hb6.trans (hbv.mono hB6)
  have HL := Lib.hid (len_any S7)
  clear S7 HV HS
  have hcell : (v7.alloc (.cells #[.int .i64 0] 3)).ownsRow 0 3 1 (.slice (some ⟨v7.heap.size, 0, none⟩) 1 1) [0].length (todoRow [0]) :=
    ⟨rfl, .inr ⟨v7.heap.size, 1, #[.int .i64 0], rfl, Nat.zero_le _, (MapKept.heap_alloc _ _).1, Nat.le_refl _, by unfold maxLen; omega, rfl, rfl⟩⟩
  have HI := Lib.hid (ints_same (hrow.alloc (.cells #[.int .i64 0] 3)) hcell (by decide))
  clear hrow hcell
  go_wp2_with (first | (go_at_call 15; refine HL.out.mono ?_; rintro e z ⟨rfl, rfl⟩) | (go_at_call 14; refine HI.out.mono ?_; rintro e z ⟨rfl, c, rfl⟩))
  go_ret
  exact ⟨rfl, (hb7.alloc (by have := hb7.size; omega) _).trans ⟨rfl, rfl, rfl, Nat.le_refl _, fun _ _ => rfl⟩⟩

end Tm
end Go.Proofs.Ytkfnekhjmnjloaa

namespace Go.Proofs.Ytkfnekhjmnjloaa
open Go.RowKit Go.Maps Bv
namespace Tm
set_option maxHeartbeats 400000
set_option maxRecDepth 100000

/-- The store, the two lists; no two of them share a block; what was there before the call is as it was. -/
structure St (W : World) (p m : Nat) (sv u4 u5 : Value) (L : List Nd) (ids : List Nat) (N : List Nd) (w : World) : Prop where
  s : StoreAt W.heap.size w p m sv L
  r4 : w.ownsRow W.heap.size 3 1 u4 ids.length (todoRow ids)
  r5 : w.ownsRow W.heap.size 36 7 u5 N.length (rowOf N)
  a4 : ∀ g, u4.ownBlock = some g → ¬ foot p m sv g ∧ u5.ownBlock ≠ some g
  a5 : ∀ g, u5.ownBlock = some g → ¬ foot p m sv g
  b : Below W.heap.size W w

def StE (W : World) (p m : Nat) (u4 u5 : Value) (L : List Nd) (ids : List Nat) (N : List Nd) (w : World) : Prop := ∃ sv, St W p m sv u4 u5 L ids N w

theorem foot_lt {B : Nat} {w : World} {p m : Nat} {sv : Value} {L : List Nd} (S : StoreAt B w p m sv L) {i : Nat} (h : foot p m sv i) : B ≤ i ∧ i < w.heap.size := by
  rcases h with c | c | c
  · subst c; exact ⟨S.bp, S.lt⟩
  · subst c; exact ⟨S.bm, S.lm⟩
  · exact S.row.lt i c

theorem St.make {W : World} {p m : Nat} {sv u4 u5 v : Value} {L L' : List Nd} {ids : List Nat} {N : List Nd} {w w' : World} (h : St W p m sv u4 u5 L ids N w) (S' : StoreAt W.heap.size w' p m v L') (K : Kept (foot p m sv) w w') (loc : v.ownBlock = sv.ownBlock ∨ ∃ g, w.heap.size ≤ g ∧ v.ownBlock = some g) :
    St W p m v u4 u5 L' ids N w' := by
  have hf : ∀ g, g < w.heap.size → foot p m v g → foot p m sv g := by
    intro g hg c
    rcases c with c | c | c
    · exact .inl c
    · exact .inr (.inl c)
    · rcases loc with l | ⟨g2, hg2, l⟩
      · rw [l] at c; exact .inr (.inr c)
      · rw [l] at c; simp at c; omega
  refine ⟨S', row_kept h.r4 K (fun g e => (h.a4 g e).1), row_kept h.r5 K (fun g e => h.a5 g e), fun g e => ⟨fun c => (h.a4 g e).1 (hf g (h.r4.lt g e).2 c), (h.a4 g e).2⟩, fun g e c => h.a5 g e (hf g (h.r5.lt g e).2 c), ?_⟩
  exact h.b.trans (K.below (fun i hi c => by have := (foot_lt h.s c).1; omega) h.b.size)

theorem St.call {W : World} {p m : Nat} {sv u4 u5 : Value} {L : List Nd} {ids : List Nat} {N : List Nd} {w w' : World} (h : St W p m sv u4 u5 L ids N w) (k : Below w.heap.size w w') : St W p m sv u4 u5 L ids N w' :=
  ⟨h.s.call k, row_kept h.r4 (Kept.ofBelow k (fun _ => False)) (fun _ _ c => c), row_kept h.r5 (Kept.ofBelow k (fun _ => False)) (fun _ _ c => c), h.a4, h.a5, h.b.trans (k.mono h.b.size)⟩

theorem St.push4 {W : World} {p m : Nat} {sv u4 u5 v : Value} {L : List Nd} {ids : List Nat} {N : List Nd} {w w' : World} {a : Nat} {o : Obj} (h : St W p m sv u4 u5 L ids N w) (hr : w'.ownsRow W.heap.size 3 1 v (ids.length + 1) (todoRow ids ++ [.int .i64 ((a : Nat) : Int)])) (hg : (w.alloc o).grownBy w' u4.ownBlock) (hl : v.ownBlock = u4.ownBlock ∨ v.ownBlock = some (w.alloc o).heap.size) :
    St W p m sv v u5 L (ids ++ [a]) N w' := by
  have K : Kept (fun i => u4.ownBlock = some i) w w' := ((Kept.refl _ w).alloc o).grown hg (fun i e _ => e)
  rw [size_alloc] at hl
  refine ⟨h.s.kept K (fun i hi c => (h.a4 i c).1 hi), by simpa [todoRow] using hr, row_kept h.r5 K (fun g e c => (h.a4 g c).2 e), ?_, h.a5, h.b.trans (K.below (fun i hi c => by have := (h.r4.lt i c).1; omega) h.b.size)⟩
  intro g e
  rcases hl with l | l
  · rw [l] at e; exact h.a4 g e
  · rw [l] at e
    simp at e
    refine ⟨fun c => by have := (foot_lt h.s c).2; omega, fun c => by have := (h.r5.lt g c).2; omega⟩

theorem St.push5 {W : World} {p m : Nat} {sv u4 u5 v : Value} {L : List Nd} {ids : List Nat} {N : List Nd} {w w' : World} {x : Nd} {o : Obj} (h : St W p m sv u4 u5 L ids N w) (hr : w'.ownsRow W.heap.size 36 7 v (N.length + 1) (rowOf N ++ x.cells.toList)) (hg : (w.alloc o).grownBy w' u5.ownBlock) (hl : v.ownBlock = u5.ownBlock ∨ v.ownBlock = some (w.alloc o).heap.size) :
    St W p m sv u4 v L ids (N ++ [x]) w' := by
  have K : Kept (fun i => u5.ownBlock = some i) w w' := ((Kept.refl _ w).alloc o).grown hg (fun i e _ => e)
  rw [size_alloc] at hl
  refine ⟨h.s.kept K (fun i hi c => h.a5 i c hi), row_kept h.r4 K (fun g e c => (h.a4 g e).2 c), by rw [rowOf_append]; simpa using hr, ?_, ?_, h.b.trans (K.below (fun i hi c => by have := (h.r5.lt i c).1; omega) h.b.size)⟩
  · intro g e
    refine ⟨(h.a4 g e).1, ?_⟩
    rcases hl with l | l
    · rw [l]; exact (h.a4 g e).2
    · rw [l]; intro c; simp at c; have := (h.r4.lt g e).2; omega
  · intro g e c
    rcases hl with l | l
    · rw [l] at e; exact h.a5 g e c
    · rw [l] at e
      simp at e
      have := (foot_lt h.s c).2
      omega

/-- Each number is that of its node. -/
structure NumOf (L : List Nd) (ids : List Nat) (N : List Nd) : Prop where
  len : ids.length = N.length
  at1 : ∀ (j a : Nat) (x : Nd), ids[j]? = some a → N[j]? = some x → L[a]? = some x

theorem mk_prefix (L : List Nd) (x : Nd) : ∃ R, (mk L x).1 = L ++ R := by
  unfold mk
  repeat' split
  all_goals first | exact ⟨[], (List.append_nil L).symm⟩ | exact ⟨[x], rfl⟩
theorem idx_at {L : List Nd} {x : Nd} (h : x ∈ L) : L[idx L x]? = some x := by
  have hl := idx_lt h
  have hi := List.findIdx_getElem (xs := L) (p := fun y => decide (y = x)) (w := hl)
  simp at hi
  rw [List.getElem?_eq_getElem hl]
  show some L[idx L x] = some x
  unfold idx
  rw [hi]
theorem mk_ok {L : List Nd} {x : Nd} (h : (mk L x).2.2 = 0) : (mk L x).1[(mk L x).2.1]? = some x := by
  unfold mk at h ⊢
  split at h
  · simp at h
  split at h
  · simp at h
  split at h
  · rename_i h1 h2 h3
    rw [if_neg h1, if_neg h2, if_pos h3]
    exact idx_at h3
  split at h
  · simp at h
  · rename_i h1 h2 h3 h4
    rw [if_neg h1, if_neg h2, if_neg h3, if_neg h4]
    simp
theorem NumOf.more {L L' : List Nd} {ids : List Nat} {N : List Nd} (h : NumOf L ids N) {R : List Nd} (hL : L' = L ++ R) : NumOf L' ids N := by
  refine ⟨h.len, fun j a x h1 h2 => ?_⟩
  have := h.at1 j a x h1 h2
  rw [hL, List.getElem?_append_left (List.getElem?_eq_some_iff.1 this).1]
  exact this
theorem NumOf.push {L : List Nd} {ids : List Nat} {N : List Nd} (h : NumOf L ids N) {a : Nat} {x : Nd} (hx : L[a]? = some x) : NumOf L (ids ++ [a]) (N ++ [x]) := by
  refine ⟨by simp [h.len], fun j b y h1 h2 => ?_⟩
  by_cases hj : j < ids.length
  · rw [List.getElem?_append_left hj] at h1
    rw [List.getElem?_append_left (by rw [← h.len]; exact hj)] at h2
    exact h.at1 j b y h1 h2
  · rw [List.getElem?_append_right (by omega)] at h1
    rw [List.getElem?_append_right (by rw [← h.len]; omega)] at h2
    have h0 : j - ids.length = 0 := by
      have := (List.getElem?_eq_some_iff.1 h1).1
      simp at this
      omega
    rw [h0] at h1
    rw [← h.len, h0] at h2
    simp at h1 h2
    subst h1; subst h2
    exact hx

end Tm
end Go.Proofs.Ytkfnekhjmnjloaa

namespace Go.Proofs.Ytkfnekhjmnjloaa
open Go.RowKit Go.Maps Bv
namespace Tm
set_option maxHeartbeats 400000
set_option maxRecDepth 100000

/-- The argument: a list of nodes, in memory that was there before the call. -/
def ArgAt (W : World) (al : Option Addr) (X : List Nd) : Prop :=
  X = [] ∨ ∃ bl ol, al = some ⟨bl, ol, none⟩ ∧ bl < W.heap.size ∧ ∀ (i : Nat) (x : Nd), X[i]? = some x → ∀ j u, x.cells.toList[j]? = some u → W.cell? ⟨bl, ol + i * 7 + j, none⟩ = some u
theorem ArgAt.at' {W : World} {al : Option Addr} {X : List Nd} (h : ArgAt W al X) {i : Nat} {x : Nd} (hx : X[i]? = some x) :
    ∃ bl ol, al = some ⟨bl, ol, none⟩ ∧ bl < W.heap.size ∧ (∀ w, Below W.heap.size W w → ∀ j u, x.cells.toList[j]? = some u → w.cell? ⟨bl, ol + i * 7 + j, none⟩ = some u) := by
  rcases h with h | ⟨bl, ol, h1, h2, h3⟩
  · subst h; simp at hx
  · exact ⟨bl, ol, h1, h2, fun w hb j u hj => (hb.cell (p := ⟨bl, ol + i * 7 + j, none⟩) h2).trans (h3 i x hx j u hj)⟩

theorem st_make {W : World} {p m : Nat} {u4 u5 : Value} {L : List Nd} {ids : List Nat} {N : List Nd} {w : World} {x : Nd} (h : StE W p m u4 u5 L ids N w) (hx : x.Ok) (a er : Nat) (ha : (mk L x).2.1 = a) (he : (mk L x).2.2 = er) :
    Calls Try.prog 8 #[.pointer (some ⟨p, 0, none⟩), x.val] w fun e w' => e = .returned (.tuple #[.int .i64 ((a : Nat) : Int), .int .i64 ((er : Nat) : Int)]) ∧ StE W p m u4 u5 (mk L x).1 ids N w' := by
  obtain ⟨sv, s⟩ := h
  subst ha; subst he
  refine (make_any s.s s.b.size hx).mono ?_
  rintro e w' ⟨rfl, v, S', K, loc⟩
  exact ⟨rfl, v, s.make S' K loc⟩

theorem StE.b {W : World} {p m : Nat} {u4 u5 : Value} {L : List Nd} {ids : List Nat} {N : List Nd} {w : World} (h : StE W p m u4 u5 L ids N w) : Below W.heap.size W w := by obtain ⟨sv, s⟩ := h; exact s.b
theorem StE.r4 {W : World} {p m : Nat} {u4 u5 : Value} {L : List Nd} {ids : List Nat} {N : List Nd} {w : World} (h : StE W p m u4 u5 L ids N w) : w.ownsRow W.heap.size 3 1 u4 ids.length (todoRow ids) := by obtain ⟨sv, s⟩ := h; exact s.r4
theorem StE.r5 {W : World} {p m : Nat} {u4 u5 : Value} {L : List Nd} {ids : List Nat} {N : List Nd} {w : World} (h : StE W p m u4 u5 L ids N w) : w.ownsRow W.heap.size 36 7 u5 N.length (rowOf N) := by obtain ⟨sv, s⟩ := h; exact s.r5
theorem StE.good {W : World} {p m : Nat} {u4 u5 : Value} {L : List Nd} {ids : List Nat} {N : List Nd} {w : World} (h : StE W p m u4 u5 L ids N w) : Gd L := by obtain ⟨sv, s⟩ := h; exact s.s.good
theorem StE.call {W : World} {p m : Nat} {u4 u5 : Value} {L : List Nd} {ids : List Nat} {N : List Nd} {w w' : World} (h : StE W p m u4 u5 L ids N w) (k : Below w.heap.size w w') : StE W p m u4 u5 L ids N w' := by obtain ⟨sv, s⟩ := h; exact ⟨sv, s.call k⟩
theorem StE.push4 {W : World} {p m : Nat} {u4 u5 v : Value} {L : List Nd} {ids : List Nat} {N : List Nd} {w w' : World} {a : Nat} {o : Obj} (h : StE W p m u4 u5 L ids N w) (hr : w'.ownsRow W.heap.size 3 1 v (ids.length + 1) (todoRow ids ++ [.int .i64 ((a : Nat) : Int)])) (hg : (w.alloc o).grownBy w' u4.ownBlock) (hl : v.ownBlock = u4.ownBlock ∨ v.ownBlock = some (w.alloc o).heap.size) : StE W p m v u5 L (ids ++ [a]) N w' := by
  obtain ⟨sv, s⟩ := h; exact ⟨sv, s.push4 hr hg hl⟩
theorem StE.push5 {W : World} {p m : Nat} {u4 u5 v : Value} {L : List Nd} {ids : List Nat} {N : List Nd} {w w' : World} {x : Nd} {o : Obj} (h : StE W p m u4 u5 L ids N w) (hr : w'.ownsRow W.heap.size 36 7 v (N.length + 1) (rowOf N ++ x.cells.toList)) (hg : (w.alloc o).grownBy w' u5.ownBlock) (hl : v.ownBlock = u5.ownBlock ∨ v.ownBlock = some (w.alloc o).heap.size) : StE W p m u4 v L ids (N ++ [x]) w' := by
  obtain ⟨sv, s⟩ := h; exact ⟨sv, s.push5 hr hg hl⟩

/-- Ahead of each node of the loop that makes them. -/
structure Loop1 (W : World) (p m n i : Nat) (u4 u5 : Value) (w : World) : Prop where
  st : ∃ L ids N, StE W p m u4 u5 L ids N w ∧ NumOf L ids N ∧ ids.length ≤ i ∧ (∀ x ∈ N, x.Ok)
  le : i ≤ n
  le100 : i ≤ 100

theorem loop1_start {W w : World} {n : Nat} (S : StoreAt W.heap.size w (W.heap.size + 1) W.heap.size (.slice none 0 0) []) (hb : Below W.heap.size W w) : Loop1 W (W.heap.size + 1) W.heap.size n 0 (.slice none 0 0) (.slice none 0 0) w :=
  ⟨⟨[], [], [], ⟨_, S, World.ownsRow_nil _ _ _ _, World.ownsRow_nil _ _ _ _, fun g e => by simp [Value.ownBlock] at e, fun g e => by simp [Value.ownBlock] at e, hb⟩, ⟨rfl, fun j a x h => by simp at h⟩, Nat.le_refl _, by simp⟩, Nat.zero_le _, Nat.zero_le _⟩

/-- How many kids the document says. -/
def rk (o : Nat) : Int := if o = 1 ∨ o = 2 then 0 else if o = 3 ∨ o = 4 ∨ o = 22 ∨ o = 23 ∨ o = 24 then 1 else if 5 ≤ o ∧ o ≤ 21 then 2 else if o = 25 then 3 else -1
theorem rk_kc {o : Nat} (h : 1 ≤ o ∧ o ≤ 25) : rk o = ((kc o : Nat) : Int) := by
  have : ∀ o : Fin 26, 1 ≤ o.val → rk o.val = ((kc o.val : Nat) : Int) := by decide
  exact this ⟨o, by omega⟩ h.1

theorem mayN_op {L : List Nd} {x : Nd} (h : mayN L x = true) : 1 ≤ x.o ∧ x.o ≤ 25 := by
  unfold mayN at h
  simp only [Bool.and_eq_true, decide_eq_true_eq] at h
  have h3 := h.2
  split at h3
  · omega
  · split at h3
    · omega
    · simp only [Bool.and_eq_true, decide_eq_true_eq] at h3
      have hv := h3.1
      unfold vecW at hv
      split at hv
      · omega
      split at hv
      · omega
      split at hv
      · omega
      split at hv
      · omega
      split at hv
      · have := widthB_op hv; omega
      · omega
end Tm
end Go.Proofs.Ytkfnekhjmnjloaa
