/-
Get of layer text, of a store that was made, and of none: a fact on one call.
A row of numbers.
Vars of a number that no node has; New with its store; what a call that makes a node leaves; a row of numbers read in its places.
What the statements' own texts come to: works answers true, as a fact on one call.
The statement that of no store, and of a zero one, text is refused, as a fact on the call.
What the statement's own words on package-level variables give: their cells.
A node handed in by value, or in a list: how it is read, and read again.
-/
import Derived.Test.YtjinjddcnjcffaaDoorPt14
import Derived.Test.YtjinjddcnjcffaaDoorPt15
import Derived.Test.YtjinjddcnjcffaaDoorTmApi
import Derived.Deep.LoopGhost
import Derived.BigQuiet
import Derived.Test.YtjinjddcnjcffaaDoorPt10
import Derived.Test.YtjinjddcnjcffaaDoorTie
import Derived.Lib.LaidTab
import Derived.Lib.LaidU8
import Derived.Stop.LaidErr
import Derived.LaidMore
import Derived.Test.YtjinjddcnjcffaaDoorRows
import Derived.Test.YtjinjddcnjcffaaDoorPt02
import Derived.WalkKit
import Derived.ProofKit
import Derived.OpenShut
import Derived.Lib.SmallJoins
import Derived.Laws.IdiomArrays
import Derived.Below
import Derived.ChangeSame
namespace Go.Proofs.YtjinjddcnjcffaaDoor
open Go.RowKit Go.Maps Bv Tm
namespace Tx
set_option maxHeartbeats 3200000
set_option maxRecDepth 100000

/-- What a call of Get has done. -/
def Got (B p m : Nat) (sv : Value) (W : World) (RES : List Nd × Nat × Nat) (e : Ending) (W' : World) : Prop :=
  e = .returned (.tuple #[.int .i64 ((RES.2.1 : Nat) : Int), .int .i64 ((RES.2.2 : Nat) : Int)]) ∧
      ∃ v, StoreAt B W' p m v RES.1 ∧ Kept (foot p m sv) W W' ∧ (v.ownBlock = sv.ownBlock ∨ ∃ g, W.heap.size ≤ g ∧ v.ownBlock = some g)

theorem whole_ne {s : By} {ns : List Nd} (h : wholeP s = some ns) : 0 < ns.length := by
  unfold wholeP at h
  by_cases hl : 10000 < s.length
  · rw [if_pos hl] at h; cases h
  rw [if_neg hl] at h
  cases hq : nodeP (s.length + 1) s [] with
  | none => rw [hq] at h; simp at h
  | some p =>
    rw [hq, Option.bind_some] at h
    have hs := nodeP_shr _ _ _ _ hq
    unfold Shr at hs
    by_cases hp : p.1 = []
    · rw [if_pos hp] at h
      simp only [Option.some.injEq] at h
      rw [← h]
      simp at hs
      omega
    · rw [if_neg hp] at h; cases h

/-- Blocks that may change while a text is read. -/
def GF (r : Nat) (i : Nat) : Prop := i = r ∨ r + 1 + 1 ≤ i

/-- Get behind its look at the store. -/
theorem get_rest {B p m : Nat} {sv : Value} {L : List Nd} {W : World} {t : By} {x : Nd} {er : Nat} (S : StoreAt B W p m sv L) (hB : B ≤ W.heap.size) (hE : EnvAt (fun i => W.heap.size ≤ i) W) (ht : t.length ≤ 9223372036854775807)
    (HNODE : Hid (Calls Tryd.prog 10 #[.pointer (some ⟨p, 0, none⟩), .int .i64 0] W fun e W' => e = .returned (.tuple #[x.val, .int .i64 ((er : Nat) : Int)]) ∧ Below W.heap.size W W')) (her : ¬ er = 1) :
    Calls Tryd.prog 5 #[.pointer (some ⟨p, 0, none⟩), .string ⟨t.toArray⟩] W (Got B p m sv W (getP L t)) := by
  have hmf : ∀ (fn : Fn) (first cap : Array Value) (w : World), (Instr.makeFunc fn first cap).run Tryd.prog w = .ok (.func fn first cap) w := fun _ _ _ _ => rfl
  have d1 : (((er : Nat) : Int) == 1) = false := by simp; omega
  obtain ⟨tx, htx⟩ : ∃ tx : ByteArray, tx = ⟨t.toArray⟩ := ⟨_, rfl⟩
  have htl : tx.data.toList = t := by rw [htx]
  rw [← htx]
  have HS := Lib.hid S
  have HE := Lib.hid hE
  have HTL := Lib.hid htl
  have HT := Lib.hid ht
  have HB := Lib.hid hB
  obtain ⟨o, w, k0, k1, k2, n, l⟩ := x
  unfold Nd.val at HNODE
  clear S hE htl htx ht hB her
  go_enter Tryd.func5, Tryd.ntmps5
  go_wp2_with (go_at_call 10; refine HNODE.out.mono ?_; rintro e W1 ⟨rfl, hb1⟩; have HB1 := Lib.hid hb1; clear hb1)
  have HX1 := Lib.hid (bel_alloc HB1.out (.cells #[.int .u8 ((o : Nat) : Int), .int .u8 ((w : Nat) : Int), .int .i64 k0, .int .i64 k1, .int .i64 k2, .int .u64 ((n : Nat) : Int), .int .u8 ((l : Nat) : Int)] 44))
  have HSZ : Hid ((W1.alloc (.cells #[.int .u8 ((o : Nat) : Int), .int .u8 ((w : Nat) : Int), .int .i64 k0, .int .i64 k1, .int .i64 k2, .int .u64 ((n : Nat) : Int), .int .u8 ((l : Nat) : Int)] 44)).heap.size = W1.heap.size + 1) := Lib.hid (by simp)
  have h21 : W1.heap.size + 1 = W1.heap.size + 1 := rfl
  generalize (W1.alloc (.cells #[.int .u8 ((o : Nat) : Int), .int .u8 ((w : Nat) : Int), .int .i64 k0, .int .i64 k1, .int .i64 k2, .int .u64 ((n : Nat) : Int), .int .u8 ((l : Nat) : Int)] 44)) = X at HX1 HSZ ⊢
  obtain ⟨r, hr⟩ : ∃ r, W1.heap.size + 1 = r := ⟨_, rfl⟩
  rw [hr] at HSZ
  try simp only [hr]
  have hrW : W.heap.size ≤ r := by have := HB1.out.size; omega
  have hXr : X.heap.size = r := HSZ.out
  clear h21 hr HB1
  have HRW := Lib.hid hrW
  obtain ⟨X3, hX3⟩ : ∃ X3, X3 = (X.alloc (.cells #[.string tx, .slice none 0 0] 48)).alloc (.cells #[.int .i64 0] 28) := ⟨_, rfl⟩
  have hb3 : Below W.heap.size W X3 := by rw [hX3]; exact bel_alloc (bel_alloc HX1.out _) _
  have s3 : X3.heap.size = r + 1 + 1 := by rw [hX3]; simp [hXr]
  have c0 : X3.cell? ⟨r, 0, none⟩ = some (.string tx) := by rw [hX3, ← hXr]; simp [go_sem]
  have c1 : X3.cell? ⟨r, 1, none⟩ = some (.slice none 0 0) := by rw [hX3, ← hXr]; simp [go_sem]
  have cf : ∀ o, X3.frozen? ⟨r, o, none⟩ = false := fun o => by rw [hX3, ← hXr]; simp [go_sem]
  have c5 : X3.cell? ⟨r + 1, 0, none⟩ = some (.int .i64 0) := by rw [hX3, ← hXr]; simp [go_sem]
  have c6 : X3.frozen? ⟨r + 1, 0, none⟩ = false := by rw [hX3, ← hXr]; simp [go_sem]
  have hfoot : ∀ i, foot p m sv i → ¬ GF r i := by
    intro i c d
    have : i < W.heap.size := by
      rcases c with c | c | c
      · subst c; exact HS.out.lt
      · subst c; exact HS.out.lm
      · exact (HS.out.row.lt i c).2
    unfold GF at d
    omega
  have hR3 : RdE (GF r) r t [] X3 := ⟨tx, .slice none 0 0, c0, HTL.out, c1, cf, World.ownsRow_nil _ _ _ _, by simp [Value.ownBlock], .inl rfl, fun g e => by simp [Value.ownBlock] at e, fun i hi => .inr (by omega)⟩
  have hE3 : EnvAt (GF r) X3 := (HE.out.call hb3).mono (fun i c => by unfold GF at c; omega)
  have hwhole := rwhole_any hR3 hE3 HT.out
  have hnG : ¬ GF r (r + 1) := by unfold GF; omega
  have hcell : ∀ w1, Kept (GF r) X3 w1 → w1.cell? ⟨r + 1, 0, none⟩ = some (.int .i64 0) ∧ w1.frozen? ⟨r + 1, 0, none⟩ = false := fun w1 k =>
    ⟨(k.cell (x := ⟨r + 1, 0, none⟩) (show _ < _ by rw [s3]; exact Nat.lt_succ_self _) hnG).trans c5, (k.frozen (x := ⟨r + 1, 0, none⟩) (show _ < _ by rw [s3]; exact Nat.lt_succ_self _) hnG).trans c6⟩
  have s2 : (X.alloc (.cells #[.string tx, .slice none 0 0] 48)).heap.size = r + 1 := by simp [hXr]
  have HFOOT := Lib.hid hfoot
  have HB3 := Lib.hid hb3
  have HS3 := Lib.hid s3
  cases hq : wholeP t with
  | none =>
    have HGP : Hid (getP L t = (L, 0, 5)) := Lib.hid (by unfold getP; rw [hq])
    rw [hq] at hwhole
    have hc := caught_get_bad (.pointer (some ⟨r, 0, none⟩)) 5 (W := X.alloc (.cells #[.string tx, .slice none 0 0] 48)) (R := fun w1 => Kept (GF r) X3 w1) (by rw [← hX3]; exact hwhole.mono (fun e w1 h => h)) (by rw [s2]; exact hcell)
    rw [s2] at hc
    have HC := Lib.hid hc
    clear hc hwhole hE3 hR3 c0 c1 cf c5 c6 hcell hX3 hb3 s3 s2 hfoot hnG hq hrW HX1
    try simp only [hXr]
    go_wp2_with (go_at_call 7; refine HC.out.mono ?_; rintro e W4 ⟨rfl, w1, k1, hW4⟩; have HW4 := Lib.hid hW4; have K1 := Lib.hid k1; clear hW4 k1)
    refine bodyPost_ret (v := .tuple #[.int .i64 0, .int .i64 5]) (by simp [results, Tryd.results5, go_sem]) rfl ?_
    have hK : Kept (foot p m sv) W W4 := by
      rw [HW4.out]
      exact Kept.ofBelow ((HB3.out.trans (K1.out.below (fun i hi c => by unfold GF at c; have := HRW.out; omega) HB3.out.size)).setCell (by have := HRW.out; simp; omega) _) _
    have hb4 : Below W.heap.size W W4 := by
      rw [HW4.out]
      exact (HB3.out.trans (K1.out.below (fun i hi c => by unfold GF at c; have := HRW.out; omega) HB3.out.size)).setCell (by have := HRW.out; simp; omega) _
    rw [HGP.out]
    exact ⟨rfl, sv, HS.out.call hb4, hK, .inl rfl⟩
  | some ns =>
    have HGP : Hid (getP L t = bd ns [] L 0) := Lib.hid (by unfold getP; rw [hq])
    rw [hq] at hwhole
    have hok := wholeP_ok hq
    have hne := whole_ne hq
    have hc := caught_get_ok (.pointer (some ⟨r, 0, none⟩)) (W := X.alloc (.cells #[.string tx, .slice none 0 0] 48)) (R := fun w1 => RdE (GF r) r [] ns w1 ∧ Kept (GF r) X3 w1) (by rw [← hX3]; exact hwhole.mono (fun e w1 h => h)) (by rw [s2]; exact fun w1 h => hcell w1 h.2)
    rw [s2] at hc
    have HC := Lib.hid hc
    have HOK := Lib.hid hok
    have HNE := Lib.hid hne
    clear hc hwhole hE3 hR3 c0 c1 cf c5 c6 hcell hX3 hb3 s3 s2 hfoot hnG hq hrW HX1 hok hne
    try simp only [hXr]
    go_wp2_with (
       go_at_call 7
       refine HC.out.mono ?_
       rintro e W4 ⟨rfl, w1, ⟨⟨tx2, v, hrd⟩, k1⟩, hW4⟩
       have HW4 := Lib.hid hW4
       have K1 := Lib.hid k1
       have HRD := Lib.hid hrd
       clear hW4 k1 hrd
       refine Hid.out ?_)
    refine Lib.hid ?_
    have hov : v.ownBlock ≠ some (r + 1) := fun e => by have h := HRD.out.fo _ e; unfold GF at h; omega
    have d2 : W4.cell? ⟨r, 1, none⟩ = some v := by rw [HW4.out, World.cell?_setCell_far _ _ _ _ (by simp)]; exact HRD.out.c1
    have hrow4 : W4.ownsRow 0 44 7 v ns.length (rowOf ns) := by rw [HW4.out]; exact row_setCell HRD.out.row (a := ⟨r + 1, 0, none⟩) _ hov
    have hb4 : Below W.heap.size W W4 := by
      rw [HW4.out]
      exact (HB3.out.trans (K1.out.below (fun i hi c => by unfold GF at c; have := HRW.out; omega) HB3.out.size)).setCell (by have := HRW.out; simp; omega) _
    obtain ⟨x0, hx0⟩ : ∃ x0, ns[0]? = some x0 := ⟨_, List.getElem?_eq_getElem HNE.out⟩
    obtain ⟨gn, cc, hv, hcells⟩ := row_nd_at hrow4 hx0
    have hgF := HRD.out.fo gn (by rw [hv]; rfl)
    have hgn : gn < W4.heap.size := own_lt hrow4 (by rw [hv]; rfl)
    subst hv
    have hbuild := build_any (c := cc) (HS.out.call hb4) (Nat.le_trans HB.out hb4.size) HOK.out.1 HOK.out.2.1 hgn (fun c => HFOOT.out gn c hgF) hcells ns.length rfl
    have HBU := Lib.hid hbuild
    have HB4 := Lib.hid hb4
    clear hov hrow4 hb4 hx0 hcells hgF hgn hbuild
    go_wp2_with (
       go_at_call 12
       refine HBU.out.mono ?_
       rintro e W5 ⟨rfl, hm⟩
       have HM := Lib.hid hm
       clear hm)
    refine bodyPost_ret (v := .tuple #[.int .i64 (((bd ns [] L 0).2.1 : Nat) : Int), .int .i64 (((bd ns [] L 0).2.2 : Nat) : Int)]) (by simp [results, Tryd.results5, go_sem]) rfl ?_
    obtain ⟨v5, S5, K5, h5⟩ := HM.out
    rw [HGP.out]
    refine ⟨rfl, v5, S5, (Kept.ofBelow HB4.out (foot p m sv)).trans (K5.mono (fun i hi c => ?_)), ?_⟩
    · rcases c with c | c
      · exact c
      · omega
    · rcases h5 with e | ⟨g, hg, e⟩
      · exact .inl e
      · exact .inr ⟨g, Nat.le_trans HB4.out.size hg, e⟩

theorem get_yes {B p m : Nat} {sv : Value} {L : List Nd} {W : World} {t : By} (S : StoreAt B W p m sv L) (hB : B ≤ W.heap.size) (hE : EnvAt (fun i => W.heap.size ≤ i) W) (ht : t.length ≤ 9223372036854775807) :
    Calls Tryd.prog 5 #[.pointer (some ⟨p, 0, none⟩), .string ⟨t.toArray⟩] W (Got B p m sv W (getP L t)) := by
  cases L with
  | nil => exact get_rest (x := zNd) (er := 2) S hB hE ht (Lib.hid (node_no S (k := 0) (by simp [inB]))) (by omega)
  | cons x r => exact get_rest (x := x) (er := 0) S hB hE ht (Lib.hid (node_yes S (k := 0) rfl)) (by omega)

theorem get_none (ptr : Value) (t : ByteArray) (W : World) (h : NoneAt W ptr) :
    Calls Tryd.prog 5 #[ptr, .string t] W fun e W' => e = .returned (.tuple #[.int .i64 0, .int .i64 1]) ∧ Below W.heap.size W W' := by
  have HN := Lib.hid (node_none ptr 0 W h)
  clear h
  go_enter Tryd.func5, Tryd.ntmps5
  go_wp2_with (go_at_call 10; refine HN.out.mono ?_; rintro e W1 ⟨rfl, hb1⟩; have HB1 := Lib.hid hb1; clear hb1)
  exact bodyPost_ret (v := .tuple #[.int .i64 0, .int .i64 1]) (by simp [results, Tryd.results5, go_sem]) rfl ⟨rfl, bel_alloc HB1.out _⟩
end Tx
end Go.Proofs.YtjinjddcnjcffaaDoor

namespace Go.Proofs.YtjinjddcnjcffaaDoor
open Go.RowKit Go.Maps Bv
namespace Tm
set_option maxHeartbeats 1000000
set_option maxRecDepth 100000

def todoRow (T : List Nat) : List Value := T.map (fun i => .int .i64 ((i : Nat) : Int))

end Tm
end Go.Proofs.YtjinjddcnjcffaaDoor

namespace Go.Proofs.YtjinjddcnjcffaaDoor
open Go.RowKit Go.Maps Bv
namespace Tm
set_option maxHeartbeats 1000000
set_option maxRecDepth 100000

theorem row_at {w : World} {base : Nat} {v : Value} {T : List Nat} (h : w.ownsRow base 3 1 v T.length (todoRow T)) (hT : 0 < T.length) :
    ∃ g c, v = .slice (some ⟨g, 0, none⟩) T.length c ∧ ∀ j i, T[j]? = some i → w.cell? ⟨g, j, none⟩ = some (.int .i64 ((i : Nat) : Int)) := by
  have hr := h
  rcases h with ⟨hl, ⟨_, h2⟩ | ⟨g, cap, cur, hv, hb, hh, hn, _⟩⟩
  · omega
  · refine ⟨g, cap, hv, fun j i hj => ?_⟩
    have hc := hr.cells (g := g) (by rw [hv]; rfl) j (.int .i64 ((i : Nat) : Int)) (by simp [todoRow, hj])
    have e : (⟨g, 0, none⟩ : Addr).add j = ⟨g, j, none⟩ := by
      unfold Addr.add
      split <;> simp_all
    rw [e] at hc
    exact hc

theorem row_zero {w : World} {base : Nat} {v : Value} {xs : List Value} (h : w.ownsRow base 3 1 v 0 xs) : ∃ a c, v = .slice a 0 c := by
  rcases h with ⟨hl, ⟨h1, _⟩ | ⟨g, cap, cur, hv, _⟩⟩
  · exact ⟨none, 0, h1⟩
  · exact ⟨_, _, hv⟩

theorem made_to {B p m : Nat} {sv : Value} {L L' : List Nd} {x : Nd} {W : World} {f : FuncId} {args : Array Value} {a b : Int} (S : StoreAt B W p m sv L) (hB : B ≤ W.heap.size) (h : Calls Tryd.prog f args W (Made B p m sv L x W)) (h1 : (mk L x).1 = L') (h2 : (((mk L x).2.1 : Nat) : Int) = a) (h3 : (((mk L x).2.2 : Nat) : Int) = b) :
    Calls Tryd.prog f args W (fun e W' => e = .returned (.tuple #[.int .i64 a, .int .i64 b]) ∧ ∃ v, StoreAt B W' p m v L' ∧ Below B W W') := by
  refine h.mono ?_
  rintro e w' ⟨he, v, S', K, _⟩
  subst h1; subst h2; subst h3
  refine ⟨he, v, S', K.below (fun i hi hc => ?_) hB⟩
  rcases hc with c | c | c
  · have := S.bp; omega
  · have := S.bm; omega
  · have := (S.row.lt i c).1; omega

theorem new_at (W : World) :
    Calls Tryd.prog 13 #[] W fun e W' => e = .returned (.pointer (some ⟨W.heap.size + 1, 0, none⟩)) ∧
      StoreAt W.heap.size W' (W.heap.size + 1) W.heap.size (.slice none 0 0) [] ∧ Below W.heap.size W W' := by
  refine (new_any W).mono ?_
  rintro e w' ⟨rfl, rfl⟩
  exact ⟨rfl, new_store W, new_kept W _ _⟩

end Tm
end Go.Proofs.YtjinjddcnjcffaaDoor

namespace Go.Proofs.YtjinjddcnjcffaaDoor
open Go.RowKit Go.Maps Bv Tm
namespace Tx
set_option maxHeartbeats 3200000
set_option maxRecDepth 100000

theorem bd_may : ∀ (ns : List Nd) (ids : List Nat) (L : List Nd) (last : Nat), MayL L → MayL (bd ns ids L last).1
  | [], _, _, _, h => h
  | x :: r, ids, L, last, h => by
    simp only [bd]
    split
    · exact bd_may r _ _ _ (mayL_step h _)
    · exact mayL_step h _
theorem getP_may {L : List Nd} (h : MayL L) (t : By) : MayL (getP L t).1 := by
  unfold getP
  split
  · exact h
  · exact bd_may _ _ _ _ h

theorem env_at {B : Nat} {W w : World} (hE : EnvAt (fun i => W.heap.size ≤ i) W) (hb : Below W.heap.size W w) : EnvAt (fun i => w.heap.size ≤ i) w :=
  (hE.call hb).mono (fun i c => Nat.le_trans hb.size c)

theorem get_to {B p m : Nat} {sv : Value} {L L' : List Nd} {W w : World} {t : By} {a b : Nat} (S : StoreAt W.heap.size w p m sv L) (hE : EnvAt (fun i => W.heap.size ≤ i) W) (hb : Below W.heap.size W w) (ht : t.length ≤ 9223372036854775807) (hg : getP L t = (L', a, b)) :
    Calls Tryd.prog 5 #[.pointer (some ⟨p, 0, none⟩), .string ⟨t.toArray⟩] w fun e W' => e = .returned (.tuple #[.int .i64 ((a : Nat) : Int), .int .i64 ((b : Nat) : Int)]) ∧ ∃ v, StoreAt W.heap.size W' p m v L' ∧ Below W.heap.size W W' := by
  refine (get_yes S hb.size (env_at (B := 0) hE hb) ht).mono ?_
  rintro e W' ⟨he, v, S', K, _⟩
  rw [hg] at he S'
  refine ⟨he, v, S', hb.trans (K.below (fun i hi c => ?_) hb.size)⟩
  rcases c with c | c | c
  · have := S.bp; omega
  · have := S.bm; omega
  · have := (S.row.lt i c).1; omega

/-! ### the five texts -/
def t1 : By := [40, 97, 100, 100, 32, 118, 48, 58, 56, 32, 35, 56, 58, 49, 41]
def t2 : By := [40, 97, 100, 100, 32, 118, 48, 58, 56, 32, 35, 52, 58, 49, 41]
def t3 : By := [40, 97, 100, 100, 32, 32, 118, 48, 58, 56, 32, 118, 48, 58, 56, 41]
def t4 : By := [35, 56, 58, 48, 49]
def l1 : List Nd := [⟨2, 8, 0, 0, 0, 0, 0⟩, ⟨1, 8, 0, 0, 0, 1, 0⟩, ⟨8, 8, 0, 1, 0, 0, 0⟩]
def l2 : List Nd := [⟨2, 8, 0, 0, 0, 0, 0⟩, ⟨1, 8, 0, 0, 0, 1, 0⟩, ⟨8, 8, 0, 1, 0, 0, 0⟩, ⟨1, 4, 0, 0, 0, 1, 0⟩]
theorem g1 : getP [] t1 = (l1, 2, 0) := by decide +kernel
theorem g2 : getP l1 t2 = (l2, 0, 2) := by decide +kernel
theorem g3 : getP l2 t3 = (l2, 0, 5) := by decide +kernel
theorem g4 : getP l2 t4 = (l2, 0, 5) := by decide +kernel
theorem m1 : MayL l1 := by have := getP_may mayL_nil t1; rw [g1] at this; exact this
theorem dec1 {n : Nat} (h : n < 10) : dec n = [UInt8.ofNat (48 + n)] := Lib.decDigits_one h
theorem x1 : txt l1 2 = t1 := by
  have d0 := dec1 (n := 0) (by omega)
  have d1 := dec1 (n := 1) (by omega)
  have d8 := dec1 (n := 8) (by omega)
  simp [txt, txtF, bodyT, hd, kidsT, l1, kc, Nd.kid, nm, nameL, d0, d1, d8, t1]
theorem p1 : putR l1 2 = .tuple #[.string ⟨t1.toArray⟩, .int .i64 0] := by
  unfold putR
  rw [x1, if_pos (by decide)]

theorem works_any {W : World} (hE : EnvAt (fun i => W.heap.size ≤ i) W) : Calls Tryd.prog 6 #[] W fun e W' => e = .returned (.bool true) ∧ Below W.heap.size W W' := by
  have HE := Lib.hid hE
  clear hE
  go_enter Tryd.func6, Tryd.ntmps6
  go_wp2_with (go_at_call 13; refine (new_at W).mono ?_; rintro e w0 ⟨rfl, S0, hb0⟩; have HS0 := Lib.hid S0; have HB0 := Lib.hid hb0; clear S0 hb0; refine Hid.out ?_)
  refine Lib.hid ?_
  have H1 := Lib.hid (get_to (B := 0) HS0.out HE.out HB0.out (by decide) g1)
  go_wp2_with (go_at_call 5; refine H1.out.mono ?_; rintro e w1 ⟨rfl, v1, S1, hb1⟩; have HS1 := Lib.hid S1; have HB1 := Lib.hid hb1; clear S1 hb1; refine Hid.out ?_)
  refine Lib.hid ?_
  have H2 := put_yes HS1.out m1 (env_at (B := 0) HE.out HB1.out) (show 2 < l1.length by decide)
  rw [p1] at H2
  have H2 := Lib.hid H2
  go_wp2_with (go_at_call 4; refine H2.out.mono ?_; rintro e w2 ⟨rfl, hb2⟩; have HB2 := Lib.hid (bel_call HB1.out hb2); have HS2 := Lib.hid (HS1.out.call hb2); clear hb2; refine Hid.out ?_)
  refine Lib.hid ?_
  have H3 := Lib.hid (get_to (B := 0) HS2.out HE.out HB2.out (by decide) g2)
  go_wp2_with (go_at_call 5; refine H3.out.mono ?_; rintro e w3 ⟨rfl, v3, S3, hb3⟩; have HS3 := Lib.hid S3; have HB3 := Lib.hid hb3; clear S3 hb3; refine Hid.out ?_)
  refine Lib.hid ?_
  have H4 := Lib.hid (get_to (B := 0) HS3.out HE.out HB3.out (by decide) g3)
  go_wp2_with (go_at_call 5; refine H4.out.mono ?_; rintro e w4 ⟨rfl, v4, S4, hb4⟩; have HS4 := Lib.hid S4; have HB4 := Lib.hid hb4; clear S4 hb4; refine Hid.out ?_)
  refine Lib.hid ?_
  have H5 := Lib.hid (get_to (B := 0) HS4.out HE.out HB4.out (by decide) g4)
  go_wp2_with (go_at_call 5; refine H5.out.mono ?_; rintro e w5 ⟨rfl, v5, S5, hb5⟩; have HS5 := Lib.hid S5; have HB5 := Lib.hid hb5; clear S5 hb5; refine Hid.out ?_)
  refine Lib.hid ?_
  have HE5 := Lib.hid (HE.out.call HB5.out)
  have N1 : Hid (Calls Tryd.prog 14 #[.int .u8 25] w5 fun e w' => e = .returned (.string ⟨#[105, 116, 101]⟩) ∧ w5 = w') := Lib.hid (name_any (o := 25) HE5.out (by omega))
  have N2 : Hid (Calls Tryd.prog 14 #[.int .u8 1] w5 fun e w' => e = .returned (.string ⟨#[]⟩) ∧ w5 = w') := Lib.hid (name_any (o := 1) HE5.out (by omega))
  unfold t1
  go_wp2_with (go_at_call 14; first | (with_reducible refine N1.out.mono ?_; rintro e w6 ⟨rfl, rfl⟩) | (refine N2.out.mono ?_; rintro e w6 ⟨rfl, rfl⟩))
  go_ret
  exact ⟨rfl, HB5.out⟩
end Tx
end Go.Proofs.YtjinjddcnjcffaaDoor

namespace Go.Proofs.YtjinjddcnjcffaaDoor
open Go.RowKit Go.Maps Bv Tm
namespace Tx
set_option maxHeartbeats 3200000
set_option maxRecDepth 100000

theorem noneAt_zeroT (W : World) : NoneAt (W.alloc (.cells Tryd.zeroCells27 27)) (.pointer (some ⟨W.heap.size, 0, none⟩)) := by
  refine .inr ⟨_, rfl, ?_⟩
  have h := (MapKept.heap_alloc W (.cells Tryd.zeroCells27 27)).1
  unfold World.cell?
  rw [h, zero_is]
  rfl

theorem put_none (ptr : Value) (k : Int) (W : World) (h : NoneAt W ptr) :
    Calls Tryd.prog 4 #[ptr, .int .i64 k] W fun e W' => e = .returned (.tuple #[.string ⟨#[]⟩, .int .i64 1]) ∧ Below W.heap.size W W' := by
  refine put_err (er := 1) (by omega) ?_ (fun w hb => node_none ptr k w (h.keep hb))
  rcases h with h | ⟨p, h, _⟩
  · exact .inl h
  · exact .inr ⟨p, h⟩

theorem txnil_true (id : Int) (t : ByteArray) {W : World} (hE : EnvAt (fun i => W.heap.size ≤ i) W) :
    Calls Tryd.prog 3 #[.int .i64 id, .string t, .bool true] W fun e W' => e = .returned (.bool true) ∧ Below W.heap.size W W' := by
  have HE := Lib.hid hE
  have HN0 : Hid (NoneAt (W.alloc (.cells Tryd.zeroCells27 27)) (.pointer (some ⟨W.heap.size, 0, none⟩))) := Lib.hid (noneAt_zeroT W)
  have HB0 : Hid (Below W.heap.size W (W.alloc (.cells Tryd.zeroCells27 27))) := Lib.hid (bel_alloc (Below.refl W.heap.size W) _)
  clear hE
  go_enter Tryd.func3, Tryd.ntmps3
  go_wp2_with (first
    | (go_at_call 4; refine (put_none _ id _ HN0.out).mono ?_; rintro e v1 ⟨rfl, hb1⟩; have HN1 := Lib.hid (HN0.out.keep hb1); have HB1 := Lib.hid (bel_call HB0.out hb1); clear hb1)
    | (go_at_call 5; refine (get_none _ t _ HN1.out).mono ?_; rintro e v2 ⟨rfl, hb2⟩; have HB2 := Lib.hid (bel_call HB1.out hb2); clear hb2)
    | (go_at_call 6; refine (works_any (env_at (B := 0) HE.out HB2.out)).mono ?_; rintro e v3 ⟨rfl, hb3⟩))
  go_ret
  exact ⟨rfl, bel_call HB2.out hb3⟩

theorem txnil_false (id : Int) (t : ByteArray) {W : World} (hE : EnvAt (fun i => W.heap.size ≤ i) W) :
    Calls Tryd.prog 3 #[.int .i64 id, .string t, .bool false] W fun e W' => e = .returned (.bool true) ∧ Below W.heap.size W W' := by
  have HE := Lib.hid hE
  have HN0 : Hid (NoneAt W (.pointer none)) := Lib.hid (.inl rfl)
  have HB0 : Hid (Below W.heap.size W W) := Lib.hid (Below.refl _ _)
  clear hE
  go_enter Tryd.func3, Tryd.ntmps3
  go_wp2_with (first
    | (go_at_call 4; refine (put_none _ id _ HN0.out).mono ?_; rintro e v1 ⟨rfl, hb1⟩; have HN1 := Lib.hid (HN0.out.keep hb1); have HB1 := Lib.hid (bel_call HB0.out hb1); clear hb1)
    | (go_at_call 5; refine (get_none _ t _ HN1.out).mono ?_; rintro e v2 ⟨rfl, hb2⟩; have HB2 := Lib.hid (bel_call HB1.out hb2); clear hb2)
    | (go_at_call 6; refine (works_any (env_at (B := 0) HE.out HB2.out)).mono ?_; rintro e v3 ⟨rfl, hb3⟩))
  go_ret
  exact ⟨rfl, bel_call HB2.out hb3⟩
end Tx
end Go.Proofs.YtjinjddcnjcffaaDoor

namespace Go.Proofs.YtjinjddcnjcffaaDoor
open Go.RowKit Go.Maps Bv Tm
namespace Tx
set_option maxHeartbeats 1600000
set_option maxRecDepth 100000

def laidL : List (String × DataW Unit) := [("math/bits.deBruijn32tab", Rows.laid_math_bits_deBruijn32tab), ("math/bits.deBruijn64tab", Rows.laid_math_bits_deBruijn64tab), ("internal/strconv.uint64pow10", Rows.laid_internal_strconv_uint64pow10), ("strconv.ErrRange", Rows.laid_strconv_ErrRange), ("strconv.ErrSyntax", Rows.laid_strconv_ErrSyntax), ("augury/text.names", Rows.laid_augury_text_names)]

theorem gER : Tryd.prog.globalNamed "strconv.ErrRange" = some 3 := by kernel_rfl
theorem gES : Tryd.prog.globalNamed "strconv.ErrSyntax" = some 2 := by kernel_rfl
theorem gNM : Tryd.prog.globalNamed "augury/text.names" = some 0 := by kernel_rfl
theorem yER : (Tryd.prog.globals[3]?).map (·.type) = some 78 := by kernel_rfl
theorem yES : (Tryd.prog.globals[2]?).map (·.type) = some 78 := by kernel_rfl
theorem yPW : (Tryd.prog.globals[1]?).map (·.type) = some 104 := by kernel_rfl
theorem yNM : (Tryd.prog.globals[0]?).map (·.type) = some 62 := by kernel_rfl
theorem cU : Tryd.prog.cellsOf 42 = 1 := by kernel_rfl
theorem cP : Tryd.prog.cellsOf 104 = 20 := by kernel_rfl
theorem cS : Tryd.prog.cellsOf 9 = 1 := by kernel_rfl
theorem cE : Tryd.prog.cellsOf 130 = 1 := by kernel_rfl
theorem starE : "*" ++ "errors.errorString" = "*errors.errorString" := by decide
theorem rowE (u : TypeId) (h : Tryd.prog.typeName? 3 u = some "*errors.errorString") : u = 128 :=
  typeName_ptr_named (nm := "errors.errorString") (by rw [starE]; kernel_rfl) (by kernel_rfl) (by decide) u (by rw [starE]; exact h)

theorem names_data : (Rows.laid_augury_text_names : DataW Unit) = .agg (nameL.map fun l => .lit (.string l)) := rfl

theorem env_of_laid {W : World} (h : laidMet Tryd.prog laidL W) : EnvAt (fun i => W.heap.size ≤ i) W := by
  have h2 : laidMet Tryd.prog (("internal/strconv.uint64pow10", Lib.tabData .u64 Lib.pow10Tab) :: laidL.tail.tail.tail) W := h.tail.tail
  have hp : Lib.TabIs Tryd.prog W "internal/strconv.uint64pow10" .u64 Lib.pow10Tab := Lib.tabIs_of_head gpow yPW Tryd.underlying104 Tryd.underlying42 cU cP h2
  obtain ⟨a3, s3, hv3, -, -, -⟩ := laid_sentinel (h.tail.tail.tail) gER yER Tryd.underlying78 rowE Tryd.underlying128 Tryd.underlying130 rfl rfl Tryd.underlying9 cE cS
  obtain ⟨a4, s4, hv4, -, -, -⟩ := laid_sentinel (h.tail.tail.tail.tail) gES yES Tryd.underlying78 rowE Tryd.underlying128 Tryd.underlying130 rfl rfl Tryd.underlying9 cE cS
  have cer : W.cell? ⟨3, 0, none⟩ = some (.iface 128 (.pointer (some a3))) := by have h0 := World.var?_cell gER hv3 0; simpa using h0
  have ces : W.cell? ⟨2, 0, none⟩ = some (.iface 128 (.pointer (some a4))) := by have h0 := World.var?_cell gES hv4 0; simpa using h0
  have cpw := Lib.TabIs.cell hp gpow 0 (by decide)
  have lpw := World.block_lt_of_cell? W _ cpw
  have hnames : ∀ (o : Nat) (s : By), nameL[o]? = some s → W.cell? ⟨0, o, none⟩ = some (.string ⟨s.toArray⟩) := by
    intro o s hs
    have ho : o < 26 := (List.getElem?_eq_some_iff.1 hs).1
    obtain ⟨g, t, cs, fuel, p, hg, ht, hv, hd⟩ := Lib.laidMet.reads h (n := "augury/text.names") (d := Rows.laid_augury_text_names) (by unfold laidL; simp)
    obtain rfl := Option.some.inj (gNM.symm.trans hg)
    obtain rfl := Option.some.inj (yNM.symm.trans ht)
    rw [names_data] at hd
    obtain ⟨f2, d, q, hd1, hd2⟩ := Lib.array_elem Tryd.underlying62 hd o ho
    rw [cS] at hd2
    obtain ⟨sv, hcs, hx, _⟩ := DataW.trod_string Tryd.underlying9 hd2
    have hds : d = .lit (.string s) := by
      rw [List.getElem?_map, hs] at hd1
      simpa using hd1.symm
    rw [hds] at hx
    have hsv : sv.data.toList = s := by
      have h9 := hx.symm
      simp at h9
      exact h9.1
    have hat : cs.toList[o]? = some (.string sv) := by
      have := congrArg (·[0]?) hcs
      simpa [List.getElem?_take, List.getElem?_drop] using this
    have hc := World.var?_cell gNM hv o
    rw [hc]
    have : cs[o]? = some (.string sv) := by simpa using hat
    rw [this, ← hsv]
  have lnm := World.block_lt_of_cell? W _ (hnames 0 [] rfl)
  have les := World.block_lt_of_cell? W _ ces
  have ler := World.block_lt_of_cell? W _ cer
  exact ⟨hnames, hp, ⟨_, _, ces⟩, ⟨_, _, cer⟩, lpw, fun c => absurd (Nat.lt_of_lt_of_le lnm c) (Nat.lt_irrefl _), fun c => absurd (Nat.lt_of_lt_of_le lpw c) (Nat.lt_irrefl _), fun c => absurd (Nat.lt_of_lt_of_le les c) (Nat.lt_irrefl _), fun c => absurd (Nat.lt_of_lt_of_le ler c) (Nat.lt_irrefl _)⟩
end Tx
end Go.Proofs.YtjinjddcnjcffaaDoor

namespace Go.Proofs.YtjinjddcnjcffaaDoor
open Go.ChangeShapes Go.WideShapes Go.ChangeAt Go.RowKit Go.Joins Bv
namespace Tm
set_option maxHeartbeats 400000
set_option maxRecDepth 100000

theorem ownk : ownKnob Tryd.prog.godebug = none := by kernel_rfl

section
variable {H : Type} {enc : TypeId × Value → H} {P : Program}
/-- The row's last step, where the arguments hold no memory and the call has made new blocks alone. -/
theorem post_new {f : Func} {s : ChangeSpec} {W W' : World} {args : Array Value} {v : Value} {ds : List (DataW H)}
    (hW : DataW.Whole enc P f.params.toList s.vars false W args.toList ds [] [])
    (hres : ∀ (b : Nat) (sp : Nat → Bool) (hd : Bool), DataW.TrodAll enc P W' b sp hd f.resultTypes.toList (v.resultList f.resultTypes.size) (s.fn H (ds ++ [])).results [])
    (hargs : ∀ sp : Nat → Bool, DataW.TrodAll enc P W' 0 sp true f.params.toList args.toList (s.fn H (ds ++ [])).args [])
    (hvars : ∀ sp : Nat → Bool, DataW.TrodVars enc P W' sp s.vars (s.fn H (ds ++ [])).vars []) (hb : Below W.heap.size W W') :
    s.post enc P f false true false false W args v W' :=
  ⟨ds, [], [], [], [], [], hW, hres _ _ _, hargs _, hvars _, hb.frame _, fun h => by cases h⟩
end

section
variable {H : Type} {enc : TypeId × Value → H}

def Nd.datum {H : Type} (x : Nd) : DataW H := .agg [.lit (.int .u8 x.o), .lit (.int .u8 x.w), .agg [.lit (.int .i64 x.k0), .lit (.int .i64 x.k1), .lit (.int .i64 x.k2)], .lit (.int .u64 x.n), .lit (.int .u8 x.l)]

theorem nd_reads (x : Nd) (hx : x.Ok) (W : World) (base : Nat) (sp : Nat → Bool) (hd : Bool) (n : Nat) : DataW.trod enc Tryd.prog W base sp hd (n + 3) 44 x.cells.toList = some (x.datum, []) := by
  have a0 := wf_u8 hx.o
  have a1 := wf_u8 hx.w
  have a2 := wf_i64 hx.k0
  have a3 := wf_i64 hx.k1
  have a4 := wf_i64 hx.k2
  have a5 := wf_u64 hx.n
  have a6 := wf_u8 hx.l
  simp [DataW.trod, Tryd.underlying44, Tryd.underlying41, Tryd.underlying40, Tryd.underlying5, Tryd.underlying3, Tryd.underlying42, cells_nd, cells_kids, cells_op, cells_u8, cells_int, cells_u64,
    Nd.cells, Nd.datum, List.range, List.range.loop, a0, a1, a2, a3, a4, a5, a6]

theorem u8_of {a : Int} (h : (Lit.int .u8 a).wf = true) : ∃ n : Nat, a = (n : Int) ∧ n ≤ 255 := by
  simp only [Lit.wf, IntKind.min, IntKind.max, IntKind.signed, IntKind.bits, Bool.and_eq_true] at h
  obtain ⟨n, rfl⟩ := Int.eq_ofNat_of_zero_le (a := a) (by simpa using h.1)
  exact ⟨n, rfl, by have := h.2; simp at this; omega⟩
theorem u64_of {a : Int} (h : (Lit.int .u64 a).wf = true) : ∃ n : Nat, a = (n : Int) ∧ n < 18446744073709551616 := by
  simp only [Lit.wf, IntKind.min, IntKind.max, IntKind.signed, IntKind.bits, Bool.and_eq_true] at h
  obtain ⟨n, rfl⟩ := Int.eq_ofNat_of_zero_le (a := a) (by simpa using h.1)
  exact ⟨n, rfl, by have := h.2; simp at this; omega⟩
theorem i64_of {a : Int} (h : (Lit.int .i64 a).wf = true) : I64 a := by
  simp only [Lit.wf, IntKind.min, IntKind.max, IntKind.signed, IntKind.bits, Bool.and_eq_true] at h
  have h1 := h.1
  have h2 := h.2
  simp at h1 h2
  exact ⟨by omega, by omega⟩

theorem nd_open {W : World} {base : Nat} {sp : Nat → Bool} {hd : Bool} {fuel : Nat} {cs : List Value} {y : DataW H × List MemPlace} (h : DataW.trod enc Tryd.prog W base sp hd fuel 44 cs = some y) :
    ∃ x : Nd, x.Ok ∧ cs = x.cells.toList ∧ y = (x.datum, []) := by
  obtain ⟨xs, n, _, rfl, hl, hlen, hf⟩ := DataW.trod_struct Tryd.underlying44 h
  rw [cells_nd] at hl
  match cs, hl with
  | [c0, c1, c2, c3, c4, c5, c6], _ =>
  match xs, hlen with
  | [y0, y1, y2, y3, y4], _ =>
  have h0 := hf 0 _ rfl
  have h1 := hf 1 _ rfl
  have h2 := hf 2 _ rfl
  have h3 := hf 3 _ rfl
  have h4 := hf 4 _ rfl
  simp [cells_op, cells_u8, cells_kids, cells_u64] at h0 h1 h2 h3 h4
  obtain ⟨a0, e0, z0, w0⟩ := DataW.trod_int Tryd.underlying40 h0
  obtain ⟨a1, e1, z1, w1⟩ := DataW.trod_int Tryd.underlying5 h1
  obtain ⟨t0, t1, t2, n2, z2, k0, k1, k2⟩ := trod_array3 Tryd.underlying41 cells_int h2
  obtain ⟨b0, f0, v0, u0⟩ := DataW.trod_int Tryd.underlying3 k0
  obtain ⟨b1, f1, v1, u1⟩ := DataW.trod_int Tryd.underlying3 k1
  obtain ⟨b2, f2, v2, u2⟩ := DataW.trod_int Tryd.underlying3 k2
  obtain ⟨a3, e3, z3, w3⟩ := DataW.trod_int Tryd.underlying42 h3
  obtain ⟨a4, e4, z4, w4⟩ := DataW.trod_int Tryd.underlying5 h4
  simp only [List.cons.injEq, and_true] at e0 e1 f0 f1 f2 e3 e4
  subst e0 e1 f0 f1 f2 e3 e4
  subst v0 v1 v2
  subst z0 z1 z2 z3 z4
  obtain ⟨o, rfl, ho⟩ := u8_of w0
  obtain ⟨w, rfl, hw⟩ := u8_of w1
  obtain ⟨m, rfl, hm⟩ := u64_of w3
  obtain ⟨l, rfl, hl⟩ := u8_of w4
  exact ⟨⟨o, w, b0, b1, b2, m, l⟩, ⟨ho, hw, i64_of u0, i64_of u1, i64_of u2, hm, hl⟩, rfl, rfl⟩

/-- A node by value. -/
theorem open_nd {W : World} {base b0 : Nat} {spare : Nat → Bool} {held : Bool} {r : Go.Reach} {v : Value} {d : DataW H} {p : List MemPlace}
    (hv : Value.okWide Tryd.prog W r b0 44 v) (h : DataW.Trod enc Tryd.prog W base spare held 44 v d p) :
    ∃ x : Nd, x.Ok ∧ v = x.val ∧ p = [] ∧ ∀ (W' : World) (b : Nat) (sp : Nat → Bool) (hd : Bool), DataW.Trod enc Tryd.prog W' b sp hd 44 x.val d [] := by
  obtain ⟨cs, rfl, _⟩ := okWide_struct Tryd.underlying44 hv
  obtain ⟨fuel, hf⟩ := h
  obtain ⟨x, hx, hc, hy⟩ := nd_open hf
  simp only [Prod.mk.injEq] at hy
  obtain ⟨rfl, rfl⟩ := hy
  refine ⟨x, hx, ?_, rfl, fun W' b sp hd => ⟨3, nd_reads x hx W' b sp hd 0⟩⟩
  have : cs = x.cells := by
    simp only [Value.cells] at hc
    exact Array.toList_inj.1 hc
  rw [this]
  rfl
end
end Tm
end Go.Proofs.YtjinjddcnjcffaaDoor
