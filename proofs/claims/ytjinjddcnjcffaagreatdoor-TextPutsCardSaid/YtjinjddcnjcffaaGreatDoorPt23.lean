/-
Get of layer text, of a store that was made, and of none: a fact on one call.
A row of numbers.
Vars of a number that no node has; New with its store; what a call that makes a node leaves; a row of numbers read in its places.
What the statements' own texts come to: works answers true, as a fact on one call.
The document's own put of layer text, of operators, where it is known what it does of the kids.
-/
import Derived.Test.YtjinjddcnjcffaaGreatDoorPt21
import Derived.Test.YtjinjddcnjcffaaGreatDoorPt22
import Derived.Test.YtjinjddcnjcffaaGreatDoorPt17
import Derived.Deep.LoopGhost
import Derived.BigQuiet
import Derived.Test.YtjinjddcnjcffaaGreatDoorPt18
import Derived.Test.YtjinjddcnjcffaaGreatDoorPt10
namespace Go.Proofs.YtjinjddcnjcffaaGreatDoor
open Go.RowKit Go.Maps Bv Tm
namespace Tx
set_option maxHeartbeats 3200000
set_option maxRecDepth 100000

/-- What a call of Get has done. -/
def Got (B p m : Nat) (sv : Value) (W : World) (RES : List Nd × Nat × Nat) (e : Ending) (W' : World) : Prop :=
  e = .returned (.tuple #[.int .i64 ((RES.2.1 : Nat) : Int), .int .i64 ((RES.2.2 : Nat) : Int)]) ∧
      ∃ v, StoreAt B W' p m v RES.1 ∧ Kept (foot p m sv) W W' ∧ (v.ownBlock = sv.ownBlock ∨ ∃ g, W.heap.size ≤ g ∧ v.ownBlock = some g)

theorem whole_ne {s : By} {ns : List Nd} (h : wholeP s = some ns) : 0 < ns.length := by
  unfold wholeP at h
  by_cases hl : 10000 < s.length
  · rw [if_pos hl] at h; cases h
  rw [if_neg hl] at h
  cases hq : nodeP (s.length + 1) s [] with
  | none => rw [hq] at h; simp at h
  | some p =>
    rw [hq, Option.bind_some] at h
    have hs := nodeP_shr _ _ _ _ hq
    unfold Shr at hs
    by_cases hp : p.1 = []
    · rw [if_pos hp] at h
      simp only [Option.some.injEq] at h
      rw [← h]
      simp at hs
      omega
    · rw [if_neg hp] at h; cases h

/-- Blocks that may change while a text is read. -/
def GF (r : Nat) (i : Nat) : Prop := i = r ∨ r + 1 + 1 ≤ i

/-- Get behind its look at the store. -/
theorem get_rest {B p m : Nat} {sv : Value} {L : List Nd} {W : World} {t : By} {x : Nd} {er : Nat} (S : StoreAt B W p m sv L) (hB : B ≤ W.heap.size) (hE : EnvAt (fun i => W.heap.size ≤ i) W) (ht : t.length ≤ 9223372036854775807)
    (HNODE : Hid (Calls Tryz.prog 20 #[.pointer (some ⟨p, 0, none⟩), .int .i64 0] W fun e W' => e = .returned (.tuple #[x.val, .int .i64 ((er : Nat) : Int)]) ∧ Below W.heap.size W W')) (her : ¬ er = 1) :
    Calls Tryz.prog 11 #[.pointer (some ⟨p, 0, none⟩), .string ⟨t.toArray⟩] W (Got B p m sv W (getP L t)) := by
  have hmf : ∀ (fn : Fn) (first cap : Array Value) (w : World), (Instr.makeFunc fn first cap).run Tryz.prog w = .ok (.func fn first cap) w := fun _ _ _ _ => rfl
  have d1 : (((er : Nat) : Int) == 1) = false := by simp; omega
  obtain ⟨tx, htx⟩ : ∃ tx : ByteArray, tx = ⟨t.toArray⟩ := ⟨_, rfl⟩
  have htl : tx.data.toList = t := by rw [htx]
  rw [← htx]
  have HS := Lib.hid S
  have HE := Lib.hid hE
  have HTL := Lib.hid htl
  have HT := Lib.hid ht
  have HB := Lib.hid hB
  obtain ⟨o, w, k0, k1, k2, n, l⟩ := x
  unfold Nd.val at HNODE
  clear S hE htl htx ht hB her
  go_enter Tryz.func11, Tryz.ntmps11
  go_wp2_with (go_at_call 20; refine HNODE.out.mono ?_; rintro e W1 ⟨rfl, hb1⟩; have HB1 := Lib.hid hb1; clear hb1)
  have HX1 := Lib.hid (bel_alloc HB1.out (.cells #[.int .u8 ((o : Nat) : Int), .int .u8 ((w : Nat) : Int), .int .i64 k0, .int .i64 k1, .int .i64 k2, .int .u64 ((n : Nat) : Int), .int .u8 ((l : Nat) : Int)] 48))
  have HSZ : Hid ((W1.alloc (.cells #[.int .u8 ((o : Nat) : Int), .int .u8 ((w : Nat) : Int), .int .i64 k0, .int .i64 k1, .int .i64 k2, .int .u64 ((n : Nat) : Int), .int .u8 ((l : Nat) : Int)] 48)).heap.size = W1.heap.size + 1) := Lib.hid (by simp)
  have h21 : W1.heap.size + 1 = W1.heap.size + 1 := rfl
  generalize (W1.alloc (.cells #[.int .u8 ((o : Nat) : Int), .int .u8 ((w : Nat) : Int), .int .i64 k0, .int .i64 k1, .int .i64 k2, .int .u64 ((n : Nat) : Int), .int .u8 ((l : Nat) : Int)] 48)) = X at HX1 HSZ ⊢
  obtain ⟨r, hr⟩ : ∃ r, W1.heap.size + 1 = r := ⟨_, rfl⟩
  rw [hr] at HSZ
  try simp only [hr]
  have hrW : W.heap.size ≤ r := by have := HB1.out.size; omega
  have hXr : X.heap.size = r := HSZ.out
  clear h21 hr HB1
  have HRW := Lib.hid hrW
  obtain ⟨X3, hX3⟩ : ∃ X3, X3 = (X.alloc (.cells #[.string tx, .slice none 0 0] 61)).alloc (.cells #[.int .i64 0] 28) := ⟨_, rfl⟩
  have hb3 : Below W.heap.size W X3 := by rw [hX3]; exact bel_alloc (bel_alloc HX1.out _) _
  have s3 : X3.heap.size = r + 1 + 1 := by rw [hX3]; simp [hXr]
  have c0 : X3.cell? ⟨r, 0, none⟩ = some (.string tx) := by rw [hX3, ← hXr]; simp [go_sem]
  have c1 : X3.cell? ⟨r, 1, none⟩ = some (.slice none 0 0) := by rw [hX3, ← hXr]; simp [go_sem]
  have cf : ∀ o, X3.frozen? ⟨r, o, none⟩ = false := fun o => by rw [hX3, ← hXr]; simp [go_sem]
  have c5 : X3.cell? ⟨r + 1, 0, none⟩ = some (.int .i64 0) := by rw [hX3, ← hXr]; simp [go_sem]
  have c6 : X3.frozen? ⟨r + 1, 0, none⟩ = false := by rw [hX3, ← hXr]; simp [go_sem]
  have hfoot : ∀ i, foot p m sv i → ¬ GF r i := by
    intro i c d
    have : i < W.heap.size := by
      rcases c with c | c | c
      · subst c; exact HS.out.lt
      · subst c; exact HS.out.lm
      · exact (HS.out.row.lt i c).2
    unfold GF at d
    omega
  have hR3 : RdE (GF r) r t [] X3 := ⟨tx, .slice none 0 0, c0, HTL.out, c1, cf, World.ownsRow_nil _ _ _ _, by simp [Value.ownBlock], .inl rfl, fun g e => by simp [Value.ownBlock] at e, fun i hi => .inr (by omega)⟩
  have hE3 : EnvAt (GF r) X3 := (HE.out.call hb3).mono (fun i c => by unfold GF at c; omega)
  have hwhole := rwhole_any hR3 hE3 HT.out
  have hnG : ¬ GF r (r + 1) := by unfold GF; omega
  have hcell : ∀ w1, Kept (GF r) X3 w1 → w1.cell? ⟨r + 1, 0, none⟩ = some (.int .i64 0) ∧ w1.frozen? ⟨r + 1, 0, none⟩ = false := fun w1 k =>
    ⟨(k.cell (x := ⟨r + 1, 0, none⟩) (show _ < _ by rw [s3]; exact Nat.lt_succ_self _) hnG).trans c5, (k.frozen (x := ⟨r + 1, 0, none⟩) (show _ < _ by rw [s3]; exact Nat.lt_succ_self _) hnG).trans c6⟩
  have s2 : (X.alloc (.cells #[.string tx, .slice none 0 0] 61)).heap.size = r + 1 := by simp [hXr]
  have HFOOT := Lib.hid hfoot
  have HB3 := Lib.hid hb3
  have HS3 := Lib.hid s3
  cases hq : wholeP t with
  | none =>
    have HGP : Hid (getP L t = (L, 0, 5)) := Lib.hid (by unfold getP; rw [hq])
    rw [hq] at hwhole
    have hc := caught_get_bad (.pointer (some ⟨r, 0, none⟩)) 5 (W := X.alloc (.cells #[.string tx, .slice none 0 0] 61)) (R := fun w1 => Kept (GF r) X3 w1) (by rw [← hX3]; exact hwhole.mono (fun e w1 h => h)) (by rw [s2]; exact hcell)
    rw [s2] at hc
    have HC := Lib.hid hc
    clear hc hwhole hE3 hR3 c0 c1 cf c5 c6 hcell hX3 hb3 s3 s2 hfoot hnG hq hrW HX1
    try simp only [hXr]
    go_wp2_with (go_at_call 16; refine HC.out.mono ?_; rintro e W4 ⟨rfl, w1, k1, hW4⟩; have HW4 := Lib.hid hW4; have K1 := Lib.hid k1; clear hW4 k1)
    refine bodyPost_ret (v := .tuple #[.int .i64 0, .int .i64 5]) (by simp [results, Tryz.results11, go_sem]) rfl ?_
    have hK : Kept (foot p m sv) W W4 := by
      rw [HW4.out]
      exact Kept.ofBelow ((HB3.out.trans (K1.out.below (fun i hi c => by unfold GF at c; have := HRW.out; omega) HB3.out.size)).setCell (by have := HRW.out; simp; omega) _) _
    have hb4 : Below W.heap.size W W4 := by
      rw [HW4.out]
      exact (HB3.out.trans (K1.out.below (fun i hi c => by unfold GF at c; have := HRW.out; omega) HB3.out.size)).setCell (by have := HRW.out; simp; omega) _
    rw [HGP.out]
    exact ⟨rfl, sv, HS.out.call hb4, hK, .inl rfl⟩
  | some ns =>
    have HGP : Hid (getP L t = bd ns [] L 0) := Lib.hid (by unfold getP; rw [hq])
    rw [hq] at hwhole
    have hok := wholeP_ok hq
    have hne := whole_ne hq
    have hc := caught_get_ok (.pointer (some ⟨r, 0, none⟩)) (W := X.alloc (.cells #[.string tx, .slice none 0 0] 61)) (R := fun w1 => RdE (GF r) r [] ns w1 ∧ Kept (GF r) X3 w1) (by rw [← hX3]; exact hwhole.mono (fun e w1 h => h)) (by rw [s2]; exact fun w1 h => hcell w1 h.2)
    rw [s2] at hc
    have HC := Lib.hid hc
    have HOK := Lib.hid hok
    have HNE := Lib.hid hne
    clear hc hwhole hE3 hR3 c0 c1 cf c5 c6 hcell hX3 hb3 s3 s2 hfoot hnG hq hrW HX1 hok hne
    try simp only [hXr]
    go_wp2_with (
       go_at_call 16
       refine HC.out.mono ?_
       rintro e W4 ⟨rfl, w1, ⟨⟨tx2, v, hrd⟩, k1⟩, hW4⟩
       have HW4 := Lib.hid hW4
       have K1 := Lib.hid k1
       have HRD := Lib.hid hrd
       clear hW4 k1 hrd
       refine Hid.out ?_)
    refine Lib.hid ?_
    have hov : v.ownBlock ≠ some (r + 1) := fun e => by have h := HRD.out.fo _ e; unfold GF at h; omega
    have d2 : W4.cell? ⟨r, 1, none⟩ = some v := by rw [HW4.out, World.cell?_setCell_far _ _ _ _ (by simp)]; exact HRD.out.c1
    have hrow4 : W4.ownsRow 0 48 7 v ns.length (rowOf ns) := by rw [HW4.out]; exact row_setCell HRD.out.row (a := ⟨r + 1, 0, none⟩) _ hov
    have hb4 : Below W.heap.size W W4 := by
      rw [HW4.out]
      exact (HB3.out.trans (K1.out.below (fun i hi c => by unfold GF at c; have := HRW.out; omega) HB3.out.size)).setCell (by have := HRW.out; simp; omega) _
    obtain ⟨x0, hx0⟩ : ∃ x0, ns[0]? = some x0 := ⟨_, List.getElem?_eq_getElem HNE.out⟩
    obtain ⟨gn, cc, hv, hcells⟩ := row_nd_at hrow4 hx0
    have hgF := HRD.out.fo gn (by rw [hv]; rfl)
    have hgn : gn < W4.heap.size := own_lt hrow4 (by rw [hv]; rfl)
    subst hv
    have hbuild := build_any (c := cc) (HS.out.call hb4) (Nat.le_trans HB.out hb4.size) HOK.out.1 HOK.out.2.1 hgn (fun c => HFOOT.out gn c hgF) hcells ns.length rfl
    have HBU := Lib.hid hbuild
    have HB4 := Lib.hid hb4
    clear hov hrow4 hb4 hx0 hcells hgF hgn hbuild
    go_wp2_with (
       go_at_call 22
       refine HBU.out.mono ?_
       rintro e W5 ⟨rfl, hm⟩
       have HM := Lib.hid hm
       clear hm)
    refine bodyPost_ret (v := .tuple #[.int .i64 (((bd ns [] L 0).2.1 : Nat) : Int), .int .i64 (((bd ns [] L 0).2.2 : Nat) : Int)]) (by simp [results, Tryz.results11, go_sem]) rfl ?_
    obtain ⟨v5, S5, K5, h5⟩ := HM.out
    rw [HGP.out]
    refine ⟨rfl, v5, S5, (Kept.ofBelow HB4.out (foot p m sv)).trans (K5.mono (fun i hi c => ?_)), ?_⟩
    · rcases c with c | c
      · exact c
      · omega
    · rcases h5 with e | ⟨g, hg, e⟩
      · exact .inl e
      · exact .inr ⟨g, Nat.le_trans HB4.out.size hg, e⟩

theorem get_yes {B p m : Nat} {sv : Value} {L : List Nd} {W : World} {t : By} (S : StoreAt B W p m sv L) (hB : B ≤ W.heap.size) (hE : EnvAt (fun i => W.heap.size ≤ i) W) (ht : t.length ≤ 9223372036854775807) :
    Calls Tryz.prog 11 #[.pointer (some ⟨p, 0, none⟩), .string ⟨t.toArray⟩] W (Got B p m sv W (getP L t)) := by
  cases L with
  | nil => exact get_rest (x := zNd) (er := 2) S hB hE ht (Lib.hid (node_no S (k := 0) (by simp [inB]))) (by omega)
  | cons x r => exact get_rest (x := x) (er := 0) S hB hE ht (Lib.hid (node_yes S (k := 0) rfl)) (by omega)

theorem get_none (ptr : Value) (t : ByteArray) (W : World) (h : NoneAt W ptr) :
    Calls Tryz.prog 11 #[ptr, .string t] W fun e W' => e = .returned (.tuple #[.int .i64 0, .int .i64 1]) ∧ Below W.heap.size W W' := by
  have HN := Lib.hid (node_none ptr 0 W h)
  clear h
  go_enter Tryz.func11, Tryz.ntmps11
  go_wp2_with (go_at_call 20; refine HN.out.mono ?_; rintro e W1 ⟨rfl, hb1⟩; have HB1 := Lib.hid hb1; clear hb1)
  exact bodyPost_ret (v := .tuple #[.int .i64 0, .int .i64 1]) (by simp [results, Tryz.results11, go_sem]) rfl ⟨rfl, bel_alloc HB1.out _⟩
end Tx
end Go.Proofs.YtjinjddcnjcffaaGreatDoor

namespace Go.Proofs.YtjinjddcnjcffaaGreatDoor
open Go.RowKit Go.Maps Bv
namespace Tm
set_option maxHeartbeats 1000000
set_option maxRecDepth 100000

def todoRow (T : List Nat) : List Value := T.map (fun i => .int .i64 ((i : Nat) : Int))

end Tm
end Go.Proofs.YtjinjddcnjcffaaGreatDoor

namespace Go.Proofs.YtjinjddcnjcffaaGreatDoor
open Go.RowKit Go.Maps Bv
namespace Tm
set_option maxHeartbeats 1000000
set_option maxRecDepth 100000

theorem row_at {w : World} {base : Nat} {v : Value} {T : List Nat} (h : w.ownsRow base 3 1 v T.length (todoRow T)) (hT : 0 < T.length) :
    ∃ g c, v = .slice (some ⟨g, 0, none⟩) T.length c ∧ ∀ j i, T[j]? = some i → w.cell? ⟨g, j, none⟩ = some (.int .i64 ((i : Nat) : Int)) := by
  have hr := h
  rcases h with ⟨hl, ⟨_, h2⟩ | ⟨g, cap, cur, hv, hb, hh, hn, _⟩⟩
  · omega
  · refine ⟨g, cap, hv, fun j i hj => ?_⟩
    have hc := hr.cells (g := g) (by rw [hv]; rfl) j (.int .i64 ((i : Nat) : Int)) (by simp [todoRow, hj])
    have e : (⟨g, 0, none⟩ : Addr).add j = ⟨g, j, none⟩ := by
      unfold Addr.add
      split <;> simp_all
    rw [e] at hc
    exact hc

theorem row_zero {w : World} {base : Nat} {v : Value} {xs : List Value} (h : w.ownsRow base 3 1 v 0 xs) : ∃ a c, v = .slice a 0 c := by
  rcases h with ⟨hl, ⟨h1, _⟩ | ⟨g, cap, cur, hv, _⟩⟩
  · exact ⟨none, 0, h1⟩
  · exact ⟨_, _, hv⟩

theorem made_to {B p m : Nat} {sv : Value} {L L' : List Nd} {x : Nd} {W : World} {f : FuncId} {args : Array Value} {a b : Int} (S : StoreAt B W p m sv L) (hB : B ≤ W.heap.size) (h : Calls Tryz.prog f args W (Made B p m sv L x W)) (h1 : (mk L x).1 = L') (h2 : (((mk L x).2.1 : Nat) : Int) = a) (h3 : (((mk L x).2.2 : Nat) : Int) = b) :
    Calls Tryz.prog f args W (fun e W' => e = .returned (.tuple #[.int .i64 a, .int .i64 b]) ∧ ∃ v, StoreAt B W' p m v L' ∧ Below B W W') := by
  refine h.mono ?_
  rintro e w' ⟨he, v, S', K, _⟩
  subst h1; subst h2; subst h3
  refine ⟨he, v, S', K.below (fun i hi hc => ?_) hB⟩
  rcases hc with c | c | c
  · have := S.bp; omega
  · have := S.bm; omega
  · have := (S.row.lt i c).1; omega

theorem new_at (W : World) :
    Calls Tryz.prog 13 #[] W fun e W' => e = .returned (.pointer (some ⟨W.heap.size + 1, 0, none⟩)) ∧
      StoreAt W.heap.size W' (W.heap.size + 1) W.heap.size (.slice none 0 0) [] ∧ Below W.heap.size W W' := by
  refine (new_any W).mono ?_
  rintro e w' ⟨rfl, rfl⟩
  exact ⟨rfl, new_store W, new_kept W _ _⟩

end Tm
end Go.Proofs.YtjinjddcnjcffaaGreatDoor

namespace Go.Proofs.YtjinjddcnjcffaaGreatDoor
open Go.RowKit Go.Maps Bv Tm
namespace Tx
set_option maxHeartbeats 3200000
set_option maxRecDepth 100000

theorem bd_may : ∀ (ns : List Nd) (ids : List Nat) (L : List Nd) (last : Nat), MayL L → MayL (bd ns ids L last).1
  | [], _, _, _, h => h
  | x :: r, ids, L, last, h => by
    simp only [bd]
    split
    · exact bd_may r _ _ _ (mayL_step h _)
    · exact mayL_step h _
theorem getP_may {L : List Nd} (h : MayL L) (t : By) : MayL (getP L t).1 := by
  unfold getP
  split
  · exact h
  · exact bd_may _ _ _ _ h

theorem env_at {B : Nat} {W w : World} (hE : EnvAt (fun i => W.heap.size ≤ i) W) (hb : Below W.heap.size W w) : EnvAt (fun i => w.heap.size ≤ i) w :=
  (hE.call hb).mono (fun i c => Nat.le_trans hb.size c)

theorem get_to {B p m : Nat} {sv : Value} {L L' : List Nd} {W w : World} {t : By} {a b : Nat} (S : StoreAt W.heap.size w p m sv L) (hE : EnvAt (fun i => W.heap.size ≤ i) W) (hb : Below W.heap.size W w) (ht : t.length ≤ 9223372036854775807) (hg : getP L t = (L', a, b)) :
    Calls Tryz.prog 11 #[.pointer (some ⟨p, 0, none⟩), .string ⟨t.toArray⟩] w fun e W' => e = .returned (.tuple #[.int .i64 ((a : Nat) : Int), .int .i64 ((b : Nat) : Int)]) ∧ ∃ v, StoreAt W.heap.size W' p m v L' ∧ Below W.heap.size W W' := by
  refine (get_yes S hb.size (env_at (B := 0) hE hb) ht).mono ?_
  rintro e W' ⟨he, v, S', K, _⟩
  rw [hg] at he S'
  refine ⟨he, v, S', hb.trans (K.below (fun i hi c => ?_) hb.size)⟩
  rcases c with c | c | c
  · have := S.bp; omega
  · have := S.bm; omega
  · have := (S.row.lt i c).1; omega

/-! ### the five texts -/
def t1 : By := [40, 97, 100, 100, 32, 118, 48, 58, 56, 32, 35, 56, 58, 49, 41]
def t2 : By := [40, 97, 100, 100, 32, 118, 48, 58, 56, 32, 35, 52, 58, 49, 41]
def t3 : By := [40, 97, 100, 100, 32, 32, 118, 48, 58, 56, 32, 118, 48, 58, 56, 41]
def t4 : By := [35, 56, 58, 48, 49]
def l1 : List Nd := [⟨2, 8, 0, 0, 0, 0, 0⟩, ⟨1, 8, 0, 0, 0, 1, 0⟩, ⟨8, 8, 0, 1, 0, 0, 0⟩]
def l2 : List Nd := [⟨2, 8, 0, 0, 0, 0, 0⟩, ⟨1, 8, 0, 0, 0, 1, 0⟩, ⟨8, 8, 0, 1, 0, 0, 0⟩, ⟨1, 4, 0, 0, 0, 1, 0⟩]
theorem g1 : getP [] t1 = (l1, 2, 0) := by decide +kernel
theorem g2 : getP l1 t2 = (l2, 0, 2) := by decide +kernel
theorem g3 : getP l2 t3 = (l2, 0, 5) := by decide +kernel
theorem g4 : getP l2 t4 = (l2, 0, 5) := by decide +kernel
theorem m1 : MayL l1 := by have := getP_may mayL_nil t1; rw [g1] at this; exact this
theorem dec1 {n : Nat} (h : n < 10) : dec n = [UInt8.ofNat (48 + n)] := Lib.decDigits_one h
theorem x1 : txt l1 2 = t1 := by
  have d0 := dec1 (n := 0) (by omega)
  have d1 := dec1 (n := 1) (by omega)
  have d8 := dec1 (n := 8) (by omega)
  simp [txt, txtF, bodyT, hd, kidsT, l1, kc, Nd.kid, nm, nameL, d0, d1, d8, t1]
theorem p1 : putR l1 2 = .tuple #[.string ⟨t1.toArray⟩, .int .i64 0] := by
  unfold putR
  rw [x1, if_pos (by decide)]

theorem works_any {W : World} (hE : EnvAt (fun i => W.heap.size ≤ i) W) : Calls Tryz.prog 10 #[] W fun e W' => e = .returned (.bool true) ∧ Below W.heap.size W W' := by
  have HE := Lib.hid hE
  clear hE
  go_enter Tryz.func10, Tryz.ntmps10
  go_wp2_with (go_at_call 13; refine (new_at W).mono ?_; rintro e w0 ⟨rfl, S0, hb0⟩; have HS0 := Lib.hid S0; have HB0 := Lib.hid hb0; clear S0 hb0; refine Hid.out ?_)
  refine Lib.hid ?_
  have H1 := Lib.hid (get_to (B := 0) HS0.out HE.out HB0.out (by decide) g1)
  go_wp2_with (go_at_call 11; refine H1.out.mono ?_; rintro e w1 ⟨rfl, v1, S1, hb1⟩; have HS1 := Lib.hid S1; have HB1 := Lib.hid hb1; clear S1 hb1; refine Hid.out ?_)
  refine Lib.hid ?_
  have H2 := put_yes HS1.out m1 (env_at (B := 0) HE.out HB1.out) (show 2 < l1.length by decide)
  rw [p1] at H2
  have H2 := Lib.hid H2
  go_wp2_with (go_at_call 6; refine H2.out.mono ?_; rintro e w2 ⟨rfl, hb2⟩; have HB2 := Lib.hid (bel_call HB1.out hb2); have HS2 := Lib.hid (HS1.out.call hb2); clear hb2; refine Hid.out ?_)
  refine Lib.hid ?_
  have H3 := Lib.hid (get_to (B := 0) HS2.out HE.out HB2.out (by decide) g2)
  go_wp2_with (go_at_call 11; refine H3.out.mono ?_; rintro e w3 ⟨rfl, v3, S3, hb3⟩; have HS3 := Lib.hid S3; have HB3 := Lib.hid hb3; clear S3 hb3; refine Hid.out ?_)
  refine Lib.hid ?_
  have H4 := Lib.hid (get_to (B := 0) HS3.out HE.out HB3.out (by decide) g3)
  go_wp2_with (go_at_call 11; refine H4.out.mono ?_; rintro e w4 ⟨rfl, v4, S4, hb4⟩; have HS4 := Lib.hid S4; have HB4 := Lib.hid hb4; clear S4 hb4; refine Hid.out ?_)
  refine Lib.hid ?_
  have H5 := Lib.hid (get_to (B := 0) HS4.out HE.out HB4.out (by decide) g4)
  go_wp2_with (go_at_call 11; refine H5.out.mono ?_; rintro e w5 ⟨rfl, v5, S5, hb5⟩; have HS5 := Lib.hid S5; have HB5 := Lib.hid hb5; clear S5 hb5; refine Hid.out ?_)
  refine Lib.hid ?_
  have HE5 := Lib.hid (HE.out.call HB5.out)
  have N1 : Hid (Calls Tryz.prog 8 #[.int .u8 25] w5 fun e w' => e = .returned (.string ⟨#[105, 116, 101]⟩) ∧ w5 = w') := Lib.hid (name_any (o := 25) HE5.out (by omega))
  have N2 : Hid (Calls Tryz.prog 8 #[.int .u8 1] w5 fun e w' => e = .returned (.string ⟨#[]⟩) ∧ w5 = w') := Lib.hid (name_any (o := 1) HE5.out (by omega))
  unfold t1
  go_wp2_with (go_at_call 8; first | (with_reducible refine N1.out.mono ?_; rintro e w6 ⟨rfl, rfl⟩) | (refine N2.out.mono ?_; rintro e w6 ⟨rfl, rfl⟩))
  go_ret
  exact ⟨rfl, HB5.out⟩
end Tx
end Go.Proofs.YtjinjddcnjcffaaGreatDoor

namespace Go.Proofs.YtjinjddcnjcffaaGreatDoor
open Go.RowKit Go.Maps Bv Tm
namespace Tx
set_option maxHeartbeats 3200000
set_option maxRecDepth 100000

/-- What is known of the calls on the kids. -/
def RKids (L : List Nd) (k B p N : Nat) (rv : Value) : Prop :=
  ∀ (j : Nat), j < k → ∀ (acc : By) (u : World), RefAt B u p rv L → EnvAt (fun i => u.heap.size ≤ i) u → acc.length + 64 * j ≤ N →
    Calls Tryz.prog 19 #[.pointer (some ⟨p, 0, none⟩), .int .i64 ((j : Nat) : Int), .string ⟨acc.toArray⟩] u (RPut (acc ++ txt L j) u)

theorem rput_plain {B p k w n l N o : Nat} {rv : Value} {L : List Nd} {k0 k1 k2 : Int} {acc : By} {W : World} (ho : 3 ≤ o ∧ o ≤ 25 ∧ ¬ o = 22 ∧ ¬ o = 23 ∧ ¬ o = 24) (hI : RKids L k B p N rv) (S : RefAt B W p rv L) (hE : EnvAt (fun i => W.heap.size ≤ i) W) (hx : L[k]? = some ⟨o, w, k0, k1, k2, n, l⟩) (hl : acc.length + 64 * k ≤ N) (hN : 10064 + 64 * k ≤ N) (hN9 : N ≤ 9000000) :
    Calls Tryz.prog 19 #[.pointer (some ⟨p, 0, none⟩), .int .i64 ((k : Nat) : Int), .string ⟨acc.toArray⟩] W (RPut (acc ++ txt L k) W) := by
  obtain ⟨x, hxe⟩ : ∃ x : Nd, x = ⟨o, w, k0, k1, k2, n, l⟩ := ⟨_, rfl⟩
  have hw := S.good.w _ (List.mem_of_getElem? hx)
  have hok := S.good.ok _ (List.mem_of_getElem? hx)
  have hwle : w ≤ 64 := hw.2
  have hlle : l ≤ 255 := hok.l
  have hkid : ∀ j, j < kc o → 0 ≤ x.kid j ∧ x.kid j < ((k : Nat) : Int) := by rw [hxe]; exact S.good.kid k _ hx
  have htx : acc ++ txt L k = acc ++ [40] ++ nm o ++ (kidsT (txt L) x (kc o) ++ [41]) := by
    rw [txt_is S.good hx, ← hxe]
    unfold bodyT hd
    rw [hxe]
    simp only []
    rw [if_neg (by omega), if_neg (by omega), if_neg (by omega), if_neg (by omega)]
    simp
  have hkl : k < L.length := (List.getElem?_eq_some_iff.1 hx).1
  obtain ⟨g, gc, rfl, hcg⟩ := row_nd_at S.row hx
  obtain ⟨m0, m1, m2, m3, m4, m5, m6⟩ := cells_near (fun j u hj => hcg k _ hx j u hj)
  have lg : g < W.heap.size := World.block_lt_of_cell? W _ m0
  have s0 := S.c0
  have lpr := S.lt
  have q0 : (0 : Int) ≤ ((k : Nat) : Int) := by omega
  have q1 : ((k : Nat) : Int) < ((L.length : Nat) : Int) := by omega
  have d1 : (((o : Nat) : Int) == 1) = false := by simp; omega
  have d2 : (((o : Nat) : Int) == 2) = false := by simp; omega
  have d22 : (((o : Nat) : Int) == 22) = false := by simp; omega
  have d23 : (((o : Nat) : Int) == 23) = false := by simp; omega
  have d24 : (((o : Nat) : Int) == 24) = false := by simp; omega
  have ho' : 3 ≤ o ∧ o ≤ 25 := by omega
  have HNM : Hid (∀ u : World, Calls Tryz.prog 9 #[.int .u8 ((o : Nat) : Int)] u fun e w' => e = .returned (.string ⟨(nm o).toArray⟩) ∧ Below u.heap.size u w') := Lib.hid (fun u => rname_any (o := o) (by omega) u)
  have HKN : Hid (∀ W : World, Calls Tryz.prog 27 #[.int .u8 ((o : Nat) : Int)] W fun e W' => e = .returned (.int .i64 ((kc o : Nat) : Int)) ∧ W = W') := Lib.hid (fun W => by have h := rkids_any o W; rwa [rk_kc (by omega)] at h)
  have HLEN : Hid (∀ i, i < kc o → (kidsT (txt L) x (i + 1)).length ≤ (kidsT (txt L) x (kc o)).length) := Lib.hid (fun i hi => kidsT_le hi)
  have hnl := nm_len o
  have hdw : (dec w).length ≤ 20 := dec_len (by omega)
  have hdl : (dec l).length ≤ 20 := dec_len (by omega)
  have cb : acc.length ≤ 9000000 := by omega
  have HWL := Lib.hid (show w ≤ 1000000 by omega)
  have HLL := Lib.hid (show l ≤ 1000000 by omega)
  have HTX := Lib.hid htx
  have HKID := Lib.hid hkid
  have HXE := Lib.hid hxe
  have HE := Lib.hid hE
  have HS := Lib.hid S
  have HI := Lib.hid hI
  have HNB := Lib.hid (And.intro hl (And.intro hN hN9))
  have hkc3 : kc o ≤ 3 := kc_le o
  have HK3 := Lib.hid hkc3
  obtain ⟨kcn, hkcn⟩ : ∃ kcn, kc o = kcn := ⟨_, rfl⟩
  rw [hkcn] at HTX HKID HLEN HKN HK3
  obtain ⟨nmv, hnmv⟩ : ∃ nmv, nm o = nmv := ⟨_, rfl⟩
  rw [hnmv] at HTX HNM hnl
  obtain ⟨tot, htot⟩ : ∃ tot, acc ++ txt L k = tot := ⟨_, rfl⟩
  rw [htot] at HTX ⊢
  obtain ⟨s3, hs3⟩ : ∃ s3 : By, s3 = acc ++ [40] ++ nmv := ⟨_, rfl⟩
  rw [← hs3] at HTX
  have HS3 := Lib.hid hs3
  have HSL := Lib.hid (show s3.length ≤ acc.length + 50 by rw [hs3]; simp; omega)
  have HB0 := Lib.hid (bel_alloc (Below.refl W.heap.size W) (.cells #[.int .u8 ((o : Nat) : Int), .int .u8 ((w : Nat) : Int), .int .i64 k0, .int .i64 k1, .int .i64 k2, .int .u64 ((n : Nat) : Int), .int .u8 ((l : Nat) : Int)] 48))
  have HA0 := Lib.hid (At7.new W (.int .u8 ((o : Nat) : Int)) (.int .u8 ((w : Nat) : Int)) (.int .i64 k0) (.int .i64 k1) (.int .i64 k2) (.int .u64 ((n : Nat) : Int)) (.int .u8 ((l : Nat) : Int)) 48)
  clear S hE hw hok hx hcg hl hN hN9 hI htx hkid hxe hkcn hnmv htot hs3 hkc3 ho ho'
  · skip
    go_enter Tryz.func19, Tryz.ntmps19
    go_wp2_with (first
    | (go_at_call 9; refine (HNM.out _).mono ?_; rintro e w1 ⟨rfl, hb1⟩; have HB1 := Lib.hid (bel_call HB0.out hb1); have HA1 := Lib.hid (At7.keep HA0.out hb1); have hA := HA1.out; unfold At7 at hA; obtain ⟨a0, a1, a2, a3, a4, a5, a6⟩ := hA; clear hb1)
    | fail)
    clear a0 a1 a2 a3 a4 a5 a6
    go_loopg [2, 9] kcn (fun gk u2 u9 wr => ∃ i : Nat, u2 = .string ⟨(s3 ++ kidsT (txt L) x i).toArray⟩ ∧ u9 = .int .i64 ((i : Nat) : Int) ∧ i + gk = kcn ∧ ((s3 ++ kidsT (txt L) x i).length ≤ s3.length ∨ (s3 ++ kidsT (txt L) x i).length ≤ 10000) ∧ Below W.heap.size W wr ∧ At7 wr W.heap.size (.int .u8 ((o : Nat) : Int)) (.int .u8 ((w : Nat) : Int)) (.int .i64 k0) (.int .i64 k1) (.int .i64 k2) (.int .u64 ((n : Nat) : Int)) (.int .u8 ((l : Nat) : Int)))
    case atStart => exact ⟨0, by rw [HS3.out]; simp [str_app, kidsT], rfl, by omega, .inl (by simp [kidsT]), HB1.out, HA1.out⟩
    case round =>
      obtain ⟨i, rfl, rfl, hgk, hlen, hbr, hA⟩ := hrel
      have HBR := Lib.hid hbr
      have HLE := Lib.hid hlen
      have HAR := Lib.hid hA
      have HCUR : Hid (∀ j, s3 ++ kidsT (txt L) x (j + 1) = s3 ++ kidsT (txt L) x j ++ [32] ++ txt L (x.kid j).toNat) := Lib.hid (fun j => by simp [kidsT])
      obtain ⟨cur, hcur⟩ : ∃ cur, s3 ++ kidsT (txt L) x i = cur := ⟨_, rfl⟩
      rw [hcur] at HLE
      have HCI := Lib.hid hcur
      simp only [hcur]
      have hcl : cur.length ≤ 9000064 := by have := HLE.out; have := HSL.out; omega
      by_cases hin : i < kcn
      · obtain ⟨kd, hkd⟩ : ∃ kd : Nat, x.kid i = ((kd : Nat) : Int) := ⟨(x.kid i).toNat, by have := (HKID.out i hin).1; omega⟩
        have hkdl : kd < k := by have := (HKID.out i hin).2; omega
        have hck : wr.cell? ⟨W.heap.size, 2 + i, none⟩ = some (.int .i64 ((kd : Nat) : Int)) := by
          have h3 := HK3.out
          unfold At7 at hA
          rw [← hkd, HXE.out]
          match i, hin with
          | 0, _ => exact hA.2.2.1
          | 1, _ => exact hA.2.2.2.1
          | 2, _ => exact hA.2.2.2.2.1
          | (j + 3), h => omega
        have hnext : s3 ++ kidsT (txt L) x (i + 1) = cur ++ [32] ++ txt L kd := by rw [HCUR.out, hcur, hkd]; simp
        have htl : (cur ++ [32] ++ txt L kd).length ≤ tot.length := by rw [← hnext, HTX.out]; have := HLEN.out i hin; simp; omega
        have hcall := HI.out kd hkdl (cur ++ [32]) wr (HS.out.call hbr) (env_at (B := 0) HE.out hbr) (by have := HLE.out; have := HSL.out; have := HNB.out; simp; omega)
        rw [← str_app] at hcall
        have t1 : ((i : Nat) : Int) < ((kcn : Nat) : Int) := by omega
        have t0 : (0 : Int) ≤ ((i : Nat) : Int) := by omega
        have t3 : ((i : Nat) : Int) < 3 := by have := HK3.out; omega
        have r1 : IntKind.i64.wrap (((i : Nat) : Int) + 1) = (((i + 1 : Nat) : Nat) : Int) := by have := HK3.out; rw [IntKind.wrap_i64]; omega
        have r2 : wrap64 (((i : Nat) : Int) + 1) = (((i + 1 : Nat) : Nat) : Int) := by unfold wrap64; rw [← IntKind.wrap_i64]; exact r1
        have HR2 := Lib.hid r2
        have HGK := Lib.hid (And.intro hgk hin)
        have HNX := Lib.hid hnext
        have HTL := Lib.hid htl
        unfold At7 at hA
        obtain ⟨a0, a1, a2, a3, a4, a5, a6⟩ := hA
        by_cases hf : (cur ++ [32] ++ txt L kd).length ≤ 10000
        · have HC : Hid (Calls Tryz.prog 19 #[.pointer (some ⟨p, 0, none⟩), .int .i64 ((kd : Nat) : Int), .string (⟨cur.toArray⟩ ++ ⟨[32].toArray⟩)] wr fun e v => e = .returned (.tuple #[.string ⟨(cur ++ [32] ++ txt L kd).toArray⟩, .bool true]) ∧ Below wr.heap.size wr v) := by
            refine Lib.hid (hcall.mono ?_)
            rintro e v ⟨hb, ⟨_, rfl⟩ | ⟨h, _⟩⟩
            · exact ⟨rfl, hb⟩
            · omega
          have HF := Lib.hid hf
          generalize cur ++ [32] ++ txt L kd = cur2 at HNX HTL HC HF
          clear hin hgk hkdl hkd r1 r2 hbr hlen hnext htl hcall hf hcur
          go_wp2_with (first
            | (go_at_call 27; refine (HKN.out _).mono ?_; rintro e w2 ⟨rfl, rfl⟩)
            | (go_at_call 19; refine HC.out.mono ?_; rintro e w4 ⟨rfl, hb4⟩; have HB4 := Lib.hid (bel_call HBR.out hb4); have HA4 := Lib.hid (At7.keep HAR.out hb4); clear hb4))
          go_roundg (gk - 1)
          case measure => have := HGK.out; omega
          case rel => exact ⟨i + 1, by rw [HNX.out], by first | rfl | (rw [HR2.out]) | (congr 1; exact HR2.out), by have := HGK.out; omega, .inr (by rw [HNX.out]; exact HF.out), HB4.out, HA4.out⟩
        · have HC : Hid (Calls Tryz.prog 19 #[.pointer (some ⟨p, 0, none⟩), .int .i64 ((kd : Nat) : Int), .string (⟨cur.toArray⟩ ++ ⟨[32].toArray⟩)] wr fun e v => ∃ s, e = .returned (.tuple #[.string s, .bool false]) ∧ Below wr.heap.size wr v) := by
            refine Lib.hid (hcall.mono ?_)
            rintro e v ⟨hb, ⟨h, _⟩ | ⟨_, s, rfl⟩⟩
            · omega
            · exact ⟨s, rfl, hb⟩
          have HF := Lib.hid (show 10000 < tot.length by omega)
          clear hin hgk hkdl hkd r1 r2 hbr hlen hnext htl hcall hf hcur
          go_wp2_with (first
            | (go_at_call 27; refine (HKN.out _).mono ?_; rintro e w2 ⟨rfl, rfl⟩)
            | (go_at_call 19; refine HC.out.mono ?_; rintro e w4 ⟨s4, rfl, hb4⟩; have HB4 := Lib.hid (bel_call HBR.out hb4); clear hb4))
          exact bodyPost_ret (v := .tuple #[.string ⟨#[]⟩, .bool false]) (by simp [results, Tryz.results19, go_sem]) rfl ⟨HB4.out, .inr ⟨HF.out, _, rfl⟩⟩
      · have hie : i = kcn := by omega
        subst hie
        have hfin : tot = cur ++ [41] := by rw [HTX.out, ← hcur]; simp
        have t1 : ¬ ((i : Nat) : Int) < ((i : Nat) : Int) := by omega
        have HFI := Lib.hid hfin
        have hts : tot.length = cur.length + 1 := by rw [hfin]; simp
        unfold At7 at hA
        obtain ⟨a0, a1, a2, a3, a4, a5, a6⟩ := hA
        clear hin hgk hbr hlen hcur hfin
        by_cases hf : tot.length ≤ 10000
        · have HF := Lib.hid hf
          have q5 : ((cur.length : Nat) : Int) + 1 ≤ 10000 := by omega
          clear hf hts
          go_wp2_with (go_at_call 27; refine (HKN.out _).mono ?_; rintro e w2 ⟨rfl, rfl⟩)
          exact bodyPost_ret (v := .tuple #[.string ⟨tot.toArray⟩, .bool true]) (by rw [HFI.out]; simp [results, Tryz.results19, go_sem, str_app]) rfl ⟨HBR.out, .inl ⟨HF.out, rfl⟩⟩
        · have HF := Lib.hid (show 10000 < tot.length by omega)
          have q5 : ¬ ((cur.length : Nat) : Int) + 1 ≤ 10000 := by omega
          clear hf hts
          go_wp2_with (go_at_call 27; refine (HKN.out _).mono ?_; rintro e w2 ⟨rfl, rfl⟩)
          exact bodyPost_ret (v := .tuple #[.string ⟨tot.toArray⟩, .bool false]) (by rw [HFI.out]; simp [results, Tryz.results19, go_sem, str_app]; omega) rfl ⟨HBR.out, .inr ⟨HF.out, _, rfl⟩⟩

end Tx
end Go.Proofs.YtjinjddcnjcffaaGreatDoor
