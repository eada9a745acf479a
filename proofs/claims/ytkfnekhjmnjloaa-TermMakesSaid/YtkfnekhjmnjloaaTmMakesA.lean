/-
  The statement that whatever nodes are made is what the document makes, as a fact on the call.
-/
import Derived.Test.YtkfnekhjmnjloaaTmTwo
import Derived.Test.YtkfnekhjmnjloaaTmRv
import Derived.Deep.LoopGhost
import Derived.BigQuiet
import Derived.Deep.RegionHeld3
namespace Go.Proofs.Ytkfnekhjmnjloaa
open Go.RowKit Go.Maps Bv
namespace Tm
set_option maxHeartbeats 4000000
set_option maxRecDepth 100000

/-- The node with the number k, nothing of none; its error. -/
def ndAt (L : List Nd) (k : Int) : Nd := if inB L k = true then (L[k.toNat]?).getD ⟨0, 0, 0, 0, 0, 0, 0⟩ else ⟨0, 0, 0, 0, 0, 0, 0⟩
def ndEr (L : List Nd) (k : Int) : Nat := if inB L k = true then 0 else 2
noncomputable def vsAt (L : List Nd) (k : Int) : List Nat := if inB L k = true then varsOf L k.toNat else []
theorem inB_nat {L : List Nd} {k : Int} (h : inB L k = true) : ∃ j : Nat, k = ((j : Nat) : Int) ∧ j < L.length := by
  simp [inB] at h
  exact ⟨k.toNat, by omega, by omega⟩
theorem ndAt_ok {L : List Nd} (g : Gd L) (k : Int) : (ndAt L k).Ok := by
  unfold ndAt
  split
  · rename_i h
    obtain ⟨j, rfl, hj⟩ := inB_nat h
    rw [List.getElem?_eq_getElem (show ((j : Nat) : Int).toNat < L.length by omega)]
    exact g.ok _ (List.getElem_mem _)
  · exact ⟨by simp, by simp, i64_0, i64_0, i64_0, by simp, by simp⟩
theorem vsAt_le {L : List Nd} (k : Int) : (vsAt L k).length ≤ 1000000 := by
  unfold vsAt
  split
  · unfold varsOf
    have := List.length_filter_le (fun v => @decide (Below2 L k.toNat v) (Classical.propDecidable _)) (List.range 256)
    simp only [List.length_range] at this
    exact Nat.le_trans this (by omega)
  · simp

theorem two_node {W w : World} {p m q : Nat} {L : List Nd} (h : TwoE W p m q L L w) (k : Int) (x : Nd) (er : Nat) (hx : ndAt L k = x) (he : ndEr L k = er) :
    Calls Try.prog 10 #[.pointer (some ⟨p, 0, none⟩), .int .i64 k] w fun e w' => e = .returned (.tuple #[x.val, .int .i64 ((er : Nat) : Int)]) ∧ Below w.heap.size w w' := by
  obtain ⟨sv, rv, s⟩ := h
  subst hx; subst he
  unfold ndAt ndEr
  cases hi : inB L k with
  | true =>
    obtain ⟨j, rfl, hj⟩ := inB_nat hi
    rw [if_pos rfl, if_pos rfl, show ((j : Nat) : Int).toNat = j by omega, List.getElem?_eq_getElem hj]
    exact node_yes s.s (List.getElem?_eq_getElem hj)
  | false =>
    rw [if_neg (by simp), if_neg (by simp)]
    exact node_no s.s hi
theorem two_rnode {W w : World} {p m q : Nat} {L : List Nd} (h : TwoE W p m q L L w) (k : Int) (x : Nd) (er : Nat) (hx : ndAt L k = x) (he : ndEr L k = er) :
    Calls Try.prog 11 #[.pointer (some ⟨q, 0, none⟩), .int .i64 k] w fun e w' => e = .returned (.tuple #[x.val, .int .i64 ((er : Nat) : Int)]) ∧ Below w.heap.size w w' := by
  obtain ⟨sv, rv, s⟩ := h
  subst hx; subst he
  unfold ndAt ndEr
  cases hi : inB L k with
  | true =>
    obtain ⟨j, rfl, hj⟩ := inB_nat hi
    rw [if_pos rfl, if_pos rfl, show ((j : Nat) : Int).toNat = j by omega, List.getElem?_eq_getElem hj]
    exact rnode_yes s.r (List.getElem?_eq_getElem hj)
  | false =>
    rw [if_neg (by simp), if_neg (by simp)]
    exact rnode_no s.r hi

/-- A list of numbers that a call has answered. -/
def ListAt (b : Nat) (v : Value) (T : List Nat) (w : World) : Prop := w.ownsRow b 3 1 v T.length (todoRow T)
theorem ListAt.call {b : Nat} {v : Value} {T : List Nat} {w w' : World} (h : ListAt b v T w) (k : Below w.heap.size w w') : ListAt b v T w' := row_kept h (Kept.ofBelow k (fun _ => False)) (fun _ _ c => c)
theorem two_vars {W w : World} {p m q : Nat} {L : List Nd} (h : TwoE W p m q L L w) (k : Int) (T : List Nat) (er : Nat) (hx : vsAt L k = T) (he : ndEr L k = er) :
    Calls Try.prog 12 #[.pointer (some ⟨p, 0, none⟩), .int .i64 k] w fun e w' => ∃ v, e = .returned (.tuple #[v, .int .i64 ((er : Nat) : Int)]) ∧ ListAt w.heap.size v T w' ∧ Below w.heap.size w w' := by
  obtain ⟨sv, rv, s⟩ := h
  subst hx; subst he
  unfold vsAt ndEr
  cases hi : inB L k with
  | true =>
    obtain ⟨j, rfl, hj⟩ := inB_nat hi
    rw [if_pos rfl, if_pos rfl, show ((j : Nat) : Int).toNat = j by omega]
    exact vars_yes s.s hj
  | false =>
    rw [if_neg (by simp), if_neg (by simp)]
    refine (vars_no s.s hi).mono ?_
    rintro e w' ⟨rfl, rfl⟩
    exact ⟨_, rfl, World.ownsRow_nil _ _ _ _, Below.refl _ _⟩
theorem two_rvars {W w : World} {p m q : Nat} {L : List Nd} (h : TwoE W p m q L L w) (k : Int) (T : List Nat) (er : Nat) (hx : vsAt L k = T) (he : ndEr L k = er) :
    Calls Try.prog 13 #[.pointer (some ⟨q, 0, none⟩), .int .i64 k] w fun e w' => ∃ v, e = .returned (.tuple #[v, .int .i64 ((er : Nat) : Int)]) ∧ ListAt w.heap.size v T w' ∧ Below w.heap.size w w' := by
  obtain ⟨sv, rv, s⟩ := h
  subst hx; subst he
  unfold vsAt ndEr
  cases hi : inB L k with
  | true =>
    obtain ⟨j, rfl, hj⟩ := inB_nat hi
    rw [if_pos rfl, if_pos rfl, show ((j : Nat) : Int).toNat = j by omega]
    exact rvars_yes s.r hj
  | false =>
    rw [if_neg (by simp), if_neg (by simp)]
    refine (rvars_no s.r hi).mono ?_
    rintro e w' ⟨rfl, rfl⟩
    exact ⟨_, rfl, World.ownsRow_nil _ _ _ _, Below.refl _ _⟩
theorem two_ints {w : World} {b1 b2 : Nat} {v u : Value} {T : List Nat} (hv : ListAt b1 v T w) (hu : ListAt b2 u T w) (hT : T.length ≤ 1000000) :
    Calls Try.prog 14 #[v, u] w fun e w' => e = .returned (.bool true) ∧ ∃ c, w' = w.drewN c := ints_same hv hu hT
def wdAt (L : List Nd) (v : Int) : Nat := if 0 ≤ v ∧ v < 256 then wdOf L v.toNat else 0
theorem two_width {W w : World} {p m q : Nat} {L : List Nd} (h : TwoE W p m q L L w) (v : Int) (y : Nat) (hy : wdAt L v = y) :
    Calls Try.prog 16 #[.pointer (some ⟨p, 0, none⟩), .int .i64 v] w fun e w' => e = .returned (.int .i64 ((y : Nat) : Int)) ∧ ∃ c, w' = w.drewN c := by
  obtain ⟨sv, rv, s⟩ := h
  subst hy
  unfold wdAt
  by_cases hv : 0 ≤ v ∧ v < 256
  · rw [if_pos hv]
    obtain ⟨k, rfl⟩ : ∃ k : Nat, v = ((k : Nat) : Int) := ⟨v.toNat, by omega⟩
    rw [show ((k : Nat) : Int).toNat = k by omega]
    refine (width_in s.s (by omega)).mono ?_
    rintro e w' ⟨rfl, rfl⟩
    exact ⟨rfl, 0, rfl⟩
  · rw [if_neg hv]
    refine (width_out s.s (by omega)).mono ?_
    rintro e w' ⟨rfl, rfl⟩
    exact ⟨rfl, 0, rfl⟩
theorem two_len {W w : World} {p m q : Nat} {L : List Nd} (h : TwoE W p m q L L w) :
    Calls Try.prog 15 #[.pointer (some ⟨p, 0, none⟩)] w fun e w' => e = .returned (.int .i64 ((L.length : Nat) : Int)) ∧ ∃ c, w' = w.drewN c := by
  obtain ⟨sv, rv, s⟩ := h
  exact len_q s.s

theorem wdOf_le {L : List Nd} (g : Gd L) (v : Nat) : wdOf L v ≤ 64 := by
  unfold wdOf
  cases hf : L.find? (fun y => decide (y.o = 2 ∧ y.n = v)) with
  | none => simp
  | some y => exact (g.w y (List.mem_of_find?_eq_some hf)).2
theorem TwoE.rcw {W w : World} {p m q : Nat} {L1 L2 : List Nd} (h : TwoE W p m q L1 L2 w) (v : Nat) (hv : v < 256) : w.cell? ⟨q, 1 + v, none⟩ = some (.int .u8 ((wdOf L2 v : Nat) : Int)) := by
  obtain ⟨sv, rv, s⟩ := h
  exact s.r.cw v hv

theorem makes_any {W : World} {al : Option Addr} {X : List Nd} {cl n : Nat} {id v : Int} (hX : ArgAt W al X) (hok : ∀ x ∈ X, x.Ok) (hn : n = X.length) (hid : I64 id) (hvv : I64 v) :
    Calls Try.prog 3 #[.slice al n cl, .int .i64 id, .int .i64 v] W fun e W' => e = .returned (.bool true) ∧ Below W.heap.size W W' := by
  have HX := Lib.hid hX
  have HOK := Lib.hid hok
  have HN := Lib.hid hn
  have HID := Lib.hid hid
  have HVV := Lib.hid hvv
  clear hX hok hn hid hvv
  go_enter Try.func3, Try.ntmps3
  go_wp2_with (go_at_call 7; refine (new_at W).mono ?_; rintro e v0 ⟨rfl, S0, hb0⟩)
  have HT0 := Lib.hid (two_start S0 hb0)
  clear S0 hb0
  obtain ⟨qq, hqq⟩ : ∃ qq, v0.heap.size = qq := ⟨_, rfl⟩
  rw [hqq] at HT0
  simp only [hqq]
  go_loopg [9] (min n 100) (fun gk u9 wr => ∃ i : Nat, u9 = .int .i64 ((i : Nat) : Int) ∧ i + gk = min n 100 ∧ Loop2 W (W.heap.size + 1) W.heap.size qq n 100 i wr)
  case atStart => exact ⟨0, rfl, by omega, ⟨_, HT0.out⟩, Nat.zero_le _, Nat.zero_le _⟩
  case round =>
    obtain ⟨i, rfl, hgk, ⟨⟨L, hst⟩, hle, hlek⟩⟩ := hrel
    clear HT0 hqq
    by_cases hin : i < n ∧ i < 100
    case pos =>
      obtain ⟨x, hx⟩ : ∃ x, X[i]? = some x := ⟨_, List.getElem?_eq_getElem (by rw [← HN.out]; exact hin.1)⟩
      obtain ⟨bl, ol, rfl, lbl, hcell⟩ := HX.out.at' hx
      have hxok := HOK.out x (List.mem_of_getElem? hx)
      have hb := hst.b
      obtain ⟨f0, f1, f2, f3, f4, f5, f6⟩ := cells_far (hcell wr hb)
      have q1 : ((i : Nat) : Int) < ((n : Nat) : Int) := by omega
      have q2 : ((i : Nat) : Int) < 100 := by omega
      have q0 : (0 : Int) ≤ ((i : Nat) : Int) := by omega
      have r1 : IntKind.i64.wrap (((i : Nat) : Int) + 1) = (((i + 1 : Nat) : Nat) : Int) := by rw [IntKind.wrap_i64]; omega
      have r2 : wrap64 (((i : Nat) : Int) + 1) = (((i + 1 : Nat) : Nat) : Int) := by unfold wrap64; rw [← IntKind.wrap_i64]; exact r1
      have HR2 := Lib.hid r2
      obtain ⟨a, ha⟩ : ∃ a, (mk L x).2.1 = a := ⟨_, rfl⟩
      obtain ⟨er, he⟩ : ∃ er, (mk L x).2.2 = er := ⟨_, rfl⟩
      have HM := Lib.hid (two_make hst hxok a er ha he)
      have HM2 := Lib.hid (fun w1 (h : TwoE W (W.heap.size + 1) W.heap.size qq (mk L x).1 L w1) => two_rmake h hxok a er ha he)
      unfold Nd.val at HM HM2
      have HC := Lib.hid hcell
      have HGK := Lib.hid (And.intro hgk hin)
      clear hst hgk hle hlek hx hcell hxok ha he r1 r2 hb hin
      go_wp2_with (first | (go_at_call 8; refine HM.out.mono ?_; rintro e w1 ⟨rfl, hs1⟩; obtain ⟨g0, g1, g2, g3, g4, g5, g6⟩ := cells_far (HC.out w1 hs1.b); have HS1 := Lib.hid hs1; clear hs1) | (go_at_call 9; refine (HM2.out _ HS1.out).mono ?_; rintro e w2 ⟨rfl, hs2⟩; have HS2 := Lib.hid hs2; clear hs2))
      go_roundg (gk - 1)
      case measure => have := HGK.out; omega
      case rel => exact ⟨i + 1, by first | rfl | (rw [HR2.out]) | (congr 1; exact HR2.out), by have := HGK.out; omega, ⟨_, HS2.out⟩, by have := HGK.out; omega, by have := HGK.out; omega⟩
    case neg =>
      have ex : (n ≤ i) ∨ (i < n ∧ (100 : Int) ≤ ((i : Nat) : Int)) := by omega
      clear hin hgk hle hlek
      obtain ⟨y, hy⟩ : ∃ y, ndAt L id = y := ⟨_, rfl⟩
      obtain ⟨er, her⟩ : ∃ er, ndEr L id = er := ⟨_, rfl⟩
      obtain ⟨T, hT⟩ : ∃ T, vsAt L id = T := ⟨_, rfl⟩
      obtain ⟨wy, hwy⟩ : ∃ wy, wdAt L v = wy := ⟨_, rfl⟩
      have hyo : y.Ok := by rw [← hy]; exact ndAt_ok hst.good id
      have HTL := Lib.hid (show T.length ≤ 1000000 by rw [← hT]; exact vsAt_le id)
      have HST := Lib.hid hst
      have HC1 := Lib.hid (fun w1 (h : TwoE W (W.heap.size + 1) W.heap.size qq L L w1) => two_node h id y er hy her)
      have HC2 := Lib.hid (fun w1 (h : TwoE W (W.heap.size + 1) W.heap.size qq L L w1) => two_rnode h id y er hy her)
      have HC3 := Lib.hid (fun w1 (h : TwoE W (W.heap.size + 1) W.heap.size qq L L w1) => two_vars h id T er hT her)
      have HC4 := Lib.hid (fun w1 (h : TwoE W (W.heap.size + 1) W.heap.size qq L L w1) => two_rvars h id T er hT her)
      have HC5 := Lib.hid (fun w1 (h : TwoE W (W.heap.size + 1) W.heap.size qq L L w1) => two_width h v wy hwy)
      have HC6 := Lib.hid (fun w1 (h : TwoE W (W.heap.size + 1) W.heap.size qq L L w1) => two_len h)
      unfold Nd.val at HC1 HC2
      have HWY := Lib.hid hwy
      have HYO := Lib.hid hyo
      have he : ∀ W : World, (binOp .eql 36 (.agg #[.int .u8 ((y.o : Nat) : Int), .int .u8 ((y.w : Nat) : Int), .int .i64 y.k0, .int .i64 y.k1, .int .i64 y.k2, .int .u64 ((y.n : Nat) : Int), .int .u8 ((y.l : Nat) : Int)]) (.agg #[.int .u8 ((y.o : Nat) : Int), .int .u8 ((y.w : Nat) : Int), .int .i64 y.k0, .int .i64 y.k1, .int .i64 y.k2, .int .u64 ((y.n : Nat) : Int), .int .u8 ((y.l : Nat) : Int)])).run Try.prog W = .ok (.bool true) W := fun W => by
        have := eql_nd y y HYO.out HYO.out W
        unfold Nd.val at this
        simpa using this
      clear hy her hT hyo hst
      have hv3 : v < 0 ∨ (∃ k : Nat, v = ((k : Nat) : Int) ∧ k < 256) ∨ (0 ≤ v ∧ 256 ≤ v) := by
        by_cases h0 : v < 0
        · exact .inl h0
        · by_cases h1 : v < 256
          · exact .inr (.inl ⟨v.toNat, by omega, by omega⟩)
          · exact .inr (.inr ⟨by omega, by omega⟩)
      rcases ex with ex | ⟨ex1, ex2⟩ <;> rcases hv3 with hv3 | ⟨vk, rfl, hvk⟩ | ⟨hv3, hv4⟩
      · have hwz : wy = 0 := by rw [← hwy]; unfold wdAt; rw [if_neg (by omega)]
        subst hwz
        clear hwy
        go_wp2_with (first | (go_at_call 10; refine (HC1.out _ HST.out).mono ?_; rintro e w1 ⟨rfl, hb1⟩; have HB1 := Lib.hid (HST.out.call hb1); have HA1 := Lib.hid (At7.new w1 (.int .u8 ((y.o : Nat) : Int)) (.int .u8 ((y.w : Nat) : Int)) (.int .i64 y.k0) (.int .i64 y.k1) (.int .i64 y.k2) (.int .u64 ((y.n : Nat) : Int)) (.int .u8 ((y.l : Nat) : Int)) 36); clear hb1) | (go_at_call 11; refine (HC2.out _ (HB1.out.call (bel_alloc (Below.refl _ _) _))).mono ?_; rintro e w2 ⟨rfl, hb2⟩; have HS2 := Lib.hid ((HB1.out.call (bel_alloc (Below.refl _ _) (.cells y.cells 36))).call hb2); have HA2 := Lib.hid (HA1.out.keep hb2); have HA3 := Lib.hid (At7.new w2 (.int .u8 ((y.o : Nat) : Int)) (.int .u8 ((y.w : Nat) : Int)) (.int .i64 y.k0) (.int .i64 y.k1) (.int .i64 y.k2) (.int .u64 ((y.n : Nat) : Int)) (.int .u8 ((y.l : Nat) : Int)) 36); clear hb2) | (go_at_call 12; refine (HC3.out _ (HS2.out.call (bel_alloc (Below.refl _ _) _))).mono ?_; rintro e w3 ⟨v3, rfl, hl3, hb3⟩; have HS3 := Lib.hid ((HS2.out.call (bel_alloc (Below.refl _ _) (.cells y.cells 36))).call hb3); have HA4 := Lib.hid ((HA2.out.alloc (.cells y.cells 36)).keep hb3); have HA5 := Lib.hid (HA3.out.keep hb3); have HL3 := Lib.hid hl3; clear hb3 hl3) | (go_at_call 13; refine (HC4.out _ HS3.out).mono ?_; rintro e w4 ⟨v4, rfl, hl4, hb4⟩; have HS4 := Lib.hid (HS3.out.call hb4); have HA6 := Lib.hid (HA4.out.keep hb4); have HA7 := Lib.hid (HA5.out.keep hb4); have HL4 := Lib.hid (HL3.out.call hb4); have HL5 := Lib.hid hl4; clear hb4 hl4))
        obtain ⟨sv, rv, s4⟩ := HS4.out
        obtain ⟨ra, rc, rfl⟩ := s4.r.shape
        have c0 := s4.r.c0
        have aa := HA6.out
        have ab := HA7.out
        unfold At7 at aa ab
        have HK : Hid (∀ w' : World, w'.heap = w4.heap → w'.cell? ⟨w1.heap.size, 0, none⟩ = some (.int .u8 ((y.o : Nat) : Int)) ∧ w'.cell? ⟨w1.heap.size, 1, none⟩ = some (.int .u8 ((y.w : Nat) : Int)) ∧ w'.cell? ⟨w1.heap.size, 2, none⟩ = some (.int .i64 y.k0) ∧ w'.cell? ⟨w1.heap.size, 3, none⟩ = some (.int .i64 y.k1) ∧ w'.cell? ⟨w1.heap.size, 4, none⟩ = some (.int .i64 y.k2) ∧ w'.cell? ⟨w1.heap.size, 5, none⟩ = some (.int .u64 ((y.n : Nat) : Int)) ∧ w'.cell? ⟨w1.heap.size, 6, none⟩ = some (.int .u8 ((y.l : Nat) : Int)) ∧ w'.cell? ⟨w2.heap.size, 0, none⟩ = some (.int .u8 ((y.o : Nat) : Int)) ∧ w'.cell? ⟨w2.heap.size, 1, none⟩ = some (.int .u8 ((y.w : Nat) : Int)) ∧ w'.cell? ⟨w2.heap.size, 2, none⟩ = some (.int .i64 y.k0) ∧ w'.cell? ⟨w2.heap.size, 3, none⟩ = some (.int .i64 y.k1) ∧ w'.cell? ⟨w2.heap.size, 4, none⟩ = some (.int .i64 y.k2) ∧ w'.cell? ⟨w2.heap.size, 5, none⟩ = some (.int .u64 ((y.n : Nat) : Int)) ∧ w'.cell? ⟨w2.heap.size, 6, none⟩ = some (.int .u8 ((y.l : Nat) : Int)) ∧ w'.cell? ⟨qq, 0, none⟩ = some (.slice ra L.length rc)) := by
          show ∀ w' : World, w'.heap = w4.heap → _
          intro w' hh
          have hc : ∀ a, w'.cell? a = w4.cell? a := fun a => by unfold World.cell?; rw [hh]
          simp only [hc]
          exact ⟨aa.1, aa.2.1, aa.2.2.1, aa.2.2.2.1, aa.2.2.2.2.1, aa.2.2.2.2.2.1, aa.2.2.2.2.2.2, ab.1, ab.2.1, ab.2.2.1, ab.2.2.2.1, ab.2.2.2.2.1, ab.2.2.2.2.2.1, ab.2.2.2.2.2.2, c0⟩
        have HKB : Hid (∀ w5 w' : World, w5.heap = w4.heap → Below w5.heap.size w5 w' → w'.cell? ⟨w1.heap.size, 0, none⟩ = some (.int .u8 ((y.o : Nat) : Int)) ∧ w'.cell? ⟨w1.heap.size, 1, none⟩ = some (.int .u8 ((y.w : Nat) : Int)) ∧ w'.cell? ⟨w1.heap.size, 2, none⟩ = some (.int .i64 y.k0) ∧ w'.cell? ⟨w1.heap.size, 3, none⟩ = some (.int .i64 y.k1) ∧ w'.cell? ⟨w1.heap.size, 4, none⟩ = some (.int .i64 y.k2) ∧ w'.cell? ⟨w1.heap.size, 5, none⟩ = some (.int .u64 ((y.n : Nat) : Int)) ∧ w'.cell? ⟨w1.heap.size, 6, none⟩ = some (.int .u8 ((y.l : Nat) : Int)) ∧ w'.cell? ⟨w2.heap.size, 0, none⟩ = some (.int .u8 ((y.o : Nat) : Int)) ∧ w'.cell? ⟨w2.heap.size, 1, none⟩ = some (.int .u8 ((y.w : Nat) : Int)) ∧ w'.cell? ⟨w2.heap.size, 2, none⟩ = some (.int .i64 y.k0) ∧ w'.cell? ⟨w2.heap.size, 3, none⟩ = some (.int .i64 y.k1) ∧ w'.cell? ⟨w2.heap.size, 4, none⟩ = some (.int .i64 y.k2) ∧ w'.cell? ⟨w2.heap.size, 5, none⟩ = some (.int .u64 ((y.n : Nat) : Int)) ∧ w'.cell? ⟨w2.heap.size, 6, none⟩ = some (.int .u8 ((y.l : Nat) : Int)) ∧ w'.cell? ⟨qq, 0, none⟩ = some (.slice ra L.length rc)) := by
          show ∀ w5 w' : World, w5.heap = w4.heap → Below w5.heap.size w5 w' → _
          intro w5 w' hh hb
          have hc : ∀ a v, w4.cell? a = some v → w'.cell? a = some v := fun a v hv => by
            have h5 : w5.cell? a = some v := by unfold World.cell?; rw [hh]; exact hv
            exact (hb.cell (World.block_lt_of_cell? _ _ h5)).trans h5
          exact ⟨hc _ _ aa.1, hc _ _ aa.2.1, hc _ _ aa.2.2.1, hc _ _ aa.2.2.2.1, hc _ _ aa.2.2.2.2.1, hc _ _ aa.2.2.2.2.2.1, hc _ _ aa.2.2.2.2.2.2, hc _ _ ab.1, hc _ _ ab.2.1, hc _ _ ab.2.2.1, hc _ _ ab.2.2.2.1, hc _ _ ab.2.2.2.2.1, hc _ _ ab.2.2.2.2.2.1, hc _ _ ab.2.2.2.2.2.2, hc _ _ c0⟩
        have HBW := Lib.hid s4.b
        have HI5 := Lib.hid (fun w' (k : Below w4.heap.size w4 w') => two_ints (HL4.out.call k) (HL5.out.call k) HTL.out)
        have HI6 := Lib.hid (fun w' (k : Below w4.heap.size w4 w') => HC5.out w' (HS4.out.call k))
        have HI7 := Lib.hid (fun w' (k : Below w4.heap.size w4 w') => HC6.out w' (HS4.out.call k))
        clear s4 c0 aa ab
        go_wp2_with fail
        go_region_held3 (fun w' => w'.cell? ⟨w1.heap.size, 0, none⟩ = some (.int .u8 ((y.o : Nat) : Int)) ∧ w'.cell? ⟨w1.heap.size, 1, none⟩ = some (.int .u8 ((y.w : Nat) : Int)) ∧ w'.cell? ⟨w1.heap.size, 2, none⟩ = some (.int .i64 y.k0) ∧ w'.cell? ⟨w1.heap.size, 3, none⟩ = some (.int .i64 y.k1) ∧ w'.cell? ⟨w1.heap.size, 4, none⟩ = some (.int .i64 y.k2) ∧ w'.cell? ⟨w1.heap.size, 5, none⟩ = some (.int .u64 ((y.n : Nat) : Int)) ∧ w'.cell? ⟨w1.heap.size, 6, none⟩ = some (.int .u8 ((y.l : Nat) : Int)) ∧ w'.cell? ⟨w2.heap.size, 0, none⟩ = some (.int .u8 ((y.o : Nat) : Int)) ∧ w'.cell? ⟨w2.heap.size, 1, none⟩ = some (.int .u8 ((y.w : Nat) : Int)) ∧ w'.cell? ⟨w2.heap.size, 2, none⟩ = some (.int .i64 y.k0) ∧ w'.cell? ⟨w2.heap.size, 3, none⟩ = some (.int .i64 y.k1) ∧ w'.cell? ⟨w2.heap.size, 4, none⟩ = some (.int .i64 y.k2) ∧ w'.cell? ⟨w2.heap.size, 5, none⟩ = some (.int .u64 ((y.n : Nat) : Int)) ∧ w'.cell? ⟨w2.heap.size, 6, none⟩ = some (.int .u8 ((y.l : Nat) : Int)) ∧ w'.cell? ⟨qq, 0, none⟩ = some (.slice ra L.length rc))
          (first | exact HK.out _ rfl | (refine HKB.out _ _ ?_ hb6; rfl))
          (first | (go_at_call 14; refine (HI5.out _ ?_).mono ?_; exact ⟨rfl, rfl, rfl, Nat.le_refl _, fun _ _ => rfl⟩; rintro e z ⟨rfl, c5, rfl⟩) | (go_at_call 16; refine (HI6.out _ ?_).mono ?_; exact ⟨rfl, rfl, rfl, Nat.le_refl _, fun _ _ => rfl⟩; rintro e z ⟨rfl, c6, rfl⟩) | (go_at_call 15; refine (HI7.out _ ?_).mono ?_; exact ⟨rfl, rfl, rfl, Nat.le_refl _, fun _ _ => rfl⟩; rintro e z ⟨rfl, c7, rfl⟩) | (go_at_call 17; refine (works_any _).mono ?_; rintro e v6 ⟨rfl, hb6⟩))
        go_wp2_with fail
        go_ret
        exact ⟨rfl, bel_call (bel_drewN HBW.out _) hb6⟩
      · have hwd : wdOf L vk = wy := by rw [← hwy]; unfold wdAt; rw [if_pos (by omega)]; rw [show ((vk : Nat) : Int).toNat = vk by omega]
        have HWD := Lib.hid hwd
        have z0 : (0 : Int) ≤ ((vk : Nat) : Int) := by omega
        have z1 : ((vk : Nat) : Int) < 256 := by omega
        have hw255 : wy ≤ 255 := by rw [← hwd]; exact Nat.le_trans (wdOf_le HST.out.good vk) (by omega)
        have z2 : IntKind.i64.wrap ((wy : Nat) : Int) = ((wy : Nat) : Int) := by rw [IntKind.wrap_i64]; omega
        have HVK := Lib.hid hvk
        clear hwy hwd hvk
        go_wp2_with (first | (go_at_call 10; refine (HC1.out _ HST.out).mono ?_; rintro e w1 ⟨rfl, hb1⟩; have HB1 := Lib.hid (HST.out.call hb1); have HA1 := Lib.hid (At7.new w1 (.int .u8 ((y.o : Nat) : Int)) (.int .u8 ((y.w : Nat) : Int)) (.int .i64 y.k0) (.int .i64 y.k1) (.int .i64 y.k2) (.int .u64 ((y.n : Nat) : Int)) (.int .u8 ((y.l : Nat) : Int)) 36); clear hb1) | (go_at_call 11; refine (HC2.out _ (HB1.out.call (bel_alloc (Below.refl _ _) _))).mono ?_; rintro e w2 ⟨rfl, hb2⟩; have HS2 := Lib.hid ((HB1.out.call (bel_alloc (Below.refl _ _) (.cells y.cells 36))).call hb2); have HA2 := Lib.hid (HA1.out.keep hb2); have HA3 := Lib.hid (At7.new w2 (.int .u8 ((y.o : Nat) : Int)) (.int .u8 ((y.w : Nat) : Int)) (.int .i64 y.k0) (.int .i64 y.k1) (.int .i64 y.k2) (.int .u64 ((y.n : Nat) : Int)) (.int .u8 ((y.l : Nat) : Int)) 36); clear hb2) | (go_at_call 12; refine (HC3.out _ (HS2.out.call (bel_alloc (Below.refl _ _) _))).mono ?_; rintro e w3 ⟨v3, rfl, hl3, hb3⟩; have HS3 := Lib.hid ((HS2.out.call (bel_alloc (Below.refl _ _) (.cells y.cells 36))).call hb3); have HA4 := Lib.hid ((HA2.out.alloc (.cells y.cells 36)).keep hb3); have HA5 := Lib.hid (HA3.out.keep hb3); have HL3 := Lib.hid hl3; clear hb3 hl3) | (go_at_call 13; refine (HC4.out _ HS3.out).mono ?_; rintro e w4 ⟨v4, rfl, hl4, hb4⟩; have HS4 := Lib.hid (HS3.out.call hb4); have HA6 := Lib.hid (HA4.out.keep hb4); have HA7 := Lib.hid (HA5.out.keep hb4); have HL4 := Lib.hid (HL3.out.call hb4); have HL5 := Lib.hid hl4; have cw := HS4.out.rcw vk HVK.out; rw [HWD.out] at cw; clear hb4 hl4))
        obtain ⟨sv, rv, s4⟩ := HS4.out
        obtain ⟨ra, rc, rfl⟩ := s4.r.shape
        have c0 := s4.r.c0
        have aa := HA6.out
        have ab := HA7.out
        unfold At7 at aa ab
        have HK : Hid (∀ w' : World, w'.heap = w4.heap → w'.cell? ⟨w1.heap.size, 0, none⟩ = some (.int .u8 ((y.o : Nat) : Int)) ∧ w'.cell? ⟨w1.heap.size, 1, none⟩ = some (.int .u8 ((y.w : Nat) : Int)) ∧ w'.cell? ⟨w1.heap.size, 2, none⟩ = some (.int .i64 y.k0) ∧ w'.cell? ⟨w1.heap.size, 3, none⟩ = some (.int .i64 y.k1) ∧ w'.cell? ⟨w1.heap.size, 4, none⟩ = some (.int .i64 y.k2) ∧ w'.cell? ⟨w1.heap.size, 5, none⟩ = some (.int .u64 ((y.n : Nat) : Int)) ∧ w'.cell? ⟨w1.heap.size, 6, none⟩ = some (.int .u8 ((y.l : Nat) : Int)) ∧ w'.cell? ⟨w2.heap.size, 0, none⟩ = some (.int .u8 ((y.o : Nat) : Int)) ∧ w'.cell? ⟨w2.heap.size, 1, none⟩ = some (.int .u8 ((y.w : Nat) : Int)) ∧ w'.cell? ⟨w2.heap.size, 2, none⟩ = some (.int .i64 y.k0) ∧ w'.cell? ⟨w2.heap.size, 3, none⟩ = some (.int .i64 y.k1) ∧ w'.cell? ⟨w2.heap.size, 4, none⟩ = some (.int .i64 y.k2) ∧ w'.cell? ⟨w2.heap.size, 5, none⟩ = some (.int .u64 ((y.n : Nat) : Int)) ∧ w'.cell? ⟨w2.heap.size, 6, none⟩ = some (.int .u8 ((y.l : Nat) : Int)) ∧ w'.cell? ⟨qq, 0, none⟩ = some (.slice ra L.length rc)) := by
          show ∀ w' : World, w'.heap = w4.heap → _
          intro w' hh
          have hc : ∀ a, w'.cell? a = w4.cell? a := fun a => by unfold World.cell?; rw [hh]
          simp only [hc]
          exact ⟨aa.1, aa.2.1, aa.2.2.1, aa.2.2.2.1, aa.2.2.2.2.1, aa.2.2.2.2.2.1, aa.2.2.2.2.2.2, ab.1, ab.2.1, ab.2.2.1, ab.2.2.2.1, ab.2.2.2.2.1, ab.2.2.2.2.2.1, ab.2.2.2.2.2.2, c0⟩
        have HKB : Hid (∀ w5 w' : World, w5.heap = w4.heap → Below w5.heap.size w5 w' → w'.cell? ⟨w1.heap.size, 0, none⟩ = some (.int .u8 ((y.o : Nat) : Int)) ∧ w'.cell? ⟨w1.heap.size, 1, none⟩ = some (.int .u8 ((y.w : Nat) : Int)) ∧ w'.cell? ⟨w1.heap.size, 2, none⟩ = some (.int .i64 y.k0) ∧ w'.cell? ⟨w1.heap.size, 3, none⟩ = some (.int .i64 y.k1) ∧ w'.cell? ⟨w1.heap.size, 4, none⟩ = some (.int .i64 y.k2) ∧ w'.cell? ⟨w1.heap.size, 5, none⟩ = some (.int .u64 ((y.n : Nat) : Int)) ∧ w'.cell? ⟨w1.heap.size, 6, none⟩ = some (.int .u8 ((y.l : Nat) : Int)) ∧ w'.cell? ⟨w2.heap.size, 0, none⟩ = some (.int .u8 ((y.o : Nat) : Int)) ∧ w'.cell? ⟨w2.heap.size, 1, none⟩ = some (.int .u8 ((y.w : Nat) : Int)) ∧ w'.cell? ⟨w2.heap.size, 2, none⟩ = some (.int .i64 y.k0) ∧ w'.cell? ⟨w2.heap.size, 3, none⟩ = some (.int .i64 y.k1) ∧ w'.cell? ⟨w2.heap.size, 4, none⟩ = some (.int .i64 y.k2) ∧ w'.cell? ⟨w2.heap.size, 5, none⟩ = some (.int .u64 ((y.n : Nat) : Int)) ∧ w'.cell? ⟨w2.heap.size, 6, none⟩ = some (.int .u8 ((y.l : Nat) : Int)) ∧ w'.cell? ⟨qq, 0, none⟩ = some (.slice ra L.length rc)) := by
          show ∀ w5 w' : World, w5.heap = w4.heap → Below w5.heap.size w5 w' → _
          intro w5 w' hh hb
          have hc : ∀ a v, w4.cell? a = some v → w'.cell? a = some v := fun a v hv => by
            have h5 : w5.cell? a = some v := by unfold World.cell?; rw [hh]; exact hv
            exact (hb.cell (World.block_lt_of_cell? _ _ h5)).trans h5
          exact ⟨hc _ _ aa.1, hc _ _ aa.2.1, hc _ _ aa.2.2.1, hc _ _ aa.2.2.2.1, hc _ _ aa.2.2.2.2.1, hc _ _ aa.2.2.2.2.2.1, hc _ _ aa.2.2.2.2.2.2, hc _ _ ab.1, hc _ _ ab.2.1, hc _ _ ab.2.2.1, hc _ _ ab.2.2.2.1, hc _ _ ab.2.2.2.2.1, hc _ _ ab.2.2.2.2.2.1, hc _ _ ab.2.2.2.2.2.2, hc _ _ c0⟩
        have HBW := Lib.hid s4.b
        have HI5 := Lib.hid (fun w' (k : Below w4.heap.size w4 w') => two_ints (HL4.out.call k) (HL5.out.call k) HTL.out)
        have HI6 := Lib.hid (fun w' (k : Below w4.heap.size w4 w') => HC5.out w' (HS4.out.call k))
        have HI7 := Lib.hid (fun w' (k : Below w4.heap.size w4 w') => HC6.out w' (HS4.out.call k))
        clear s4 c0 aa ab
        go_wp2_with fail
        go_region_held3 (fun w' => w'.cell? ⟨w1.heap.size, 0, none⟩ = some (.int .u8 ((y.o : Nat) : Int)) ∧ w'.cell? ⟨w1.heap.size, 1, none⟩ = some (.int .u8 ((y.w : Nat) : Int)) ∧ w'.cell? ⟨w1.heap.size, 2, none⟩ = some (.int .i64 y.k0) ∧ w'.cell? ⟨w1.heap.size, 3, none⟩ = some (.int .i64 y.k1) ∧ w'.cell? ⟨w1.heap.size, 4, none⟩ = some (.int .i64 y.k2) ∧ w'.cell? ⟨w1.heap.size, 5, none⟩ = some (.int .u64 ((y.n : Nat) : Int)) ∧ w'.cell? ⟨w1.heap.size, 6, none⟩ = some (.int .u8 ((y.l : Nat) : Int)) ∧ w'.cell? ⟨w2.heap.size, 0, none⟩ = some (.int .u8 ((y.o : Nat) : Int)) ∧ w'.cell? ⟨w2.heap.size, 1, none⟩ = some (.int .u8 ((y.w : Nat) : Int)) ∧ w'.cell? ⟨w2.heap.size, 2, none⟩ = some (.int .i64 y.k0) ∧ w'.cell? ⟨w2.heap.size, 3, none⟩ = some (.int .i64 y.k1) ∧ w'.cell? ⟨w2.heap.size, 4, none⟩ = some (.int .i64 y.k2) ∧ w'.cell? ⟨w2.heap.size, 5, none⟩ = some (.int .u64 ((y.n : Nat) : Int)) ∧ w'.cell? ⟨w2.heap.size, 6, none⟩ = some (.int .u8 ((y.l : Nat) : Int)) ∧ w'.cell? ⟨qq, 0, none⟩ = some (.slice ra L.length rc))
          (first | exact HK.out _ rfl | (refine HKB.out _ _ ?_ hb6; rfl))
          (first | (go_at_call 14; refine (HI5.out _ ?_).mono ?_; exact ⟨rfl, rfl, rfl, Nat.le_refl _, fun _ _ => rfl⟩; rintro e z ⟨rfl, c5, rfl⟩) | (go_at_call 16; refine (HI6.out _ ?_).mono ?_; exact ⟨rfl, rfl, rfl, Nat.le_refl _, fun _ _ => rfl⟩; rintro e z ⟨rfl, c6, rfl⟩) | (go_at_call 15; refine (HI7.out _ ?_).mono ?_; exact ⟨rfl, rfl, rfl, Nat.le_refl _, fun _ _ => rfl⟩; rintro e z ⟨rfl, c7, rfl⟩) | (go_at_call 17; refine (works_any _).mono ?_; rintro e v6 ⟨rfl, hb6⟩))
        go_wp2_with fail
        go_ret
        exact ⟨rfl, bel_call (bel_drewN HBW.out _) hb6⟩
      · have hwz : wy = 0 := by rw [← hwy]; unfold wdAt; rw [if_neg (by omega)]
        subst hwz
        clear hwy
        go_wp2_with (first | (go_at_call 10; refine (HC1.out _ HST.out).mono ?_; rintro e w1 ⟨rfl, hb1⟩; have HB1 := Lib.hid (HST.out.call hb1); have HA1 := Lib.hid (At7.new w1 (.int .u8 ((y.o : Nat) : Int)) (.int .u8 ((y.w : Nat) : Int)) (.int .i64 y.k0) (.int .i64 y.k1) (.int .i64 y.k2) (.int .u64 ((y.n : Nat) : Int)) (.int .u8 ((y.l : Nat) : Int)) 36); clear hb1) | (go_at_call 11; refine (HC2.out _ (HB1.out.call (bel_alloc (Below.refl _ _) _))).mono ?_; rintro e w2 ⟨rfl, hb2⟩; have HS2 := Lib.hid ((HB1.out.call (bel_alloc (Below.refl _ _) (.cells y.cells 36))).call hb2); have HA2 := Lib.hid (HA1.out.keep hb2); have HA3 := Lib.hid (At7.new w2 (.int .u8 ((y.o : Nat) : Int)) (.int .u8 ((y.w : Nat) : Int)) (.int .i64 y.k0) (.int .i64 y.k1) (.int .i64 y.k2) (.int .u64 ((y.n : Nat) : Int)) (.int .u8 ((y.l : Nat) : Int)) 36); clear hb2) | (go_at_call 12; refine (HC3.out _ (HS2.out.call (bel_alloc (Below.refl _ _) _))).mono ?_; rintro e w3 ⟨v3, rfl, hl3, hb3⟩; have HS3 := Lib.hid ((HS2.out.call (bel_alloc (Below.refl _ _) (.cells y.cells 36))).call hb3); have HA4 := Lib.hid ((HA2.out.alloc (.cells y.cells 36)).keep hb3); have HA5 := Lib.hid (HA3.out.keep hb3); have HL3 := Lib.hid hl3; clear hb3 hl3) | (go_at_call 13; refine (HC4.out _ HS3.out).mono ?_; rintro e w4 ⟨v4, rfl, hl4, hb4⟩; have HS4 := Lib.hid (HS3.out.call hb4); have HA6 := Lib.hid (HA4.out.keep hb4); have HA7 := Lib.hid (HA5.out.keep hb4); have HL4 := Lib.hid (HL3.out.call hb4); have HL5 := Lib.hid hl4; clear hb4 hl4))
        obtain ⟨sv, rv, s4⟩ := HS4.out
        obtain ⟨ra, rc, rfl⟩ := s4.r.shape
        have c0 := s4.r.c0
        have aa := HA6.out
        have ab := HA7.out
        unfold At7 at aa ab
        have HK : Hid (∀ w' : World, w'.heap = w4.heap → w'.cell? ⟨w1.heap.size, 0, none⟩ = some (.int .u8 ((y.o : Nat) : Int)) ∧ w'.cell? ⟨w1.heap.size, 1, none⟩ = some (.int .u8 ((y.w : Nat) : Int)) ∧ w'.cell? ⟨w1.heap.size, 2, none⟩ = some (.int .i64 y.k0) ∧ w'.cell? ⟨w1.heap.size, 3, none⟩ = some (.int .i64 y.k1) ∧ w'.cell? ⟨w1.heap.size, 4, none⟩ = some (.int .i64 y.k2) ∧ w'.cell? ⟨w1.heap.size, 5, none⟩ = some (.int .u64 ((y.n : Nat) : Int)) ∧ w'.cell? ⟨w1.heap.size, 6, none⟩ = some (.int .u8 ((y.l : Nat) : Int)) ∧ w'.cell? ⟨w2.heap.size, 0, none⟩ = some (.int .u8 ((y.o : Nat) : Int)) ∧ w'.cell? ⟨w2.heap.size, 1, none⟩ = some (.int .u8 ((y.w : Nat) : Int)) ∧ w'.cell? ⟨w2.heap.size, 2, none⟩ = some (.int .i64 y.k0) ∧ w'.cell? ⟨w2.heap.size, 3, none⟩ = some (.int .i64 y.k1) ∧ w'.cell? ⟨w2.heap.size, 4, none⟩ = some (.int .i64 y.k2) ∧ w'.cell? ⟨w2.heap.size, 5, none⟩ = some (.int .u64 ((y.n : Nat) : Int)) ∧ w'.cell? ⟨w2.heap.size, 6, none⟩ = some (.int .u8 ((y.l : Nat) : Int)) ∧ w'.cell? ⟨qq, 0, none⟩ = some (.slice ra L.length rc)) := by
          show ∀ w' : World, w'.heap = w4.heap → _
          intro w' hh
          have hc : ∀ a, w'.cell? a = w4.cell? a := fun a => by unfold World.cell?; rw [hh]
          simp only [hc]
          exact ⟨aa.1, aa.2.1, aa.2.2.1, aa.2.2.2.1, aa.2.2.2.2.1, aa.2.2.2.2.2.1, aa.2.2.2.2.2.2, ab.1, ab.2.1, ab.2.2.1, ab.2.2.2.1, ab.2.2.2.2.1, ab.2.2.2.2.2.1, ab.2.2.2.2.2.2, c0⟩
        have HKB : Hid (∀ w5 w' : World, w5.heap = w4.heap → Below w5.heap.size w5 w' → w'.cell? ⟨w1.heap.size, 0, none⟩ = some (.int .u8 ((y.o : Nat) : Int)) ∧ w'.cell? ⟨w1.heap.size, 1, none⟩ = some (.int .u8 ((y.w : Nat) : Int)) ∧ w'.cell? ⟨w1.heap.size, 2, none⟩ = some (.int .i64 y.k0) ∧ w'.cell? ⟨w1.heap.size, 3, none⟩ = some (.int .i64 y.k1) ∧ w'.cell? ⟨w1.heap.size, 4, none⟩ = some (.int .i64 y.k2) ∧ w'.cell? ⟨w1.heap.size, 5, none⟩ = some (.int .u64 ((y.n : Nat) : Int)) ∧ w'.cell? ⟨w1.heap.size, 6, none⟩ = some (.int .u8 ((y.l : Nat) : Int)) ∧ w'.cell? ⟨w2.heap.size, 0, none⟩ = some (.int .u8 ((y.o : Nat) : Int)) ∧ w'.cell? ⟨w2.heap.size, 1, none⟩ = some (.int .u8 ((y.w : Nat) : Int)) ∧ w'.cell? ⟨w2.heap.size, 2, none⟩ = some (.int .i64 y.k0) ∧ w'.cell? ⟨w2.heap.size, 3, none⟩ = some (.int .i64 y.k1) ∧ w'.cell? ⟨w2.heap.size, 4, none⟩ = some (.int .i64 y.k2) ∧ w'.cell? ⟨w2.heap.size, 5, none⟩ = some (.int .u64 ((y.n : Nat) : Int)) ∧ w'.cell? ⟨w2.heap.size, 6, none⟩ = some (.int .u8 ((y.l : Nat) : Int)) ∧ w'.cell? ⟨qq, 0, none⟩ = some (.slice ra L.length rc)) := by
          show ∀ w5 w' : World, w5.heap = w4.heap → Below w5.heap.size w5 w' → _
          intro w5 w' hh hb
          have hc : ∀ a v, w4.cell? a = some v → w'.cell? a = some v := fun a v hv => by
            have h5 : w5.cell? a = some v := by unfold World.cell?; rw [hh]; exact hv
            exact (hb.cell (World.block_lt_of_cell? _ _ h5)).trans h5
          exact ⟨hc _ _ aa.1, hc _ _ aa.2.1, hc _ _ aa.2.2.1, hc _ _ aa.2.2.2.1, hc _ _ aa.2.2.2.2.1, hc _ _ aa.2.2.2.2.2.1, hc _ _ aa.2.2.2.2.2.2, hc _ _ ab.1, hc _ _ ab.2.1, hc _ _ ab.2.2.1, hc _ _ ab.2.2.2.1, hc _ _ ab.2.2.2.2.1, hc _ _ ab.2.2.2.2.2.1, hc _ _ ab.2.2.2.2.2.2, hc _ _ c0⟩
        have HBW := Lib.hid s4.b
        have HI5 := Lib.hid (fun w' (k : Below w4.heap.size w4 w') => two_ints (HL4.out.call k) (HL5.out.call k) HTL.out)
        have HI6 := Lib.hid (fun w' (k : Below w4.heap.size w4 w') => HC5.out w' (HS4.out.call k))
        have HI7 := Lib.hid (fun w' (k : Below w4.heap.size w4 w') => HC6.out w' (HS4.out.call k))
        clear s4 c0 aa ab
        go_wp2_with fail
        go_region_held3 (fun w' => w'.cell? ⟨w1.heap.size, 0, none⟩ = some (.int .u8 ((y.o : Nat) : Int)) ∧ w'.cell? ⟨w1.heap.size, 1, none⟩ = some (.int .u8 ((y.w : Nat) : Int)) ∧ w'.cell? ⟨w1.heap.size, 2, none⟩ = some (.int .i64 y.k0) ∧ w'.cell? ⟨w1.heap.size, 3, none⟩ = some (.int .i64 y.k1) ∧ w'.cell? ⟨w1.heap.size, 4, none⟩ = some (.int .i64 y.k2) ∧ w'.cell? ⟨w1.heap.size, 5, none⟩ = some (.int .u64 ((y.n : Nat) : Int)) ∧ w'.cell? ⟨w1.heap.size, 6, none⟩ = some (.int .u8 ((y.l : Nat) : Int)) ∧ w'.cell? ⟨w2.heap.size, 0, none⟩ = some (.int .u8 ((y.o : Nat) : Int)) ∧ w'.cell? ⟨w2.heap.size, 1, none⟩ = some (.int .u8 ((y.w : Nat) : Int)) ∧ w'.cell? ⟨w2.heap.size, 2, none⟩ = some (.int .i64 y.k0) ∧ w'.cell? ⟨w2.heap.size, 3, none⟩ = some (.int .i64 y.k1) ∧ w'.cell? ⟨w2.heap.size, 4, none⟩ = some (.int .i64 y.k2) ∧ w'.cell? ⟨w2.heap.size, 5, none⟩ = some (.int .u64 ((y.n : Nat) : Int)) ∧ w'.cell? ⟨w2.heap.size, 6, none⟩ = some (.int .u8 ((y.l : Nat) : Int)) ∧ w'.cell? ⟨qq, 0, none⟩ = some (.slice ra L.length rc))
          (first | exact HK.out _ rfl | (refine HKB.out _ _ ?_ hb6; rfl))
          (first | (go_at_call 14; refine (HI5.out _ ?_).mono ?_; exact ⟨rfl, rfl, rfl, Nat.le_refl _, fun _ _ => rfl⟩; rintro e z ⟨rfl, c5, rfl⟩) | (go_at_call 16; refine (HI6.out _ ?_).mono ?_; exact ⟨rfl, rfl, rfl, Nat.le_refl _, fun _ _ => rfl⟩; rintro e z ⟨rfl, c6, rfl⟩) | (go_at_call 15; refine (HI7.out _ ?_).mono ?_; exact ⟨rfl, rfl, rfl, Nat.le_refl _, fun _ _ => rfl⟩; rintro e z ⟨rfl, c7, rfl⟩) | (go_at_call 17; refine (works_any _).mono ?_; rintro e v6 ⟨rfl, hb6⟩))
        go_wp2_with fail
        go_ret
        exact ⟨rfl, bel_call (bel_drewN HBW.out _) hb6⟩
      · have hwz : wy = 0 := by rw [← hwy]; unfold wdAt; rw [if_neg (by omega)]
        subst hwz
        clear hwy
        go_wp2_with (first | (go_at_call 10; refine (HC1.out _ HST.out).mono ?_; rintro e w1 ⟨rfl, hb1⟩; have HB1 := Lib.hid (HST.out.call hb1); have HA1 := Lib.hid (At7.new w1 (.int .u8 ((y.o : Nat) : Int)) (.int .u8 ((y.w : Nat) : Int)) (.int .i64 y.k0) (.int .i64 y.k1) (.int .i64 y.k2) (.int .u64 ((y.n : Nat) : Int)) (.int .u8 ((y.l : Nat) : Int)) 36); clear hb1) | (go_at_call 11; refine (HC2.out _ (HB1.out.call (bel_alloc (Below.refl _ _) _))).mono ?_; rintro e w2 ⟨rfl, hb2⟩; have HS2 := Lib.hid ((HB1.out.call (bel_alloc (Below.refl _ _) (.cells y.cells 36))).call hb2); have HA2 := Lib.hid (HA1.out.keep hb2); have HA3 := Lib.hid (At7.new w2 (.int .u8 ((y.o : Nat) : Int)) (.int .u8 ((y.w : Nat) : Int)) (.int .i64 y.k0) (.int .i64 y.k1) (.int .i64 y.k2) (.int .u64 ((y.n : Nat) : Int)) (.int .u8 ((y.l : Nat) : Int)) 36); clear hb2) | (go_at_call 12; refine (HC3.out _ (HS2.out.call (bel_alloc (Below.refl _ _) _))).mono ?_; rintro e w3 ⟨v3, rfl, hl3, hb3⟩; have HS3 := Lib.hid ((HS2.out.call (bel_alloc (Below.refl _ _) (.cells y.cells 36))).call hb3); have HA4 := Lib.hid ((HA2.out.alloc (.cells y.cells 36)).keep hb3); have HA5 := Lib.hid (HA3.out.keep hb3); have HL3 := Lib.hid hl3; clear hb3 hl3) | (go_at_call 13; refine (HC4.out _ HS3.out).mono ?_; rintro e w4 ⟨v4, rfl, hl4, hb4⟩; have HS4 := Lib.hid (HS3.out.call hb4); have HA6 := Lib.hid (HA4.out.keep hb4); have HA7 := Lib.hid (HA5.out.keep hb4); have HL4 := Lib.hid (HL3.out.call hb4); have HL5 := Lib.hid hl4; clear hb4 hl4))
        obtain ⟨sv, rv, s4⟩ := HS4.out
        obtain ⟨ra, rc, rfl⟩ := s4.r.shape
        have c0 := s4.r.c0
        have aa := HA6.out
        have ab := HA7.out
        unfold At7 at aa ab
        have HK : Hid (∀ w' : World, w'.heap = w4.heap → w'.cell? ⟨w1.heap.size, 0, none⟩ = some (.int .u8 ((y.o : Nat) : Int)) ∧ w'.cell? ⟨w1.heap.size, 1, none⟩ = some (.int .u8 ((y.w : Nat) : Int)) ∧ w'.cell? ⟨w1.heap.size, 2, none⟩ = some (.int .i64 y.k0) ∧ w'.cell? ⟨w1.heap.size, 3, none⟩ = some (.int .i64 y.k1) ∧ w'.cell? ⟨w1.heap.size, 4, none⟩ = some (.int .i64 y.k2) ∧ w'.cell? ⟨w1.heap.size, 5, none⟩ = some (.int .u64 ((y.n : Nat) : Int)) ∧ w'.cell? ⟨w1.heap.size, 6, none⟩ = some (.int .u8 ((y.l : Nat) : Int)) ∧ w'.cell? ⟨w2.heap.size, 0, none⟩ = some (.int .u8 ((y.o : Nat) : Int)) ∧ w'.cell? ⟨w2.heap.size, 1, none⟩ = some (.int .u8 ((y.w : Nat) : Int)) ∧ w'.cell? ⟨w2.heap.size, 2, none⟩ = some (.int .i64 y.k0) ∧ w'.cell? ⟨w2.heap.size, 3, none⟩ = some (.int .i64 y.k1) ∧ w'.cell? ⟨w2.heap.size, 4, none⟩ = some (.int .i64 y.k2) ∧ w'.cell? ⟨w2.heap.size, 5, none⟩ = some (.int .u64 ((y.n : Nat) : Int)) ∧ w'.cell? ⟨w2.heap.size, 6, none⟩ = some (.int .u8 ((y.l : Nat) : Int)) ∧ w'.cell? ⟨qq, 0, none⟩ = some (.slice ra L.length rc)) := by
          show ∀ w' : World, w'.heap = w4.heap → _
          intro w' hh
          have hc : ∀ a, w'.cell? a = w4.cell? a := fun a => by unfold World.cell?; rw [hh]
          simp only [hc]
          exact ⟨aa.1, aa.2.1, aa.2.2.1, aa.2.2.2.1, aa.2.2.2.2.1, aa.2.2.2.2.2.1, aa.2.2.2.2.2.2, ab.1, ab.2.1, ab.2.2.1, ab.2.2.2.1, ab.2.2.2.2.1, ab.2.2.2.2.2.1, ab.2.2.2.2.2.2, c0⟩
        have HKB : Hid (∀ w5 w' : World, w5.heap = w4.heap → Below w5.heap.size w5 w' → w'.cell? ⟨w1.heap.size, 0, none⟩ = some (.int .u8 ((y.o : Nat) : Int)) ∧ w'.cell? ⟨w1.heap.size, 1, none⟩ = some (.int .u8 ((y.w : Nat) : Int)) ∧ w'.cell? ⟨w1.heap.size, 2, none⟩ = some (.int .i64 y.k0) ∧ w'.cell? ⟨w1.heap.size, 3, none⟩ = some (.int .i64 y.k1) ∧ w'.cell? ⟨w1.heap.size, 4, none⟩ = some (.int .i64 y.k2) ∧ w'.cell? ⟨w1.heap.size, 5, none⟩ = some (.int .u64 ((y.n : Nat) : Int)) ∧ w'.cell? ⟨w1.heap.size, 6, none⟩ = some (.int .u8 ((y.l : Nat) : Int)) ∧ w'.cell? ⟨w2.heap.size, 0, none⟩ = some (.int .u8 ((y.o : Nat) : Int)) ∧ w'.cell? ⟨w2.heap.size, 1, none⟩ = some (.int .u8 ((y.w : Nat) : Int)) ∧ w'.cell? ⟨w2.heap.size, 2, none⟩ = some (.int .i64 y.k0) ∧ w'.cell? ⟨w2.heap.size, 3, none⟩ = some (.int .i64 y.k1) ∧ w'.cell? ⟨w2.heap.size, 4, none⟩ = some (.int .i64 y.k2) ∧ w'.cell? ⟨w2.heap.size, 5, none⟩ = some (.int .u64 ((y.n : Nat) : Int)) ∧ w'.cell? ⟨w2.heap.size, 6, none⟩ = some (.int .u8 ((y.l : Nat) : Int)) ∧ w'.cell? ⟨qq, 0, none⟩ = some (.slice ra L.length rc)) := by
          show ∀ w5 w' : World, w5.heap = w4.heap → Below w5.heap.size w5 w' → _
          intro w5 w' hh hb
          have hc : ∀ a v, w4.cell? a = some v → w'.cell? a = some v := fun a v hv => by
            have h5 : w5.cell? a = some v := by unfold World.cell?; rw [hh]; exact hv
            exact (hb.cell (World.block_lt_of_cell? _ _ h5)).trans h5
          exact ⟨hc _ _ aa.1, hc _ _ aa.2.1, hc _ _ aa.2.2.1, hc _ _ aa.2.2.2.1, hc _ _ aa.2.2.2.2.1, hc _ _ aa.2.2.2.2.2.1, hc _ _ aa.2.2.2.2.2.2, hc _ _ ab.1, hc _ _ ab.2.1, hc _ _ ab.2.2.1, hc _ _ ab.2.2.2.1, hc _ _ ab.2.2.2.2.1, hc _ _ ab.2.2.2.2.2.1, hc _ _ ab.2.2.2.2.2.2, hc _ _ c0⟩
        have HBW := Lib.hid s4.b
        have HI5 := Lib.hid (fun w' (k : Below w4.heap.size w4 w') => two_ints (HL4.out.call k) (HL5.out.call k) HTL.out)
        have HI6 := Lib.hid (fun w' (k : Below w4.heap.size w4 w') => HC5.out w' (HS4.out.call k))
        have HI7 := Lib.hid (fun w' (k : Below w4.heap.size w4 w') => HC6.out w' (HS4.out.call k))
        clear s4 c0 aa ab
        go_wp2_with fail
        go_region_held3 (fun w' => w'.cell? ⟨w1.heap.size, 0, none⟩ = some (.int .u8 ((y.o : Nat) : Int)) ∧ w'.cell? ⟨w1.heap.size, 1, none⟩ = some (.int .u8 ((y.w : Nat) : Int)) ∧ w'.cell? ⟨w1.heap.size, 2, none⟩ = some (.int .i64 y.k0) ∧ w'.cell? ⟨w1.heap.size, 3, none⟩ = some (.int .i64 y.k1) ∧ w'.cell? ⟨w1.heap.size, 4, none⟩ = some (.int .i64 y.k2) ∧ w'.cell? ⟨w1.heap.size, 5, none⟩ = some (.int .u64 ((y.n : Nat) : Int)) ∧ w'.cell? ⟨w1.heap.size, 6, none⟩ = some (.int .u8 ((y.l : Nat) : Int)) ∧ w'.cell? ⟨w2.heap.size, 0, none⟩ = some (.int .u8 ((y.o : Nat) : Int)) ∧ w'.cell? ⟨w2.heap.size, 1, none⟩ = some (.int .u8 ((y.w : Nat) : Int)) ∧ w'.cell? ⟨w2.heap.size, 2, none⟩ = some (.int .i64 y.k0) ∧ w'.cell? ⟨w2.heap.size, 3, none⟩ = some (.int .i64 y.k1) ∧ w'.cell? ⟨w2.heap.size, 4, none⟩ = some (.int .i64 y.k2) ∧ w'.cell? ⟨w2.heap.size, 5, none⟩ = some (.int .u64 ((y.n : Nat) : Int)) ∧ w'.cell? ⟨w2.heap.size, 6, none⟩ = some (.int .u8 ((y.l : Nat) : Int)) ∧ w'.cell? ⟨qq, 0, none⟩ = some (.slice ra L.length rc))
          (first | exact HK.out _ rfl | (refine HKB.out _ _ ?_ hb6; rfl))
          (first | (go_at_call 14; refine (HI5.out _ ?_).mono ?_; exact ⟨rfl, rfl, rfl, Nat.le_refl _, fun _ _ => rfl⟩; rintro e z ⟨rfl, c5, rfl⟩) | (go_at_call 16; refine (HI6.out _ ?_).mono ?_; exact ⟨rfl, rfl, rfl, Nat.le_refl _, fun _ _ => rfl⟩; rintro e z ⟨rfl, c6, rfl⟩) | (go_at_call 15; refine (HI7.out _ ?_).mono ?_; exact ⟨rfl, rfl, rfl, Nat.le_refl _, fun _ _ => rfl⟩; rintro e z ⟨rfl, c7, rfl⟩) | (go_at_call 17; refine (works_any _).mono ?_; rintro e v6 ⟨rfl, hb6⟩))
        go_wp2_with fail
        go_ret
        exact ⟨rfl, bel_call (bel_drewN HBW.out _) hb6⟩
      · have hwd : wdOf L vk = wy := by rw [← hwy]; unfold wdAt; rw [if_pos (by omega)]; rw [show ((vk : Nat) : Int).toNat = vk by omega]
        have HWD := Lib.hid hwd
        have z0 : (0 : Int) ≤ ((vk : Nat) : Int) := by omega
        have z1 : ((vk : Nat) : Int) < 256 := by omega
        have hw255 : wy ≤ 255 := by rw [← hwd]; exact Nat.le_trans (wdOf_le HST.out.good vk) (by omega)
        have z2 : IntKind.i64.wrap ((wy : Nat) : Int) = ((wy : Nat) : Int) := by rw [IntKind.wrap_i64]; omega
        have HVK := Lib.hid hvk
        clear hwy hwd hvk
        go_wp2_with (first | (go_at_call 10; refine (HC1.out _ HST.out).mono ?_; rintro e w1 ⟨rfl, hb1⟩; have HB1 := Lib.hid (HST.out.call hb1); have HA1 := Lib.hid (At7.new w1 (.int .u8 ((y.o : Nat) : Int)) (.int .u8 ((y.w : Nat) : Int)) (.int .i64 y.k0) (.int .i64 y.k1) (.int .i64 y.k2) (.int .u64 ((y.n : Nat) : Int)) (.int .u8 ((y.l : Nat) : Int)) 36); clear hb1) | (go_at_call 11; refine (HC2.out _ (HB1.out.call (bel_alloc (Below.refl _ _) _))).mono ?_; rintro e w2 ⟨rfl, hb2⟩; have HS2 := Lib.hid ((HB1.out.call (bel_alloc (Below.refl _ _) (.cells y.cells 36))).call hb2); have HA2 := Lib.hid (HA1.out.keep hb2); have HA3 := Lib.hid (At7.new w2 (.int .u8 ((y.o : Nat) : Int)) (.int .u8 ((y.w : Nat) : Int)) (.int .i64 y.k0) (.int .i64 y.k1) (.int .i64 y.k2) (.int .u64 ((y.n : Nat) : Int)) (.int .u8 ((y.l : Nat) : Int)) 36); clear hb2) | (go_at_call 12; refine (HC3.out _ (HS2.out.call (bel_alloc (Below.refl _ _) _))).mono ?_; rintro e w3 ⟨v3, rfl, hl3, hb3⟩; have HS3 := Lib.hid ((HS2.out.call (bel_alloc (Below.refl _ _) (.cells y.cells 36))).call hb3); have HA4 := Lib.hid ((HA2.out.alloc (.cells y.cells 36)).keep hb3); have HA5 := Lib.hid (HA3.out.keep hb3); have HL3 := Lib.hid hl3; clear hb3 hl3) | (go_at_call 13; refine (HC4.out _ HS3.out).mono ?_; rintro e w4 ⟨v4, rfl, hl4, hb4⟩; have HS4 := Lib.hid (HS3.out.call hb4); have HA6 := Lib.hid (HA4.out.keep hb4); have HA7 := Lib.hid (HA5.out.keep hb4); have HL4 := Lib.hid (HL3.out.call hb4); have HL5 := Lib.hid hl4; have cw := HS4.out.rcw vk HVK.out; rw [HWD.out] at cw; clear hb4 hl4))
        obtain ⟨sv, rv, s4⟩ := HS4.out
        obtain ⟨ra, rc, rfl⟩ := s4.r.shape
        have c0 := s4.r.c0
        have aa := HA6.out
        have ab := HA7.out
        unfold At7 at aa ab
        have HK : Hid (∀ w' : World, w'.heap = w4.heap → w'.cell? ⟨w1.heap.size, 0, none⟩ = some (.int .u8 ((y.o : Nat) : Int)) ∧ w'.cell? ⟨w1.heap.size, 1, none⟩ = some (.int .u8 ((y.w : Nat) : Int)) ∧ w'.cell? ⟨w1.heap.size, 2, none⟩ = some (.int .i64 y.k0) ∧ w'.cell? ⟨w1.heap.size, 3, none⟩ = some (.int .i64 y.k1) ∧ w'.cell? ⟨w1.heap.size, 4, none⟩ = some (.int .i64 y.k2) ∧ w'.cell? ⟨w1.heap.size, 5, none⟩ = some (.int .u64 ((y.n : Nat) : Int)) ∧ w'.cell? ⟨w1.heap.size, 6, none⟩ = some (.int .u8 ((y.l : Nat) : Int)) ∧ w'.cell? ⟨w2.heap.size, 0, none⟩ = some (.int .u8 ((y.o : Nat) : Int)) ∧ w'.cell? ⟨w2.heap.size, 1, none⟩ = some (.int .u8 ((y.w : Nat) : Int)) ∧ w'.cell? ⟨w2.heap.size, 2, none⟩ = some (.int .i64 y.k0) ∧ w'.cell? ⟨w2.heap.size, 3, none⟩ = some (.int .i64 y.k1) ∧ w'.cell? ⟨w2.heap.size, 4, none⟩ = some (.int .i64 y.k2) ∧ w'.cell? ⟨w2.heap.size, 5, none⟩ = some (.int .u64 ((y.n : Nat) : Int)) ∧ w'.cell? ⟨w2.heap.size, 6, none⟩ = some (.int .u8 ((y.l : Nat) : Int)) ∧ w'.cell? ⟨qq, 0, none⟩ = some (.slice ra L.length rc)) := by
          show ∀ w' : World, w'.heap = w4.heap → _
          intro w' hh
          have hc : ∀ a, w'.cell? a = w4.cell? a := fun a => by unfold World.cell?; rw [hh]
          simp only [hc]
          exact ⟨aa.1, aa.2.1, aa.2.2.1, aa.2.2.2.1, aa.2.2.2.2.1, aa.2.2.2.2.2.1, aa.2.2.2.2.2.2, ab.1, ab.2.1, ab.2.2.1, ab.2.2.2.1, ab.2.2.2.2.1, ab.2.2.2.2.2.1, ab.2.2.2.2.2.2, c0⟩
        have HKB : Hid (∀ w5 w' : World, w5.heap = w4.heap → Below w5.heap.size w5 w' → w'.cell? ⟨w1.heap.size, 0, none⟩ = some (.int .u8 ((y.o : Nat) : Int)) ∧ w'.cell? ⟨w1.heap.size, 1, none⟩ = some (.int .u8 ((y.w : Nat) : Int)) ∧ w'.cell? ⟨w1.heap.size, 2, none⟩ = some (.int .i64 y.k0) ∧ w'.cell? ⟨w1.heap.size, 3, none⟩ = some (.int .i64 y.k1) ∧ w'.cell? ⟨w1.heap.size, 4, none⟩ = some (.int .i64 y.k2) ∧ w'.cell? ⟨w1.heap.size, 5, none⟩ = some (.int .u64 ((y.n : Nat) : Int)) ∧ w'.cell? ⟨w1.heap.size, 6, none⟩ = some (.int .u8 ((y.l : Nat) : Int)) ∧ w'.cell? ⟨w2.heap.size, 0, none⟩ = some (.int .u8 ((y.o : Nat) : Int)) ∧ w'.cell? ⟨w2.heap.size, 1, none⟩ = some (.int .u8 ((y.w : Nat) : Int)) ∧ w'.cell? ⟨w2.heap.size, 2, none⟩ = some (.int .i64 y.k0) ∧ w'.cell? ⟨w2.heap.size, 3, none⟩ = some (.int .i64 y.k1) ∧ w'.cell? ⟨w2.heap.size, 4, none⟩ = some (.int .i64 y.k2) ∧ w'.cell? ⟨w2.heap.size, 5, none⟩ = some (.int .u64 ((y.n : Nat) : Int)) ∧ w'.cell? ⟨w2.heap.size, 6, none⟩ = some (.int .u8 ((y.l : Nat) : Int)) ∧ w'.cell? ⟨qq, 0, none⟩ = some (.slice ra L.length rc)) := by
          show ∀ w5 w' : World, w5.heap = w4.heap → Below w5.heap.size w5 w' → _
          intro w5 w' hh hb
          have hc : ∀ a v, w4.cell? a = some v → w'.cell? a = some v := fun a v hv => by
            have h5 : w5.cell? a = some v := by unfold World.cell?; rw [hh]; exact hv
            exact (hb.cell (World.block_lt_of_cell? _ _ h5)).trans h5
          exact ⟨hc _ _ aa.1, hc _ _ aa.2.1, hc _ _ aa.2.2.1, hc _ _ aa.2.2.2.1, hc _ _ aa.2.2.2.2.1, hc _ _ aa.2.2.2.2.2.1, hc _ _ aa.2.2.2.2.2.2, hc _ _ ab.1, hc _ _ ab.2.1, hc _ _ ab.2.2.1, hc _ _ ab.2.2.2.1, hc _ _ ab.2.2.2.2.1, hc _ _ ab.2.2.2.2.2.1, hc _ _ ab.2.2.2.2.2.2, hc _ _ c0⟩
        have HBW := Lib.hid s4.b
        have HI5 := Lib.hid (fun w' (k : Below w4.heap.size w4 w') => two_ints (HL4.out.call k) (HL5.out.call k) HTL.out)
        have HI6 := Lib.hid (fun w' (k : Below w4.heap.size w4 w') => HC5.out w' (HS4.out.call k))
        have HI7 := Lib.hid (fun w' (k : Below w4.heap.size w4 w') => HC6.out w' (HS4.out.call k))
        clear s4 c0 aa ab
        go_wp2_with fail
        go_region_held3 (fun w' => w'.cell? ⟨w1.heap.size, 0, none⟩ = some (.int .u8 ((y.o : Nat) : Int)) ∧ w'.cell? ⟨w1.heap.size, 1, none⟩ = some (.int .u8 ((y.w : Nat) : Int)) ∧ w'.cell? ⟨w1.heap.size, 2, none⟩ = some (.int .i64 y.k0) ∧ w'.cell? ⟨w1.heap.size, 3, none⟩ = some (.int .i64 y.k1) ∧ w'.cell? ⟨w1.heap.size, 4, none⟩ = some (.int .i64 y.k2) ∧ w'.cell? ⟨w1.heap.size, 5, none⟩ = some (.int .u64 ((y.n : Nat) : Int)) ∧ w'.cell? ⟨w1.heap.size, 6, none⟩ = some (.int .u8 ((y.l : Nat) : Int)) ∧ w'.cell? ⟨w2.heap.size, 0, none⟩ = some (.int .u8 ((y.o : Nat) : Int)) ∧ w'.cell? ⟨w2.heap.size, 1, none⟩ = some (.int .u8 ((y.w : Nat) : Int)) ∧ w'.cell? ⟨w2.heap.size, 2, none⟩ = some (.int .i64 y.k0) ∧ w'.cell? ⟨w2.heap.size, 3, none⟩ = some (.int .i64 y.k1) ∧ w'.cell? ⟨w2.heap.size, 4, none⟩ = some (.int .i64 y.k2) ∧ w'.cell? ⟨w2.heap.size, 5, none⟩ = some (.int .u64 ((y.n : Nat) : Int)) ∧ w'.cell? ⟨w2.heap.size, 6, none⟩ = some (.int .u8 ((y.l : Nat) : Int)) ∧ w'.cell? ⟨qq, 0, none⟩ = some (.slice ra L.length rc))
          (first | exact HK.out _ rfl | (refine HKB.out _ _ ?_ hb6; rfl))
          (first | (go_at_call 14; refine (HI5.out _ ?_).mono ?_; exact ⟨rfl, rfl, rfl, Nat.le_refl _, fun _ _ => rfl⟩; rintro e z ⟨rfl, c5, rfl⟩) | (go_at_call 16; refine (HI6.out _ ?_).mono ?_; exact ⟨rfl, rfl, rfl, Nat.le_refl _, fun _ _ => rfl⟩; rintro e z ⟨rfl, c6, rfl⟩) | (go_at_call 15; refine (HI7.out _ ?_).mono ?_; exact ⟨rfl, rfl, rfl, Nat.le_refl _, fun _ _ => rfl⟩; rintro e z ⟨rfl, c7, rfl⟩) | (go_at_call 17; refine (works_any _).mono ?_; rintro e v6 ⟨rfl, hb6⟩))
        go_wp2_with fail
        go_ret
        exact ⟨rfl, bel_call (bel_drewN HBW.out _) hb6⟩
      · have hwz : wy = 0 := by rw [← hwy]; unfold wdAt; rw [if_neg (by omega)]
        subst hwz
        clear hwy
        go_wp2_with (first | (go_at_call 10; refine (HC1.out _ HST.out).mono ?_; rintro e w1 ⟨rfl, hb1⟩; have HB1 := Lib.hid (HST.out.call hb1); have HA1 := Lib.hid (At7.new w1 (.int .u8 ((y.o : Nat) : Int)) (.int .u8 ((y.w : Nat) : Int)) (.int .i64 y.k0) (.int .i64 y.k1) (.int .i64 y.k2) (.int .u64 ((y.n : Nat) : Int)) (.int .u8 ((y.l : Nat) : Int)) 36); clear hb1) | (go_at_call 11; refine (HC2.out _ (HB1.out.call (bel_alloc (Below.refl _ _) _))).mono ?_; rintro e w2 ⟨rfl, hb2⟩; have HS2 := Lib.hid ((HB1.out.call (bel_alloc (Below.refl _ _) (.cells y.cells 36))).call hb2); have HA2 := Lib.hid (HA1.out.keep hb2); have HA3 := Lib.hid (At7.new w2 (.int .u8 ((y.o : Nat) : Int)) (.int .u8 ((y.w : Nat) : Int)) (.int .i64 y.k0) (.int .i64 y.k1) (.int .i64 y.k2) (.int .u64 ((y.n : Nat) : Int)) (.int .u8 ((y.l : Nat) : Int)) 36); clear hb2) | (go_at_call 12; refine (HC3.out _ (HS2.out.call (bel_alloc (Below.refl _ _) _))).mono ?_; rintro e w3 ⟨v3, rfl, hl3, hb3⟩; have HS3 := Lib.hid ((HS2.out.call (bel_alloc (Below.refl _ _) (.cells y.cells 36))).call hb3); have HA4 := Lib.hid ((HA2.out.alloc (.cells y.cells 36)).keep hb3); have HA5 := Lib.hid (HA3.out.keep hb3); have HL3 := Lib.hid hl3; clear hb3 hl3) | (go_at_call 13; refine (HC4.out _ HS3.out).mono ?_; rintro e w4 ⟨v4, rfl, hl4, hb4⟩; have HS4 := Lib.hid (HS3.out.call hb4); have HA6 := Lib.hid (HA4.out.keep hb4); have HA7 := Lib.hid (HA5.out.keep hb4); have HL4 := Lib.hid (HL3.out.call hb4); have HL5 := Lib.hid hl4; clear hb4 hl4))
        obtain ⟨sv, rv, s4⟩ := HS4.out
        obtain ⟨ra, rc, rfl⟩ := s4.r.shape
        have c0 := s4.r.c0
        have aa := HA6.out
        have ab := HA7.out
        unfold At7 at aa ab
        have HK : Hid (∀ w' : World, w'.heap = w4.heap → w'.cell? ⟨w1.heap.size, 0, none⟩ = some (.int .u8 ((y.o : Nat) : Int)) ∧ w'.cell? ⟨w1.heap.size, 1, none⟩ = some (.int .u8 ((y.w : Nat) : Int)) ∧ w'.cell? ⟨w1.heap.size, 2, none⟩ = some (.int .i64 y.k0) ∧ w'.cell? ⟨w1.heap.size, 3, none⟩ = some (.int .i64 y.k1) ∧ w'.cell? ⟨w1.heap.size, 4, none⟩ = some (.int .i64 y.k2) ∧ w'.cell? ⟨w1.heap.size, 5, none⟩ = some (.int .u64 ((y.n : Nat) : Int)) ∧ w'.cell? ⟨w1.heap.size, 6, none⟩ = some (.int .u8 ((y.l : Nat) : Int)) ∧ w'.cell? ⟨w2.heap.size, 0, none⟩ = some (.int .u8 ((y.o : Nat) : Int)) ∧ w'.cell? ⟨w2.heap.size, 1, none⟩ = some (.int .u8 ((y.w : Nat) : Int)) ∧ w'.cell? ⟨w2.heap.size, 2, none⟩ = some (.int .i64 y.k0) ∧ w'.cell? ⟨w2.heap.size, 3, none⟩ = some (.int .i64 y.k1) ∧ w'.cell? ⟨w2.heap.size, 4, none⟩ = some (.int .i64 y.k2) ∧ w'.cell? ⟨w2.heap.size, 5, none⟩ = some (.int .u64 ((y.n : Nat) : Int)) ∧ w'.cell? ⟨w2.heap.size, 6, none⟩ = some (.int .u8 ((y.l : Nat) : Int)) ∧ w'.cell? ⟨qq, 0, none⟩ = some (.slice ra L.length rc)) := by
          show ∀ w' : World, w'.heap = w4.heap → _
          intro w' hh
          have hc : ∀ a, w'.cell? a = w4.cell? a := fun a => by unfold World.cell?; rw [hh]
          simp only [hc]
          exact ⟨aa.1, aa.2.1, aa.2.2.1, aa.2.2.2.1, aa.2.2.2.2.1, aa.2.2.2.2.2.1, aa.2.2.2.2.2.2, ab.1, ab.2.1, ab.2.2.1, ab.2.2.2.1, ab.2.2.2.2.1, ab.2.2.2.2.2.1, ab.2.2.2.2.2.2, c0⟩
        have HKB : Hid (∀ w5 w' : World, w5.heap = w4.heap → Below w5.heap.size w5 w' → w'.cell? ⟨w1.heap.size, 0, none⟩ = some (.int .u8 ((y.o : Nat) : Int)) ∧ w'.cell? ⟨w1.heap.size, 1, none⟩ = some (.int .u8 ((y.w : Nat) : Int)) ∧ w'.cell? ⟨w1.heap.size, 2, none⟩ = some (.int .i64 y.k0) ∧ w'.cell? ⟨w1.heap.size, 3, none⟩ = some (.int .i64 y.k1) ∧ w'.cell? ⟨w1.heap.size, 4, none⟩ = some (.int .i64 y.k2) ∧ w'.cell? ⟨w1.heap.size, 5, none⟩ = some (.int .u64 ((y.n : Nat) : Int)) ∧ w'.cell? ⟨w1.heap.size, 6, none⟩ = some (.int .u8 ((y.l : Nat) : Int)) ∧ w'.cell? ⟨w2.heap.size, 0, none⟩ = some (.int .u8 ((y.o : Nat) : Int)) ∧ w'.cell? ⟨w2.heap.size, 1, none⟩ = some (.int .u8 ((y.w : Nat) : Int)) ∧ w'.cell? ⟨w2.heap.size, 2, none⟩ = some (.int .i64 y.k0) ∧ w'.cell? ⟨w2.heap.size, 3, none⟩ = some (.int .i64 y.k1) ∧ w'.cell? ⟨w2.heap.size, 4, none⟩ = some (.int .i64 y.k2) ∧ w'.cell? ⟨w2.heap.size, 5, none⟩ = some (.int .u64 ((y.n : Nat) : Int)) ∧ w'.cell? ⟨w2.heap.size, 6, none⟩ = some (.int .u8 ((y.l : Nat) : Int)) ∧ w'.cell? ⟨qq, 0, none⟩ = some (.slice ra L.length rc)) := by
          show ∀ w5 w' : World, w5.heap = w4.heap → Below w5.heap.size w5 w' → _
          intro w5 w' hh hb
          have hc : ∀ a v, w4.cell? a = some v → w'.cell? a = some v := fun a v hv => by
            have h5 : w5.cell? a = some v := by unfold World.cell?; rw [hh]; exact hv
            exact (hb.cell (World.block_lt_of_cell? _ _ h5)).trans h5
          exact ⟨hc _ _ aa.1, hc _ _ aa.2.1, hc _ _ aa.2.2.1, hc _ _ aa.2.2.2.1, hc _ _ aa.2.2.2.2.1, hc _ _ aa.2.2.2.2.2.1, hc _ _ aa.2.2.2.2.2.2, hc _ _ ab.1, hc _ _ ab.2.1, hc _ _ ab.2.2.1, hc _ _ ab.2.2.2.1, hc _ _ ab.2.2.2.2.1, hc _ _ ab.2.2.2.2.2.1, hc _ _ ab.2.2.2.2.2.2, hc _ _ c0⟩
        have HBW := Lib.hid s4.b
        have HI5 := Lib.hid (fun w' (k : Below w4.heap.size w4 w') => two_ints (HL4.out.call k) (HL5.out.call k) HTL.out)
        have HI6 := Lib.hid (fun w' (k : Below w4.heap.size w4 w') => HC5.out w' (HS4.out.call k))
        have HI7 := Lib.hid (fun w' (k : Below w4.heap.size w4 w') => HC6.out w' (HS4.out.call k))
        clear s4 c0 aa ab
        go_wp2_with fail
        go_region_held3 (fun w' => w'.cell? ⟨w1.heap.size, 0, none⟩ = some (.int .u8 ((y.o : Nat) : Int)) ∧ w'.cell? ⟨w1.heap.size, 1, none⟩ = some (.int .u8 ((y.w : Nat) : Int)) ∧ w'.cell? ⟨w1.heap.size, 2, none⟩ = some (.int .i64 y.k0) ∧ w'.cell? ⟨w1.heap.size, 3, none⟩ = some (.int .i64 y.k1) ∧ w'.cell? ⟨w1.heap.size, 4, none⟩ = some (.int .i64 y.k2) ∧ w'.cell? ⟨w1.heap.size, 5, none⟩ = some (.int .u64 ((y.n : Nat) : Int)) ∧ w'.cell? ⟨w1.heap.size, 6, none⟩ = some (.int .u8 ((y.l : Nat) : Int)) ∧ w'.cell? ⟨w2.heap.size, 0, none⟩ = some (.int .u8 ((y.o : Nat) : Int)) ∧ w'.cell? ⟨w2.heap.size, 1, none⟩ = some (.int .u8 ((y.w : Nat) : Int)) ∧ w'.cell? ⟨w2.heap.size, 2, none⟩ = some (.int .i64 y.k0) ∧ w'.cell? ⟨w2.heap.size, 3, none⟩ = some (.int .i64 y.k1) ∧ w'.cell? ⟨w2.heap.size, 4, none⟩ = some (.int .i64 y.k2) ∧ w'.cell? ⟨w2.heap.size, 5, none⟩ = some (.int .u64 ((y.n : Nat) : Int)) ∧ w'.cell? ⟨w2.heap.size, 6, none⟩ = some (.int .u8 ((y.l : Nat) : Int)) ∧ w'.cell? ⟨qq, 0, none⟩ = some (.slice ra L.length rc))
          (first | exact HK.out _ rfl | (refine HKB.out _ _ ?_ hb6; rfl))
          (first | (go_at_call 14; refine (HI5.out _ ?_).mono ?_; exact ⟨rfl, rfl, rfl, Nat.le_refl _, fun _ _ => rfl⟩; rintro e z ⟨rfl, c5, rfl⟩) | (go_at_call 16; refine (HI6.out _ ?_).mono ?_; exact ⟨rfl, rfl, rfl, Nat.le_refl _, fun _ _ => rfl⟩; rintro e z ⟨rfl, c6, rfl⟩) | (go_at_call 15; refine (HI7.out _ ?_).mono ?_; exact ⟨rfl, rfl, rfl, Nat.le_refl _, fun _ _ => rfl⟩; rintro e z ⟨rfl, c7, rfl⟩) | (go_at_call 17; refine (works_any _).mono ?_; rintro e v6 ⟨rfl, hb6⟩))
        go_wp2_with fail
        go_ret
        exact ⟨rfl, bel_call (bel_drewN HBW.out _) hb6⟩
end Tm
end Go.Proofs.Ytkfnekhjmnjloaa
