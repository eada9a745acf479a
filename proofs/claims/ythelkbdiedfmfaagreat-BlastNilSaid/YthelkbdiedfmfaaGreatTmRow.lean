/-
  A node handed in by value, or in a list: how it is read, and read again.
-/
import Derived.Test.YthelkbdiedfmfaaGreatRows
import Derived.Test.YthelkbdiedfmfaaGreatTmKey
import Derived.WalkKit
import Derived.ProofKit
import Derived.OpenShut
import Derived.Lib.SmallJoins
import Derived.Laws.IdiomArrays
import Derived.Below
import Derived.ChangeSame
namespace Go.Proofs.YthelkbdiedfmfaaGreat
open Go.ChangeShapes Go.WideShapes Go.ChangeAt Go.RowKit Go.Joins Bv
namespace Tm
set_option maxHeartbeats 400000
set_option maxRecDepth 100000

theorem ownk : ownKnob Tryz.prog.godebug = none := by kernel_rfl

section
variable {H : Type} {enc : TypeId × Value → H} {P : Program}
/-- The row's last step, where the arguments hold no memory and the call has made new blocks alone. -/
theorem post_new {f : Func} {s : ChangeSpec} {W W' : World} {args : Array Value} {v : Value} {ds : List (DataW H)}
    (hW : DataW.Whole enc P f.params.toList s.vars false W args.toList ds [] [])
    (hres : ∀ (b : Nat) (sp : Nat → Bool) (hd : Bool), DataW.TrodAll enc P W' b sp hd f.resultTypes.toList (v.resultList f.resultTypes.size) (s.fn H (ds ++ [])).results [])
    (hargs : ∀ sp : Nat → Bool, DataW.TrodAll enc P W' 0 sp true f.params.toList args.toList (s.fn H (ds ++ [])).args [])
    (hvars : ∀ sp : Nat → Bool, DataW.TrodVars enc P W' sp s.vars (s.fn H (ds ++ [])).vars []) (hb : Below W.heap.size W W') :
    s.post enc P f false true false false W args v W' :=
  ⟨ds, [], [], [], [], [], hW, hres _ _ _, hargs _, hvars _, hb.frame _, fun h => by cases h⟩
end

section
variable {H : Type} {enc : TypeId × Value → H}

def Nd.datum {H : Type} (x : Nd) : DataW H := .agg [.lit (.int .u8 x.o), .lit (.int .u8 x.w), .agg [.lit (.int .i64 x.k0), .lit (.int .i64 x.k1), .lit (.int .i64 x.k2)], .lit (.int .u64 x.n), .lit (.int .u8 x.l)]

theorem nd_reads (x : Nd) (hx : x.Ok) (W : World) (base : Nat) (sp : Nat → Bool) (hd : Bool) (n : Nat) : DataW.trod enc Tryz.prog W base sp hd (n + 3) 56 x.cells.toList = some (x.datum, []) := by
  have a0 := wf_u8 hx.o
  have a1 := wf_u8 hx.w
  have a2 := wf_i64 hx.k0
  have a3 := wf_i64 hx.k1
  have a4 := wf_i64 hx.k2
  have a5 := wf_u64 hx.n
  have a6 := wf_u8 hx.l
  simp [DataW.trod, Tryz.underlying56, Tryz.underlying53, Tryz.underlying52, Tryz.underlying5, Tryz.underlying3, Tryz.underlying54, cells_nd, cells_kids, cells_op, cells_u8, cells_int, cells_u64,
    Nd.cells, Nd.datum, List.range, List.range.loop, a0, a1, a2, a3, a4, a5, a6]

theorem u8_of {a : Int} (h : (Lit.int .u8 a).wf = true) : ∃ n : Nat, a = (n : Int) ∧ n ≤ 255 := by
  simp only [Lit.wf, IntKind.min, IntKind.max, IntKind.signed, IntKind.bits, Bool.and_eq_true] at h
  obtain ⟨n, rfl⟩ := Int.eq_ofNat_of_zero_le (a := a) (by simpa using h.1)
  exact ⟨n, rfl, by have := h.2; simp at this; omega⟩
theorem u64_of {a : Int} (h : (Lit.int .u64 a).wf = true) : ∃ n : Nat, a = (n : Int) ∧ n < 18446744073709551616 := by
  simp only [Lit.wf, IntKind.min, IntKind.max, IntKind.signed, IntKind.bits, Bool.and_eq_true] at h
  obtain ⟨n, rfl⟩ := Int.eq_ofNat_of_zero_le (a := a) (by simpa using h.1)
  exact ⟨n, rfl, by have := h.2; simp at this; omega⟩
theorem i64_of {a : Int} (h : (Lit.int .i64 a).wf = true) : I64 a := by
  simp only [Lit.wf, IntKind.min, IntKind.max, IntKind.signed, IntKind.bits, Bool.and_eq_true] at h
  have h1 := h.1
  have h2 := h.2
  simp at h1 h2
  exact ⟨by omega, by omega⟩

theorem nd_open {W : World} {base : Nat} {sp : Nat → Bool} {hd : Bool} {fuel : Nat} {cs : List Value} {y : DataW H × List MemPlace} (h : DataW.trod enc Tryz.prog W base sp hd fuel 56 cs = some y) :
    ∃ x : Nd, x.Ok ∧ cs = x.cells.toList ∧ y = (x.datum, []) := by
  obtain ⟨xs, n, _, rfl, hl, hlen, hf⟩ := DataW.trod_struct Tryz.underlying56 h
  rw [cells_nd] at hl
  match cs, hl with
  | [c0, c1, c2, c3, c4, c5, c6], _ =>
  match xs, hlen with
  | [y0, y1, y2, y3, y4], _ =>
  have h0 := hf 0 _ rfl
  have h1 := hf 1 _ rfl
  have h2 := hf 2 _ rfl
  have h3 := hf 3 _ rfl
  have h4 := hf 4 _ rfl
  simp [cells_op, cells_u8, cells_kids, cells_u64] at h0 h1 h2 h3 h4
  obtain ⟨a0, e0, z0, w0⟩ := DataW.trod_int Tryz.underlying52 h0
  obtain ⟨a1, e1, z1, w1⟩ := DataW.trod_int Tryz.underlying5 h1
  obtain ⟨t0, t1, t2, n2, z2, k0, k1, k2⟩ := trod_array3 Tryz.underlying53 cells_int h2
  obtain ⟨b0, f0, v0, u0⟩ := DataW.trod_int Tryz.underlying3 k0
  obtain ⟨b1, f1, v1, u1⟩ := DataW.trod_int Tryz.underlying3 k1
  obtain ⟨b2, f2, v2, u2⟩ := DataW.trod_int Tryz.underlying3 k2
  obtain ⟨a3, e3, z3, w3⟩ := DataW.trod_int Tryz.underlying54 h3
  obtain ⟨a4, e4, z4, w4⟩ := DataW.trod_int Tryz.underlying5 h4
  simp only [List.cons.injEq, and_true] at e0 e1 f0 f1 f2 e3 e4
  subst e0 e1 f0 f1 f2 e3 e4
  subst v0 v1 v2
  subst z0 z1 z2 z3 z4
  obtain ⟨o, rfl, ho⟩ := u8_of w0
  obtain ⟨w, rfl, hw⟩ := u8_of w1
  obtain ⟨m, rfl, hm⟩ := u64_of w3
  obtain ⟨l, rfl, hl⟩ := u8_of w4
  exact ⟨⟨o, w, b0, b1, b2, m, l⟩, ⟨ho, hw, i64_of u0, i64_of u1, i64_of u2, hm, hl⟩, rfl, rfl⟩

/-- A node by value. -/
theorem open_nd {W : World} {base b0 : Nat} {spare : Nat → Bool} {held : Bool} {r : Go.Reach} {v : Value} {d : DataW H} {p : List MemPlace}
    (hv : Value.okWide Tryz.prog W r b0 56 v) (h : DataW.Trod enc Tryz.prog W base spare held 56 v d p) :
    ∃ x : Nd, x.Ok ∧ v = x.val ∧ p = [] ∧ ∀ (W' : World) (b : Nat) (sp : Nat → Bool) (hd : Bool), DataW.Trod enc Tryz.prog W' b sp hd 56 x.val d [] := by
  obtain ⟨cs, rfl, _⟩ := okWide_struct Tryz.underlying56 hv
  obtain ⟨fuel, hf⟩ := h
  obtain ⟨x, hx, hc, hy⟩ := nd_open hf
  simp only [Prod.mk.injEq] at hy
  obtain ⟨rfl, rfl⟩ := hy
  refine ⟨x, hx, ?_, rfl, fun W' b sp hd => ⟨3, nd_reads x hx W' b sp hd 0⟩⟩
  have : cs = x.cells := by
    simp only [Value.cells] at hc
    exact Array.toList_inj.1 hc
  rw [this]
  rfl
end
end Tm
end Go.Proofs.YthelkbdiedfmfaaGreat
