/-
  An instruction and numbers that are handed in, opened.
-/
import Derived.Test.YtbgcgomefdblpaaDoorRows
import Derived.Test.YtbgcgomefdblpaaDoorDePuts
import Derived.WalkKit
import Derived.ProofKit
import Derived.OpenShut
import Derived.Lib.SmallJoins
import Derived.Laws.IdiomArrays
import Derived.Below
import Derived.ChangeSame
namespace Go.Proofs.YtbgcgomefdblpaaDoor
open Go.ChangeShapes Go.WideShapes Go.ChangeAt Go.RowKit Go.Joins
namespace De
set_option maxHeartbeats 800000
set_option maxRecDepth 100000

theorem ownk : ownKnob Tryd.prog.godebug = none := by kernel_rfl
section
variable {H : Type} {enc : TypeId × Value → H} {P : Program}
/-- The row's last step, where the arguments hold no memory and the call has made new blocks alone. -/
theorem post_new {f : Func} {s : ChangeSpec} {W W' : World} {args : Array Value} {v : Value} {ds : List (DataW H)}
    (hW : DataW.Whole enc P f.params.toList s.vars false W args.toList ds [] [])
    (hres : ∀ (b : Nat) (sp : Nat → Bool) (hd : Bool), DataW.TrodAll enc P W' b sp hd f.resultTypes.toList (v.resultList f.resultTypes.size) (s.fn H (ds ++ [])).results [])
    (hargs : ∀ sp : Nat → Bool, DataW.TrodAll enc P W' 0 sp true f.params.toList args.toList (s.fn H (ds ++ [])).args [])
    (hvars : ∀ sp : Nat → Bool, DataW.TrodVars enc P W' sp s.vars (s.fn H (ds ++ [])).vars []) (hb : Below W.heap.size W W') :
    s.post enc P f false true false false W args v W' :=
  ⟨ds, [], [], [], [], [], hW, hres _ _ _, hargs _, hvars _, hb.frame _, fun h => by cases h⟩
end
section
variable {H : Type} {enc : TypeId × Value → H}
theorem u8_of {a : Int} (h : (Lit.int .u8 a).wf = true) : ∃ n : Nat, a = (n : Int) ∧ n ≤ 255 := by
  simp only [Lit.wf, IntKind.min, IntKind.max, IntKind.signed, IntKind.bits, Bool.and_eq_true] at h
  obtain ⟨n, rfl⟩ := Int.eq_ofNat_of_zero_le (a := a) (by simpa using h.1)
  exact ⟨n, rfl, by have := h.2; simp at this; omega⟩
theorem u16_of {a : Int} (h : (Lit.int .u16 a).wf = true) : ∃ n : Nat, a = (n : Int) ∧ n ≤ 65535 := by
  simp only [Lit.wf, IntKind.min, IntKind.max, IntKind.signed, IntKind.bits, Bool.and_eq_true] at h
  obtain ⟨n, rfl⟩ := Int.eq_ofNat_of_zero_le (a := a) (by simpa using h.1)
  exact ⟨n, rfl, by have := h.2; simp at this; omega⟩
theorem u32_of {a : Int} (h : (Lit.int .u32 a).wf = true) : ∃ n : Nat, a = (n : Int) ∧ n < 4294967296 := by
  simp only [Lit.wf, IntKind.min, IntKind.max, IntKind.signed, IntKind.bits, Bool.and_eq_true] at h
  obtain ⟨n, rfl⟩ := Int.eq_ofNat_of_zero_le (a := a) (by simpa using h.1)
  exact ⟨n, rfl, by have := h.2; simp at this; omega⟩
theorem i32_of {a : Int} (h : (Lit.int .i32 a).wf = true) : -2147483648 ≤ a ∧ a < 2147483648 := by
  simp only [Lit.wf, IntKind.min, IntKind.max, IntKind.signed, IntKind.bits, Bool.and_eq_true] at h
  have h1 := h.1
  have h2 := h.2
  simp at h1 h2
  exact ⟨by omega, by omega⟩
def Ins.datum {H : Type} (x : Ins) : DataW H := .agg [.lit (.int .u8 x.op), .lit (.int .u8 x.rd), .lit (.int .u8 x.a), .lit (.int .u8 x.b), .lit (.int .i32 x.imm), .lit (.int .u16 x.csr)]
theorem ins_reads (x : Ins) (hx : x.Ok) (W : World) (base : Nat) (sp : Nat → Bool) (hd : Bool) (n : Nat) : DataW.trod enc Tryd.prog W base sp hd (n + 2) 26 (insV x).toList = some (x.datum, []) := by
  have a0 := wf_u8 hx.op
  have a1 := wf_u8 hx.rd
  have a2 := wf_u8 hx.a
  have a3 := wf_u8 hx.b
  have a4 := wf_i32 hx.imm
  have a5 := wf_u16 hx.csr
  simp [DataW.trod, Tryd.underlying26, Tryd.underlying23, Tryd.underlying5, Tryd.underlying21, Tryd.underlying24, cells_ins, cells_iop, cells_u8, cells_i32, cells_u16,
    insV, Ins.datum, a0, a1, a2, a3, a4, a5]
theorem ins_open {W : World} {base : Nat} {sp : Nat → Bool} {hd : Bool} {fuel : Nat} {cs : List Value} {y : DataW H × List MemPlace} (h : DataW.trod enc Tryd.prog W base sp hd fuel 26 cs = some y) :
    ∃ x : Ins, x.Ok ∧ cs = (insV x).toList ∧ y = (x.datum, []) := by
  obtain ⟨xs, n, _, rfl, hl, hlen, hf⟩ := DataW.trod_struct Tryd.underlying26 h
  rw [cells_ins] at hl
  match cs, hl with
  | [c0, c1, c2, c3, c4, c5], _ =>
  match xs, hlen with
  | [y0, y1, y2, y3, y4, y5], _ =>
  have h0 := hf 0 _ rfl
  have h1 := hf 1 _ rfl
  have h2 := hf 2 _ rfl
  have h3 := hf 3 _ rfl
  have h4 := hf 4 _ rfl
  have h5 := hf 5 _ rfl
  simp [cells_iop, cells_u8, cells_i32, cells_u16] at h0 h1 h2 h3 h4 h5
  obtain ⟨a0, e0, z0, w0⟩ := DataW.trod_int Tryd.underlying23 h0
  obtain ⟨a1, e1, z1, w1⟩ := DataW.trod_int Tryd.underlying5 h1
  obtain ⟨a2, e2, z2, w2⟩ := DataW.trod_int Tryd.underlying5 h2
  obtain ⟨a3, e3, z3, w3⟩ := DataW.trod_int Tryd.underlying5 h3
  obtain ⟨a4, e4, z4, w4⟩ := DataW.trod_int Tryd.underlying21 h4
  obtain ⟨a5, e5, z5, w5⟩ := DataW.trod_int Tryd.underlying24 h5
  simp only [List.cons.injEq, and_true] at e0 e1 e2 e3 e4 e5
  subst e0 e1 e2 e3 e4 e5
  subst z0 z1 z2 z3 z4 z5
  obtain ⟨o, rfl, ho⟩ := u8_of w0
  obtain ⟨d, rfl, hd1⟩ := u8_of w1
  obtain ⟨a, rfl, ha⟩ := u8_of w2
  obtain ⟨b, rfl, hb⟩ := u8_of w3
  obtain ⟨c, rfl, hc⟩ := u16_of w5
  exact ⟨⟨o, d, a, b, a4, c⟩, ⟨ho, hd1, ha, hb, i32_of w4, hc⟩, rfl, rfl⟩
/-- An instruction by value. -/
theorem open_ins {W : World} {base b0 : Nat} {spare : Nat → Bool} {held : Bool} {r : Go.Reach} {v : Value} {d : DataW H} {p : List MemPlace}
    (hv : Value.okWide Tryd.prog W r b0 26 v) (h : DataW.Trod enc Tryd.prog W base spare held 26 v d p) :
    ∃ x : Ins, x.Ok ∧ v = .agg (insV x) ∧ p = [] ∧ ∀ (W' : World) (b : Nat) (sp : Nat → Bool) (hd : Bool), DataW.Trod enc Tryd.prog W' b sp hd 26 (.agg (insV x)) d [] := by
  obtain ⟨cs, rfl, _⟩ := okWide_struct Tryd.underlying26 hv
  obtain ⟨fuel, hf⟩ := h
  obtain ⟨x, hx, hc, hy⟩ := ins_open hf
  simp only [Prod.mk.injEq] at hy
  obtain ⟨rfl, rfl⟩ := hy
  refine ⟨x, hx, ?_, rfl, fun W' b sp hd => ⟨2, ins_reads x hx W' b sp hd 0⟩⟩
  have : cs = insV x := by
    simp only [Value.cells] at hc
    exact Array.toList_inj.1 hc
  rw [this]
end
end De
end Go.Proofs.YtbgcgomefdblpaaDoor
