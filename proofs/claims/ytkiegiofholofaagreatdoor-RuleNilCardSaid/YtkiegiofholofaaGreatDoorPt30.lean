/-
What the statements' own texts come to in layer rule: works answers true, as a fact on one call.
The statement that of no store, and of a zero one, rule is refused, as a fact on the call.
What the statement's own words on package-level variables give: their cells.
A node handed in by value, or in a list: how it is read, and read again.
-/
import Derived.Test.YtkiegiofholofaaGreatDoorPt29
import Derived.Test.YtkiegiofholofaaGreatDoorPt25
import Derived.Test.YtkiegiofholofaaGreatDoorTie
import Derived.Lib.LaidTab
import Derived.Lib.LaidU8
import Derived.Stop.LaidErr
import Derived.LaidMore
import Derived.Test.YtkiegiofholofaaGreatDoorRows
import Derived.Test.YtkiegiofholofaaGreatDoorPt02
import Derived.WalkKit
import Derived.ProofKit
import Derived.OpenShut
import Derived.Lib.SmallJoins
import Derived.Laws.IdiomArrays
import Derived.Below
import Derived.ChangeSame
namespace Go.Proofs.YtkiegiofholofaaGreatDoor
open Go.RowKit Go.Maps Bv Tm Kn Tx
namespace Ru
set_option maxHeartbeats 3200000
set_option maxRecDepth 100000

theorem outL_may {L : List Nd} (h : MayL L) (o : Out) : MayL (outL L o).1 := by
  cases o with
  | no => exact h
  | num i => exact h
  | make y => exact mayL_step h y
  | two v i =>
    unfold outL
    simp only
    split
    · exact mayL_step (mayL_step h _) _
    · exact mayL_step h _
theorem stp_may {L : List Nd} (h : MayL L) (k : Nat) : MayL (stp L k).1 := by
  unfold stp
  split
  · exact h
  split
  · exact h
  split
  · exact h
  split
  · exact outL_may h _
  · exact outL_may h _
theorem step_to {p m k : Nat} {sv : Value} {L L' : List Nd} {W w : World} {a r er : Nat} (S : StoreAt W.heap.size w p m sv L) (hM : MayL L) (hk : k < L.length) (hb : Below W.heap.size W w) (h : stp L k = (L', a, r, er)) :
    Calls Tryz.prog 8 #[.pointer (some ⟨p, 0, none⟩), .int .i64 ((k : Nat) : Int)] w fun e W' => e = .returned (.tuple #[.int .i64 ((a : Nat) : Int), .int .i64 ((r : Nat) : Int), .int .i64 ((er : Nat) : Int)]) ∧ ∃ v, StoreAt W.heap.size W' p m v L' ∧ Below W.heap.size W W' := by
  refine (step_yes S hb.size hM hk).mono ?_
  rintro e W' ⟨he, v, S', K, _⟩
  rw [h] at he S'
  refine ⟨he, v, S', hb.trans (K.below (fun i hi c => ?_) hb.size)⟩
  rcases c with c | c | c
  · have := S.bp; omega
  · have := S.bm; omega
  · have := (S.row.lt i c).1; omega

def t1 : By := [40, 97, 100, 100, 32, 35, 56, 58, 49, 32, 118, 48, 58, 56, 41]
def t2 : By := [40, 120, 111, 114, 32, 118, 48, 58, 56, 32, 118, 48, 58, 56, 41]
def u1 : By := [40, 97, 100, 100, 32, 118, 48, 58, 56, 32, 35, 56, 58, 49, 41]
def u2 : By := [35, 56, 58, 48]
def l1 : List Nd := [⟨1, 8, 0, 0, 0, 1, 0⟩, ⟨2, 8, 0, 0, 0, 0, 0⟩, ⟨8, 8, 0, 1, 0, 0, 0⟩]
def l2 : List Nd := [⟨1, 8, 0, 0, 0, 1, 0⟩, ⟨2, 8, 0, 0, 0, 0, 0⟩, ⟨8, 8, 0, 1, 0, 0, 0⟩, ⟨8, 8, 1, 0, 0, 0, 0⟩]
def l3 : List Nd := [⟨1, 8, 0, 0, 0, 1, 0⟩, ⟨2, 8, 0, 0, 0, 0, 0⟩, ⟨8, 8, 0, 1, 0, 0, 0⟩, ⟨8, 8, 1, 0, 0, 0, 0⟩, ⟨7, 8, 1, 1, 0, 0, 0⟩]
def l4 : List Nd := [⟨1, 8, 0, 0, 0, 1, 0⟩, ⟨2, 8, 0, 0, 0, 0, 0⟩, ⟨8, 8, 0, 1, 0, 0, 0⟩, ⟨8, 8, 1, 0, 0, 0, 0⟩, ⟨7, 8, 1, 1, 0, 0, 0⟩, ⟨1, 8, 0, 0, 0, 0, 0⟩]
theorem g1 : getP [] t1 = (l1, 2, 0) := by decide +kernel
theorem s1 : stp l1 2 = (l2, 3, 3, 0) := by decide +kernel
theorem g2 : getP l2 t2 = (l3, 4, 0) := by decide +kernel
theorem s2 : stp l3 4 = (l4, 5, 5, 0) := by decide +kernel
theorem m1 : MayL l1 := by have := getP_may mayL_nil t1; rw [g1] at this; exact this
theorem m2 : MayL l2 := by have := stp_may m1 2; rw [s1] at this; exact this
theorem m3 : MayL l3 := by have := getP_may m2 t2; rw [g2] at this; exact this
theorem m4 : MayL l4 := by have := stp_may m3 4; rw [s2] at this; exact this
theorem dec1 {n : Nat} (h : n < 10) : dec n = [UInt8.ofNat (48 + n)] := Lib.decDigits_one h
theorem x1 : txt l2 3 = u1 := by
  have d0 := dec1 (n := 0) (by omega)
  have d1 := dec1 (n := 1) (by omega)
  have d8 := dec1 (n := 8) (by omega)
  simp [txt, txtF, bodyT, hd, kidsT, l2, kc, Nd.kid, nm, nameL, d0, d1, d8, u1]
theorem x2 : txt l4 5 = u2 := by
  have d0 := dec1 (n := 0) (by omega)
  have d8 := dec1 (n := 8) (by omega)
  simp [txt, txtF, bodyT, l4, d0, d8, u2]
theorem p1 : putR l2 3 = .tuple #[.string ⟨u1.toArray⟩, .int .i64 0] := by
  unfold putR
  rw [x1, if_pos (by decide)]
theorem p2 : putR l4 5 = .tuple #[.string ⟨u2.toArray⟩, .int .i64 0] := by
  unfold putR
  rw [x2, if_pos (by decide)]

theorem works_any {W : World} (hE : EnvAt (fun i => W.heap.size ≤ i) W) : Calls Tryz.prog 10 #[] W fun e W' => e = .returned (.bool true) ∧ Below W.heap.size W W' := by
  have HE := Lib.hid hE
  clear hE
  go_enter Tryz.func10, Tryz.ntmps10
  go_wp2_with (go_at_call 16; refine (new_at W).mono ?_; rintro e w0 ⟨rfl, S0, hb0⟩; have HS0 := Lib.hid S0; have HB0 := Lib.hid hb0; clear S0 hb0; refine Hid.out ?_)
  refine Lib.hid ?_
  have H1 := Lib.hid (get_to HS0.out HE.out HB0.out (by decide) g1)
  go_wp2_with (go_at_call 22; refine H1.out.mono ?_; rintro e w1 ⟨rfl, v1, S1, hb1⟩; have HS1 := Lib.hid S1; have HB1 := Lib.hid hb1; clear S1 hb1; refine Hid.out ?_)
  refine Lib.hid ?_
  have H2 := Lib.hid (step_to HS1.out m1 (show 2 < l1.length by decide) HB1.out s1)
  go_wp2_with (go_at_call 8; refine H2.out.mono ?_; rintro e w2 ⟨rfl, v2, S2, hb2⟩; have HS2 := Lib.hid S2; have HB2 := Lib.hid hb2; clear S2 hb2; refine Hid.out ?_)
  refine Lib.hid ?_
  have H3 := put_yes HS2.out m2 (env_at HE.out HB2.out) (show 3 < l2.length by decide)
  rw [p1] at H3
  have H3 := Lib.hid H3
  go_wp2_with (go_at_call 12; refine H3.out.mono ?_; rintro e w3 ⟨rfl, hb3⟩; have HB3 := Lib.hid (bel_call HB2.out hb3); have HS3 := Lib.hid (HS2.out.call hb3); clear hb3; refine Hid.out ?_)
  refine Lib.hid ?_
  have H4 := Lib.hid (get_to HS3.out HE.out HB3.out (by decide) g2)
  go_wp2_with (go_at_call 22; refine H4.out.mono ?_; rintro e w4 ⟨rfl, v4, S4, hb4⟩; have HS4 := Lib.hid S4; have HB4 := Lib.hid hb4; clear S4 hb4; refine Hid.out ?_)
  refine Lib.hid ?_
  have H5 := Lib.hid (step_to HS4.out m3 (show 4 < l3.length by decide) HB4.out s2)
  go_wp2_with (go_at_call 8; refine H5.out.mono ?_; rintro e w5 ⟨rfl, v5, S5, hb5⟩; have HS5 := Lib.hid S5; have HB5 := Lib.hid hb5; clear S5 hb5; refine Hid.out ?_)
  refine Lib.hid ?_
  have H6 := put_yes HS5.out m4 (env_at HE.out HB5.out) (show 5 < l4.length by decide)
  rw [p2] at H6
  have H6 := Lib.hid H6
  go_wp2_with (go_at_call 12; refine H6.out.mono ?_; rintro e w6 ⟨rfl, hb6⟩; have HB6 := Lib.hid (bel_call HB5.out hb6); clear hb6; refine Hid.out ?_)
  refine Lib.hid ?_
  unfold u1 u2
  go_wp2_with fail
  go_ret
  exact ⟨rfl, HB6.out⟩
end Ru
end Go.Proofs.YtkiegiofholofaaGreatDoor

namespace Go.Proofs.YtkiegiofholofaaGreatDoor
open Go.RowKit Go.Maps Bv Tm Kn Tx
namespace Ru
set_option maxHeartbeats 3200000
set_option maxRecDepth 100000

theorem noneAt_zeroR (W : World) : NoneAt (W.alloc (.cells Tryz.zeroCells57 57)) (.pointer (some ⟨W.heap.size, 0, none⟩)) := by
  refine .inr ⟨_, rfl, ?_⟩
  have h := (MapKept.heap_alloc W (.cells Tryz.zeroCells57 57)).1
  unfold World.cell?
  rw [h, zero_is]
  rfl

theorem runil_true (id : Int) {W : World} (hE : EnvAt (fun i => W.heap.size ≤ i) W) :
    Calls Tryz.prog 6 #[.int .i64 id, .bool true] W fun e W' => e = .returned (.bool true) ∧ Below W.heap.size W W' := by
  have HE := Lib.hid hE
  have HN0 : Hid (NoneAt (W.alloc (.cells Tryz.zeroCells57 57)) (.pointer (some ⟨W.heap.size, 0, none⟩))) := Lib.hid (noneAt_zeroR W)
  have HB0 : Hid (Below W.heap.size W (W.alloc (.cells Tryz.zeroCells57 57))) := Lib.hid (bel_alloc (Below.refl W.heap.size W) _)
  clear hE
  go_enter Tryz.func6, Tryz.ntmps6
  go_wp2_with (first
    | (go_at_call 8; refine (step_none _ id _ HN0.out).mono ?_; rintro e v1 ⟨rfl, hb1⟩; have HB2 := Lib.hid (bel_call HB0.out hb1); clear hb1)
    | (go_at_call 10; refine (works_any (env_at HE.out HB2.out)).mono ?_; rintro e v3 ⟨rfl, hb3⟩))
  go_ret
  exact ⟨rfl, bel_call HB2.out hb3⟩

theorem runil_false (id : Int) {W : World} (hE : EnvAt (fun i => W.heap.size ≤ i) W) :
    Calls Tryz.prog 6 #[.int .i64 id, .bool false] W fun e W' => e = .returned (.bool true) ∧ Below W.heap.size W W' := by
  have HE := Lib.hid hE
  have HN0 : Hid (NoneAt W (.pointer none)) := Lib.hid (.inl rfl)
  have HB0 : Hid (Below W.heap.size W W) := Lib.hid (Below.refl _ _)
  clear hE
  go_enter Tryz.func6, Tryz.ntmps6
  go_wp2_with (first
    | (go_at_call 8; refine (step_none _ id _ HN0.out).mono ?_; rintro e v1 ⟨rfl, hb1⟩; have HB2 := Lib.hid (bel_call HB0.out hb1); clear hb1)
    | (go_at_call 10; refine (works_any (env_at HE.out HB2.out)).mono ?_; rintro e v3 ⟨rfl, hb3⟩))
  go_ret
  exact ⟨rfl, bel_call HB2.out hb3⟩
end Ru
end Go.Proofs.YtkiegiofholofaaGreatDoor

namespace Go.Proofs.YtkiegiofholofaaGreatDoor
open Go.RowKit Go.Maps Bv Tm
namespace Tx
set_option maxHeartbeats 1600000
set_option maxRecDepth 100000

def laidL : List (String × DataW Unit) := [("math/bits.deBruijn32tab", Rows.laid_math_bits_deBruijn32tab), ("math/bits.deBruijn64tab", Rows.laid_math_bits_deBruijn64tab), ("internal/strconv.uint64pow10", Rows.laid_internal_strconv_uint64pow10), ("strconv.ErrRange", Rows.laid_strconv_ErrRange), ("strconv.ErrSyntax", Rows.laid_strconv_ErrSyntax), ("augury/text.names", Rows.laid_augury_text_names)]

theorem gER : Tryz.prog.globalNamed "strconv.ErrRange" = some 5 := by kernel_rfl
theorem gES : Tryz.prog.globalNamed "strconv.ErrSyntax" = some 4 := by kernel_rfl
theorem gNM : Tryz.prog.globalNamed "augury/text.names" = some 0 := by kernel_rfl
theorem yER : (Tryz.prog.globals[5]?).map (·.type) = some 195 := by kernel_rfl
theorem yES : (Tryz.prog.globals[4]?).map (·.type) = some 195 := by kernel_rfl
theorem yPW : (Tryz.prog.globals[1]?).map (·.type) = some 201 := by kernel_rfl
theorem yNM : (Tryz.prog.globals[0]?).map (·.type) = some 141 := by kernel_rfl
theorem cU : Tryz.prog.cellsOf 34 = 1 := by kernel_rfl
theorem cP : Tryz.prog.cellsOf 201 = 20 := by kernel_rfl
theorem cS : Tryz.prog.cellsOf 9 = 1 := by kernel_rfl
theorem cE : Tryz.prog.cellsOf 238 = 1 := by kernel_rfl
theorem starE : "*" ++ "errors.errorString" = "*errors.errorString" := by decide
theorem rowE (u : TypeId) (h : Tryz.prog.typeName? 3 u = some "*errors.errorString") : u = 236 :=
  typeName_ptr_named (nm := "errors.errorString") (by rw [starE]; kernel_rfl) (by kernel_rfl) (by decide) u (by rw [starE]; exact h)

theorem names_data : (Rows.laid_augury_text_names : DataW Unit) = .agg (nameL.map fun l => .lit (.string l)) := rfl

theorem env_of_laid {W : World} (h : laidMet Tryz.prog laidL W) : EnvAt (fun i => W.heap.size ≤ i) W := by
  have h2 : laidMet Tryz.prog (("internal/strconv.uint64pow10", Lib.tabData .u64 Lib.pow10Tab) :: laidL.tail.tail.tail) W := h.tail.tail
  have hp : Lib.TabIs Tryz.prog W "internal/strconv.uint64pow10" .u64 Lib.pow10Tab := Lib.tabIs_of_head gpow yPW Tryz.underlying201 Tryz.underlying34 cU cP h2
  obtain ⟨a3, s3, hv3, -, -, -⟩ := laid_sentinel (h.tail.tail.tail) gER yER Tryz.underlying195 rowE Tryz.underlying236 Tryz.underlying238 rfl rfl Tryz.underlying9 cE cS
  obtain ⟨a4, s4, hv4, -, -, -⟩ := laid_sentinel (h.tail.tail.tail.tail) gES yES Tryz.underlying195 rowE Tryz.underlying236 Tryz.underlying238 rfl rfl Tryz.underlying9 cE cS
  have cer : W.cell? ⟨5, 0, none⟩ = some (.iface 236 (.pointer (some a3))) := by have h0 := World.var?_cell gER hv3 0; simpa using h0
  have ces : W.cell? ⟨4, 0, none⟩ = some (.iface 236 (.pointer (some a4))) := by have h0 := World.var?_cell gES hv4 0; simpa using h0
  have cpw := Lib.TabIs.cell hp gpow 0 (by decide)
  have lpw := World.block_lt_of_cell? W _ cpw
  have hnames : ∀ (o : Nat) (s : By), nameL[o]? = some s → W.cell? ⟨0, o, none⟩ = some (.string ⟨s.toArray⟩) := by
    intro o s hs
    have ho : o < 26 := (List.getElem?_eq_some_iff.1 hs).1
    obtain ⟨g, t, cs, fuel, p, hg, ht, hv, hd⟩ := Lib.laidMet.reads h (n := "augury/text.names") (d := Rows.laid_augury_text_names) (by unfold laidL; simp)
    obtain rfl := Option.some.inj (gNM.symm.trans hg)
    obtain rfl := Option.some.inj (yNM.symm.trans ht)
    rw [names_data] at hd
    obtain ⟨f2, d, q, hd1, hd2⟩ := Lib.array_elem Tryz.underlying141 hd o ho
    rw [cS] at hd2
    obtain ⟨sv, hcs, hx, _⟩ := DataW.trod_string Tryz.underlying9 hd2
    have hds : d = .lit (.string s) := by
      rw [List.getElem?_map, hs] at hd1
      simpa using hd1.symm
    rw [hds] at hx
    have hsv : sv.data.toList = s := by
      have h9 := hx.symm
      simp at h9
      exact h9.1
    have hat : cs.toList[o]? = some (.string sv) := by
      have := congrArg (·[0]?) hcs
      simpa [List.getElem?_take, List.getElem?_drop] using this
    have hc := World.var?_cell gNM hv o
    rw [hc]
    have : cs[o]? = some (.string sv) := by simpa using hat
    rw [this, ← hsv]
  have lnm := World.block_lt_of_cell? W _ (hnames 0 [] rfl)
  have les := World.block_lt_of_cell? W _ ces
  have ler := World.block_lt_of_cell? W _ cer
  exact ⟨hnames, hp, ⟨_, _, ces⟩, ⟨_, _, cer⟩, lpw, fun c => absurd (Nat.lt_of_lt_of_le lnm c) (Nat.lt_irrefl _), fun c => absurd (Nat.lt_of_lt_of_le lpw c) (Nat.lt_irrefl _), fun c => absurd (Nat.lt_of_lt_of_le les c) (Nat.lt_irrefl _), fun c => absurd (Nat.lt_of_lt_of_le ler c) (Nat.lt_irrefl _)⟩
end Tx
end Go.Proofs.YtkiegiofholofaaGreatDoor

namespace Go.Proofs.YtkiegiofholofaaGreatDoor
open Go.ChangeShapes Go.WideShapes Go.ChangeAt Go.RowKit Go.Joins Bv
namespace Tm
set_option maxHeartbeats 400000
set_option maxRecDepth 100000

theorem ownk : ownKnob Tryz.prog.godebug = none := by kernel_rfl

section
variable {H : Type} {enc : TypeId × Value → H} {P : Program}
/-- The row's last step, where the arguments hold no memory and the call has made new blocks alone. -/
theorem post_new {f : Func} {s : ChangeSpec} {W W' : World} {args : Array Value} {v : Value} {ds : List (DataW H)}
    (hW : DataW.Whole enc P f.params.toList s.vars false W args.toList ds [] [])
    (hres : ∀ (b : Nat) (sp : Nat → Bool) (hd : Bool), DataW.TrodAll enc P W' b sp hd f.resultTypes.toList (v.resultList f.resultTypes.size) (s.fn H (ds ++ [])).results [])
    (hargs : ∀ sp : Nat → Bool, DataW.TrodAll enc P W' 0 sp true f.params.toList args.toList (s.fn H (ds ++ [])).args [])
    (hvars : ∀ sp : Nat → Bool, DataW.TrodVars enc P W' sp s.vars (s.fn H (ds ++ [])).vars []) (hb : Below W.heap.size W W') :
    s.post enc P f false true false false W args v W' :=
  ⟨ds, [], [], [], [], [], hW, hres _ _ _, hargs _, hvars _, hb.frame _, fun h => by cases h⟩
end

section
variable {H : Type} {enc : TypeId × Value → H}

def Nd.datum {H : Type} (x : Nd) : DataW H := .agg [.lit (.int .u8 x.o), .lit (.int .u8 x.w), .agg [.lit (.int .i64 x.k0), .lit (.int .i64 x.k1), .lit (.int .i64 x.k2)], .lit (.int .u64 x.n), .lit (.int .u8 x.l)]

theorem nd_reads (x : Nd) (hx : x.Ok) (W : World) (base : Nat) (sp : Nat → Bool) (hd : Bool) (n : Nat) : DataW.trod enc Tryz.prog W base sp hd (n + 3) 36 x.cells.toList = some (x.datum, []) := by
  have a0 := wf_u8 hx.o
  have a1 := wf_u8 hx.w
  have a2 := wf_i64 hx.k0
  have a3 := wf_i64 hx.k1
  have a4 := wf_i64 hx.k2
  have a5 := wf_u64 hx.n
  have a6 := wf_u8 hx.l
  simp [DataW.trod, Tryz.underlying36, Tryz.underlying33, Tryz.underlying32, Tryz.underlying5, Tryz.underlying3, Tryz.underlying34, cells_nd, cells_kids, cells_op, cells_u8, cells_int, cells_u64,
    Nd.cells, Nd.datum, List.range, List.range.loop, a0, a1, a2, a3, a4, a5, a6]

theorem u8_of {a : Int} (h : (Lit.int .u8 a).wf = true) : ∃ n : Nat, a = (n : Int) ∧ n ≤ 255 := by
  simp only [Lit.wf, IntKind.min, IntKind.max, IntKind.signed, IntKind.bits, Bool.and_eq_true] at h
  obtain ⟨n, rfl⟩ := Int.eq_ofNat_of_zero_le (a := a) (by simpa using h.1)
  exact ⟨n, rfl, by have := h.2; simp at this; omega⟩
theorem u64_of {a : Int} (h : (Lit.int .u64 a).wf = true) : ∃ n : Nat, a = (n : Int) ∧ n < 18446744073709551616 := by
  simp only [Lit.wf, IntKind.min, IntKind.max, IntKind.signed, IntKind.bits, Bool.and_eq_true] at h
  obtain ⟨n, rfl⟩ := Int.eq_ofNat_of_zero_le (a := a) (by simpa using h.1)
  exact ⟨n, rfl, by have := h.2; simp at this; omega⟩
theorem i64_of {a : Int} (h : (Lit.int .i64 a).wf = true) : I64 a := by
  simp only [Lit.wf, IntKind.min, IntKind.max, IntKind.signed, IntKind.bits, Bool.and_eq_true] at h
  have h1 := h.1
  have h2 := h.2
  simp at h1 h2
  exact ⟨by omega, by omega⟩

theorem nd_open {W : World} {base : Nat} {sp : Nat → Bool} {hd : Bool} {fuel : Nat} {cs : List Value} {y : DataW H × List MemPlace} (h : DataW.trod enc Tryz.prog W base sp hd fuel 36 cs = some y) :
    ∃ x : Nd, x.Ok ∧ cs = x.cells.toList ∧ y = (x.datum, []) := by
  obtain ⟨xs, n, _, rfl, hl, hlen, hf⟩ := DataW.trod_struct Tryz.underlying36 h
  rw [cells_nd] at hl
  match cs, hl with
  | [c0, c1, c2, c3, c4, c5, c6], _ =>
  match xs, hlen with
  | [y0, y1, y2, y3, y4], _ =>
  have h0 := hf 0 _ rfl
  have h1 := hf 1 _ rfl
  have h2 := hf 2 _ rfl
  have h3 := hf 3 _ rfl
  have h4 := hf 4 _ rfl
  simp [cells_op, cells_u8, cells_kids, cells_u64] at h0 h1 h2 h3 h4
  obtain ⟨a0, e0, z0, w0⟩ := DataW.trod_int Tryz.underlying32 h0
  obtain ⟨a1, e1, z1, w1⟩ := DataW.trod_int Tryz.underlying5 h1
  obtain ⟨t0, t1, t2, n2, z2, k0, k1, k2⟩ := trod_array3 Tryz.underlying33 cells_int h2
  obtain ⟨b0, f0, v0, u0⟩ := DataW.trod_int Tryz.underlying3 k0
  obtain ⟨b1, f1, v1, u1⟩ := DataW.trod_int Tryz.underlying3 k1
  obtain ⟨b2, f2, v2, u2⟩ := DataW.trod_int Tryz.underlying3 k2
  obtain ⟨a3, e3, z3, w3⟩ := DataW.trod_int Tryz.underlying34 h3
  obtain ⟨a4, e4, z4, w4⟩ := DataW.trod_int Tryz.underlying5 h4
  simp only [List.cons.injEq, and_true] at e0 e1 f0 f1 f2 e3 e4
  subst e0 e1 f0 f1 f2 e3 e4
  subst v0 v1 v2
  subst z0 z1 z2 z3 z4
  obtain ⟨o, rfl, ho⟩ := u8_of w0
  obtain ⟨w, rfl, hw⟩ := u8_of w1
  obtain ⟨m, rfl, hm⟩ := u64_of w3
  obtain ⟨l, rfl, hl⟩ := u8_of w4
  exact ⟨⟨o, w, b0, b1, b2, m, l⟩, ⟨ho, hw, i64_of u0, i64_of u1, i64_of u2, hm, hl⟩, rfl, rfl⟩

/-- A node by value. -/
theorem open_nd {W : World} {base b0 : Nat} {spare : Nat → Bool} {held : Bool} {r : Go.Reach} {v : Value} {d : DataW H} {p : List MemPlace}
    (hv : Value.okWide Tryz.prog W r b0 36 v) (h : DataW.Trod enc Tryz.prog W base spare held 36 v d p) :
    ∃ x : Nd, x.Ok ∧ v = x.val ∧ p = [] ∧ ∀ (W' : World) (b : Nat) (sp : Nat → Bool) (hd : Bool), DataW.Trod enc Tryz.prog W' b sp hd 36 x.val d [] := by
  obtain ⟨cs, rfl, _⟩ := okWide_struct Tryz.underlying36 hv
  obtain ⟨fuel, hf⟩ := h
  obtain ⟨x, hx, hc, hy⟩ := nd_open hf
  simp only [Prod.mk.injEq] at hy
  obtain ⟨rfl, rfl⟩ := hy
  refine ⟨x, hx, ?_, rfl, fun W' b sp hd => ⟨3, nd_reads x hx W' b sp hd 0⟩⟩
  have : cs = x.cells := by
    simp only [Value.cells] at hc
    exact Array.toList_inj.1 hc
  rw [this]
  rfl
end
end Tm
end Go.Proofs.YtkiegiofholofaaGreatDoor
