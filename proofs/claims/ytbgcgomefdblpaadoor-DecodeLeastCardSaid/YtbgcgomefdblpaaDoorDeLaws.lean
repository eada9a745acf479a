/-
  The layer's four laws, walked over what the program answers.
-/
import Derived.Test.YtbgcgomefdblpaaDoorDeApi
namespace Go.Proofs.YtbgcgomefdblpaaDoor
open Go.RowKit
namespace De
set_option maxHeartbeats 6400000
set_option maxRecDepth 100000

theorem getD_ok (w : Nat) : ((getP w).getD zeroI).Ok := by
  cases h : getP w with
  | none => exact okZ
  | some x => exact get_ok h
theorem erO_cases (o : Option Ins) : ∃ n : Int, erO o 5 = n := ⟨_, rfl⟩
theorem names_full : ∀ o, 1 ≤ o → o ≤ 68 → ¬ (nameP o).toList = [] := by
  intro o h1 h2
  have h : ∀ o : Fin 69, 1 ≤ o.1 → ¬ (nameP o.1).toList = [] := by decide +kernel
  exact h ⟨o, by omega⟩ h1
theorem refl_ins (x : Ins) (hx : x.Ok) (W : World) : (binOp .eql 26 (.agg (insV x)) (.agg (insV x))).run Tryd.prog W = .ok (.bool true) W := by
  have := eql_ins x x hx hx W
  rw [decide_eq_true rfl] at this
  exact this
theorem gets_any {W : World} (A : Api W) {w : Nat} (hw : w < 4294967296) : Calls Tryd.prog 3 #[.int .u32 ((w : Nat) : Int)] W fun e W' => e = .returned (.bool true) ∧ Below W.heap.size W W' := by
  have GA := Lib.hid (fun (V : World) (hV : Below W.heap.size W V) => A.get hw V hV)
  have RA := Lib.hid (fun W => get_any hw W)
  have HL := Lib.hid (fun (V : World) (hV : Below W.heap.size W V) => lives_any A V hV)
  have hok := getD_ok w
  clear A hw
  unfold insO at GA RA
  generalize erO (getP w) 5 = er at GA RA
  generalize (getP w).getD zeroI = x at GA RA hok
  have HE := refl_ins x hok
  clear hok
  unfold insV at GA RA HE
  go_enter Tryd.func3, Tryd.ntmps3
  go_wp2_with fail
  refine (GA.out _ (by first | exact H7.out | exact H6.out | exact H5.out | exact H4.out | exact H3.out | exact H2.out | exact H1.out | exact H0.out | exact Below.refl _ _)).mono ?_
  rintro e w1 ⟨rfl, hb⟩
  have H1 := Lib.hid hb
  clear hb GA
  have H2 := Lib.hid (on H1.out (alloc_below w1 (.cells (insV x) 26)))
  have Xb1 := Lib.hid (InsAt.new w1 x 26)
  clear H1
  go_upto_region 2 with fail
  change Hid (Below W.heap.size W (w1.alloc (.cells #[.int .u8 ((x.op : Nat) : Int), .int .u8 ((x.rd : Nat) : Int), .int .u8 ((x.a : Nat) : Int), .int .u8 ((x.b : Nat) : Int), .int .i32 x.imm, .int .u16 ((x.csr : Nat) : Int)] 26))) at H2
  change Hid (InsAt (w1.alloc (.cells #[.int .u8 ((x.op : Nat) : Int), .int .u8 ((x.rd : Nat) : Int), .int .u8 ((x.a : Nat) : Int), .int .u8 ((x.b : Nat) : Int), .int .i32 x.imm, .int .u16 ((x.csr : Nat) : Int)] 26)) _ x) at Xb1
  generalize w1.alloc (.cells #[.int .u8 ((x.op : Nat) : Int), .int .u8 ((x.rd : Nat) : Int), .int .u8 ((x.a : Nat) : Int), .int .u8 ((x.b : Nat) : Int), .int .i32 x.imm, .int .u16 ((x.csr : Nat) : Int)] 26) = w2 at H2 Xb1  ⊢
  generalize w1.heap.size = b1 at Xb1 ⊢
  go_wp2_with fail
  refine (RA.out _).mono ?_
  rintro e w3 ⟨rfl, hb⟩
  have H3 := Lib.hid (on H2.out hb)
  have Xb1 := Lib.hid (Xb1.out.below hb)
  clear hb RA H2
  have H4 := Lib.hid (on H3.out (alloc_below w3 (.cells (insV x) 26)))
  have Xb3 := Lib.hid (InsAt.new w3 x 26)
  have Xb1 := Lib.hid (Xb1.out.below (alloc_below w3 (.cells (insV x) 26)))
  clear H3
  go_upto_region 3 with fail
  change Hid (Below W.heap.size W (w3.alloc (.cells #[.int .u8 ((x.op : Nat) : Int), .int .u8 ((x.rd : Nat) : Int), .int .u8 ((x.a : Nat) : Int), .int .u8 ((x.b : Nat) : Int), .int .i32 x.imm, .int .u16 ((x.csr : Nat) : Int)] 26))) at H4
  change Hid (InsAt (w3.alloc (.cells #[.int .u8 ((x.op : Nat) : Int), .int .u8 ((x.rd : Nat) : Int), .int .u8 ((x.a : Nat) : Int), .int .u8 ((x.b : Nat) : Int), .int .i32 x.imm, .int .u16 ((x.csr : Nat) : Int)] 26)) _ x) at Xb3
  change Hid (InsAt (w3.alloc (.cells #[.int .u8 ((x.op : Nat) : Int), .int .u8 ((x.rd : Nat) : Int), .int .u8 ((x.a : Nat) : Int), .int .u8 ((x.b : Nat) : Int), .int .i32 x.imm, .int .u16 ((x.csr : Nat) : Int)] 26)) _ _) at Xb1
  generalize w3.alloc (.cells #[.int .u8 ((x.op : Nat) : Int), .int .u8 ((x.rd : Nat) : Int), .int .u8 ((x.a : Nat) : Int), .int .u8 ((x.b : Nat) : Int), .int .i32 x.imm, .int .u16 ((x.csr : Nat) : Int)] 26) = w4 at H4 Xb3 Xb1 ⊢
  generalize w3.heap.size = b3 at Xb3 ⊢
  have c0 := Xb1.out.i0
  have c1 := Xb1.out.i1
  have c2 := Xb1.out.i2
  have c3 := Xb1.out.i3
  have c4 := Xb1.out.i4
  have c5 := Xb1.out.i5
  have d0 := Xb3.out.i0
  have d1 := Xb3.out.i1
  have d2 := Xb3.out.i2
  have d3 := Xb3.out.i3
  have d4 := Xb3.out.i4
  have d5 := Xb3.out.i5
  go_wp2_with fail
  refine (HL.out _ (by first | exact H7.out | exact H6.out | exact H5.out | exact H4.out | exact H3.out | exact H2.out | exact H1.out | exact H0.out | exact Below.refl _ _)).mono ?_
  rintro e w5 ⟨rfl, hb⟩
  have H5 := Lib.hid (on H4.out hb)
  clear hb
  go_wp2_with fail
  go_ret
  exact ⟨rfl, H5.out⟩
theorem back_any {W : World} (A : Api W) {x : Ins} (hx : x.Ok) : Calls Tryd.prog 5 #[.agg (insV x)] W fun e W' => e = .returned (.bool true) ∧ Below W.heap.size W W' := by
  have PA := Lib.hid (fun (V : World) (hV : Below W.heap.size W V) => A.put hx V hV)
  have HL := Lib.hid (fun (V : World) (hV : Below W.heap.size W V) => lives_any A V hV)
  have X0 := Lib.hid (InsAt.new W x 26)
  have H0 := Lib.hid (alloc_below W (.cells (insV x) 26))
  have HE := refl_ins x hx
  cases hp : putP x with
  | none =>
    rw [hp] at PA
    clear A hp
    simp only [Option.getD, erN] at PA
    unfold insV at PA X0 H0 HE ⊢
    go_enter Tryd.func5, Tryd.ntmps5
    go_upto_region 1 with fail
    generalize W.alloc (.cells #[.int .u8 ((x.op : Nat) : Int), .int .u8 ((x.rd : Nat) : Int), .int .u8 ((x.a : Nat) : Int), .int .u8 ((x.b : Nat) : Int), .int .i32 x.imm, .int .u16 ((x.csr : Nat) : Int)] 26) = w0 at X0 H0 ⊢
    have c0 := X0.out.i0
    have c1 := X0.out.i1
    have c2 := X0.out.i2
    have c3 := X0.out.i3
    have c4 := X0.out.i4
    have c5 := X0.out.i5
    go_wp2_with fail
    refine (PA.out _ (by first | exact H7.out | exact H6.out | exact H5.out | exact H4.out | exact H3.out | exact H2.out | exact H1.out | exact H0.out | exact Below.refl _ _)).mono ?_
    rintro e w1 ⟨rfl, hb⟩
    have H1 := Lib.hid (on H0.out hb)
    clear hb PA
    go_wp2_with fail
    refine (HL.out _ (by first | exact H7.out | exact H6.out | exact H5.out | exact H4.out | exact H3.out | exact H2.out | exact H1.out | exact H0.out | exact Below.refl _ _)).mono ?_
    rintro e w2 ⟨rfl, hb⟩
    have H2 := Lib.hid (on H1.out hb)
    clear hb HL
    go_wp2_with fail
    go_ret
    exact ⟨rfl, H2.out⟩
  | some v =>
    obtain ⟨hg, h4⟩ := put_back hp
    have hv : v < 4294967296 := put_lt hp
    rw [hp] at PA
    have GA := Lib.hid (fun (V : World) (hV : Below W.heap.size W V) => A.get hv V hV)
    rw [hg] at GA
    have t4 : ((v : Nat) : Int) % 4 = 3 := by omega
    have t5 : ((((v : Nat) : Int) % 4 == 3) : Bool) = true := by rw [t4]; rfl
    clear A hp hg h4 hv
    simp only [Option.getD, erN, erO, insO] at PA GA
    unfold insV at PA GA X0 H0 HE ⊢
    go_enter Tryd.func5, Tryd.ntmps5
    go_upto_region 1 with fail
    generalize W.alloc (.cells #[.int .u8 ((x.op : Nat) : Int), .int .u8 ((x.rd : Nat) : Int), .int .u8 ((x.a : Nat) : Int), .int .u8 ((x.b : Nat) : Int), .int .i32 x.imm, .int .u16 ((x.csr : Nat) : Int)] 26) = w0 at X0 H0 ⊢
    have c0 := X0.out.i0
    have c1 := X0.out.i1
    have c2 := X0.out.i2
    have c3 := X0.out.i3
    have c4 := X0.out.i4
    have c5 := X0.out.i5
    go_wp2_with fail
    refine (PA.out _ (by first | exact H7.out | exact H6.out | exact H5.out | exact H4.out | exact H3.out | exact H2.out | exact H1.out | exact H0.out | exact Below.refl _ _)).mono ?_
    rintro e w1 ⟨rfl, hb⟩
    have X0 := Lib.hid (X0.out.below hb)
    have H1 := Lib.hid (on H0.out hb)
    clear hb PA H0 c0 c1 c2 c3 c4 c5
    go_wp2_with fail
    refine (GA.out _ (by first | exact H7.out | exact H6.out | exact H5.out | exact H4.out | exact H3.out | exact H2.out | exact H1.out | exact H0.out | exact Below.refl _ _)).mono ?_
    rintro e w2 ⟨rfl, hb⟩
    have X0 := Lib.hid (X0.out.below hb)
    have H2 := Lib.hid (on H1.out hb)
    clear hb GA H1
    have H3 := Lib.hid (on H2.out (alloc_below w2 (.cells (insV x) 26)))
    have Xb2 := Lib.hid (InsAt.new w2 x 26)
    have X0 := Lib.hid (X0.out.below (alloc_below w2 (.cells (insV x) 26)))
    clear H2
    go_upto_region 5 with fail
    change Hid (Below W.heap.size W (w2.alloc (.cells #[.int .u8 ((x.op : Nat) : Int), .int .u8 ((x.rd : Nat) : Int), .int .u8 ((x.a : Nat) : Int), .int .u8 ((x.b : Nat) : Int), .int .i32 x.imm, .int .u16 ((x.csr : Nat) : Int)] 26))) at H3
    change Hid (InsAt (w2.alloc (.cells #[.int .u8 ((x.op : Nat) : Int), .int .u8 ((x.rd : Nat) : Int), .int .u8 ((x.a : Nat) : Int), .int .u8 ((x.b : Nat) : Int), .int .i32 x.imm, .int .u16 ((x.csr : Nat) : Int)] 26)) _ x) at Xb2
    change Hid (InsAt (w2.alloc (.cells #[.int .u8 ((x.op : Nat) : Int), .int .u8 ((x.rd : Nat) : Int), .int .u8 ((x.a : Nat) : Int), .int .u8 ((x.b : Nat) : Int), .int .i32 x.imm, .int .u16 ((x.csr : Nat) : Int)] 26)) _ _) at X0
    generalize w2.alloc (.cells #[.int .u8 ((x.op : Nat) : Int), .int .u8 ((x.rd : Nat) : Int), .int .u8 ((x.a : Nat) : Int), .int .u8 ((x.b : Nat) : Int), .int .i32 x.imm, .int .u16 ((x.csr : Nat) : Int)] 26) = w3 at H3 Xb2 X0 ⊢
    generalize w2.heap.size = b2 at Xb2 ⊢
    have c0 := X0.out.i0
    have c1 := X0.out.i1
    have c2 := X0.out.i2
    have c3 := X0.out.i3
    have c4 := X0.out.i4
    have c5 := X0.out.i5
    have d0 := Xb2.out.i0
    have d1 := Xb2.out.i1
    have d2 := Xb2.out.i2
    have d3 := Xb2.out.i3
    have d4 := Xb2.out.i4
    have d5 := Xb2.out.i5
    go_wp2_with fail
    refine (HL.out _ (by first | exact H7.out | exact H6.out | exact H5.out | exact H4.out | exact H3.out | exact H2.out | exact H1.out | exact H0.out | exact Below.refl _ _)).mono ?_
    rintro e w4 ⟨rfl, hb⟩
    have H4 := Lib.hid (on H3.out hb)
    clear hb
    go_wp2_with fail
    go_ret
    exact ⟨rfl, H4.out⟩
theorem least_law {W : World} (A : Api W) {w : Nat} (hw : w < 4294967296) : Calls Tryd.prog 6 #[.int .u32 ((w : Nat) : Int)] W fun e W' => e = .returned (.bool true) ∧ Below W.heap.size W W' := by
  have GA := Lib.hid (fun (V : World) (hV : Below W.heap.size W V) => A.get hw V hV)
  have HL := Lib.hid (fun (V : World) (hV : Below W.heap.size W V) => lives_any A V hV)
  cases hg : getP w with
  | none =>
    rw [hg] at GA
    clear A hg hw
    simp only [Option.getD, erO, insO] at GA
    have HE := refl_ins zeroI okZ
    have HB := build_none
    unfold insV zeroI at GA HE
    simp only [] at GA HE
    go_enter Tryd.func6, Tryd.ntmps6
    go_wp2_with fail
    refine (GA.out _ (by first | exact H7.out | exact H6.out | exact H5.out | exact H4.out | exact H3.out | exact H2.out | exact H1.out | exact H0.out | exact Below.refl _ _)).mono ?_
    rintro e w1 ⟨rfl, hb⟩
    have H1 := Lib.hid hb
    clear hb GA
    have H2 := Lib.hid (on H1.out (alloc_below w1 (.cells (insV zeroI) 26)))
    have X1 := Lib.hid (InsAt.new w1 zeroI 26)
    clear H1
    go_upto_region 2 with fail
    change Hid (Below W.heap.size W (w1.alloc (.cells #[.int .u8 0, .int .u8 0, .int .u8 0, .int .u8 0, .int .i32 0, .int .u16 0] 26))) at H2
    change Hid (InsAt (w1.alloc (.cells #[.int .u8 0, .int .u8 0, .int .u8 0, .int .u8 0, .int .i32 0, .int .u16 0] 26)) _ zeroI) at X1
    generalize w1.alloc (.cells #[.int .u8 0, .int .u8 0, .int .u8 0, .int .u8 0, .int .i32 0, .int .u16 0] 26) = w2 at H2 X1 ⊢
    generalize w1.heap.size = b1 at X1 ⊢
    have c0 : w2.cell? ⟨b1, 0, none⟩ = some (.int .u8 0) := X1.out.i0
    have c1 : w2.cell? ⟨b1, 1, none⟩ = some (.int .u8 0) := X1.out.i1
    have c2 : w2.cell? ⟨b1, 2, none⟩ = some (.int .u8 0) := X1.out.i2
    have c3 : w2.cell? ⟨b1, 3, none⟩ = some (.int .u8 0) := X1.out.i3
    have c4 : w2.cell? ⟨b1, 4, none⟩ = some (.int .i32 0) := X1.out.i4
    have c5 : w2.cell? ⟨b1, 5, none⟩ = some (.int .u16 0) := X1.out.i5
    have HE : ∀ W : World, (binOp .eql 26 (.agg #[.int .u8 0, .int .u8 0, .int .u8 0, .int .u8 0, .int .i32 0, .int .u16 0]) (.agg #[.int .u8 0, .int .u8 0, .int .u8 0, .int .u8 0, .int .i32 0, .int .u16 0])).run Tryd.prog W = .ok (.bool true) W := HE
    go_wp2_with fail
    refine (HL.out _ (by first | exact H7.out | exact H6.out | exact H5.out | exact H4.out | exact H3.out | exact H2.out | exact H1.out | exact H0.out | exact Below.refl _ _)).mono ?_
    rintro e w3 ⟨rfl, hb⟩
    have H3 := Lib.hid (on H2.out hb)
    clear hb
    go_wp2_with fail
    go_ret
    exact ⟨rfl, H3.out⟩
  | some x =>
    obtain ⟨v, hp, hle, hgv, ho1, ho2⟩ := put_least hw hg
    have hx := get_ok hg
    have hv : v < 4294967296 := put_lt hp
    rw [hg] at GA
    have PA := Lib.hid (fun (V : World) (hV : Below W.heap.size W V) => A.put hx V hV)
    rw [hp] at PA
    have GV := Lib.hid (fun (V : World) (hV : Below W.heap.size W V) => A.get hv V hV)
    rw [hgv] at GV
    have NA := Lib.hid (fun (V : World) (hV : Below W.heap.size W V) => A.name hx.op V hV)
    have HNN : Hid (¬ (nameP x.op).toList = []) := Lib.hid (names_full x.op ho1 ho2)
    have HE := refl_ins x hx
    have l1 : ((v : Nat) : Int) ≤ ((w : Nat) : Int) := by omega
    have l2 : ((x.op : Nat) : Int) ≥ 1 := by omega
    have l3 : (1 : Int) ≤ ((x.op : Nat) : Int) := by omega
    have l4 : ((x.op : Nat) : Int) ≤ 68 := by omega
    clear A hg hw hp hle hgv ho1 ho2 hx hv
    simp only [Option.getD, erN, erO, insO] at GA PA GV
    generalize nameP x.op = nm at NA HNN
    unfold insV at GA PA GV HE
    go_enter Tryd.func6, Tryd.ntmps6
    go_wp2_with fail
    refine (GA.out _ (by first | exact H7.out | exact H6.out | exact H5.out | exact H4.out | exact H3.out | exact H2.out | exact H1.out | exact H0.out | exact Below.refl _ _)).mono ?_
    rintro e w1 ⟨rfl, hb⟩
    have H1 := Lib.hid hb
    clear hb GA
    have H2 := Lib.hid (on H1.out (alloc_below w1 (.cells (insV x) 26)))
    have Xb1 := Lib.hid (InsAt.new w1 x 26)
    clear H1
    go_upto_region 2 with fail
    change Hid (Below W.heap.size W (w1.alloc (.cells #[.int .u8 ((x.op : Nat) : Int), .int .u8 ((x.rd : Nat) : Int), .int .u8 ((x.a : Nat) : Int), .int .u8 ((x.b : Nat) : Int), .int .i32 x.imm, .int .u16 ((x.csr : Nat) : Int)] 26))) at H2
    change Hid (InsAt (w1.alloc (.cells #[.int .u8 ((x.op : Nat) : Int), .int .u8 ((x.rd : Nat) : Int), .int .u8 ((x.a : Nat) : Int), .int .u8 ((x.b : Nat) : Int), .int .i32 x.imm, .int .u16 ((x.csr : Nat) : Int)] 26)) _ x) at Xb1
    generalize w1.alloc (.cells #[.int .u8 ((x.op : Nat) : Int), .int .u8 ((x.rd : Nat) : Int), .int .u8 ((x.a : Nat) : Int), .int .u8 ((x.b : Nat) : Int), .int .i32 x.imm, .int .u16 ((x.csr : Nat) : Int)] 26) = w2 at H2 Xb1  ⊢
    generalize w1.heap.size = b1 at Xb1 ⊢
    have c0 := Xb1.out.i0
    have c1 := Xb1.out.i1
    have c2 := Xb1.out.i2
    have c3 := Xb1.out.i3
    have c4 := Xb1.out.i4
    have c5 := Xb1.out.i5
    go_wp2_with fail
    refine (PA.out _ (by first | exact H7.out | exact H6.out | exact H5.out | exact H4.out | exact H3.out | exact H2.out | exact H1.out | exact H0.out | exact Below.refl _ _)).mono ?_
    rintro e w3 ⟨rfl, hb⟩
    have H3 := Lib.hid (on H2.out hb)
    have Xb1 := Lib.hid (Xb1.out.below hb)
    clear hb PA H2 c0 c1 c2 c3 c4 c5
    go_wp2_with fail
    refine (GV.out _ (by first | exact H7.out | exact H6.out | exact H5.out | exact H4.out | exact H3.out | exact H2.out | exact H1.out | exact H0.out | exact Below.refl _ _)).mono ?_
    rintro e w4 ⟨rfl, hb⟩
    have H4 := Lib.hid (on H3.out hb)
    have Xb1 := Lib.hid (Xb1.out.below hb)
    clear hb GV H3
    have H5 := Lib.hid (on H4.out (alloc_below w4 (.cells (insV x) 26)))
    have Xb4 := Lib.hid (InsAt.new w4 x 26)
    have Xb1 := Lib.hid (Xb1.out.below (alloc_below w4 (.cells (insV x) 26)))
    clear H4
    go_upto_region 6 with fail
    change Hid (Below W.heap.size W (w4.alloc (.cells #[.int .u8 ((x.op : Nat) : Int), .int .u8 ((x.rd : Nat) : Int), .int .u8 ((x.a : Nat) : Int), .int .u8 ((x.b : Nat) : Int), .int .i32 x.imm, .int .u16 ((x.csr : Nat) : Int)] 26))) at H5
    change Hid (InsAt (w4.alloc (.cells #[.int .u8 ((x.op : Nat) : Int), .int .u8 ((x.rd : Nat) : Int), .int .u8 ((x.a : Nat) : Int), .int .u8 ((x.b : Nat) : Int), .int .i32 x.imm, .int .u16 ((x.csr : Nat) : Int)] 26)) _ x) at Xb4
    change Hid (InsAt (w4.alloc (.cells #[.int .u8 ((x.op : Nat) : Int), .int .u8 ((x.rd : Nat) : Int), .int .u8 ((x.a : Nat) : Int), .int .u8 ((x.b : Nat) : Int), .int .i32 x.imm, .int .u16 ((x.csr : Nat) : Int)] 26)) _ _) at Xb1
    generalize w4.alloc (.cells #[.int .u8 ((x.op : Nat) : Int), .int .u8 ((x.rd : Nat) : Int), .int .u8 ((x.a : Nat) : Int), .int .u8 ((x.b : Nat) : Int), .int .i32 x.imm, .int .u16 ((x.csr : Nat) : Int)] 26) = w5 at H5 Xb4 Xb1 ⊢
    generalize w4.heap.size = b4 at Xb4 ⊢
    have c0 := Xb1.out.i0
    have c1 := Xb1.out.i1
    have c2 := Xb1.out.i2
    have c3 := Xb1.out.i3
    have c4 := Xb1.out.i4
    have c5 := Xb1.out.i5
    have d0 := Xb4.out.i0
    have d1 := Xb4.out.i1
    have d2 := Xb4.out.i2
    have d3 := Xb4.out.i3
    have d4 := Xb4.out.i4
    have d5 := Xb4.out.i5
    have hnm := HNN.out
    go_wp2_with fail
    refine (NA.out _ (by first | exact H7.out | exact H6.out | exact H5.out | exact H4.out | exact H3.out | exact H2.out | exact H1.out | exact H0.out | exact Below.refl _ _)).mono ?_
    rintro e w6 ⟨rfl, hb⟩
    have H6 := Lib.hid (on H5.out hb)
    clear hb NA
    go_wp2_with fail
    refine (HL.out _ (by first | exact H7.out | exact H6.out | exact H5.out | exact H4.out | exact H3.out | exact H2.out | exact H1.out | exact H0.out | exact Below.refl _ _)).mono ?_
    rintro e w7 ⟨rfl, hb⟩
    have H7 := Lib.hid (on H6.out hb)
    clear hb
    go_wp2_with fail
    go_ret
    exact ⟨by first | rfl | simp [hnm], H7.out⟩
end De
end Go.Proofs.YtbgcgomefdblpaaDoor
