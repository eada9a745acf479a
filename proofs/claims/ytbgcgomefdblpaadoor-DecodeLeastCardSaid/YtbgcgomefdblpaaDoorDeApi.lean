/-
  What the program's Get, Put and Name answer (Api): what the statements of the layer are walked over; the law's small examples.
-/
import Derived.Test.YtbgcgomefdblpaaDoorDeIns
import Derived.Test.YtbgcgomefdblpaaDoorDePut
import Derived.Test.YtbgcgomefdblpaaDoorDeName
namespace Go.Proofs.YtbgcgomefdblpaaDoor
open Go.RowKit
namespace De
set_option maxHeartbeats 3200000
set_option maxRecDepth 100000

/-- Over a world: what the functions answer in each world behind it. -/
structure Api (B : World) : Prop where
  get : ∀ {w : Nat} (_ : w < 4294967296) (W : World) (_ : Below B.heap.size B W), Calls Tryd.prog 7 #[.int .u32 ((w : Nat) : Int)] W fun e W' => e = .returned (.tuple #[.agg (insO (getP w)), .int .i64 (erO (getP w) 5)]) ∧ Below W.heap.size W W'
  put : ∀ {x : Ins} (_ : x.Ok) (W : World) (_ : Below B.heap.size B W), Calls Tryd.prog 10 #[.agg (insV x)] W fun e W' => e = .returned (.tuple #[.int .u32 (((putP x).getD 0 : Nat) : Int), .int .i64 (erN (putP x) 2)]) ∧ Below W.heap.size W W'
  name : ∀ {o : Nat} (_ : o ≤ 255) (W : World) (_ : Below B.heap.size B W), Calls Tryd.prog 12 #[.int .u8 ((o : Nat) : Int)] W fun e W' => e = .returned (.string (nameP o)) ∧ Below W.heap.size W W'
def exA : Ins := ⟨10, 1, 0, 0, 5, 0⟩
def exB : Ins := ⟨22, 0, 1, 2, -4, 0⟩
theorem getA : getP 5243027 = some exA := by decide +kernel
theorem getB : getP 4263546595 = some exB := by decide +kernel
theorem get0 : getP 0 = none := by decide +kernel
theorem putA : putP exA = some 5243027 := by decide +kernel
theorem nameL : nameP 46 = ⟨#[108, 114, 46, 119]⟩ := by decide +kernel
theorem okA : exA.Ok := ⟨by decide, by decide, by decide, by decide, by decide, by decide⟩
theorem okB : exB.Ok := ⟨by decide, by decide, by decide, by decide, by decide, by decide⟩
theorem okZ : zeroI.Ok := ⟨by decide, by decide, by decide, by decide, by decide, by decide⟩
theorem buildA (w : World) : (Instr.build 26 #[(0, .int .u8 10), (1, .int .u8 1), (4, .int .i32 5)]).run Tryd.prog w = .ok (.agg #[.int .u8 10, .int .u8 1, .int .u8 0, .int .u8 0, .int .i32 5, .int .u16 0]) w := run_build w _ _ _ (by kernel_rfl)
theorem buildB (w : World) : (Instr.build 26 #[(0, .int .u8 22), (2, .int .u8 1), (3, .int .u8 2), (4, .int .i32 (-4))]).run Tryd.prog w = .ok (.agg #[.int .u8 22, .int .u8 0, .int .u8 1, .int .u8 2, .int .i32 (-4), .int .u16 0]) w := run_build w _ _ _ (by kernel_rfl)
theorem eqlA (W : World) : (binOp .eql 26 (.agg #[.int .u8 10, .int .u8 1, .int .u8 0, .int .u8 0, .int .i32 5, .int .u16 0]) (.agg #[.int .u8 10, .int .u8 1, .int .u8 0, .int .u8 0, .int .i32 5, .int .u16 0])).run Tryd.prog W = .ok (.bool true) W := eql_ins exA exA okA okA W
theorem eqlB (W : World) : (binOp .eql 26 (.agg #[.int .u8 22, .int .u8 0, .int .u8 1, .int .u8 2, .int .i32 (-4), .int .u16 0]) (.agg #[.int .u8 22, .int .u8 0, .int .u8 1, .int .u8 2, .int .i32 (-4), .int .u16 0])).run Tryd.prog W = .ok (.bool true) W := eql_ins exB exB okB okB W
theorem lives_any {B : World} (A : Api B) (W : World) (hB : Below B.heap.size B W) : Calls Tryd.prog 9 #[] W fun e w => e = .returned (.bool true) ∧ Below W.heap.size W w := by
  have GA : Hid (∀ W : World, Below B.heap.size B W → Calls Tryd.prog 7 #[.int .u32 5243027] W fun e w => e = .returned (.tuple #[.agg #[.int .u8 10, .int .u8 1, .int .u8 0, .int .u8 0, .int .i32 5, .int .u16 0], .int .i64 0]) ∧ Below W.heap.size W w) := Lib.hid fun W hW => (A.get (w := 5243027) (by decide) W hW).mono fun e w h => by rw [getA] at h; exact h
  have GB : Hid (∀ W : World, Below B.heap.size B W → Calls Tryd.prog 7 #[.int .u32 4263546595] W fun e w => e = .returned (.tuple #[.agg #[.int .u8 22, .int .u8 0, .int .u8 1, .int .u8 2, .int .i32 (-4), .int .u16 0], .int .i64 0]) ∧ Below W.heap.size W w) := Lib.hid fun W hW => (A.get (w := 4263546595) (by decide) W hW).mono fun e w h => by rw [getB] at h; exact h
  have G0 : Hid (∀ W : World, Below B.heap.size B W → Calls Tryd.prog 7 #[.int .u32 0] W fun e w => e = .returned (.tuple #[.agg #[.int .u8 0, .int .u8 0, .int .u8 0, .int .u8 0, .int .i32 0, .int .u16 0], .int .i64 5]) ∧ Below W.heap.size W w) := Lib.hid fun W hW => (A.get (w := 0) (by decide) W hW).mono fun e w h => by rw [get0] at h; exact h
  have PA : Hid (∀ W : World, Below B.heap.size B W → Calls Tryd.prog 10 #[.agg #[.int .u8 10, .int .u8 1, .int .u8 0, .int .u8 0, .int .i32 5, .int .u16 0]] W fun e w => e = .returned (.tuple #[.int .u32 5243027, .int .i64 0]) ∧ Below W.heap.size W w) := Lib.hid fun W hW => (A.put okA W hW).mono fun e w h => by rw [putA] at h; exact h
  have NL : Hid (∀ W : World, Below B.heap.size B W → Calls Tryd.prog 12 #[.int .u8 46] W fun e w => e = .returned (.string ⟨#[108, 114, 46, 119]⟩) ∧ Below W.heap.size W w) := Lib.hid fun W hW => (A.name (o := 46) (by decide) W hW).mono fun e w h => by rw [nameL] at h; exact h
  have HBA := buildA
  have HBB := buildB
  have HEA := eqlA
  have HEB := eqlB
  have HB := Lib.hid hB
  clear A hB
  go_enter Tryd.func9, Tryd.ntmps9
  go_wp2_with fail
  refine (GA.out _ (by exact HB.out)).mono ?_
  rintro e w1 ⟨rfl, hb1⟩
  have H1 := Lib.hid (on hb1 (alloc_below w1 (.cells (insV exA) 26)))
  have X1 := Lib.hid (InsAt.new w1 exA 26)
  clear GA hb1
  go_upto_region 2 with fail
  change Hid (Below W.heap.size W (w1.alloc (.cells #[.int .u8 10, .int .u8 1, .int .u8 0, .int .u8 0, .int .i32 5, .int .u16 0] 26))) at H1
  change Hid (InsAt (w1.alloc (.cells #[.int .u8 10, .int .u8 1, .int .u8 0, .int .u8 0, .int .i32 5, .int .u16 0] 26)) _ exA) at X1
  generalize w1.alloc (.cells #[.int .u8 10, .int .u8 1, .int .u8 0, .int .u8 0, .int .i32 5, .int .u16 0] 26) = w2 at H1 X1 ⊢
  generalize w1.heap.size = b1 at X1 ⊢
  go_wp2_with fail
  refine (GB.out _ (by exact on HB.out H1.out)).mono ?_
  rintro e w3 ⟨rfl, hb3⟩
  have H3 := Lib.hid (on (on H1.out hb3) (alloc_below w3 (.cells (insV exB) 26)))
  have X3 := Lib.hid (InsAt.new w3 exB 26)
  have X1 := Lib.hid ((X1.out.below hb3).below (alloc_below w3 (.cells (insV exB) 26)))
  clear GB hb3 H1
  go_upto_region 3 with fail
  change Hid (Below W.heap.size W (w3.alloc (.cells #[.int .u8 22, .int .u8 0, .int .u8 1, .int .u8 2, .int .i32 (-4), .int .u16 0] 26))) at H3
  change Hid (InsAt (w3.alloc (.cells #[.int .u8 22, .int .u8 0, .int .u8 1, .int .u8 2, .int .i32 (-4), .int .u16 0] 26)) _ exB) at X3
  change Hid (InsAt (w3.alloc (.cells #[.int .u8 22, .int .u8 0, .int .u8 1, .int .u8 2, .int .i32 (-4), .int .u16 0] 26)) _ exA) at X1
  generalize w3.alloc (.cells #[.int .u8 22, .int .u8 0, .int .u8 1, .int .u8 2, .int .i32 (-4), .int .u16 0] 26) = w4 at H3 X3 X1 ⊢
  generalize w3.heap.size = b3 at X3 ⊢
  go_wp2_with fail
  refine (G0.out _ (by exact on HB.out H3.out)).mono ?_
  rintro e w5 ⟨rfl, hb5⟩
  have H5 := Lib.hid (on (on H3.out hb5) (alloc_below w5 (.cells #[.int .u8 0, .int .u8 0, .int .u8 0, .int .u8 0, .int .i32 0, .int .u16 0] 26)))
  have X1 := Lib.hid ((X1.out.below hb5).below (alloc_below w5 (.cells #[.int .u8 0, .int .u8 0, .int .u8 0, .int .u8 0, .int .i32 0, .int .u16 0] 26)))
  have X3 := Lib.hid ((X3.out.below hb5).below (alloc_below w5 (.cells #[.int .u8 0, .int .u8 0, .int .u8 0, .int .u8 0, .int .i32 0, .int .u16 0] 26)))
  clear G0 hb5 H3
  go_upto_region 4 with fail
  generalize w5.alloc (.cells #[.int .u8 0, .int .u8 0, .int .u8 0, .int .u8 0, .int .i32 0, .int .u16 0] 26) = w6 at H5 X3 X1 ⊢
  have c0 : w6.cell? ⟨b1, 0, none⟩ = some (.int .u8 10) := X1.out.i0
  have c1 : w6.cell? ⟨b1, 1, none⟩ = some (.int .u8 1) := X1.out.i1
  have c2 : w6.cell? ⟨b1, 2, none⟩ = some (.int .u8 0) := X1.out.i2
  have c3 : w6.cell? ⟨b1, 3, none⟩ = some (.int .u8 0) := X1.out.i3
  have c4 : w6.cell? ⟨b1, 4, none⟩ = some (.int .i32 5) := X1.out.i4
  have c5 : w6.cell? ⟨b1, 5, none⟩ = some (.int .u16 0) := X1.out.i5
  go_wp2_with fail
  refine (PA.out _ (by exact on HB.out H5.out)).mono ?_
  rintro e w7 ⟨rfl, hb7⟩
  have H7 := Lib.hid (on H5.out hb7)
  have X1 := Lib.hid (X1.out.below hb7)
  have X3 := Lib.hid (X3.out.below hb7)
  clear c0 c1 c2 c3 c4 c5 hb7 PA H5
  have c0 : w7.cell? ⟨b1, 0, none⟩ = some (.int .u8 10) := X1.out.i0
  have c1 : w7.cell? ⟨b1, 1, none⟩ = some (.int .u8 1) := X1.out.i1
  have c2 : w7.cell? ⟨b1, 2, none⟩ = some (.int .u8 0) := X1.out.i2
  have c3 : w7.cell? ⟨b1, 3, none⟩ = some (.int .u8 0) := X1.out.i3
  have c4 : w7.cell? ⟨b1, 4, none⟩ = some (.int .i32 5) := X1.out.i4
  have c5 : w7.cell? ⟨b1, 5, none⟩ = some (.int .u16 0) := X1.out.i5
  have d0 : w7.cell? ⟨b3, 0, none⟩ = some (.int .u8 22) := X3.out.i0
  have d1 : w7.cell? ⟨b3, 1, none⟩ = some (.int .u8 0) := X3.out.i1
  have d2 : w7.cell? ⟨b3, 2, none⟩ = some (.int .u8 1) := X3.out.i2
  have d3 : w7.cell? ⟨b3, 3, none⟩ = some (.int .u8 2) := X3.out.i3
  have d4 : w7.cell? ⟨b3, 4, none⟩ = some (.int .i32 (-4)) := X3.out.i4
  have d5 : w7.cell? ⟨b3, 5, none⟩ = some (.int .u16 0) := X3.out.i5
  go_wp2_with fail
  refine (NL.out _ (by exact on HB.out H7.out)).mono ?_
  rintro e w8 ⟨rfl, hb8⟩
  have H8 := Lib.hid (on H7.out hb8)
  clear hb8 NL
  go_wp2_with fail
  go_ret
  exact ⟨rfl, H8.out⟩
end De
end Go.Proofs.YtbgcgomefdblpaaDoor
