/-
  DecodePuts, walked over what the program answers.
-/
import Derived.Test.YtbgcgomefdblpaaDoorDeLaws
import Derived.Deep.RegionHeld3
namespace Go.Proofs.YtbgcgomefdblpaaDoor
open Go.RowKit
namespace De
set_option maxHeartbeats 6400000
set_option maxRecDepth 100000

/-- What holds while both are asked. -/
def PsAt (W w : World) (x : Ins) : Prop := Below W.heap.size W w ∧ InsAt w W.heap.size x
theorem PsAt.on {W w w' : World} {x : Ins} (h : PsAt W w x) (hb : Below w.heap.size w w') : PsAt W w' x := ⟨De.on h.1 hb, h.2.below hb⟩
theorem PsAt.drew {W w : World} {x : Ins} (h : PsAt W w x) : PsAt W w.drew x := h.on (below_drewN (Below.refl _ w) 1)
theorem puts_any {W : World} (A : Api W) {x : Ins} (hx : x.Ok) : Calls Tryd.prog 4 #[.agg (insV x)] W fun e W' => e = .returned (.bool true) ∧ Below W.heap.size W W' := by
  have PA := Lib.hid (fun (V : World) (hV : Below W.heap.size W V) => A.put hx V hV)
  have PR := Lib.hid (fun W => put_any hx W)
  have NA := Lib.hid (fun (V : World) (hV : Below W.heap.size W V) => A.name hx.op V hV)
  have NR := Lib.hid (fun W => name_any (o := x.op) W)
  have HL := Lib.hid (fun (V : World) (hV : Below W.heap.size W V) => lives_any A V hV)
  have X0 : Hid (PsAt W (W.alloc (.cells (insV x) 26)) x) := Lib.hid ⟨alloc_below W _, InsAt.new W x _⟩
  clear A hx
  generalize (putP x).getD 0 = n at PA PR
  generalize erN (putP x) 2 = er at PA PR
  generalize nameP x.op = nm at NA NR
  unfold insV at PA PR X0 ⊢
  go_enter Tryd.func4, Tryd.ntmps4
  go_upto_region 1 with fail
  generalize W.alloc (.cells #[.int .u8 ((x.op : Nat) : Int), .int .u8 ((x.rd : Nat) : Int), .int .u8 ((x.a : Nat) : Int), .int .u8 ((x.b : Nat) : Int), .int .i32 x.imm, .int .u16 ((x.csr : Nat) : Int)] 26) = w0 at X0 ⊢
  have c0 := X0.out.2.i0
  have c1 := X0.out.2.i1
  have c2 := X0.out.2.i2
  have c3 := X0.out.2.i3
  have c4 := X0.out.2.i4
  have c5 := X0.out.2.i5
  go_wp2_with fail
  refine (PA.out _ (by exact X0.out.1)).mono ?_
  rintro e w1 ⟨rfl, hb⟩
  have X1 := Lib.hid (X0.out.on hb)
  clear c0 c1 c2 c3 c4 c5 hb PA X0
  have c0 := X1.out.2.i0
  have c1 := X1.out.2.i1
  have c2 := X1.out.2.i2
  have c3 := X1.out.2.i3
  have c4 := X1.out.2.i4
  have c5 := X1.out.2.i5
  go_wp2_with fail
  refine (PR.out _).mono ?_
  rintro e w2 ⟨rfl, hb⟩
  have X2 := Lib.hid (X1.out.on hb)
  clear c0 c1 c2 c3 c4 c5 hb PR X1
  have XD := Lib.hid X2.out.drew
  have c0 := X2.out.2.i0
  go_upto_region 3 with fail
  go_region_held3 (fun w' => w'.cell? ⟨W.heap.size, 0, none⟩ = some (.int .u8 ((x.op : Nat) : Int)))
    (first | exact H7.out.2.i0 | exact H6.out.2.i0 | exact H5.out.2.i0 | exact XD.out.2.i0)
    (first | (go_at_call 12; refine (NA.out _ (by exact XD.out.1)).mono ?_; rintro e w5 ⟨rfl, hb5⟩; have H5 := Lib.hid (XD.out.on hb5)) | (go_at_call 13; refine (NR.out _).mono ?_; rintro e w6 ⟨rfl, hb6⟩; have H6 := Lib.hid (H5.out.on hb6)) | (go_at_call 9; refine (HL.out _ (by exact H6.out.1)).mono ?_; rintro e w7 ⟨rfl, hb7⟩; have H7 := Lib.hid (H6.out.on hb7)))
  all_goals go_wp2_with fail
  all_goals go_ret
  all_goals exact ⟨by first | rfl | simp, H7.out.1⟩
end De
end Go.Proofs.YtbgcgomefdblpaaDoor
