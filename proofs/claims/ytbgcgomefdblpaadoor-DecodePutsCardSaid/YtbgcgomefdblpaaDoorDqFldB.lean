/-
  What a word has of what a form has: the program's fields, walked.
-/
import Derived.Test.YtbgcgomefdblpaaDoorDqFldA
namespace Go.Proofs.YtbgcgomefdblpaaDoor
open Go.RowKit
namespace De
set_option maxHeartbeats 6400000
set_option maxRecDepth 100000

theorem fields_0 {f : Fm} (hf : f.Ok) (hh : f.has = 0) {w : Nat} (hw : w < 4294967296) (W : World) :
    Calls Tryd.prog 22 #[.agg (fmV f), .int .u32 ((w : Nat) : Int)] W fun e W' => e = .returned (.agg (insV (fieldsP f w))) ∧ Below W.heap.size W W' := by
  have NUM := Lib.hid (fun W => number_any hf hw W)
  have NEW := Lib.hid (fun (W w1 : World) (t1 t2 t3 : TypeId) (n : Int) => FdAt.new (W := W) (w1 := w1) f t1 t2 t3 n)
  clear hf
  have hp : fieldsP f w = ⟨0, 0, 0, 0, numP f w, 0⟩ := by
    unfold fieldsP
    rw [hh]
    simp
  rw [hp]
  have b1 : bits .and .u8 0 1 = 0 := by decide
  have b2 : bits .and .u8 0 2 = 0 := by decide
  have b4 : bits .and .u8 0 4 = 0 := by decide
  have b8 : bits .and .u8 0 8 = 0 := by decide
  have HBD := build_imm (numP f w)
  generalize numP f w = n at *
  clear hp hw
  unfold fmV at NUM NEW ⊢
  unfold insV
  rw [hh] at NUM NEW ⊢
  simp only []
  clear hh
  go_enter Tryd.func22, Tryd.ntmps22
  go_wp2_with fail
  refine (NUM.out _).mono ?_
  rintro e w1 ⟨rfl, hb1⟩
  have HX := Lib.hid (NEW.out W w1 _ _ 26 n hb1)
  clear hb1 NUM NEW
  go_upto_region 2 with fail
  generalize w1.alloc _ = w2 at HX ⊢
  generalize w1.heap.size = bx at HX ⊢
  have hc1 := HX.out.hc
  have x0 := HX.out.x0
  have x1 := HX.out.x1
  have x2 := HX.out.x2
  have x3 := HX.out.x3
  have x4 := HX.out.x4
  have x5 := HX.out.x5
  have y0 := HX.out.y0
  have y1 := HX.out.y1
  have y2 := HX.out.y2
  have y3 := HX.out.y3
  have y4 := HX.out.y4
  have y5 := HX.out.y5
  have fx := HX.out.fx
  have fy := HX.out.fy
  have lo := HX.out.lo
  have ne1 : ¬ bx = W.heap.size := by omega
  have ne2 : ¬ bx = W.heap.size + 1 := by omega
  go_wp2_with fail
  refine bodyPost_ret (v := .agg #[.int .u8 0, .int .u8 0, .int .u8 0, .int .u8 0, .int .i32 n, .int .u16 0]) ?_ rfl ⟨by rfl, ?_⟩
  · refine fields_out (b := W.heap.size + 1) rfl ?_ ?_ ?_ ?_ ?_ ?_
    all_goals (repeat (first | with_reducible exact y0 | with_reducible exact y1 | with_reducible exact y2 | with_reducible exact y3 | with_reducible exact y4 | with_reducible exact y5 | with_reducible refine set_off ?_ (by decide) | with_reducible refine set_blk ?_ (by omega) | with_reducible refine set_at ?_ | with_reducible refine set_some ?_ | with_reducible exact is_some y0 | with_reducible exact is_some y1 | with_reducible exact is_some y2 | with_reducible exact is_some y3 | with_reducible exact is_some y4 | with_reducible exact is_some y5))
  · repeat (first | with_reducible exact HX.out.b | (with_reducible refine Below.setCell ?_ (by simp; try omega) _))
theorem fields_1 {f : Fm} (hf : f.Ok) (hh : f.has = 1) {w : Nat} (hw : w < 4294967296) (W : World) :
    Calls Tryd.prog 22 #[.agg (fmV f), .int .u32 ((w : Nat) : Int)] W fun e W' => e = .returned (.agg (insV (fieldsP f w))) ∧ Below W.heap.size W W' := by
  have NUM := Lib.hid (fun W => number_any hf hw W)
  have NEW := Lib.hid (fun (W w1 : World) (t1 t2 t3 : TypeId) (n : Int) => FdAt.new (W := W) (w1 := w1) f t1 t2 t3 n)
  clear hf
  obtain ⟨d, hd⟩ : ∃ d, d = w / 128 % 32 := ⟨_, rfl⟩
  have e1 : bits .and .u32 (((w : Nat) : Int) / 128) 31 = ((d : Nat) : Int) := by rw [hd, ← and31 (x := w / 128) (by omega)]; rfl
  have q1 := wu8 (x := d) (by omega)
  have hp : fieldsP f w = ⟨0, d, 0, 0, numP f w, 0⟩ := by
    unfold fieldsP
    rw [hh, hd]
    simp
  rw [hp]
  have b1 : bits .and .u8 1 1 = 1 := by decide
  have b2 : bits .and .u8 1 2 = 0 := by decide
  have b4 : bits .and .u8 1 4 = 0 := by decide
  have b8 : bits .and .u8 1 8 = 0 := by decide
  have HBD := build_imm (numP f w)
  generalize numP f w = n at *
  clear hp hd hw
  unfold fmV at NUM NEW ⊢
  unfold insV
  rw [hh] at NUM NEW ⊢
  simp only []
  clear hh
  go_enter Tryd.func22, Tryd.ntmps22
  go_wp2_with fail
  refine (NUM.out _).mono ?_
  rintro e w1 ⟨rfl, hb1⟩
  have HX := Lib.hid (NEW.out W w1 _ _ 26 n hb1)
  clear hb1 NUM NEW
  go_upto_region 2 with fail
  generalize w1.alloc _ = w2 at HX ⊢
  generalize w1.heap.size = bx at HX ⊢
  have hc1 := HX.out.hc
  have x0 := HX.out.x0
  have x1 := HX.out.x1
  have x2 := HX.out.x2
  have x3 := HX.out.x3
  have x4 := HX.out.x4
  have x5 := HX.out.x5
  have y0 := HX.out.y0
  have y1 := HX.out.y1
  have y2 := HX.out.y2
  have y3 := HX.out.y3
  have y4 := HX.out.y4
  have y5 := HX.out.y5
  have fx := HX.out.fx
  have fy := HX.out.fy
  have lo := HX.out.lo
  have ne1 : ¬ bx = W.heap.size := by omega
  have ne2 : ¬ bx = W.heap.size + 1 := by omega
  go_wp2_with fail
  refine bodyPost_ret (v := .agg #[.int .u8 0, .int .u8 ((d : Nat) : Int), .int .u8 0, .int .u8 0, .int .i32 n, .int .u16 0]) ?_ rfl ⟨by rfl, ?_⟩
  · refine fields_out (b := W.heap.size + 1) rfl ?_ ?_ ?_ ?_ ?_ ?_
    all_goals (repeat (first | with_reducible exact y0 | with_reducible exact y1 | with_reducible exact y2 | with_reducible exact y3 | with_reducible exact y4 | with_reducible exact y5 | with_reducible refine set_off ?_ (by decide) | with_reducible refine set_blk ?_ (by omega) | with_reducible refine set_at ?_ | with_reducible refine set_some ?_ | with_reducible exact is_some y0 | with_reducible exact is_some y1 | with_reducible exact is_some y2 | with_reducible exact is_some y3 | with_reducible exact is_some y4 | with_reducible exact is_some y5))
  · repeat (first | with_reducible exact HX.out.b | (with_reducible refine Below.setCell ?_ (by simp; try omega) _))
theorem fields_3 {f : Fm} (hf : f.Ok) (hh : f.has = 3) {w : Nat} (hw : w < 4294967296) (W : World) :
    Calls Tryd.prog 22 #[.agg (fmV f), .int .u32 ((w : Nat) : Int)] W fun e W' => e = .returned (.agg (insV (fieldsP f w))) ∧ Below W.heap.size W W' := by
  have NUM := Lib.hid (fun W => number_any hf hw W)
  have NEW := Lib.hid (fun (W w1 : World) (t1 t2 t3 : TypeId) (n : Int) => FdAt.new (W := W) (w1 := w1) f t1 t2 t3 n)
  clear hf
  obtain ⟨d, hd⟩ : ∃ d, d = w / 128 % 32 := ⟨_, rfl⟩
  have e1 : bits .and .u32 (((w : Nat) : Int) / 128) 31 = ((d : Nat) : Int) := by rw [hd, ← and31 (x := w / 128) (by omega)]; rfl
  have q1 := wu8 (x := d) (by omega)
  obtain ⟨a, ha⟩ : ∃ a, a = w / 32768 % 32 := ⟨_, rfl⟩
  have e2 : bits .and .u32 (((w : Nat) : Int) / 32768) 31 = ((a : Nat) : Int) := by rw [ha, ← and31 (x := w / 32768) (by omega)]; rfl
  have q2 := wu8 (x := a) (by omega)
  have hp : fieldsP f w = ⟨0, d, a, 0, numP f w, 0⟩ := by
    unfold fieldsP
    rw [hh, hd, ha]
    simp
  rw [hp]
  have b1 : bits .and .u8 3 1 = 1 := by decide
  have b2 : bits .and .u8 3 2 = 2 := by decide
  have b4 : bits .and .u8 3 4 = 0 := by decide
  have b8 : bits .and .u8 3 8 = 0 := by decide
  have HBD := build_imm (numP f w)
  generalize numP f w = n at *
  clear hp hd ha hw
  unfold fmV at NUM NEW ⊢
  unfold insV
  rw [hh] at NUM NEW ⊢
  simp only []
  clear hh
  go_enter Tryd.func22, Tryd.ntmps22
  go_wp2_with fail
  refine (NUM.out _).mono ?_
  rintro e w1 ⟨rfl, hb1⟩
  have HX := Lib.hid (NEW.out W w1 _ _ 26 n hb1)
  clear hb1 NUM NEW
  go_upto_region 2 with fail
  generalize w1.alloc _ = w2 at HX ⊢
  generalize w1.heap.size = bx at HX ⊢
  have hc1 := HX.out.hc
  have x0 := HX.out.x0
  have x1 := HX.out.x1
  have x2 := HX.out.x2
  have x3 := HX.out.x3
  have x4 := HX.out.x4
  have x5 := HX.out.x5
  have y0 := HX.out.y0
  have y1 := HX.out.y1
  have y2 := HX.out.y2
  have y3 := HX.out.y3
  have y4 := HX.out.y4
  have y5 := HX.out.y5
  have fx := HX.out.fx
  have fy := HX.out.fy
  have lo := HX.out.lo
  have ne1 : ¬ bx = W.heap.size := by omega
  have ne2 : ¬ bx = W.heap.size + 1 := by omega
  go_wp2_with fail
  refine bodyPost_ret (v := .agg #[.int .u8 0, .int .u8 ((d : Nat) : Int), .int .u8 ((a : Nat) : Int), .int .u8 0, .int .i32 n, .int .u16 0]) ?_ rfl ⟨by rfl, ?_⟩
  · refine fields_out (b := W.heap.size + 1) rfl ?_ ?_ ?_ ?_ ?_ ?_
    all_goals (repeat (first | with_reducible exact y0 | with_reducible exact y1 | with_reducible exact y2 | with_reducible exact y3 | with_reducible exact y4 | with_reducible exact y5 | with_reducible refine set_off ?_ (by decide) | with_reducible refine set_blk ?_ (by omega) | with_reducible refine set_at ?_ | with_reducible refine set_some ?_ | with_reducible exact is_some y0 | with_reducible exact is_some y1 | with_reducible exact is_some y2 | with_reducible exact is_some y3 | with_reducible exact is_some y4 | with_reducible exact is_some y5))
  · repeat (first | with_reducible exact HX.out.b | (with_reducible refine Below.setCell ?_ (by simp; try omega) _))
theorem fields_6 {f : Fm} (hf : f.Ok) (hh : f.has = 6) {w : Nat} (hw : w < 4294967296) (W : World) :
    Calls Tryd.prog 22 #[.agg (fmV f), .int .u32 ((w : Nat) : Int)] W fun e W' => e = .returned (.agg (insV (fieldsP f w))) ∧ Below W.heap.size W W' := by
  have NUM := Lib.hid (fun W => number_any hf hw W)
  have NEW := Lib.hid (fun (W w1 : World) (t1 t2 t3 : TypeId) (n : Int) => FdAt.new (W := W) (w1 := w1) f t1 t2 t3 n)
  clear hf
  obtain ⟨a, ha⟩ : ∃ a, a = w / 32768 % 32 := ⟨_, rfl⟩
  have e2 : bits .and .u32 (((w : Nat) : Int) / 32768) 31 = ((a : Nat) : Int) := by rw [ha, ← and31 (x := w / 32768) (by omega)]; rfl
  have q2 := wu8 (x := a) (by omega)
  obtain ⟨b, hb⟩ : ∃ b, b = w / 1048576 % 32 := ⟨_, rfl⟩
  have e3 : bits .and .u32 (((w : Nat) : Int) / 1048576) 31 = ((b : Nat) : Int) := by rw [hb, ← and31 (x := w / 1048576) (by omega)]; rfl
  have q3 := wu8 (x := b) (by omega)
  have hp : fieldsP f w = ⟨0, 0, a, b, numP f w, 0⟩ := by
    unfold fieldsP
    rw [hh, ha, hb]
    simp
  rw [hp]
  have b1 : bits .and .u8 6 1 = 0 := by decide
  have b2 : bits .and .u8 6 2 = 2 := by decide
  have b4 : bits .and .u8 6 4 = 4 := by decide
  have b8 : bits .and .u8 6 8 = 0 := by decide
  have HBD := build_imm (numP f w)
  generalize numP f w = n at *
  clear hp ha hb hw
  unfold fmV at NUM NEW ⊢
  unfold insV
  rw [hh] at NUM NEW ⊢
  simp only []
  clear hh
  go_enter Tryd.func22, Tryd.ntmps22
  go_wp2_with fail
  refine (NUM.out _).mono ?_
  rintro e w1 ⟨rfl, hb1⟩
  have HX := Lib.hid (NEW.out W w1 _ _ 26 n hb1)
  clear hb1 NUM NEW
  go_upto_region 2 with fail
  generalize w1.alloc _ = w2 at HX ⊢
  generalize w1.heap.size = bx at HX ⊢
  have hc1 := HX.out.hc
  have x0 := HX.out.x0
  have x1 := HX.out.x1
  have x2 := HX.out.x2
  have x3 := HX.out.x3
  have x4 := HX.out.x4
  have x5 := HX.out.x5
  have y0 := HX.out.y0
  have y1 := HX.out.y1
  have y2 := HX.out.y2
  have y3 := HX.out.y3
  have y4 := HX.out.y4
  have y5 := HX.out.y5
  have fx := HX.out.fx
  have fy := HX.out.fy
  have lo := HX.out.lo
  have ne1 : ¬ bx = W.heap.size := by omega
  have ne2 : ¬ bx = W.heap.size + 1 := by omega
  go_wp2_with fail
  refine bodyPost_ret (v := .agg #[.int .u8 0, .int .u8 0, .int .u8 ((a : Nat) : Int), .int .u8 ((b : Nat) : Int), .int .i32 n, .int .u16 0]) ?_ rfl ⟨by rfl, ?_⟩
  · refine fields_out (b := W.heap.size + 1) rfl ?_ ?_ ?_ ?_ ?_ ?_
    all_goals (repeat (first | with_reducible exact y0 | with_reducible exact y1 | with_reducible exact y2 | with_reducible exact y3 | with_reducible exact y4 | with_reducible exact y5 | with_reducible refine set_off ?_ (by decide) | with_reducible refine set_blk ?_ (by omega) | with_reducible refine set_at ?_ | with_reducible refine set_some ?_ | with_reducible exact is_some y0 | with_reducible exact is_some y1 | with_reducible exact is_some y2 | with_reducible exact is_some y3 | with_reducible exact is_some y4 | with_reducible exact is_some y5))
  · repeat (first | with_reducible exact HX.out.b | (with_reducible refine Below.setCell ?_ (by simp; try omega) _))
theorem fields_7 {f : Fm} (hf : f.Ok) (hh : f.has = 7) {w : Nat} (hw : w < 4294967296) (W : World) :
    Calls Tryd.prog 22 #[.agg (fmV f), .int .u32 ((w : Nat) : Int)] W fun e W' => e = .returned (.agg (insV (fieldsP f w))) ∧ Below W.heap.size W W' := by
  have NUM := Lib.hid (fun W => number_any hf hw W)
  have NEW := Lib.hid (fun (W w1 : World) (t1 t2 t3 : TypeId) (n : Int) => FdAt.new (W := W) (w1 := w1) f t1 t2 t3 n)
  clear hf
  obtain ⟨d, hd⟩ : ∃ d, d = w / 128 % 32 := ⟨_, rfl⟩
  have e1 : bits .and .u32 (((w : Nat) : Int) / 128) 31 = ((d : Nat) : Int) := by rw [hd, ← and31 (x := w / 128) (by omega)]; rfl
  have q1 := wu8 (x := d) (by omega)
  obtain ⟨a, ha⟩ : ∃ a, a = w / 32768 % 32 := ⟨_, rfl⟩
  have e2 : bits .and .u32 (((w : Nat) : Int) / 32768) 31 = ((a : Nat) : Int) := by rw [ha, ← and31 (x := w / 32768) (by omega)]; rfl
  have q2 := wu8 (x := a) (by omega)
  obtain ⟨b, hb⟩ : ∃ b, b = w / 1048576 % 32 := ⟨_, rfl⟩
  have e3 : bits .and .u32 (((w : Nat) : Int) / 1048576) 31 = ((b : Nat) : Int) := by rw [hb, ← and31 (x := w / 1048576) (by omega)]; rfl
  have q3 := wu8 (x := b) (by omega)
  have hp : fieldsP f w = ⟨0, d, a, b, numP f w, 0⟩ := by
    unfold fieldsP
    rw [hh, hd, ha, hb]
    simp
  rw [hp]
  have b1 : bits .and .u8 7 1 = 1 := by decide
  have b2 : bits .and .u8 7 2 = 2 := by decide
  have b4 : bits .and .u8 7 4 = 4 := by decide
  have b8 : bits .and .u8 7 8 = 0 := by decide
  have HBD := build_imm (numP f w)
  generalize numP f w = n at *
  clear hp hd ha hb hw
  unfold fmV at NUM NEW ⊢
  unfold insV
  rw [hh] at NUM NEW ⊢
  simp only []
  clear hh
  go_enter Tryd.func22, Tryd.ntmps22
  go_wp2_with fail
  refine (NUM.out _).mono ?_
  rintro e w1 ⟨rfl, hb1⟩
  have HX := Lib.hid (NEW.out W w1 _ _ 26 n hb1)
  clear hb1 NUM NEW
  go_upto_region 2 with fail
  generalize w1.alloc _ = w2 at HX ⊢
  generalize w1.heap.size = bx at HX ⊢
  have hc1 := HX.out.hc
  have x0 := HX.out.x0
  have x1 := HX.out.x1
  have x2 := HX.out.x2
  have x3 := HX.out.x3
  have x4 := HX.out.x4
  have x5 := HX.out.x5
  have y0 := HX.out.y0
  have y1 := HX.out.y1
  have y2 := HX.out.y2
  have y3 := HX.out.y3
  have y4 := HX.out.y4
  have y5 := HX.out.y5
  have fx := HX.out.fx
  have fy := HX.out.fy
  have lo := HX.out.lo
  have ne1 : ¬ bx = W.heap.size := by omega
  have ne2 : ¬ bx = W.heap.size + 1 := by omega
  go_wp2_with fail
  refine bodyPost_ret (v := .agg #[.int .u8 0, .int .u8 ((d : Nat) : Int), .int .u8 ((a : Nat) : Int), .int .u8 ((b : Nat) : Int), .int .i32 n, .int .u16 0]) ?_ rfl ⟨by rfl, ?_⟩
  · refine fields_out (b := W.heap.size + 1) rfl ?_ ?_ ?_ ?_ ?_ ?_
    all_goals (repeat (first | with_reducible exact y0 | with_reducible exact y1 | with_reducible exact y2 | with_reducible exact y3 | with_reducible exact y4 | with_reducible exact y5 | with_reducible refine set_off ?_ (by decide) | with_reducible refine set_blk ?_ (by omega) | with_reducible refine set_at ?_ | with_reducible refine set_some ?_ | with_reducible exact is_some y0 | with_reducible exact is_some y1 | with_reducible exact is_some y2 | with_reducible exact is_some y3 | with_reducible exact is_some y4 | with_reducible exact is_some y5))
  · repeat (first | with_reducible exact HX.out.b | (with_reducible refine Below.setCell ?_ (by simp; try omega) _))
theorem fields_9 {f : Fm} (hf : f.Ok) (hh : f.has = 9) {w : Nat} (hw : w < 4294967296) (W : World) :
    Calls Tryd.prog 22 #[.agg (fmV f), .int .u32 ((w : Nat) : Int)] W fun e W' => e = .returned (.agg (insV (fieldsP f w))) ∧ Below W.heap.size W W' := by
  have NUM := Lib.hid (fun W => number_any hf hw W)
  have NEW := Lib.hid (fun (W w1 : World) (t1 t2 t3 : TypeId) (n : Int) => FdAt.new (W := W) (w1 := w1) f t1 t2 t3 n)
  clear hf
  obtain ⟨d, hd⟩ : ∃ d, d = w / 128 % 32 := ⟨_, rfl⟩
  have e1 : bits .and .u32 (((w : Nat) : Int) / 128) 31 = ((d : Nat) : Int) := by rw [hd, ← and31 (x := w / 128) (by omega)]; rfl
  have q1 := wu8 (x := d) (by omega)
  obtain ⟨c, hc⟩ : ∃ c, c = w / 1048576 := ⟨_, rfl⟩
  have q4 : IntKind.u16.wrap (((w : Nat) : Int) / 1048576) = ((c : Nat) : Int) := by rw [hc, ← wu16 (x := w / 1048576) (by omega)]; rfl
  have hp : fieldsP f w = ⟨0, d, 0, 0, numP f w, c⟩ := by
    unfold fieldsP
    rw [hh, hd, hc]
    simp
  rw [hp]
  have b1 : bits .and .u8 9 1 = 1 := by decide
  have b2 : bits .and .u8 9 2 = 0 := by decide
  have b4 : bits .and .u8 9 4 = 0 := by decide
  have b8 : bits .and .u8 9 8 = 8 := by decide
  have HBD := build_imm (numP f w)
  generalize numP f w = n at *
  clear hp hd hc hw
  unfold fmV at NUM NEW ⊢
  unfold insV
  rw [hh] at NUM NEW ⊢
  simp only []
  clear hh
  go_enter Tryd.func22, Tryd.ntmps22
  go_wp2_with fail
  refine (NUM.out _).mono ?_
  rintro e w1 ⟨rfl, hb1⟩
  have HX := Lib.hid (NEW.out W w1 _ _ 26 n hb1)
  clear hb1 NUM NEW
  go_upto_region 2 with fail
  generalize w1.alloc _ = w2 at HX ⊢
  generalize w1.heap.size = bx at HX ⊢
  have hc1 := HX.out.hc
  have x0 := HX.out.x0
  have x1 := HX.out.x1
  have x2 := HX.out.x2
  have x3 := HX.out.x3
  have x4 := HX.out.x4
  have x5 := HX.out.x5
  have y0 := HX.out.y0
  have y1 := HX.out.y1
  have y2 := HX.out.y2
  have y3 := HX.out.y3
  have y4 := HX.out.y4
  have y5 := HX.out.y5
  have fx := HX.out.fx
  have fy := HX.out.fy
  have lo := HX.out.lo
  have ne1 : ¬ bx = W.heap.size := by omega
  have ne2 : ¬ bx = W.heap.size + 1 := by omega
  go_wp2_with fail
  refine bodyPost_ret (v := .agg #[.int .u8 0, .int .u8 ((d : Nat) : Int), .int .u8 0, .int .u8 0, .int .i32 n, .int .u16 ((c : Nat) : Int)]) ?_ rfl ⟨by rfl, ?_⟩
  · refine fields_out (b := W.heap.size + 1) rfl ?_ ?_ ?_ ?_ ?_ ?_
    all_goals (repeat (first | with_reducible exact y0 | with_reducible exact y1 | with_reducible exact y2 | with_reducible exact y3 | with_reducible exact y4 | with_reducible exact y5 | with_reducible refine set_off ?_ (by decide) | with_reducible refine set_blk ?_ (by omega) | with_reducible refine set_at ?_ | with_reducible refine set_some ?_ | with_reducible exact is_some y0 | with_reducible exact is_some y1 | with_reducible exact is_some y2 | with_reducible exact is_some y3 | with_reducible exact is_some y4 | with_reducible exact is_some y5))
  · repeat (first | with_reducible exact HX.out.b | (with_reducible refine Below.setCell ?_ (by simp; try omega) _))
theorem fields_11 {f : Fm} (hf : f.Ok) (hh : f.has = 11) {w : Nat} (hw : w < 4294967296) (W : World) :
    Calls Tryd.prog 22 #[.agg (fmV f), .int .u32 ((w : Nat) : Int)] W fun e W' => e = .returned (.agg (insV (fieldsP f w))) ∧ Below W.heap.size W W' := by
  have NUM := Lib.hid (fun W => number_any hf hw W)
  have NEW := Lib.hid (fun (W w1 : World) (t1 t2 t3 : TypeId) (n : Int) => FdAt.new (W := W) (w1 := w1) f t1 t2 t3 n)
  clear hf
  obtain ⟨d, hd⟩ : ∃ d, d = w / 128 % 32 := ⟨_, rfl⟩
  have e1 : bits .and .u32 (((w : Nat) : Int) / 128) 31 = ((d : Nat) : Int) := by rw [hd, ← and31 (x := w / 128) (by omega)]; rfl
  have q1 := wu8 (x := d) (by omega)
  obtain ⟨a, ha⟩ : ∃ a, a = w / 32768 % 32 := ⟨_, rfl⟩
  have e2 : bits .and .u32 (((w : Nat) : Int) / 32768) 31 = ((a : Nat) : Int) := by rw [ha, ← and31 (x := w / 32768) (by omega)]; rfl
  have q2 := wu8 (x := a) (by omega)
  obtain ⟨c, hc⟩ : ∃ c, c = w / 1048576 := ⟨_, rfl⟩
  have q4 : IntKind.u16.wrap (((w : Nat) : Int) / 1048576) = ((c : Nat) : Int) := by rw [hc, ← wu16 (x := w / 1048576) (by omega)]; rfl
  have hp : fieldsP f w = ⟨0, d, a, 0, numP f w, c⟩ := by
    unfold fieldsP
    rw [hh, hd, ha, hc]
    simp
  rw [hp]
  have b1 : bits .and .u8 11 1 = 1 := by decide
  have b2 : bits .and .u8 11 2 = 2 := by decide
  have b4 : bits .and .u8 11 4 = 0 := by decide
  have b8 : bits .and .u8 11 8 = 8 := by decide
  have HBD := build_imm (numP f w)
  generalize numP f w = n at *
  clear hp hd ha hc hw
  unfold fmV at NUM NEW ⊢
  unfold insV
  rw [hh] at NUM NEW ⊢
  simp only []
  clear hh
  go_enter Tryd.func22, Tryd.ntmps22
  go_wp2_with fail
  refine (NUM.out _).mono ?_
  rintro e w1 ⟨rfl, hb1⟩
  have HX := Lib.hid (NEW.out W w1 _ _ 26 n hb1)
  clear hb1 NUM NEW
  go_upto_region 2 with fail
  generalize w1.alloc _ = w2 at HX ⊢
  generalize w1.heap.size = bx at HX ⊢
  have hc1 := HX.out.hc
  have x0 := HX.out.x0
  have x1 := HX.out.x1
  have x2 := HX.out.x2
  have x3 := HX.out.x3
  have x4 := HX.out.x4
  have x5 := HX.out.x5
  have y0 := HX.out.y0
  have y1 := HX.out.y1
  have y2 := HX.out.y2
  have y3 := HX.out.y3
  have y4 := HX.out.y4
  have y5 := HX.out.y5
  have fx := HX.out.fx
  have fy := HX.out.fy
  have lo := HX.out.lo
  have ne1 : ¬ bx = W.heap.size := by omega
  have ne2 : ¬ bx = W.heap.size + 1 := by omega
  go_wp2_with fail
  refine bodyPost_ret (v := .agg #[.int .u8 0, .int .u8 ((d : Nat) : Int), .int .u8 ((a : Nat) : Int), .int .u8 0, .int .i32 n, .int .u16 ((c : Nat) : Int)]) ?_ rfl ⟨by rfl, ?_⟩
  · refine fields_out (b := W.heap.size + 1) rfl ?_ ?_ ?_ ?_ ?_ ?_
    all_goals (repeat (first | with_reducible exact y0 | with_reducible exact y1 | with_reducible exact y2 | with_reducible exact y3 | with_reducible exact y4 | with_reducible exact y5 | with_reducible refine set_off ?_ (by decide) | with_reducible refine set_blk ?_ (by omega) | with_reducible refine set_at ?_ | with_reducible refine set_some ?_ | with_reducible exact is_some y0 | with_reducible exact is_some y1 | with_reducible exact is_some y2 | with_reducible exact is_some y3 | with_reducible exact is_some y4 | with_reducible exact is_some y5))
  · repeat (first | with_reducible exact HX.out.b | (with_reducible refine Below.setCell ?_ (by simp; try omega) _))
theorem fields_any {f : Fm} (hf : f.Ok) {w : Nat} (hw : w < 4294967296) (W : World) :
    Calls Tryd.prog 22 #[.agg (fmV f), .int .u32 ((w : Nat) : Int)] W fun e W' => e = .returned (.agg (insV (fieldsP f w))) ∧ Below W.heap.size W W' := by
  rcases hf.has with h | h | h | h | h | h | h
  · exact fields_0 hf h hw W
  · exact fields_1 hf h hw W
  · exact fields_3 hf h hw W
  · exact fields_6 hf h hw W
  · exact fields_7 hf h hw W
  · exact fields_9 hf h hw W
  · exact fields_11 hf h hw W
end De
end Go.Proofs.YtbgcgomefdblpaaDoor
