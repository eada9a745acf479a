/-
  The document's read, form by form.
-/
import Derived.Test.YtbgcgomefdblpaaDoorDeReadA
namespace Go.Proofs.YtbgcgomefdblpaaDoor
open Go.RowKit
namespace De
set_option maxHeartbeats 6400000
set_option maxRecDepth 100000

theorem read_U {op fm code f3 f7 : Nat} {s : ByteArray} {w : Nat} (hfm : fm = 85) (hw : w < 4294967296) (W : World) :
    Calls Tryd.prog 18 #[.agg (rowV ⟨op, fm, code, f3, f7⟩ s), .int .u32 ((w : Nat) : Int)] W fun e W' => e = .returned (.agg (insV (readP ⟨op, fm, code, f3, f7⟩ w))) ∧ Below W.heap.size W W' := by
  obtain ⟨d, hd⟩ : ∃ d, d = fld w 7 5 := ⟨_, rfl⟩
  have ld : d < 32 := by rw [hd]; exact fld_lt w 7 5
  have F0 : Hid (∀ W : World, Calls Tryd.prog 25 #[.int .u32 ((w : Nat) : Int), .int .i64 7, .int .i64 5] W fun e w' => e = .returned (.int .u32 ((d : Nat) : Int)) ∧ w' = W) := Lib.hid (field_v hw hd rfl rfl (by decide) (by decide))
  obtain ⟨a, ha⟩ : ∃ a, a = fld w 15 5 := ⟨_, rfl⟩
  have la : a < 32 := by rw [ha]; exact fld_lt w 15 5
  have F1 : Hid (∀ W : World, Calls Tryd.prog 25 #[.int .u32 ((w : Nat) : Int), .int .i64 15, .int .i64 5] W fun e w' => e = .returned (.int .u32 ((a : Nat) : Int)) ∧ w' = W) := Lib.hid (field_v hw ha rfl rfl (by decide) (by decide))
  obtain ⟨b, hb⟩ : ∃ b, b = fld w 20 5 := ⟨_, rfl⟩
  have lb : b < 32 := by rw [hb]; exact fld_lt w 20 5
  have F2 : Hid (∀ W : World, Calls Tryd.prog 25 #[.int .u32 ((w : Nat) : Int), .int .i64 20, .int .i64 5] W fun e w' => e = .returned (.int .u32 ((b : Nat) : Int)) ∧ w' = W) := Lib.hid (field_v hw hb rfl rfl (by decide) (by decide))
  obtain ⟨x, hx⟩ : ∃ x, x = fld w 12 20 := ⟨_, rfl⟩
  have lx : x < 1048576 := by rw [hx]; exact fld_lt w 12 20
  have F3 : Hid (∀ W : World, Calls Tryd.prog 25 #[.int .u32 ((w : Nat) : Int), .int .i64 12, .int .i64 20] W fun e w' => e = .returned (.int .u32 ((x : Nat) : Int)) ∧ w' = W) := Lib.hid (field_v hw hx rfl rfl (by decide) (by decide))
  have q1 := wu8 (x := d) (by omega)
  have q2 := wu8 (x := a) (by omega)
  have q3 := wu8 (x := b) (by omega)
  obtain ⟨m, hm⟩ : ∃ m, m = 4096 * x := ⟨_, rfl⟩
  have rm := wmul (z := 4096) rfl hm (by omega)
  have S := Lib.hid (signed_at (v := m) (n := 32) (z := 32) rfl (by omega) (by decide) (by decide) (by omega))
  have hp : readP ⟨op, fm, code, f3, f7⟩ w = ⟨op, d, 0, 0, sgn m 32, 0⟩ := by
    subst hfm
    simp [readP, hm, hd, hx]
  rw [hp]
  unfold rowV insV
  simp only []
  have e85 := eq_t (z := 85) rfl hfm
  clear hp hfm hw hd ld ha la hb lb hx lx hm
  have HBD := build_op op
  go_enter Tryd.func18, Tryd.ntmps18
  go_upto_region 2 with fail
  have HX := Lib.hid (RdAt.new W ⟨op, fm, code, f3, f7⟩ s 44 26 26)
  unfold rowV at HX
  simp only [] at HX
  generalize (((W.alloc (.cells #[.int .u8 ((op : Nat) : Int), .int .u8 ((fm : Nat) : Int), .int .u32 ((code : Nat) : Int), .int .u32 ((f3 : Nat) : Int), .int .u32 ((f7 : Nat) : Int), .string s] 44)).alloc (.cells #[.int .u8 0, .int .u8 0, .int .u8 0, .int .u8 0, .int .i32 0, .int .u16 0] 26)).alloc (.cells #[.int .u8 ((op : Nat) : Int), .int .u8 0, .int .u8 0, .int .u8 0, .int .i32 0, .int .u16 0] 26)) = w2 at HX ⊢
  have k1 : w2.cell? ⟨W.heap.size, 1, none⟩ = some (.int .u8 ((fm : Nat) : Int)) := HX.out.row.c1
  have x0 := HX.out.x0
  have x1 := HX.out.x1
  have x2 := HX.out.x2
  have x3 := HX.out.x3
  have x4 := HX.out.x4
  have x5 := HX.out.x5
  have y0 := HX.out.y0
  have y1 := HX.out.y1
  have y2 := HX.out.y2
  have y3 := HX.out.y3
  have y4 := HX.out.y4
  have y5 := HX.out.y5
  have fx := HX.out.fx
  have fy := HX.out.fy
  simp only [] at x0
  clear HBD
  go_wp2_with (first | (go_at_call 25; (first | with_reducible refine (F0.out _).mono ?_ | with_reducible refine (F1.out _).mono ?_ | with_reducible refine (F2.out _).mono ?_ | with_reducible refine (F3.out _).mono ?_); rintro e w' ⟨rfl, rfl⟩) | (go_at_call 26; with_reducible refine (S.out _).mono ?_; rintro e w' ⟨rfl, rfl⟩))
  refine bodyPost_ret (v := .agg #[.int .u8 ((op : Nat) : Int), .int .u8 ((d : Nat) : Int), .int .u8 0, .int .u8 0, .int .i32 (sgn m 32), .int .u16 0]) ?_ rfl ⟨rfl, ?_⟩
  · refine read_out (b := W.heap.size + 1) rfl ?_ ?_ ?_ ?_ ?_ ?_
    all_goals (repeat (first | with_reducible exact y0 | with_reducible exact y1 | with_reducible exact y2 | with_reducible exact y3 | with_reducible exact y4 | with_reducible exact y5 | with_reducible refine set_off ?_ (by decide) | with_reducible refine set_blk ?_ (by omega) | with_reducible refine set_at ?_ | with_reducible refine set_some ?_ | with_reducible exact is_some y0 | with_reducible exact is_some y1 | with_reducible exact is_some y2 | with_reducible exact is_some y3 | with_reducible exact is_some y4 | with_reducible exact is_some y5))
  · repeat (first | with_reducible exact HX.out.b | (with_reducible refine Below.setCell ?_ (by simp; try omega) _))
theorem read_J {op fm code f3 f7 : Nat} {s : ByteArray} {w : Nat} (hfm : fm = 74) (hw : w < 4294967296) (W : World) :
    Calls Tryd.prog 18 #[.agg (rowV ⟨op, fm, code, f3, f7⟩ s), .int .u32 ((w : Nat) : Int)] W fun e W' => e = .returned (.agg (insV (readP ⟨op, fm, code, f3, f7⟩ w))) ∧ Below W.heap.size W W' := by
  obtain ⟨d, hd⟩ : ∃ d, d = fld w 7 5 := ⟨_, rfl⟩
  have ld : d < 32 := by rw [hd]; exact fld_lt w 7 5
  have F0 : Hid (∀ W : World, Calls Tryd.prog 25 #[.int .u32 ((w : Nat) : Int), .int .i64 7, .int .i64 5] W fun e w' => e = .returned (.int .u32 ((d : Nat) : Int)) ∧ w' = W) := Lib.hid (field_v hw hd rfl rfl (by decide) (by decide))
  obtain ⟨a, ha⟩ : ∃ a, a = fld w 15 5 := ⟨_, rfl⟩
  have la : a < 32 := by rw [ha]; exact fld_lt w 15 5
  have F1 : Hid (∀ W : World, Calls Tryd.prog 25 #[.int .u32 ((w : Nat) : Int), .int .i64 15, .int .i64 5] W fun e w' => e = .returned (.int .u32 ((a : Nat) : Int)) ∧ w' = W) := Lib.hid (field_v hw ha rfl rfl (by decide) (by decide))
  obtain ⟨b, hb⟩ : ∃ b, b = fld w 20 5 := ⟨_, rfl⟩
  have lb : b < 32 := by rw [hb]; exact fld_lt w 20 5
  have F2 : Hid (∀ W : World, Calls Tryd.prog 25 #[.int .u32 ((w : Nat) : Int), .int .i64 20, .int .i64 5] W fun e w' => e = .returned (.int .u32 ((b : Nat) : Int)) ∧ w' = W) := Lib.hid (field_v hw hb rfl rfl (by decide) (by decide))
  obtain ⟨x, hx⟩ : ∃ x, x = fld w 31 1 := ⟨_, rfl⟩
  have lx : x < 2 := by rw [hx]; exact fld_lt w 31 1
  have F3 : Hid (∀ W : World, Calls Tryd.prog 25 #[.int .u32 ((w : Nat) : Int), .int .i64 31, .int .i64 1] W fun e w' => e = .returned (.int .u32 ((x : Nat) : Int)) ∧ w' = W) := Lib.hid (field_v hw hx rfl rfl (by decide) (by decide))
  obtain ⟨y, hy⟩ : ∃ y, y = fld w 12 8 := ⟨_, rfl⟩
  have ly : y < 256 := by rw [hy]; exact fld_lt w 12 8
  have F4 : Hid (∀ W : World, Calls Tryd.prog 25 #[.int .u32 ((w : Nat) : Int), .int .i64 12, .int .i64 8] W fun e w' => e = .returned (.int .u32 ((y : Nat) : Int)) ∧ w' = W) := Lib.hid (field_v hw hy rfl rfl (by decide) (by decide))
  obtain ⟨z, hz⟩ : ∃ z, z = fld w 20 1 := ⟨_, rfl⟩
  have lz : z < 2 := by rw [hz]; exact fld_lt w 20 1
  have F5 : Hid (∀ W : World, Calls Tryd.prog 25 #[.int .u32 ((w : Nat) : Int), .int .i64 20, .int .i64 1] W fun e w' => e = .returned (.int .u32 ((z : Nat) : Int)) ∧ w' = W) := Lib.hid (field_v hw hz rfl rfl (by decide) (by decide))
  obtain ⟨u, hu⟩ : ∃ u, u = fld w 21 10 := ⟨_, rfl⟩
  have lu : u < 1024 := by rw [hu]; exact fld_lt w 21 10
  have F6 : Hid (∀ W : World, Calls Tryd.prog 25 #[.int .u32 ((w : Nat) : Int), .int .i64 21, .int .i64 10] W fun e w' => e = .returned (.int .u32 ((u : Nat) : Int)) ∧ w' = W) := Lib.hid (field_v hw hu rfl rfl (by decide) (by decide))
  have q1 := wu8 (x := d) (by omega)
  have q2 := wu8 (x := a) (by omega)
  have q3 := wu8 (x := b) (by omega)
  obtain ⟨m1, hm1⟩ : ∃ m1, m1 = 1048576 * x := ⟨_, rfl⟩
  have rm1 := wmul (z := 1048576) rfl hm1 (by omega)
  obtain ⟨m2, hm2⟩ : ∃ m2, m2 = 4096 * y := ⟨_, rfl⟩
  have rm2 := wmul (z := 4096) rfl hm2 (by omega)
  obtain ⟨m3, hm3⟩ : ∃ m3, m3 = m1 + m2 := ⟨_, rfl⟩
  have rm3 := wadd hm3 (by omega)
  obtain ⟨m4, hm4⟩ : ∃ m4, m4 = 2048 * z := ⟨_, rfl⟩
  have rm4 := wmul (z := 2048) rfl hm4 (by omega)
  obtain ⟨m5, hm5⟩ : ∃ m5, m5 = m3 + m4 := ⟨_, rfl⟩
  have rm5 := wadd hm5 (by omega)
  obtain ⟨m6, hm6⟩ : ∃ m6, m6 = 2 * u := ⟨_, rfl⟩
  have rm6 := wmul (z := 2) rfl hm6 (by omega)
  obtain ⟨m7, hm7⟩ : ∃ m7, m7 = m5 + m6 := ⟨_, rfl⟩
  have rm7 := wadd hm7 (by omega)
  have S := Lib.hid (signed_at (v := m7) (n := 21) (z := 21) rfl (by omega) (by decide) (by decide) (by omega))
  have hp : readP ⟨op, fm, code, f3, f7⟩ w = ⟨op, d, 0, 0, sgn m7 21, 0⟩ := by
    subst hfm
    simp [readP, immJ, hm1, hm2, hm3, hm4, hm5, hm6, hm7, hd, hx, hy, hz, hu]
  rw [hp]
  unfold rowV insV
  simp only []
  have e85 := eq_f (z := 85) rfl (show fm ≠ 85 by omega)
  have e74 := eq_t (z := 74) rfl hfm
  clear hp hfm hw hd ld ha la hb lb hx lx hy ly hz lz hu lu hm1 hm2 hm3 hm4 hm5 hm6 hm7
  have HBD := build_op op
  go_enter Tryd.func18, Tryd.ntmps18
  go_upto_region 2 with fail
  have HX := Lib.hid (RdAt.new W ⟨op, fm, code, f3, f7⟩ s 44 26 26)
  unfold rowV at HX
  simp only [] at HX
  generalize (((W.alloc (.cells #[.int .u8 ((op : Nat) : Int), .int .u8 ((fm : Nat) : Int), .int .u32 ((code : Nat) : Int), .int .u32 ((f3 : Nat) : Int), .int .u32 ((f7 : Nat) : Int), .string s] 44)).alloc (.cells #[.int .u8 0, .int .u8 0, .int .u8 0, .int .u8 0, .int .i32 0, .int .u16 0] 26)).alloc (.cells #[.int .u8 ((op : Nat) : Int), .int .u8 0, .int .u8 0, .int .u8 0, .int .i32 0, .int .u16 0] 26)) = w2 at HX ⊢
  have k1 : w2.cell? ⟨W.heap.size, 1, none⟩ = some (.int .u8 ((fm : Nat) : Int)) := HX.out.row.c1
  have x0 := HX.out.x0
  have x1 := HX.out.x1
  have x2 := HX.out.x2
  have x3 := HX.out.x3
  have x4 := HX.out.x4
  have x5 := HX.out.x5
  have y0 := HX.out.y0
  have y1 := HX.out.y1
  have y2 := HX.out.y2
  have y3 := HX.out.y3
  have y4 := HX.out.y4
  have y5 := HX.out.y5
  have fx := HX.out.fx
  have fy := HX.out.fy
  simp only [] at x0
  clear HBD
  go_wp2_with (first | (go_at_call 25; (first | with_reducible refine (F0.out _).mono ?_ | with_reducible refine (F1.out _).mono ?_ | with_reducible refine (F2.out _).mono ?_ | with_reducible refine (F3.out _).mono ?_ | with_reducible refine (F4.out _).mono ?_ | with_reducible refine (F5.out _).mono ?_ | with_reducible refine (F6.out _).mono ?_); rintro e w' ⟨rfl, rfl⟩) | (go_at_call 26; with_reducible refine (S.out _).mono ?_; rintro e w' ⟨rfl, rfl⟩))
  refine bodyPost_ret (v := .agg #[.int .u8 ((op : Nat) : Int), .int .u8 ((d : Nat) : Int), .int .u8 0, .int .u8 0, .int .i32 (sgn m7 21), .int .u16 0]) ?_ rfl ⟨rfl, ?_⟩
  · refine read_out (b := W.heap.size + 1) rfl ?_ ?_ ?_ ?_ ?_ ?_
    all_goals (repeat (first | with_reducible exact y0 | with_reducible exact y1 | with_reducible exact y2 | with_reducible exact y3 | with_reducible exact y4 | with_reducible exact y5 | with_reducible refine set_off ?_ (by decide) | with_reducible refine set_blk ?_ (by omega) | with_reducible refine set_at ?_ | with_reducible refine set_some ?_ | with_reducible exact is_some y0 | with_reducible exact is_some y1 | with_reducible exact is_some y2 | with_reducible exact is_some y3 | with_reducible exact is_some y4 | with_reducible exact is_some y5))
  · repeat (first | with_reducible exact HX.out.b | (with_reducible refine Below.setCell ?_ (by simp; try omega) _))
theorem read_I {op fm code f3 f7 : Nat} {s : ByteArray} {w : Nat} (hfm : fm = 73) (hw : w < 4294967296) (W : World) :
    Calls Tryd.prog 18 #[.agg (rowV ⟨op, fm, code, f3, f7⟩ s), .int .u32 ((w : Nat) : Int)] W fun e W' => e = .returned (.agg (insV (readP ⟨op, fm, code, f3, f7⟩ w))) ∧ Below W.heap.size W W' := by
  obtain ⟨d, hd⟩ : ∃ d, d = fld w 7 5 := ⟨_, rfl⟩
  have ld : d < 32 := by rw [hd]; exact fld_lt w 7 5
  have F0 : Hid (∀ W : World, Calls Tryd.prog 25 #[.int .u32 ((w : Nat) : Int), .int .i64 7, .int .i64 5] W fun e w' => e = .returned (.int .u32 ((d : Nat) : Int)) ∧ w' = W) := Lib.hid (field_v hw hd rfl rfl (by decide) (by decide))
  obtain ⟨a, ha⟩ : ∃ a, a = fld w 15 5 := ⟨_, rfl⟩
  have la : a < 32 := by rw [ha]; exact fld_lt w 15 5
  have F1 : Hid (∀ W : World, Calls Tryd.prog 25 #[.int .u32 ((w : Nat) : Int), .int .i64 15, .int .i64 5] W fun e w' => e = .returned (.int .u32 ((a : Nat) : Int)) ∧ w' = W) := Lib.hid (field_v hw ha rfl rfl (by decide) (by decide))
  obtain ⟨b, hb⟩ : ∃ b, b = fld w 20 5 := ⟨_, rfl⟩
  have lb : b < 32 := by rw [hb]; exact fld_lt w 20 5
  have F2 : Hid (∀ W : World, Calls Tryd.prog 25 #[.int .u32 ((w : Nat) : Int), .int .i64 20, .int .i64 5] W fun e w' => e = .returned (.int .u32 ((b : Nat) : Int)) ∧ w' = W) := Lib.hid (field_v hw hb rfl rfl (by decide) (by decide))
  obtain ⟨x, hx⟩ : ∃ x, x = fld w 20 12 := ⟨_, rfl⟩
  have lx : x < 4096 := by rw [hx]; exact fld_lt w 20 12
  have F3 : Hid (∀ W : World, Calls Tryd.prog 25 #[.int .u32 ((w : Nat) : Int), .int .i64 20, .int .i64 12] W fun e w' => e = .returned (.int .u32 ((x : Nat) : Int)) ∧ w' = W) := Lib.hid (field_v hw hx rfl rfl (by decide) (by decide))
  have q1 := wu8 (x := d) (by omega)
  have q2 := wu8 (x := a) (by omega)
  have q3 := wu8 (x := b) (by omega)
  have S := Lib.hid (signed_at (v := x) (n := 12) (z := 12) rfl (by omega) (by decide) (by decide) (by omega))
  have hp : readP ⟨op, fm, code, f3, f7⟩ w = ⟨op, d, a, 0, sgn x 12, 0⟩ := by
    subst hfm
    simp [readP, hd, ha, hx]
  rw [hp]
  unfold rowV insV
  simp only []
  have e85 := eq_f (z := 85) rfl (show fm ≠ 85 by omega)
  have e74 := eq_f (z := 74) rfl (show fm ≠ 74 by omega)
  have e73 := eq_t (z := 73) rfl hfm
  clear hp hfm hw hd ld ha la hb lb hx lx 
  have HBD := build_op op
  go_enter Tryd.func18, Tryd.ntmps18
  go_upto_region 2 with fail
  have HX := Lib.hid (RdAt.new W ⟨op, fm, code, f3, f7⟩ s 44 26 26)
  unfold rowV at HX
  simp only [] at HX
  generalize (((W.alloc (.cells #[.int .u8 ((op : Nat) : Int), .int .u8 ((fm : Nat) : Int), .int .u32 ((code : Nat) : Int), .int .u32 ((f3 : Nat) : Int), .int .u32 ((f7 : Nat) : Int), .string s] 44)).alloc (.cells #[.int .u8 0, .int .u8 0, .int .u8 0, .int .u8 0, .int .i32 0, .int .u16 0] 26)).alloc (.cells #[.int .u8 ((op : Nat) : Int), .int .u8 0, .int .u8 0, .int .u8 0, .int .i32 0, .int .u16 0] 26)) = w2 at HX ⊢
  have k1 : w2.cell? ⟨W.heap.size, 1, none⟩ = some (.int .u8 ((fm : Nat) : Int)) := HX.out.row.c1
  have x0 := HX.out.x0
  have x1 := HX.out.x1
  have x2 := HX.out.x2
  have x3 := HX.out.x3
  have x4 := HX.out.x4
  have x5 := HX.out.x5
  have y0 := HX.out.y0
  have y1 := HX.out.y1
  have y2 := HX.out.y2
  have y3 := HX.out.y3
  have y4 := HX.out.y4
  have y5 := HX.out.y5
  have fx := HX.out.fx
  have fy := HX.out.fy
  simp only [] at x0
  clear HBD
  go_wp2_with (first | (go_at_call 25; (first | with_reducible refine (F0.out _).mono ?_ | with_reducible refine (F1.out _).mono ?_ | with_reducible refine (F2.out _).mono ?_ | with_reducible refine (F3.out _).mono ?_); rintro e w' ⟨rfl, rfl⟩) | (go_at_call 26; with_reducible refine (S.out _).mono ?_; rintro e w' ⟨rfl, rfl⟩))
  refine bodyPost_ret (v := .agg #[.int .u8 ((op : Nat) : Int), .int .u8 ((d : Nat) : Int), .int .u8 ((a : Nat) : Int), .int .u8 0, .int .i32 (sgn x 12), .int .u16 0]) ?_ rfl ⟨rfl, ?_⟩
  · refine read_out (b := W.heap.size + 1) rfl ?_ ?_ ?_ ?_ ?_ ?_
    all_goals (repeat (first | with_reducible exact y0 | with_reducible exact y1 | with_reducible exact y2 | with_reducible exact y3 | with_reducible exact y4 | with_reducible exact y5 | with_reducible refine set_off ?_ (by decide) | with_reducible refine set_blk ?_ (by omega) | with_reducible refine set_at ?_ | with_reducible refine set_some ?_ | with_reducible exact is_some y0 | with_reducible exact is_some y1 | with_reducible exact is_some y2 | with_reducible exact is_some y3 | with_reducible exact is_some y4 | with_reducible exact is_some y5))
  · repeat (first | with_reducible exact HX.out.b | (with_reducible refine Below.setCell ?_ (by simp; try omega) _))
theorem read_H {op fm code f3 f7 : Nat} {s : ByteArray} {w : Nat} (hfm : fm = 72) (hw : w < 4294967296) (W : World) :
    Calls Tryd.prog 18 #[.agg (rowV ⟨op, fm, code, f3, f7⟩ s), .int .u32 ((w : Nat) : Int)] W fun e W' => e = .returned (.agg (insV (readP ⟨op, fm, code, f3, f7⟩ w))) ∧ Below W.heap.size W W' := by
  obtain ⟨d, hd⟩ : ∃ d, d = fld w 7 5 := ⟨_, rfl⟩
  have ld : d < 32 := by rw [hd]; exact fld_lt w 7 5
  have F0 : Hid (∀ W : World, Calls Tryd.prog 25 #[.int .u32 ((w : Nat) : Int), .int .i64 7, .int .i64 5] W fun e w' => e = .returned (.int .u32 ((d : Nat) : Int)) ∧ w' = W) := Lib.hid (field_v hw hd rfl rfl (by decide) (by decide))
  obtain ⟨a, ha⟩ : ∃ a, a = fld w 15 5 := ⟨_, rfl⟩
  have la : a < 32 := by rw [ha]; exact fld_lt w 15 5
  have F1 : Hid (∀ W : World, Calls Tryd.prog 25 #[.int .u32 ((w : Nat) : Int), .int .i64 15, .int .i64 5] W fun e w' => e = .returned (.int .u32 ((a : Nat) : Int)) ∧ w' = W) := Lib.hid (field_v hw ha rfl rfl (by decide) (by decide))
  obtain ⟨b, hb⟩ : ∃ b, b = fld w 20 5 := ⟨_, rfl⟩
  have lb : b < 32 := by rw [hb]; exact fld_lt w 20 5
  have F2 : Hid (∀ W : World, Calls Tryd.prog 25 #[.int .u32 ((w : Nat) : Int), .int .i64 20, .int .i64 5] W fun e w' => e = .returned (.int .u32 ((b : Nat) : Int)) ∧ w' = W) := Lib.hid (field_v hw hb rfl rfl (by decide) (by decide))
  have q1 := wu8 (x := d) (by omega)
  have q2 := wu8 (x := a) (by omega)
  have q3 := wu8 (x := b) (by omega)
  have rb := wi32 (x := b) (by omega)
  have hp : readP ⟨op, fm, code, f3, f7⟩ w = ⟨op, d, a, 0, ((b : Nat) : Int), 0⟩ := by
    subst hfm
    simp [readP, hd, ha, hb]
  rw [hp]
  unfold rowV insV
  simp only []
  have e85 := eq_f (z := 85) rfl (show fm ≠ 85 by omega)
  have e74 := eq_f (z := 74) rfl (show fm ≠ 74 by omega)
  have e73 := eq_f (z := 73) rfl (show fm ≠ 73 by omega)
  have e72 := eq_t (z := 72) rfl hfm
  clear hp hfm hw hd ld ha la hb lb 
  have HBD := build_op op
  go_enter Tryd.func18, Tryd.ntmps18
  go_upto_region 2 with fail
  have HX := Lib.hid (RdAt.new W ⟨op, fm, code, f3, f7⟩ s 44 26 26)
  unfold rowV at HX
  simp only [] at HX
  generalize (((W.alloc (.cells #[.int .u8 ((op : Nat) : Int), .int .u8 ((fm : Nat) : Int), .int .u32 ((code : Nat) : Int), .int .u32 ((f3 : Nat) : Int), .int .u32 ((f7 : Nat) : Int), .string s] 44)).alloc (.cells #[.int .u8 0, .int .u8 0, .int .u8 0, .int .u8 0, .int .i32 0, .int .u16 0] 26)).alloc (.cells #[.int .u8 ((op : Nat) : Int), .int .u8 0, .int .u8 0, .int .u8 0, .int .i32 0, .int .u16 0] 26)) = w2 at HX ⊢
  have k1 : w2.cell? ⟨W.heap.size, 1, none⟩ = some (.int .u8 ((fm : Nat) : Int)) := HX.out.row.c1
  have x0 := HX.out.x0
  have x1 := HX.out.x1
  have x2 := HX.out.x2
  have x3 := HX.out.x3
  have x4 := HX.out.x4
  have x5 := HX.out.x5
  have y0 := HX.out.y0
  have y1 := HX.out.y1
  have y2 := HX.out.y2
  have y3 := HX.out.y3
  have y4 := HX.out.y4
  have y5 := HX.out.y5
  have fx := HX.out.fx
  have fy := HX.out.fy
  simp only [] at x0
  clear HBD
  go_wp2_with ((go_at_call 25; (first | with_reducible refine (F0.out _).mono ?_ | with_reducible refine (F1.out _).mono ?_ | with_reducible refine (F2.out _).mono ?_); rintro e w' ⟨rfl, rfl⟩))
  refine bodyPost_ret (v := .agg #[.int .u8 ((op : Nat) : Int), .int .u8 ((d : Nat) : Int), .int .u8 ((a : Nat) : Int), .int .u8 0, .int .i32 ((b : Nat) : Int), .int .u16 0]) ?_ rfl ⟨rfl, ?_⟩
  · refine read_out (b := W.heap.size + 1) rfl ?_ ?_ ?_ ?_ ?_ ?_
    all_goals (repeat (first | with_reducible exact y0 | with_reducible exact y1 | with_reducible exact y2 | with_reducible exact y3 | with_reducible exact y4 | with_reducible exact y5 | with_reducible refine set_off ?_ (by decide) | with_reducible refine set_blk ?_ (by omega) | with_reducible refine set_at ?_ | with_reducible refine set_some ?_ | with_reducible exact is_some y0 | with_reducible exact is_some y1 | with_reducible exact is_some y2 | with_reducible exact is_some y3 | with_reducible exact is_some y4 | with_reducible exact is_some y5))
  · repeat (first | with_reducible exact HX.out.b | (with_reducible refine Below.setCell ?_ (by simp; try omega) _))
end De
end Go.Proofs.YtbgcgomefdblpaaDoor
