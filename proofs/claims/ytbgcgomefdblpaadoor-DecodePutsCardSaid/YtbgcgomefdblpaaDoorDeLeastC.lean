/-
  The least word that a row could have for an instruction: the document's least, form by form.
-/
import Derived.Test.YtbgcgomefdblpaaDoorDeLeastA
namespace Go.Proofs.YtbgcgomefdblpaaDoor
open Go.RowKit
namespace De
set_option maxHeartbeats 6400000
set_option maxRecDepth 100000

theorem dleast_S {op fm code f3 f7 : Nat} {s : ByteArray} {i : Ins} (hfm : fm = 83) (hg : good ⟨op, fm, code, f3, f7⟩ = true) (hi : boundsP i = true) (him : -2147483648 ≤ i.imm ∧ i.imm < 2147483648) (W : World) :
    Calls Tryd.prog 20 #[.agg (rowV ⟨op, fm, code, f3, f7⟩ s), .agg (insV i)] W fun e W' => e = .returned (.int .u32 ((leastP ⟨op, fm, code, f3, f7⟩ i : Nat) : Int)) ∧ Below W.heap.size W W' := by
  obtain ⟨io, rd, ra, rb, imm, csr⟩ := i
  obtain ⟨g1, g2, g3, g4, g5, g6⟩ := good_parts hg
  have hb := of_decide_eq_true hi
  simp only [] at him g1 g2 g3 g4 g5 g6 hb
  have r0 := wimm him.1 him.2
  obtain ⟨v, hv⟩ : ∃ v, v = u32 imm := ⟨_, rfl⟩
  have lv : v < 4294967296 := by rw [hv]; unfold u32; omega
  rw [← hv] at r0
  have hc : code < 128 := g3 (by omega)
  have hz : 83 = 85 ∨ 83 = 74 → f3 = 0 := fun h => g6 (by omega)
  have h7 : 83 = 65 → f7 < 32 := fun h => g4 (by omega)
  obtain ⟨m4, hm4⟩ : ∃ m, m = 4096 * f3 := ⟨_, rfl⟩
  have rm4 := wmul (z := 4096) rfl hm4 (by omega)
  obtain ⟨bw, hbw⟩ : ∃ m, m = code + m4 := ⟨_, rfl⟩
  have rbw := wadd hbw (by omega)
  have qd := wu32 (x := rd) (by omega)
  have qa := wu32 (x := ra) (by omega)
  have qb := wu32 (x := rb) (by omega)
  obtain ⟨d, hd⟩ : ∃ m, m = 128 * rd := ⟨_, rfl⟩
  have xd := wmul (z := 128) rfl hd (by omega)
  obtain ⟨a, ha⟩ : ∃ m, m = 32768 * ra := ⟨_, rfl⟩
  have xa := wmul (z := 32768) rfl ha (by omega)
  obtain ⟨b, hb2⟩ : ∃ m, m = 1048576 * rb := ⟨_, rfl⟩
  have xb := wmul (z := 1048576) rfl hb2 (by omega)
  obtain ⟨x, hx⟩ : ∃ x, x = fld v 5 7 := ⟨_, rfl⟩
  have lx : x < 128 := by rw [hx]; exact fld_lt v 5 7
  have F0 : Hid (∀ W : World, Calls Tryd.prog 25 #[.int .u32 ((v : Nat) : Int), .int .i64 5, .int .i64 7] W fun e w' => e = .returned (.int .u32 ((x : Nat) : Int)) ∧ w' = W) := Lib.hid (field_v lv hx rfl rfl (by decide) (by decide))
  obtain ⟨y, hy⟩ : ∃ y, y = fld v 0 5 := ⟨_, rfl⟩
  have ly : y < 32 := by rw [hy]; exact fld_lt v 0 5
  have F1 : Hid (∀ W : World, Calls Tryd.prog 25 #[.int .u32 ((v : Nat) : Int), .int .i64 0, .int .i64 5] W fun e w' => e = .returned (.int .u32 ((y : Nat) : Int)) ∧ w' = W) := Lib.hid (field_v lv hy rfl rfl (by decide) (by decide))
  obtain ⟨s1, hs1⟩ : ∃ s1, s1 = bw + a := ⟨_, rfl⟩
  have rs1 := wadd hs1 (by omega)
  obtain ⟨s2, hs2⟩ : ∃ s2, s2 = s1 + b := ⟨_, rfl⟩
  have rs2 := wadd hs2 (by omega)
  obtain ⟨t3, ht3⟩ : ∃ t3, t3 = 33554432 * x := ⟨_, rfl⟩
  have rt3 := wmul (z := 33554432) rfl ht3 (by omega)
  obtain ⟨s3, hs3⟩ : ∃ s3, s3 = s2 + t3 := ⟨_, rfl⟩
  have rs3 := wadd hs3 (by omega)
  obtain ⟨t4, ht4⟩ : ∃ t4, t4 = 128 * y := ⟨_, rfl⟩
  have rt4 := wmul (z := 128) rfl ht4 (by omega)
  obtain ⟨s4, hs4⟩ : ∃ s4, s4 = s3 + t4 := ⟨_, rfl⟩
  have rs4 := wadd hs4 (by omega)
  have hp : leastP ⟨op, fm, code, f3, f7⟩ ⟨io, rd, ra, rb, imm, csr⟩ = s4 := by
    subst hfm
    simp [leastP, ← hv, hm4, hbw, ha, hb2, hs1, hs2, ht3, hs3, ht4, hs4, hx, hy]
  rw [hp]
  unfold rowV insV
  simp only []
  have e88 := eq_f (z := 88) rfl (show fm ≠ 88 by omega)
  have e85 := eq_f (z := 85) rfl (show fm ≠ 85 by omega)
  have e74 := eq_f (z := 74) rfl (show fm ≠ 74 by omega)
  have e73 := eq_f (z := 73) rfl (show fm ≠ 73 by omega)
  have e72 := eq_f (z := 72) rfl (show fm ≠ 72 by omega)
  have e83 := eq_t (z := 83) rfl hfm
  clear hp hfm him hb hg hi hv lv g1 g2 g3 g4 g5 g6 hc hz h7 hs4 ht4 hs3 ht3 hs2 hs1 hb2 ha hd hbw hm4 hx lx hy ly
  go_enter Tryd.func20, Tryd.ntmps20
  go_upto_region 1 with fail
  have HX := Lib.hid (LsAt.new W ⟨op, fm, code, f3, f7⟩ s ⟨io, rd, ra, rb, imm, csr⟩ 44 26)
  unfold rowV insV at HX
  simp only [] at HX
  generalize ((W.alloc (.cells #[.int .u8 ((op : Nat) : Int), .int .u8 ((fm : Nat) : Int), .int .u32 ((code : Nat) : Int), .int .u32 ((f3 : Nat) : Int), .int .u32 ((f7 : Nat) : Int), .string s] 44)).alloc (.cells #[.int .u8 ((io : Nat) : Int), .int .u8 ((rd : Nat) : Int), .int .u8 ((ra : Nat) : Int), .int .u8 ((rb : Nat) : Int), .int .i32 imm, .int .u16 ((csr : Nat) : Int)] 26)) = w2 at HX ⊢
  have c1 := HX.out.row.c1
  have c2 := HX.out.row.c2
  have c3 := HX.out.row.c3
  have c4 := HX.out.row.c4
  have i1 := HX.out.i1
  have i2 := HX.out.i2
  have i3 := HX.out.i3
  have i4 := HX.out.i4
  have i5 := HX.out.i5
  simp only [] at c1 c2 c3 c4 i1 i2 i3 i4 i5
  go_upto_region 5 with fail
  go_quiet (fail)
  have HY := Lib.hid (HX.out.drewN nq)
  clear c1 c2 c3 c4 i1 i2 i3 i4 i5 HX
  generalize w2.drewN nq = w3 at HY ⊢
  have c1 := HY.out.row.c1
  have c2 := HY.out.row.c2
  have c3 := HY.out.row.c3
  have c4 := HY.out.row.c4
  have i1 := HY.out.i1
  have i2 := HY.out.i2
  have i3 := HY.out.i3
  have i4 := HY.out.i4
  have i5 := HY.out.i5
  simp only [] at c1 c2 c3 c4 i1 i2 i3 i4 i5
  go_wp2_with (go_at_call 25; (first | with_reducible refine (F0.out _).mono ?_ | with_reducible refine (F1.out _).mono ?_); rintro e w' ⟨rfl, rfl⟩)
  go_ret
  exact ⟨rfl, HY.out.b⟩
theorem dleast_B {op fm code f3 f7 : Nat} {s : ByteArray} {i : Ins} (hfm : fm = 66) (hg : good ⟨op, fm, code, f3, f7⟩ = true) (hi : boundsP i = true) (him : -2147483648 ≤ i.imm ∧ i.imm < 2147483648) (W : World) :
    Calls Tryd.prog 20 #[.agg (rowV ⟨op, fm, code, f3, f7⟩ s), .agg (insV i)] W fun e W' => e = .returned (.int .u32 ((leastP ⟨op, fm, code, f3, f7⟩ i : Nat) : Int)) ∧ Below W.heap.size W W' := by
  obtain ⟨io, rd, ra, rb, imm, csr⟩ := i
  obtain ⟨g1, g2, g3, g4, g5, g6⟩ := good_parts hg
  have hb := of_decide_eq_true hi
  simp only [] at him g1 g2 g3 g4 g5 g6 hb
  have r0 := wimm him.1 him.2
  obtain ⟨v, hv⟩ : ∃ v, v = u32 imm := ⟨_, rfl⟩
  have lv : v < 4294967296 := by rw [hv]; unfold u32; omega
  rw [← hv] at r0
  have hc : code < 128 := g3 (by omega)
  have hz : 66 = 85 ∨ 66 = 74 → f3 = 0 := fun h => g6 (by omega)
  have h7 : 66 = 65 → f7 < 32 := fun h => g4 (by omega)
  obtain ⟨m4, hm4⟩ : ∃ m, m = 4096 * f3 := ⟨_, rfl⟩
  have rm4 := wmul (z := 4096) rfl hm4 (by omega)
  obtain ⟨bw, hbw⟩ : ∃ m, m = code + m4 := ⟨_, rfl⟩
  have rbw := wadd hbw (by omega)
  have qd := wu32 (x := rd) (by omega)
  have qa := wu32 (x := ra) (by omega)
  have qb := wu32 (x := rb) (by omega)
  obtain ⟨d, hd⟩ : ∃ m, m = 128 * rd := ⟨_, rfl⟩
  have xd := wmul (z := 128) rfl hd (by omega)
  obtain ⟨a, ha⟩ : ∃ m, m = 32768 * ra := ⟨_, rfl⟩
  have xa := wmul (z := 32768) rfl ha (by omega)
  obtain ⟨b, hb2⟩ : ∃ m, m = 1048576 * rb := ⟨_, rfl⟩
  have xb := wmul (z := 1048576) rfl hb2 (by omega)
  obtain ⟨x, hx⟩ : ∃ x, x = fld v 12 1 := ⟨_, rfl⟩
  have lx : x < 2 := by rw [hx]; exact fld_lt v 12 1
  have F0 : Hid (∀ W : World, Calls Tryd.prog 25 #[.int .u32 ((v : Nat) : Int), .int .i64 12, .int .i64 1] W fun e w' => e = .returned (.int .u32 ((x : Nat) : Int)) ∧ w' = W) := Lib.hid (field_v lv hx rfl rfl (by decide) (by decide))
  obtain ⟨y, hy⟩ : ∃ y, y = fld v 5 6 := ⟨_, rfl⟩
  have ly : y < 64 := by rw [hy]; exact fld_lt v 5 6
  have F1 : Hid (∀ W : World, Calls Tryd.prog 25 #[.int .u32 ((v : Nat) : Int), .int .i64 5, .int .i64 6] W fun e w' => e = .returned (.int .u32 ((y : Nat) : Int)) ∧ w' = W) := Lib.hid (field_v lv hy rfl rfl (by decide) (by decide))
  obtain ⟨pp, hpp⟩ : ∃ pp, pp = fld v 1 4 := ⟨_, rfl⟩
  have lpp : pp < 16 := by rw [hpp]; exact fld_lt v 1 4
  have F2 : Hid (∀ W : World, Calls Tryd.prog 25 #[.int .u32 ((v : Nat) : Int), .int .i64 1, .int .i64 4] W fun e w' => e = .returned (.int .u32 ((pp : Nat) : Int)) ∧ w' = W) := Lib.hid (field_v lv hpp rfl rfl (by decide) (by decide))
  obtain ⟨u, hu⟩ : ∃ u, u = fld v 11 1 := ⟨_, rfl⟩
  have lu : u < 2 := by rw [hu]; exact fld_lt v 11 1
  have F3 : Hid (∀ W : World, Calls Tryd.prog 25 #[.int .u32 ((v : Nat) : Int), .int .i64 11, .int .i64 1] W fun e w' => e = .returned (.int .u32 ((u : Nat) : Int)) ∧ w' = W) := Lib.hid (field_v lv hu rfl rfl (by decide) (by decide))
  obtain ⟨s1, hs1⟩ : ∃ s1, s1 = bw + a := ⟨_, rfl⟩
  have rs1 := wadd hs1 (by omega)
  obtain ⟨s2, hs2⟩ : ∃ s2, s2 = s1 + b := ⟨_, rfl⟩
  have rs2 := wadd hs2 (by omega)
  obtain ⟨t3, ht3⟩ : ∃ t3, t3 = 2147483648 * x := ⟨_, rfl⟩
  have rt3 := wmul (z := 2147483648) rfl ht3 (by omega)
  obtain ⟨s3, hs3⟩ : ∃ s3, s3 = s2 + t3 := ⟨_, rfl⟩
  have rs3 := wadd hs3 (by omega)
  obtain ⟨t4, ht4⟩ : ∃ t4, t4 = 33554432 * y := ⟨_, rfl⟩
  have rt4 := wmul (z := 33554432) rfl ht4 (by omega)
  obtain ⟨s4, hs4⟩ : ∃ s4, s4 = s3 + t4 := ⟨_, rfl⟩
  have rs4 := wadd hs4 (by omega)
  obtain ⟨t5, ht5⟩ : ∃ t5, t5 = 256 * pp := ⟨_, rfl⟩
  have rt5 := wmul (z := 256) rfl ht5 (by omega)
  obtain ⟨s5, hs5⟩ : ∃ s5, s5 = s4 + t5 := ⟨_, rfl⟩
  have rs5 := wadd hs5 (by omega)
  obtain ⟨t6, ht6⟩ : ∃ t6, t6 = 128 * u := ⟨_, rfl⟩
  have rt6 := wmul (z := 128) rfl ht6 (by omega)
  obtain ⟨s6, hs6⟩ : ∃ s6, s6 = s5 + t6 := ⟨_, rfl⟩
  have rs6 := wadd hs6 (by omega)
  have hp : leastP ⟨op, fm, code, f3, f7⟩ ⟨io, rd, ra, rb, imm, csr⟩ = s6 := by
    subst hfm
    simp [leastP, ← hv, hm4, hbw, ha, hb2, hs1, hs2, ht3, hs3, ht4, hs4, ht5, hs5, ht6, hs6, hx, hy, hpp, hu]
  rw [hp]
  unfold rowV insV
  simp only []
  have e88 := eq_f (z := 88) rfl (show fm ≠ 88 by omega)
  have e85 := eq_f (z := 85) rfl (show fm ≠ 85 by omega)
  have e74 := eq_f (z := 74) rfl (show fm ≠ 74 by omega)
  have e73 := eq_f (z := 73) rfl (show fm ≠ 73 by omega)
  have e72 := eq_f (z := 72) rfl (show fm ≠ 72 by omega)
  have e83 := eq_f (z := 83) rfl (show fm ≠ 83 by omega)
  have e66 := eq_t (z := 66) rfl hfm
  clear hp hfm him hb hg hi hv lv g1 g2 g3 g4 g5 g6 hc hz h7 hs6 ht6 hs5 ht5 hs4 ht4 hs3 ht3 hs2 hs1 hb2 ha hd hbw hm4 hx lx hy ly hpp lpp hu lu
  go_enter Tryd.func20, Tryd.ntmps20
  go_upto_region 1 with fail
  have HX := Lib.hid (LsAt.new W ⟨op, fm, code, f3, f7⟩ s ⟨io, rd, ra, rb, imm, csr⟩ 44 26)
  unfold rowV insV at HX
  simp only [] at HX
  generalize ((W.alloc (.cells #[.int .u8 ((op : Nat) : Int), .int .u8 ((fm : Nat) : Int), .int .u32 ((code : Nat) : Int), .int .u32 ((f3 : Nat) : Int), .int .u32 ((f7 : Nat) : Int), .string s] 44)).alloc (.cells #[.int .u8 ((io : Nat) : Int), .int .u8 ((rd : Nat) : Int), .int .u8 ((ra : Nat) : Int), .int .u8 ((rb : Nat) : Int), .int .i32 imm, .int .u16 ((csr : Nat) : Int)] 26)) = w2 at HX ⊢
  have c1 := HX.out.row.c1
  have c2 := HX.out.row.c2
  have c3 := HX.out.row.c3
  have c4 := HX.out.row.c4
  have i1 := HX.out.i1
  have i2 := HX.out.i2
  have i3 := HX.out.i3
  have i4 := HX.out.i4
  have i5 := HX.out.i5
  simp only [] at c1 c2 c3 c4 i1 i2 i3 i4 i5
  go_upto_region 5 with fail
  go_quiet (fail)
  have HY := Lib.hid (HX.out.drewN nq)
  clear c1 c2 c3 c4 i1 i2 i3 i4 i5 HX
  generalize w2.drewN nq = w3 at HY ⊢
  have c1 := HY.out.row.c1
  have c2 := HY.out.row.c2
  have c3 := HY.out.row.c3
  have c4 := HY.out.row.c4
  have i1 := HY.out.i1
  have i2 := HY.out.i2
  have i3 := HY.out.i3
  have i4 := HY.out.i4
  have i5 := HY.out.i5
  simp only [] at c1 c2 c3 c4 i1 i2 i3 i4 i5
  go_wp2_with (go_at_call 25; (first | with_reducible refine (F0.out _).mono ?_ | with_reducible refine (F1.out _).mono ?_ | with_reducible refine (F2.out _).mono ?_ | with_reducible refine (F3.out _).mono ?_); rintro e w' ⟨rfl, rfl⟩)
  go_ret
  exact ⟨rfl, HY.out.b⟩
theorem dleast_R {op fm code f3 f7 : Nat} {s : ByteArray} {i : Ins} (hfm : fm = 82) (hg : good ⟨op, fm, code, f3, f7⟩ = true) (hi : boundsP i = true) (him : -2147483648 ≤ i.imm ∧ i.imm < 2147483648) (W : World) :
    Calls Tryd.prog 20 #[.agg (rowV ⟨op, fm, code, f3, f7⟩ s), .agg (insV i)] W fun e W' => e = .returned (.int .u32 ((leastP ⟨op, fm, code, f3, f7⟩ i : Nat) : Int)) ∧ Below W.heap.size W W' := by
  obtain ⟨io, rd, ra, rb, imm, csr⟩ := i
  obtain ⟨g1, g2, g3, g4, g5, g6⟩ := good_parts hg
  have hb := of_decide_eq_true hi
  simp only [] at him g1 g2 g3 g4 g5 g6 hb
  have r0 := wimm him.1 him.2
  obtain ⟨v, hv⟩ : ∃ v, v = u32 imm := ⟨_, rfl⟩
  have lv : v < 4294967296 := by rw [hv]; unfold u32; omega
  rw [← hv] at r0
  have hc : code < 128 := g3 (by omega)
  have hz : 82 = 85 ∨ 82 = 74 → f3 = 0 := fun h => g6 (by omega)
  have h7 : 82 = 65 → f7 < 32 := fun h => g4 (by omega)
  obtain ⟨m4, hm4⟩ : ∃ m, m = 4096 * f3 := ⟨_, rfl⟩
  have rm4 := wmul (z := 4096) rfl hm4 (by omega)
  obtain ⟨bw, hbw⟩ : ∃ m, m = code + m4 := ⟨_, rfl⟩
  have rbw := wadd hbw (by omega)
  have qd := wu32 (x := rd) (by omega)
  have qa := wu32 (x := ra) (by omega)
  have qb := wu32 (x := rb) (by omega)
  obtain ⟨d, hd⟩ : ∃ m, m = 128 * rd := ⟨_, rfl⟩
  have xd := wmul (z := 128) rfl hd (by omega)
  obtain ⟨a, ha⟩ : ∃ m, m = 32768 * ra := ⟨_, rfl⟩
  have xa := wmul (z := 32768) rfl ha (by omega)
  obtain ⟨b, hb2⟩ : ∃ m, m = 1048576 * rb := ⟨_, rfl⟩
  have xb := wmul (z := 1048576) rfl hb2 (by omega)
  obtain ⟨s1, hs1⟩ : ∃ s1, s1 = bw + d := ⟨_, rfl⟩
  have rs1 := wadd hs1 (by omega)
  obtain ⟨s2, hs2⟩ : ∃ s2, s2 = s1 + a := ⟨_, rfl⟩
  have rs2 := wadd hs2 (by omega)
  obtain ⟨s3, hs3⟩ : ∃ s3, s3 = s2 + b := ⟨_, rfl⟩
  have rs3 := wadd hs3 (by omega)
  obtain ⟨t4, ht4⟩ : ∃ t4, t4 = 33554432 * f7 := ⟨_, rfl⟩
  have rt4 := wmul (z := 33554432) rfl ht4 (by omega)
  obtain ⟨s4, hs4⟩ : ∃ s4, s4 = s3 + t4 := ⟨_, rfl⟩
  have rs4 := wadd hs4 (by omega)
  have hp : leastP ⟨op, fm, code, f3, f7⟩ ⟨io, rd, ra, rb, imm, csr⟩ = s4 := by
    subst hfm
    simp [leastP, hm4, hbw, hd, ha, hb2, hs1, hs2, hs3, ht4, hs4]
  rw [hp]
  unfold rowV insV
  simp only []
  have e88 := eq_f (z := 88) rfl (show fm ≠ 88 by omega)
  have e85 := eq_f (z := 85) rfl (show fm ≠ 85 by omega)
  have e74 := eq_f (z := 74) rfl (show fm ≠ 74 by omega)
  have e73 := eq_f (z := 73) rfl (show fm ≠ 73 by omega)
  have e72 := eq_f (z := 72) rfl (show fm ≠ 72 by omega)
  have e83 := eq_f (z := 83) rfl (show fm ≠ 83 by omega)
  have e66 := eq_f (z := 66) rfl (show fm ≠ 66 by omega)
  have e82 := eq_t (z := 82) rfl hfm
  clear hp hfm him hb hg hi hv lv g1 g2 g3 g4 g5 g6 hc hz h7 hs4 ht4 hs3 hs2 hs1 hb2 ha hd hbw hm4 
  go_enter Tryd.func20, Tryd.ntmps20
  go_upto_region 1 with fail
  have HX := Lib.hid (LsAt.new W ⟨op, fm, code, f3, f7⟩ s ⟨io, rd, ra, rb, imm, csr⟩ 44 26)
  unfold rowV insV at HX
  simp only [] at HX
  generalize ((W.alloc (.cells #[.int .u8 ((op : Nat) : Int), .int .u8 ((fm : Nat) : Int), .int .u32 ((code : Nat) : Int), .int .u32 ((f3 : Nat) : Int), .int .u32 ((f7 : Nat) : Int), .string s] 44)).alloc (.cells #[.int .u8 ((io : Nat) : Int), .int .u8 ((rd : Nat) : Int), .int .u8 ((ra : Nat) : Int), .int .u8 ((rb : Nat) : Int), .int .i32 imm, .int .u16 ((csr : Nat) : Int)] 26)) = w2 at HX ⊢
  have c1 := HX.out.row.c1
  have c2 := HX.out.row.c2
  have c3 := HX.out.row.c3
  have c4 := HX.out.row.c4
  have i1 := HX.out.i1
  have i2 := HX.out.i2
  have i3 := HX.out.i3
  have i4 := HX.out.i4
  have i5 := HX.out.i5
  simp only [] at c1 c2 c3 c4 i1 i2 i3 i4 i5
  go_upto_region 5 with fail
  go_quiet (fail)
  have HY := Lib.hid (HX.out.drewN nq)
  clear c1 c2 c3 c4 i1 i2 i3 i4 i5 HX
  generalize w2.drewN nq = w3 at HY ⊢
  have c1 := HY.out.row.c1
  have c2 := HY.out.row.c2
  have c3 := HY.out.row.c3
  have c4 := HY.out.row.c4
  have i1 := HY.out.i1
  have i2 := HY.out.i2
  have i3 := HY.out.i3
  have i4 := HY.out.i4
  have i5 := HY.out.i5
  simp only [] at c1 c2 c3 c4 i1 i2 i3 i4 i5
  go_wp2_with fail
  go_ret
  exact ⟨rfl, HY.out.b⟩
theorem dleast_A {op fm code f3 f7 : Nat} {s : ByteArray} {i : Ins} (hfm : fm = 65) (hg : good ⟨op, fm, code, f3, f7⟩ = true) (hi : boundsP i = true) (him : -2147483648 ≤ i.imm ∧ i.imm < 2147483648) (W : World) :
    Calls Tryd.prog 20 #[.agg (rowV ⟨op, fm, code, f3, f7⟩ s), .agg (insV i)] W fun e W' => e = .returned (.int .u32 ((leastP ⟨op, fm, code, f3, f7⟩ i : Nat) : Int)) ∧ Below W.heap.size W W' := by
  obtain ⟨io, rd, ra, rb, imm, csr⟩ := i
  obtain ⟨g1, g2, g3, g4, g5, g6⟩ := good_parts hg
  have hb := of_decide_eq_true hi
  simp only [] at him g1 g2 g3 g4 g5 g6 hb
  have r0 := wimm him.1 him.2
  obtain ⟨v, hv⟩ : ∃ v, v = u32 imm := ⟨_, rfl⟩
  have lv : v < 4294967296 := by rw [hv]; unfold u32; omega
  rw [← hv] at r0
  have hc : code < 128 := g3 (by omega)
  have hz : 65 = 85 ∨ 65 = 74 → f3 = 0 := fun h => g6 (by omega)
  have h7 : 65 = 65 → f7 < 32 := fun h => g4 (by omega)
  obtain ⟨m4, hm4⟩ : ∃ m, m = 4096 * f3 := ⟨_, rfl⟩
  have rm4 := wmul (z := 4096) rfl hm4 (by omega)
  obtain ⟨bw, hbw⟩ : ∃ m, m = code + m4 := ⟨_, rfl⟩
  have rbw := wadd hbw (by omega)
  have qd := wu32 (x := rd) (by omega)
  have qa := wu32 (x := ra) (by omega)
  have qb := wu32 (x := rb) (by omega)
  obtain ⟨d, hd⟩ : ∃ m, m = 128 * rd := ⟨_, rfl⟩
  have xd := wmul (z := 128) rfl hd (by omega)
  obtain ⟨a, ha⟩ : ∃ m, m = 32768 * ra := ⟨_, rfl⟩
  have xa := wmul (z := 32768) rfl ha (by omega)
  obtain ⟨b, hb2⟩ : ∃ m, m = 1048576 * rb := ⟨_, rfl⟩
  have xb := wmul (z := 1048576) rfl hb2 (by omega)
  obtain ⟨s1, hs1⟩ : ∃ s1, s1 = bw + d := ⟨_, rfl⟩
  have rs1 := wadd hs1 (by omega)
  obtain ⟨s2, hs2⟩ : ∃ s2, s2 = s1 + a := ⟨_, rfl⟩
  have rs2 := wadd hs2 (by omega)
  obtain ⟨s3, hs3⟩ : ∃ s3, s3 = s2 + b := ⟨_, rfl⟩
  have rs3 := wadd hs3 (by omega)
  obtain ⟨t4, ht4⟩ : ∃ t4, t4 = 134217728 * f7 := ⟨_, rfl⟩
  have rt4 := wmul (z := 134217728) rfl ht4 (by omega)
  obtain ⟨s4, hs4⟩ : ∃ s4, s4 = s3 + t4 := ⟨_, rfl⟩
  have rs4 := wadd hs4 (by omega)
  have hp : leastP ⟨op, fm, code, f3, f7⟩ ⟨io, rd, ra, rb, imm, csr⟩ = s4 := by
    subst hfm
    simp [leastP, hm4, hbw, hd, ha, hb2, hs1, hs2, hs3, ht4, hs4]
  rw [hp]
  unfold rowV insV
  simp only []
  have e88 := eq_f (z := 88) rfl (show fm ≠ 88 by omega)
  have e85 := eq_f (z := 85) rfl (show fm ≠ 85 by omega)
  have e74 := eq_f (z := 74) rfl (show fm ≠ 74 by omega)
  have e73 := eq_f (z := 73) rfl (show fm ≠ 73 by omega)
  have e72 := eq_f (z := 72) rfl (show fm ≠ 72 by omega)
  have e83 := eq_f (z := 83) rfl (show fm ≠ 83 by omega)
  have e66 := eq_f (z := 66) rfl (show fm ≠ 66 by omega)
  have e82 := eq_f (z := 82) rfl (show fm ≠ 82 by omega)
  have e65 := eq_t (z := 65) rfl hfm
  clear hp hfm him hb hg hi hv lv g1 g2 g3 g4 g5 g6 hc hz h7 hs4 ht4 hs3 hs2 hs1 hb2 ha hd hbw hm4 
  go_enter Tryd.func20, Tryd.ntmps20
  go_upto_region 1 with fail
  have HX := Lib.hid (LsAt.new W ⟨op, fm, code, f3, f7⟩ s ⟨io, rd, ra, rb, imm, csr⟩ 44 26)
  unfold rowV insV at HX
  simp only [] at HX
  generalize ((W.alloc (.cells #[.int .u8 ((op : Nat) : Int), .int .u8 ((fm : Nat) : Int), .int .u32 ((code : Nat) : Int), .int .u32 ((f3 : Nat) : Int), .int .u32 ((f7 : Nat) : Int), .string s] 44)).alloc (.cells #[.int .u8 ((io : Nat) : Int), .int .u8 ((rd : Nat) : Int), .int .u8 ((ra : Nat) : Int), .int .u8 ((rb : Nat) : Int), .int .i32 imm, .int .u16 ((csr : Nat) : Int)] 26)) = w2 at HX ⊢
  have c1 := HX.out.row.c1
  have c2 := HX.out.row.c2
  have c3 := HX.out.row.c3
  have c4 := HX.out.row.c4
  have i1 := HX.out.i1
  have i2 := HX.out.i2
  have i3 := HX.out.i3
  have i4 := HX.out.i4
  have i5 := HX.out.i5
  simp only [] at c1 c2 c3 c4 i1 i2 i3 i4 i5
  go_upto_region 5 with fail
  go_quiet (fail)
  have HY := Lib.hid (HX.out.drewN nq)
  clear c1 c2 c3 c4 i1 i2 i3 i4 i5 HX
  generalize w2.drewN nq = w3 at HY ⊢
  have c1 := HY.out.row.c1
  have c2 := HY.out.row.c2
  have c3 := HY.out.row.c3
  have c4 := HY.out.row.c4
  have i1 := HY.out.i1
  have i2 := HY.out.i2
  have i3 := HY.out.i3
  have i4 := HY.out.i4
  have i5 := HY.out.i5
  simp only [] at c1 c2 c3 c4 i1 i2 i3 i4 i5
  go_wp2_with fail
  go_ret
  exact ⟨rfl, HY.out.b⟩
end De
end Go.Proofs.YtbgcgomefdblpaaDoor
