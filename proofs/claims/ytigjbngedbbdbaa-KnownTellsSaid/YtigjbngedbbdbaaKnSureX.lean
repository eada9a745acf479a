/-
  The masks of a node, operator by operator, each as a fact on one call.
-/
import Derived.Test.YtigjbngedbbdbaaKnSure
namespace Go.Proofs.Ytigjbngedbbdbaa
open Go.RowKit Go.Maps Bv Tm
namespace Kn
set_option maxHeartbeats 20000000
set_option maxRecDepth 100000

/-- The operators, and what is sure of each. -/
inductive SureCase (w n l : Nat) (k1 : Int) (w0 z0 o0 w1 z1 o1 w2 z2 o2 : Nat) (sp : Value) (W : World) : Int → Value → Prop where
  | c_const (h1 : 1 ≤ w) (h2 : w ≤ 64) (hn : n < 18446744073709551616) : SureCase w n l k1 w0 z0 o0 w1 z1 o1 w2 z2 o2 sp W (1) (.agg #[.int .u8 ((w : Nat) : Int), .int .u64 ((low w (18446744073709551615 - n) : Nat) : Int), .int .u64 ((low w n : Nat) : Int)])
  | c_not (h1 : 1 ≤ w) (h2 : w ≤ 64) (hz0 : z0 < 18446744073709551616) (ho0 : o0 < 18446744073709551616) : SureCase w n l k1 w0 z0 o0 w1 z1 o1 w2 z2 o2 sp W (3) (.agg #[.int .u8 ((w : Nat) : Int), .int .u64 ((low w o0 : Nat) : Int), .int .u64 ((low w z0 : Nat) : Int)])
  | c_and (h1 : 1 ≤ w) (h2 : w ≤ 64) (hz0 : z0 < 18446744073709551616) (ho0 : o0 < 18446744073709551616) (hz1 : z1 < 18446744073709551616) (ho1 : o1 < 18446744073709551616) : SureCase w n l k1 w0 z0 o0 w1 z1 o1 w2 z2 o2 sp W (5) (.agg #[.int .u8 ((w : Nat) : Int), .int .u64 ((low w (z0 ||| z1) : Nat) : Int), .int .u64 ((low w (o0 &&& o1) : Nat) : Int)])
  | c_or (h1 : 1 ≤ w) (h2 : w ≤ 64) (hz0 : z0 < 18446744073709551616) (ho0 : o0 < 18446744073709551616) (hz1 : z1 < 18446744073709551616) (ho1 : o1 < 18446744073709551616) : SureCase w n l k1 w0 z0 o0 w1 z1 o1 w2 z2 o2 sp W (6) (.agg #[.int .u8 ((w : Nat) : Int), .int .u64 ((low w (z0 &&& z1) : Nat) : Int), .int .u64 ((low w (o0 ||| o1) : Nat) : Int)])
  | c_xor (h1 : 1 ≤ w) (h2 : w ≤ 64) (hz0 : z0 < 18446744073709551616) (ho0 : o0 < 18446744073709551616) (hz1 : z1 < 18446744073709551616) (ho1 : o1 < 18446744073709551616) : SureCase w n l k1 w0 z0 o0 w1 z1 o1 w2 z2 o2 sp W (7) (.agg #[.int .u8 ((w : Nat) : Int), .int .u64 ((low w (z0 &&& z1 ||| o0 &&& o1) : Nat) : Int), .int .u64 ((low w (z0 &&& o1 ||| o0 &&& z1) : Nat) : Int)])
  | c_add (h1 : 1 ≤ w) (h2 : w ≤ 64) (hz0 : z0 < 18446744073709551616) (hz1 : z1 < 18446744073709551616) : SureCase w n l k1 w0 z0 o0 w1 z1 o1 w2 z2 o2 sp W (8) (.agg #[.int .u8 ((w : Nat) : Int), .int .u64 ((low w (lows (z0 &&& z1)) : Nat) : Int), .int .u64 0])
  | c_sub (h1 : 1 ≤ w) (h2 : w ≤ 64) (hz0 : z0 < 18446744073709551616) (hz1 : z1 < 18446744073709551616) : SureCase w n l k1 w0 z0 o0 w1 z1 o1 w2 z2 o2 sp W (9) (.agg #[.int .u8 ((w : Nat) : Int), .int .u64 ((low w (lows (z0 &&& z1)) : Nat) : Int), .int .u64 0])
  | c_mul (h1 : 1 ≤ w) (h2 : w ≤ 64) (hz0 : z0 < 18446744073709551616) (hz1 : z1 < 18446744073709551616) : SureCase w n l k1 w0 z0 o0 w1 z1 o1 w2 z2 o2 sp W (10) (.agg #[.int .u8 ((w : Nat) : Int), .int .u64 ((low w (lows z0 ||| lows z1) : Nat) : Int), .int .u64 0])
  | c_shl (h1 : 1 ≤ w0) (h2 : w0 ≤ 64) (hz0 : z0 < 18446744073709551616) (ho0 : o0 < 18446744073709551616) (yw y0 y1 y2 yl : Int) (yn : Nat) (HN : Hid (∀ v, Below W.heap.size W v → Calls Try.prog 15 #[sp, .int .i64 k1] v fun e v' => e = .returned (.tuple #[.agg #[.int .u8 1, .int .u8 yw, .int .i64 y0, .int .i64 y1, .int .i64 y2, .int .u64 ((yn : Nat) : Int), .int .u8 yl], .int .i64 0]) ∧ Below v.heap.size v v')) : SureCase w n l k1 w0 z0 o0 w1 z1 o1 w2 z2 o2 sp W (15) (.agg #[.int .u8 ((w0 : Nat) : Int), .int .u64 (((shK 15 w0 (z0, o0) yn).1 : Nat) : Int), .int .u64 (((shK 15 w0 (z0, o0) yn).2 : Nat) : Int)])
  | c_lshr (h1 : 1 ≤ w0) (h2 : w0 ≤ 64) (hz0 : z0 < 18446744073709551616) (ho0 : o0 < 18446744073709551616) (yw y0 y1 y2 yl : Int) (yn : Nat) (HN : Hid (∀ v, Below W.heap.size W v → Calls Try.prog 15 #[sp, .int .i64 k1] v fun e v' => e = .returned (.tuple #[.agg #[.int .u8 1, .int .u8 yw, .int .i64 y0, .int .i64 y1, .int .i64 y2, .int .u64 ((yn : Nat) : Int), .int .u8 yl], .int .i64 0]) ∧ Below v.heap.size v v')) : SureCase w n l k1 w0 z0 o0 w1 z1 o1 w2 z2 o2 sp W (16) (.agg #[.int .u8 ((w0 : Nat) : Int), .int .u64 (((shK 16 w0 (z0, o0) yn).1 : Nat) : Int), .int .u64 (((shK 16 w0 (z0, o0) yn).2 : Nat) : Int)])
  | c_ashr (h1 : 1 ≤ w0) (h2 : w0 ≤ 64) (hz0 : z0 < 2 ^ w0) (ho0 : o0 < 2 ^ w0) (yw y0 y1 y2 yl : Int) (yn : Nat) (HN : Hid (∀ v, Below W.heap.size W v → Calls Try.prog 15 #[sp, .int .i64 k1] v fun e v' => e = .returned (.tuple #[.agg #[.int .u8 1, .int .u8 yw, .int .i64 y0, .int .i64 y1, .int .i64 y2, .int .u64 ((yn : Nat) : Int), .int .u8 yl], .int .i64 0]) ∧ Below v.heap.size v v')) : SureCase w n l k1 w0 z0 o0 w1 z1 o1 w2 z2 o2 sp W (17) (.agg #[.int .u8 ((w0 : Nat) : Int), .int .u64 (((shK 17 w0 (z0, o0) yn).1 : Nat) : Int), .int .u64 (((shK 17 w0 (z0, o0) yn).2 : Nat) : Int)])
  | c_shl0 (yo yw y0 y1 y2 yl : Int) (yn : Nat) (HN : Hid (∀ v, Below W.heap.size W v → Calls Try.prog 15 #[sp, .int .i64 k1] v fun e v' => e = .returned (.tuple #[.agg #[.int .u8 yo, .int .u8 yw, .int .i64 y0, .int .i64 y1, .int .i64 y2, .int .u64 ((yn : Nat) : Int), .int .u8 yl], .int .i64 0]) ∧ Below v.heap.size v v')) (yo0 : ¬ yo = 1) : SureCase w n l k1 w0 z0 o0 w1 z1 o1 w2 z2 o2 sp W (15) (.agg #[.int .u8 ((w : Nat) : Int), .int .u64 0, .int .u64 0])
  | c_lshr0 (yo yw y0 y1 y2 yl : Int) (yn : Nat) (HN : Hid (∀ v, Below W.heap.size W v → Calls Try.prog 15 #[sp, .int .i64 k1] v fun e v' => e = .returned (.tuple #[.agg #[.int .u8 yo, .int .u8 yw, .int .i64 y0, .int .i64 y1, .int .i64 y2, .int .u64 ((yn : Nat) : Int), .int .u8 yl], .int .i64 0]) ∧ Below v.heap.size v v')) (yo0 : ¬ yo = 1) : SureCase w n l k1 w0 z0 o0 w1 z1 o1 w2 z2 o2 sp W (16) (.agg #[.int .u8 ((w : Nat) : Int), .int .u64 0, .int .u64 0])
  | c_ashr0 (yo yw y0 y1 y2 yl : Int) (yn : Nat) (HN : Hid (∀ v, Below W.heap.size W v → Calls Try.prog 15 #[sp, .int .i64 k1] v fun e v' => e = .returned (.tuple #[.agg #[.int .u8 yo, .int .u8 yw, .int .i64 y0, .int .i64 y1, .int .i64 y2, .int .u64 ((yn : Nat) : Int), .int .u8 yl], .int .i64 0]) ∧ Below v.heap.size v v')) (yo0 : ¬ yo = 1) : SureCase w n l k1 w0 z0 o0 w1 z1 o1 w2 z2 o2 sp W (17) (.agg #[.int .u8 ((w : Nat) : Int), .int .u64 0, .int .u64 0])
  | c_concat (h1 : 1 ≤ w) (h2 : w ≤ 64) (hz0 : z0 < 18446744073709551616) (ho0 : o0 < 18446744073709551616) (hz1 : z1 < 18446744073709551616) (ho1 : o1 < 18446744073709551616) : SureCase w n l k1 w0 z0 o0 w1 z1 o1 w2 z2 o2 sp W (21) (.agg #[.int .u8 ((w : Nat) : Int), .int .u64 ((low w (z0 * 2 ^ min w1 64 % 18446744073709551616 ||| z1) : Nat) : Int), .int .u64 ((low w (o0 * 2 ^ min w1 64 % 18446744073709551616 ||| o1) : Nat) : Int)])
  | c_extract (h1 : 1 ≤ w) (h2 : w ≤ 64) (hz0 : z0 < 18446744073709551616) (ho0 : o0 < 18446744073709551616) : SureCase w n l k1 w0 z0 o0 w1 z1 o1 w2 z2 o2 sp W (22) (.agg #[.int .u8 ((w : Nat) : Int), .int .u64 ((low w (z0 / 2 ^ min l 64) : Nat) : Int), .int .u64 ((low w (o0 / 2 ^ min l 64) : Nat) : Int)])
  | c_zext (h1 : 1 ≤ w) (h2 : w ≤ 64) (h3 : 1 ≤ w0) (h4 : w0 ≤ 64) (hz0 : z0 < 18446744073709551616) (ho0 : o0 < 18446744073709551616) : SureCase w n l k1 w0 z0 o0 w1 z1 o1 w2 z2 o2 sp W (23) (.agg #[.int .u8 ((w : Nat) : Int), .int .u64 ((low w (z0 ||| (18446744073709551615 - (2 ^ w0 - 1))) : Nat) : Int), .int .u64 ((low w o0 : Nat) : Int)])
  | c_sext (h1 : 1 ≤ w) (h2 : w ≤ 64) (h3 : 1 ≤ w0) (h4 : w0 ≤ 64) (hz0 : z0 < 2 ^ w0) (ho0 : o0 < 2 ^ w0) : SureCase w n l k1 w0 z0 o0 w1 z1 o1 w2 z2 o2 sp W (24) (.agg #[.int .u8 ((w : Nat) : Int), .int .u64 ((low w (numE 24 w0 z0) : Nat) : Int), .int .u64 ((low w (numE 24 w0 o0) : Nat) : Int)])
  | c_ite (h1 : 1 ≤ w1) (h2 : w1 ≤ 64) (hz1 : z1 < 18446744073709551616) (ho1 : o1 < 18446744073709551616) (hz2 : z2 < 18446744073709551616) (ho2 : o2 < 18446744073709551616) (wr zr orr : Nat) (er : (if o0 = 1 then w1 else if z0 = 1 then w2 else w1) = wr) (ez : (iteK w1 (z0, o0) (z1, o1) (z2, o2)).1 = zr) (eo : (iteK w1 (z0, o0) (z1, o1) (z2, o2)).2 = orr) : SureCase w n l k1 w0 z0 o0 w1 z1 o1 w2 z2 o2 sp W (25) (.agg #[.int .u8 ((wr : Nat) : Int), .int .u64 ((zr : Nat) : Int), .int .u64 ((orr : Nat) : Int)])
  | c_eq (h1 : 1 ≤ w0) (h2 : w0 ≤ 64) (hz0 : z0 < 18446744073709551616) (ho0 : o0 < 18446744073709551616) (hz1 : z1 < 18446744073709551616) (ho1 : o1 < 18446744073709551616) (zr orr : Nat) (ez : (eqK w0 (z0, o0) (z1, o1)).1 = zr) (eo : (eqK w0 (z0, o0) (z1, o1)).2 = orr) : SureCase w n l k1 w0 z0 o0 w1 z1 o1 w2 z2 o2 sp W (18) (.agg #[.int .u8 1, .int .u64 ((zr : Nat) : Int), .int .u64 ((orr : Nat) : Int)])
  | c_none (o : Nat) (ho : o = 2 ∨ o = 4 ∨ (11 ≤ o ∧ o ≤ 14) ∨ o = 19 ∨ o = 20) : SureCase w n l k1 w0 z0 o0 w1 z1 o1 w2 z2 o2 sp W (((o : Nat) : Int)) (.agg #[.int .u8 ((w : Nat) : Int), .int .u64 0, .int .u64 0])

theorem sure_all (w n l b : Nat) (k0 k1 k2 : Int) (w0 z0 o0 w1 z1 o1 w2 z2 o2 : Nat) (sp : Value) (W : World) (oI : Int) (RES : Value) (hcase : SureCase w n l k1 w0 z0 o0 w1 z1 o1 w2 z2 o2 sp W oI RES) (HL : Hid (LookK W b k0 k1 k2 w0 z0 o0 w1 z1 o1 w2 z2 o2)) :
    Calls Try.prog 17 #[sp, .agg #[.int .u8 oI, .int .u8 ((w : Nat) : Int), .int .i64 k0, .int .i64 k1, .int .i64 k2, .int .u64 ((n : Nat) : Int), .int .u8 ((l : Nat) : Int)], .map (some b)] W fun e W' => e = .returned RES ∧ Below W.heap.size W W' := by
  have HS : Hid (SureS W b (.int .u8 oI) (.int .u8 ((w : Nat) : Int)) (.int .u64 ((n : Nat) : Int)) (.int .u8 ((l : Nat) : Int)) k0 k1 k2 w0 z0 o0 w1 z1 o1 w2 z2 o2 ((W.alloc (.cells #[.int .u8 oI, .int .u8 ((w : Nat) : Int), .int .i64 k0, .int .i64 k1, .int .i64 k2, .int .u64 ((n : Nat) : Int), .int .u8 ((l : Nat) : Int)] 57)).alloc (.cells #[.int .u8 0, .int .u64 0, .int .u64 0] 65))) :=
    SureS.alloc ⟨At7.new W _ _ _ _ _ _ _ _, HL.out.same (Below.heap_alloc _ _ _ HL.out.1) (by simp), bel_alloc (Below.refl _ _) _, HL.out.1⟩ _
  go_enter Try.func17, Try.ntmps17
  go_upto_region 1 with fail
  go_cut [7, 8, 9] (fun s7 s8 s9 wx => ∃ g h i : Nat, s7 = .pointer (some ⟨g, 0, none⟩) ∧ s8 = .pointer (some ⟨h, 0, none⟩) ∧ s9 = .pointer (some ⟨i, 0, none⟩) ∧ W.heap.size + 1 < g ∧ W.heap.size + 1 < h ∧ W.heap.size + 1 < i ∧ At3 wx g (.int .u8 ((w0 : Nat) : Int)) (.int .u64 ((z0 : Nat) : Int)) (.int .u64 ((o0 : Nat) : Int)) ∧ At3 wx h (.int .u8 ((w1 : Nat) : Int)) (.int .u64 ((z1 : Nat) : Int)) (.int .u64 ((o1 : Nat) : Int)) ∧ At3 wx i (.int .u8 ((w2 : Nat) : Int)) (.int .u64 ((z2 : Nat) : Int)) (.int .u64 ((o2 : Nat) : Int)) ∧ At7 wx W.heap.size (.int .u8 oI) (.int .u8 ((w : Nat) : Int)) (.int .i64 k0) (.int .i64 k1) (.int .i64 k2) (.int .u64 ((n : Nat) : Int)) (.int .u8 ((l : Nat) : Int)) ∧ At3 wx (W.heap.size + 1) (.int .u8 0) (.int .u64 0) (.int .u64 0) ∧ (∀ o, wx.frozen? ⟨W.heap.size + 1, o, none⟩ = false) ∧ Below W.heap.size W wx)
  case first =>
    refine wp_region_held_drew (S := fun w' => SureS W b (.int .u8 oI) (.int .u8 ((w : Nat) : Int)) (.int .u64 ((n : Nat) : Int)) (.int .u8 ((l : Nat) : Int)) k0 k1 k2 w0 z0 o0 w1 z1 o1 w2 z2 o2 w') (by kernel_rfl) HS.out.drew (fun hHeld => ?_)
    refine wpAnyH_take (i := 0) (v := .map (some b)) (by simp only [List.getElem?_toArray, List.getElem?_cons_zero]; rfl) (by kernel_rfl) (by kernel_rfl) (by kernel_rfl) (by exact fun _ _ _ h => h) (Or.inl ⟨by rfl, ?_⟩) hHeld ?_
    · intro w' hSw
      go_simp
    simp only [Act.put, List.setIfInBounds_toArray, List.set_cons_zero, List.set_cons_succ]
    refine wpAnyH_take (i := 1) (v := .pointer (some ⟨W.heap.size, 2, none⟩)) (by simp only [List.getElem?_toArray, List.getElem?_cons_zero, List.getElem?_cons_succ]; rfl) (by kernel_rfl) (by kernel_rfl) (by kernel_rfl) (by exact fun _ _ _ h => h) (Or.inl ⟨by rfl, ?_⟩) hHeld ?_
    · intro w' hSw
      go_simp
    simp only [Act.put, List.setIfInBounds_toArray, List.set_cons_zero, List.set_cons_succ]
    refine wpAnyH_take (i := 2) (v := .pointer (some ⟨W.heap.size, 2, none⟩)) (by simp only [List.getElem?_toArray, List.getElem?_cons_zero, List.getElem?_cons_succ]; rfl) (by kernel_rfl) (by kernel_rfl) (by kernel_rfl) (by exact fun _ _ _ h => h) (Or.inl ⟨by rfl, ?_⟩) hHeld ?_
    · intro w' hSw
      go_simp
    simp only [Act.put, List.setIfInBounds_toArray, List.set_cons_zero, List.set_cons_succ]
    refine wpAnyH_take (i := 3) (v := .int .i64 k0) (by simp only [List.getElem?_toArray, List.getElem?_cons_zero, List.getElem?_cons_succ]; rfl) (by kernel_rfl) (by kernel_rfl) (by kernel_rfl) (by exact fun _ _ _ h => h) (Or.inl ⟨by rfl, ?_⟩) hHeld ?_
    · intro w' hSw
      obtain ⟨f0, f1, f2, f3, f4, f5, f6, f7, f8, f9⟩ := hSw.facts; have lW := hSw.box.lt; go_simp
    simp only [Act.put, List.setIfInBounds_toArray, List.set_cons_zero, List.set_cons_succ]
    refine wpAnyH_take (i := 4) (v := .agg #[.int .u8 ((w0 : Nat) : Int), .int .u64 ((z0 : Nat) : Int), .int .u64 ((o0 : Nat) : Int)]) (by simp only [List.getElem?_toArray, List.getElem?_cons_zero, List.getElem?_cons_succ]; rfl) (by kernel_rfl) (by kernel_rfl) (by kernel_rfl) (by exact fun _ _ _ h => h) (Or.inl ⟨by rfl, ?_⟩) hHeld ?_
    · intro w' hSw
      obtain ⟨f0, f1, f2, f3, f4, f5, f6, f7, f8, f9⟩ := hSw.facts; have lW := hSw.box.lt; go_simp
    simp only [Act.put, List.setIfInBounds_toArray, List.set_cons_zero, List.set_cons_succ]
    refine wpAnyH_take (i := 5) (v := .map (some b)) (by simp only [List.getElem?_toArray, List.getElem?_cons_zero, List.getElem?_cons_succ]; rfl) (by kernel_rfl) (by kernel_rfl) (by kernel_rfl) (by exact fun _ _ _ h => h) (Or.inl ⟨by rfl, ?_⟩) hHeld ?_
    · intro w' hSw
      go_simp
    simp only [Act.put, List.setIfInBounds_toArray, List.set_cons_zero, List.set_cons_succ]
    refine wpAnyH_take (i := 6) (v := .pointer (some ⟨W.heap.size, 2, none⟩)) (by simp only [List.getElem?_toArray, List.getElem?_cons_zero, List.getElem?_cons_succ]; rfl) (by kernel_rfl) (by kernel_rfl) (by kernel_rfl) (by exact fun _ _ _ h => h) (Or.inl ⟨by rfl, ?_⟩) hHeld ?_
    · intro w' hSw
      go_simp
    simp only [Act.put, List.setIfInBounds_toArray, List.set_cons_zero, List.set_cons_succ]
    refine wpAnyH_take (i := 7) (v := .pointer (some ⟨W.heap.size, 3, none⟩)) (by simp only [List.getElem?_toArray, List.getElem?_cons_zero, List.getElem?_cons_succ]; rfl) (by kernel_rfl) (by kernel_rfl) (by kernel_rfl) (by exact fun _ _ _ h => h) (Or.inl ⟨by rfl, ?_⟩) hHeld ?_
    · intro w' hSw
      go_simp
    simp only [Act.put, List.setIfInBounds_toArray, List.set_cons_zero, List.set_cons_succ]
    refine wpAnyH_take (i := 8) (v := .int .i64 k1) (by simp only [List.getElem?_toArray, List.getElem?_cons_zero, List.getElem?_cons_succ]; rfl) (by kernel_rfl) (by kernel_rfl) (by kernel_rfl) (by exact fun _ _ _ h => h) (Or.inl ⟨by rfl, ?_⟩) hHeld ?_
    · intro w' hSw
      obtain ⟨f0, f1, f2, f3, f4, f5, f6, f7, f8, f9⟩ := hSw.facts; have lW := hSw.box.lt; go_simp
    simp only [Act.put, List.setIfInBounds_toArray, List.set_cons_zero, List.set_cons_succ]
    refine wpAnyH_take (i := 9) (v := .agg #[.int .u8 ((w1 : Nat) : Int), .int .u64 ((z1 : Nat) : Int), .int .u64 ((o1 : Nat) : Int)]) (by simp only [List.getElem?_toArray, List.getElem?_cons_zero, List.getElem?_cons_succ]; rfl) (by kernel_rfl) (by kernel_rfl) (by kernel_rfl) (by exact fun _ _ _ h => h) (Or.inl ⟨by rfl, ?_⟩) hHeld ?_
    · intro w' hSw
      obtain ⟨f0, f1, f2, f3, f4, f5, f6, f7, f8, f9⟩ := hSw.facts; have lW := hSw.box.lt; go_simp
    simp only [Act.put, List.setIfInBounds_toArray, List.set_cons_zero, List.set_cons_succ]
    refine wpAnyH_take (i := 10) (v := .map (some b)) (by simp only [List.getElem?_toArray, List.getElem?_cons_zero, List.getElem?_cons_succ]; rfl) (by kernel_rfl) (by kernel_rfl) (by kernel_rfl) (by exact fun _ _ _ h => h) (Or.inl ⟨by rfl, ?_⟩) hHeld ?_
    · intro w' hSw
      go_simp
    simp only [Act.put, List.setIfInBounds_toArray, List.set_cons_zero, List.set_cons_succ]
    refine wpAnyH_take (i := 11) (v := .pointer (some ⟨W.heap.size, 2, none⟩)) (by simp only [List.getElem?_toArray, List.getElem?_cons_zero, List.getElem?_cons_succ]; rfl) (by kernel_rfl) (by kernel_rfl) (by kernel_rfl) (by exact fun _ _ _ h => h) (Or.inl ⟨by rfl, ?_⟩) hHeld ?_
    · intro w' hSw
      go_simp
    simp only [Act.put, List.setIfInBounds_toArray, List.set_cons_zero, List.set_cons_succ]
    refine wpAnyH_take (i := 12) (v := .pointer (some ⟨W.heap.size, 4, none⟩)) (by simp only [List.getElem?_toArray, List.getElem?_cons_zero, List.getElem?_cons_succ]; rfl) (by kernel_rfl) (by kernel_rfl) (by kernel_rfl) (by exact fun _ _ _ h => h) (Or.inl ⟨by rfl, ?_⟩) hHeld ?_
    · intro w' hSw
      go_simp
    simp only [Act.put, List.setIfInBounds_toArray, List.set_cons_zero, List.set_cons_succ]
    refine wpAnyH_take (i := 13) (v := .int .i64 k2) (by simp only [List.getElem?_toArray, List.getElem?_cons_zero, List.getElem?_cons_succ]; rfl) (by kernel_rfl) (by kernel_rfl) (by kernel_rfl) (by exact fun _ _ _ h => h) (Or.inl ⟨by rfl, ?_⟩) hHeld ?_
    · intro w' hSw
      obtain ⟨f0, f1, f2, f3, f4, f5, f6, f7, f8, f9⟩ := hSw.facts; have lW := hSw.box.lt; go_simp
    simp only [Act.put, List.setIfInBounds_toArray, List.set_cons_zero, List.set_cons_succ]
    refine wpAnyH_take (i := 14) (v := .agg #[.int .u8 ((w2 : Nat) : Int), .int .u64 ((z2 : Nat) : Int), .int .u64 ((o2 : Nat) : Int)]) (by simp only [List.getElem?_toArray, List.getElem?_cons_zero, List.getElem?_cons_succ]; rfl) (by kernel_rfl) (by kernel_rfl) (by kernel_rfl) (by exact fun _ _ _ h => h) (Or.inl ⟨by rfl, ?_⟩) hHeld ?_
    · intro w' hSw
      obtain ⟨f0, f1, f2, f3, f4, f5, f6, f7, f8, f9⟩ := hSw.facts; have lW := hSw.box.lt; go_simp
    simp only [Act.put, List.setIfInBounds_toArray, List.set_cons_zero, List.set_cons_succ]
    refine wpAnyH_ready (rs := [15, 16, 17]) (by kernel_rfl) (by simp) ?_
    refine AllReadyH.cons (by simp only [List.getElem?_toArray, List.getElem?_cons_zero, List.getElem?_cons_succ]; rfl) (fun K hK => ?_) ?_
    · go_simp
      refine hK.out _ _ ?_ (fun hHeld => ?_)
      · repeat (first | exact hHeld | exact HS.out | (refine SureS.alloc ?_ _) | (refine SureS.drew ?_) | (refine SureS.setCell ?_ _ _ (by show W.heap.size < _; simp; try omega)))
      clear hK K
      try simp only [Act.put, List.setIfInBounds_toArray, List.set_cons_zero, List.set_cons_succ]
      refine wpAnyH_ready (rs := [16, 17]) (by kernel_rfl) (by simp) ?_
      refine AllReadyH.cons (by simp only [List.getElem?_toArray, List.getElem?_cons_zero, List.getElem?_cons_succ]; rfl) (fun K hK => ?_) ?_
      · go_simp
        refine hK.out _ _ ?_ (fun hHeld => ?_)
        · repeat (first | exact hHeld | exact HS.out | (refine SureS.alloc ?_ _) | (refine SureS.drew ?_) | (refine SureS.setCell ?_ _ _ (by show W.heap.size < _; simp; try omega)))
        clear hK K
        try simp only [Act.put, List.setIfInBounds_toArray, List.set_cons_zero, List.set_cons_succ]
        refine wpAnyH_ready (rs := [17]) (by kernel_rfl) (by simp) ?_
        refine AllReadyH.cons (by simp only [List.getElem?_toArray, List.getElem?_cons_zero, List.getElem?_cons_succ]; rfl) (fun K hK => ?_) ?_
        · go_simp
          refine hK.out _ _ ?_ (fun hHeld => ?_)
          · repeat (first | exact hHeld | exact HS.out | (refine SureS.alloc ?_ _) | (refine SureS.drew ?_) | (refine SureS.setCell ?_ _ _ (by show W.heap.size < _; simp; try omega)))
          clear hK K
          try simp only [Act.put, List.setIfInBounds_toArray, List.set_cons_zero, List.set_cons_succ]
          refine wpAnyH_ready (rs := [18]) (by kernel_rfl) (by simp) ?_
          refine AllReadyH.cons (by simp only [List.getElem?_toArray, List.getElem?_cons_zero, List.getElem?_cons_succ]; rfl) (fun K hK => ?_) ?_
          · go_simp
            refine hK.out _ _ ?_ (fun hHeld => ?_)
            · repeat (first | exact hHeld | exact HS.out | (refine SureS.alloc ?_ _) | (refine SureS.drew ?_) | (refine SureS.setCell ?_ _ _ (by show W.heap.size < _; simp; try omega)))
            clear hK K
            try simp only [Act.put, List.setIfInBounds_toArray, List.set_cons_zero, List.set_cons_succ]
            refine wpAnyH_ready (rs := [19]) (by kernel_rfl) (by simp) ?_
            refine AllReadyH.cons (by simp only [List.getElem?_toArray, List.getElem?_cons_zero, List.getElem?_cons_succ]; rfl) (fun K hK => ?_) ?_
            · go_simp
              refine hK.out _ _ ?_ (fun hHeld => ?_)
              · repeat (first | exact hHeld | exact HS.out | (refine SureS.alloc ?_ _) | (refine SureS.drew ?_) | (refine SureS.setCell ?_ _ _ (by show W.heap.size < _; simp; try omega)))
              clear hK K
              try simp only [Act.put, List.setIfInBounds_toArray, List.set_cons_zero, List.set_cons_succ]
              refine wpAnyH_ready (rs := [20]) (by kernel_rfl) (by simp) ?_
              refine AllReadyH.cons (by simp only [List.getElem?_toArray, List.getElem?_cons_zero, List.getElem?_cons_succ]; rfl) (fun K hK => ?_) ?_
              · go_simp
                refine hK.out _ _ ?_ (fun hHeld => ?_)
                · repeat (first | exact hHeld | exact HS.out | (refine SureS.alloc ?_ _) | (refine SureS.drew ?_) | (refine SureS.setCell ?_ _ _ (by show W.heap.size < _; simp; try omega)))
                clear hK K
                try simp only [Act.put, List.setIfInBounds_toArray, List.set_cons_zero, List.set_cons_succ]
                refine wpAnyH_done (by kernel_rfl) ?_ _
                go_wp2_with fail
                go_meet
                refine ⟨_, _, _, rfl, rfl, rfl, by omega, by omega, by omega, ⟨?_, ?_, ?_, ?_⟩, ⟨?_, ?_, ?_, ?_⟩, ⟨?_, ?_, ?_, ?_⟩, hHeld.box, ⟨?_, ?_, ?_, ?_⟩, fun o => ?_, hHeld.bel⟩
                all_goals first | (simp [go_sem]; done) | (simp [go_sem]; omega) | skip
              exact AllReadyH.nil
            exact AllReadyH.nil
          exact AllReadyH.nil
        exact AllReadyH.nil
      refine AllReadyH.cons (by simp only [List.getElem?_toArray, List.getElem?_cons_zero, List.getElem?_cons_succ]; rfl) (fun K hK => ?_) ?_
      · go_simp
        refine hK.out _ _ ?_ (fun hHeld => ?_)
        · repeat (first | exact hHeld | exact HS.out | (refine SureS.alloc ?_ _) | (refine SureS.drew ?_) | (refine SureS.setCell ?_ _ _ (by show W.heap.size < _; simp; try omega)))
        clear hK K
        try simp only [Act.put, List.setIfInBounds_toArray, List.set_cons_zero, List.set_cons_succ]
        refine wpAnyH_ready (rs := [16]) (by kernel_rfl) (by simp) ?_
        refine AllReadyH.cons (by simp only [List.getElem?_toArray, List.getElem?_cons_zero, List.getElem?_cons_succ]; rfl) (fun K hK => ?_) ?_
        · go_simp
          refine hK.out _ _ ?_ (fun hHeld => ?_)
          · repeat (first | exact hHeld | exact HS.out | (refine SureS.alloc ?_ _) | (refine SureS.drew ?_) | (refine SureS.setCell ?_ _ _ (by show W.heap.size < _; simp; try omega)))
          clear hK K
          try simp only [Act.put, List.setIfInBounds_toArray, List.set_cons_zero, List.set_cons_succ]
          refine wpAnyH_ready (rs := [18]) (by kernel_rfl) (by simp) ?_
          refine AllReadyH.cons (by simp only [List.getElem?_toArray, List.getElem?_cons_zero, List.getElem?_cons_succ]; rfl) (fun K hK => ?_) ?_
          · go_simp
            refine hK.out _ _ ?_ (fun hHeld => ?_)
            · repeat (first | exact hHeld | exact HS.out | (refine SureS.alloc ?_ _) | (refine SureS.drew ?_) | (refine SureS.setCell ?_ _ _ (by show W.heap.size < _; simp; try omega)))
            clear hK K
            try simp only [Act.put, List.setIfInBounds_toArray, List.set_cons_zero, List.set_cons_succ]
            refine wpAnyH_ready (rs := [19]) (by kernel_rfl) (by simp) ?_
            refine AllReadyH.cons (by simp only [List.getElem?_toArray, List.getElem?_cons_zero, List.getElem?_cons_succ]; rfl) (fun K hK => ?_) ?_
            · go_simp
              refine hK.out _ _ ?_ (fun hHeld => ?_)
              · repeat (first | exact hHeld | exact HS.out | (refine SureS.alloc ?_ _) | (refine SureS.drew ?_) | (refine SureS.setCell ?_ _ _ (by show W.heap.size < _; simp; try omega)))
              clear hK K
              try simp only [Act.put, List.setIfInBounds_toArray, List.set_cons_zero, List.set_cons_succ]
              refine wpAnyH_ready (rs := [20]) (by kernel_rfl) (by simp) ?_
              refine AllReadyH.cons (by simp only [List.getElem?_toArray, List.getElem?_cons_zero, List.getElem?_cons_succ]; rfl) (fun K hK => ?_) ?_
              · go_simp
                refine hK.out _ _ ?_ (fun hHeld => ?_)
                · repeat (first | exact hHeld | exact HS.out | (refine SureS.alloc ?_ _) | (refine SureS.drew ?_) | (refine SureS.setCell ?_ _ _ (by show W.heap.size < _; simp; try omega)))
                clear hK K
                try simp only [Act.put, List.setIfInBounds_toArray, List.set_cons_zero, List.set_cons_succ]
                refine wpAnyH_done (by kernel_rfl) ?_ _
                go_wp2_with fail
                go_meet
                refine ⟨_, _, _, rfl, rfl, rfl, by omega, by omega, by omega, ⟨?_, ?_, ?_, ?_⟩, ⟨?_, ?_, ?_, ?_⟩, ⟨?_, ?_, ?_, ?_⟩, hHeld.box, ⟨?_, ?_, ?_, ?_⟩, fun o => ?_, hHeld.bel⟩
                all_goals first | (simp [go_sem]; done) | (simp [go_sem]; omega) | skip
              exact AllReadyH.nil
            exact AllReadyH.nil
          exact AllReadyH.nil
        exact AllReadyH.nil
      exact AllReadyH.nil
    refine AllReadyH.cons (by simp only [List.getElem?_toArray, List.getElem?_cons_zero, List.getElem?_cons_succ]; rfl) (fun K hK => ?_) ?_
    · go_simp
      refine hK.out _ _ ?_ (fun hHeld => ?_)
      · repeat (first | exact hHeld | exact HS.out | (refine SureS.alloc ?_ _) | (refine SureS.drew ?_) | (refine SureS.setCell ?_ _ _ (by show W.heap.size < _; simp; try omega)))
      clear hK K
      try simp only [Act.put, List.setIfInBounds_toArray, List.set_cons_zero, List.set_cons_succ]
      refine wpAnyH_ready (rs := [15, 17]) (by kernel_rfl) (by simp) ?_
      refine AllReadyH.cons (by simp only [List.getElem?_toArray, List.getElem?_cons_zero, List.getElem?_cons_succ]; rfl) (fun K hK => ?_) ?_
      · go_simp
        refine hK.out _ _ ?_ (fun hHeld => ?_)
        · repeat (first | exact hHeld | exact HS.out | (refine SureS.alloc ?_ _) | (refine SureS.drew ?_) | (refine SureS.setCell ?_ _ _ (by show W.heap.size < _; simp; try omega)))
        clear hK K
        try simp only [Act.put, List.setIfInBounds_toArray, List.set_cons_zero, List.set_cons_succ]
        refine wpAnyH_ready (rs := [17]) (by kernel_rfl) (by simp) ?_
        refine AllReadyH.cons (by simp only [List.getElem?_toArray, List.getElem?_cons_zero, List.getElem?_cons_succ]; rfl) (fun K hK => ?_) ?_
        · go_simp
          refine hK.out _ _ ?_ (fun hHeld => ?_)
          · repeat (first | exact hHeld | exact HS.out | (refine SureS.alloc ?_ _) | (refine SureS.drew ?_) | (refine SureS.setCell ?_ _ _ (by show W.heap.size < _; simp; try omega)))
          clear hK K
          try simp only [Act.put, List.setIfInBounds_toArray, List.set_cons_zero, List.set_cons_succ]
          refine wpAnyH_ready (rs := [18]) (by kernel_rfl) (by simp) ?_
          refine AllReadyH.cons (by simp only [List.getElem?_toArray, List.getElem?_cons_zero, List.getElem?_cons_succ]; rfl) (fun K hK => ?_) ?_
          · go_simp
            refine hK.out _ _ ?_ (fun hHeld => ?_)
            · repeat (first | exact hHeld | exact HS.out | (refine SureS.alloc ?_ _) | (refine SureS.drew ?_) | (refine SureS.setCell ?_ _ _ (by show W.heap.size < _; simp; try omega)))
            clear hK K
            try simp only [Act.put, List.setIfInBounds_toArray, List.set_cons_zero, List.set_cons_succ]
            refine wpAnyH_ready (rs := [19]) (by kernel_rfl) (by simp) ?_
            refine AllReadyH.cons (by simp only [List.getElem?_toArray, List.getElem?_cons_zero, List.getElem?_cons_succ]; rfl) (fun K hK => ?_) ?_
            · go_simp
              refine hK.out _ _ ?_ (fun hHeld => ?_)
              · repeat (first | exact hHeld | exact HS.out | (refine SureS.alloc ?_ _) | (refine SureS.drew ?_) | (refine SureS.setCell ?_ _ _ (by show W.heap.size < _; simp; try omega)))
              clear hK K
              try simp only [Act.put, List.setIfInBounds_toArray, List.set_cons_zero, List.set_cons_succ]
              refine wpAnyH_ready (rs := [20]) (by kernel_rfl) (by simp) ?_
              refine AllReadyH.cons (by simp only [List.getElem?_toArray, List.getElem?_cons_zero, List.getElem?_cons_succ]; rfl) (fun K hK => ?_) ?_
              · go_simp
                refine hK.out _ _ ?_ (fun hHeld => ?_)
                · repeat (first | exact hHeld | exact HS.out | (refine SureS.alloc ?_ _) | (refine SureS.drew ?_) | (refine SureS.setCell ?_ _ _ (by show W.heap.size < _; simp; try omega)))
                clear hK K
                try simp only [Act.put, List.setIfInBounds_toArray, List.set_cons_zero, List.set_cons_succ]
                refine wpAnyH_done (by kernel_rfl) ?_ _
                go_wp2_with fail
                go_meet
                refine ⟨_, _, _, rfl, rfl, rfl, by omega, by omega, by omega, ⟨?_, ?_, ?_, ?_⟩, ⟨?_, ?_, ?_, ?_⟩, ⟨?_, ?_, ?_, ?_⟩, hHeld.box, ⟨?_, ?_, ?_, ?_⟩, fun o => ?_, hHeld.bel⟩
                all_goals first | (simp [go_sem]; done) | (simp [go_sem]; omega) | skip
              exact AllReadyH.nil
            exact AllReadyH.nil
          exact AllReadyH.nil
        exact AllReadyH.nil
      refine AllReadyH.cons (by simp only [List.getElem?_toArray, List.getElem?_cons_zero, List.getElem?_cons_succ]; rfl) (fun K hK => ?_) ?_
      · go_simp
        refine hK.out _ _ ?_ (fun hHeld => ?_)
        · repeat (first | exact hHeld | exact HS.out | (refine SureS.alloc ?_ _) | (refine SureS.drew ?_) | (refine SureS.setCell ?_ _ _ (by show W.heap.size < _; simp; try omega)))
        clear hK K
        try simp only [Act.put, List.setIfInBounds_toArray, List.set_cons_zero, List.set_cons_succ]
        refine wpAnyH_ready (rs := [15]) (by kernel_rfl) (by simp) ?_
        refine AllReadyH.cons (by simp only [List.getElem?_toArray, List.getElem?_cons_zero, List.getElem?_cons_succ]; rfl) (fun K hK => ?_) ?_
        · go_simp
          refine hK.out _ _ ?_ (fun hHeld => ?_)
          · repeat (first | exact hHeld | exact HS.out | (refine SureS.alloc ?_ _) | (refine SureS.drew ?_) | (refine SureS.setCell ?_ _ _ (by show W.heap.size < _; simp; try omega)))
          clear hK K
          try simp only [Act.put, List.setIfInBounds_toArray, List.set_cons_zero, List.set_cons_succ]
          refine wpAnyH_ready (rs := [18]) (by kernel_rfl) (by simp) ?_
          refine AllReadyH.cons (by simp only [List.getElem?_toArray, List.getElem?_cons_zero, List.getElem?_cons_succ]; rfl) (fun K hK => ?_) ?_
          · go_simp
            refine hK.out _ _ ?_ (fun hHeld => ?_)
            · repeat (first | exact hHeld | exact HS.out | (refine SureS.alloc ?_ _) | (refine SureS.drew ?_) | (refine SureS.setCell ?_ _ _ (by show W.heap.size < _; simp; try omega)))
            clear hK K
            try simp only [Act.put, List.setIfInBounds_toArray, List.set_cons_zero, List.set_cons_succ]
            refine wpAnyH_ready (rs := [19]) (by kernel_rfl) (by simp) ?_
            refine AllReadyH.cons (by simp only [List.getElem?_toArray, List.getElem?_cons_zero, List.getElem?_cons_succ]; rfl) (fun K hK => ?_) ?_
            · go_simp
              refine hK.out _ _ ?_ (fun hHeld => ?_)
              · repeat (first | exact hHeld | exact HS.out | (refine SureS.alloc ?_ _) | (refine SureS.drew ?_) | (refine SureS.setCell ?_ _ _ (by show W.heap.size < _; simp; try omega)))
              clear hK K
              try simp only [Act.put, List.setIfInBounds_toArray, List.set_cons_zero, List.set_cons_succ]
              refine wpAnyH_ready (rs := [20]) (by kernel_rfl) (by simp) ?_
              refine AllReadyH.cons (by simp only [List.getElem?_toArray, List.getElem?_cons_zero, List.getElem?_cons_succ]; rfl) (fun K hK => ?_) ?_
              · go_simp
                refine hK.out _ _ ?_ (fun hHeld => ?_)
                · repeat (first | exact hHeld | exact HS.out | (refine SureS.alloc ?_ _) | (refine SureS.drew ?_) | (refine SureS.setCell ?_ _ _ (by show W.heap.size < _; simp; try omega)))
                clear hK K
                try simp only [Act.put, List.setIfInBounds_toArray, List.set_cons_zero, List.set_cons_succ]
                refine wpAnyH_done (by kernel_rfl) ?_ _
                go_wp2_with fail
                go_meet
                refine ⟨_, _, _, rfl, rfl, rfl, by omega, by omega, by omega, ⟨?_, ?_, ?_, ?_⟩, ⟨?_, ?_, ?_, ?_⟩, ⟨?_, ?_, ?_, ?_⟩, hHeld.box, ⟨?_, ?_, ?_, ?_⟩, fun o => ?_, hHeld.bel⟩
                all_goals first | (simp [go_sem]; done) | (simp [go_sem]; omega) | skip
              exact AllReadyH.nil
            exact AllReadyH.nil
          exact AllReadyH.nil
        exact AllReadyH.nil
      exact AllReadyH.nil
    refine AllReadyH.cons (by simp only [List.getElem?_toArray, List.getElem?_cons_zero, List.getElem?_cons_succ]; rfl) (fun K hK => ?_) ?_
    · go_simp
      refine hK.out _ _ ?_ (fun hHeld => ?_)
      · repeat (first | exact hHeld | exact HS.out | (refine SureS.alloc ?_ _) | (refine SureS.drew ?_) | (refine SureS.setCell ?_ _ _ (by show W.heap.size < _; simp; try omega)))
      clear hK K
      try simp only [Act.put, List.setIfInBounds_toArray, List.set_cons_zero, List.set_cons_succ]
      refine wpAnyH_ready (rs := [15, 16]) (by kernel_rfl) (by simp) ?_
      refine AllReadyH.cons (by simp only [List.getElem?_toArray, List.getElem?_cons_zero, List.getElem?_cons_succ]; rfl) (fun K hK => ?_) ?_
      · go_simp
        refine hK.out _ _ ?_ (fun hHeld => ?_)
        · repeat (first | exact hHeld | exact HS.out | (refine SureS.alloc ?_ _) | (refine SureS.drew ?_) | (refine SureS.setCell ?_ _ _ (by show W.heap.size < _; simp; try omega)))
        clear hK K
        try simp only [Act.put, List.setIfInBounds_toArray, List.set_cons_zero, List.set_cons_succ]
        refine wpAnyH_ready (rs := [16]) (by kernel_rfl) (by simp) ?_
        refine AllReadyH.cons (by simp only [List.getElem?_toArray, List.getElem?_cons_zero, List.getElem?_cons_succ]; rfl) (fun K hK => ?_) ?_
        · go_simp
          refine hK.out _ _ ?_ (fun hHeld => ?_)
          · repeat (first | exact hHeld | exact HS.out | (refine SureS.alloc ?_ _) | (refine SureS.drew ?_) | (refine SureS.setCell ?_ _ _ (by show W.heap.size < _; simp; try omega)))
          clear hK K
          try simp only [Act.put, List.setIfInBounds_toArray, List.set_cons_zero, List.set_cons_succ]
          refine wpAnyH_ready (rs := [18]) (by kernel_rfl) (by simp) ?_
          refine AllReadyH.cons (by simp only [List.getElem?_toArray, List.getElem?_cons_zero, List.getElem?_cons_succ]; rfl) (fun K hK => ?_) ?_
          · go_simp
            refine hK.out _ _ ?_ (fun hHeld => ?_)
            · repeat (first | exact hHeld | exact HS.out | (refine SureS.alloc ?_ _) | (refine SureS.drew ?_) | (refine SureS.setCell ?_ _ _ (by show W.heap.size < _; simp; try omega)))
            clear hK K
            try simp only [Act.put, List.setIfInBounds_toArray, List.set_cons_zero, List.set_cons_succ]
            refine wpAnyH_ready (rs := [19]) (by kernel_rfl) (by simp) ?_
            refine AllReadyH.cons (by simp only [List.getElem?_toArray, List.getElem?_cons_zero, List.getElem?_cons_succ]; rfl) (fun K hK => ?_) ?_
            · go_simp
              refine hK.out _ _ ?_ (fun hHeld => ?_)
              · repeat (first | exact hHeld | exact HS.out | (refine SureS.alloc ?_ _) | (refine SureS.drew ?_) | (refine SureS.setCell ?_ _ _ (by show W.heap.size < _; simp; try omega)))
              clear hK K
              try simp only [Act.put, List.setIfInBounds_toArray, List.set_cons_zero, List.set_cons_succ]
              refine wpAnyH_ready (rs := [20]) (by kernel_rfl) (by simp) ?_
              refine AllReadyH.cons (by simp only [List.getElem?_toArray, List.getElem?_cons_zero, List.getElem?_cons_succ]; rfl) (fun K hK => ?_) ?_
              · go_simp
                refine hK.out _ _ ?_ (fun hHeld => ?_)
                · repeat (first | exact hHeld | exact HS.out | (refine SureS.alloc ?_ _) | (refine SureS.drew ?_) | (refine SureS.setCell ?_ _ _ (by show W.heap.size < _; simp; try omega)))
                clear hK K
                try simp only [Act.put, List.setIfInBounds_toArray, List.set_cons_zero, List.set_cons_succ]
                refine wpAnyH_done (by kernel_rfl) ?_ _
                go_wp2_with fail
                go_meet
                refine ⟨_, _, _, rfl, rfl, rfl, by omega, by omega, by omega, ⟨?_, ?_, ?_, ?_⟩, ⟨?_, ?_, ?_, ?_⟩, ⟨?_, ?_, ?_, ?_⟩, hHeld.box, ⟨?_, ?_, ?_, ?_⟩, fun o => ?_, hHeld.bel⟩
                all_goals first | (simp [go_sem]; done) | (simp [go_sem]; omega) | skip
              exact AllReadyH.nil
            exact AllReadyH.nil
          exact AllReadyH.nil
        exact AllReadyH.nil
      refine AllReadyH.cons (by simp only [List.getElem?_toArray, List.getElem?_cons_zero, List.getElem?_cons_succ]; rfl) (fun K hK => ?_) ?_
      · go_simp
        refine hK.out _ _ ?_ (fun hHeld => ?_)
        · repeat (first | exact hHeld | exact HS.out | (refine SureS.alloc ?_ _) | (refine SureS.drew ?_) | (refine SureS.setCell ?_ _ _ (by show W.heap.size < _; simp; try omega)))
        clear hK K
        try simp only [Act.put, List.setIfInBounds_toArray, List.set_cons_zero, List.set_cons_succ]
        refine wpAnyH_ready (rs := [15]) (by kernel_rfl) (by simp) ?_
        refine AllReadyH.cons (by simp only [List.getElem?_toArray, List.getElem?_cons_zero, List.getElem?_cons_succ]; rfl) (fun K hK => ?_) ?_
        · go_simp
          refine hK.out _ _ ?_ (fun hHeld => ?_)
          · repeat (first | exact hHeld | exact HS.out | (refine SureS.alloc ?_ _) | (refine SureS.drew ?_) | (refine SureS.setCell ?_ _ _ (by show W.heap.size < _; simp; try omega)))
          clear hK K
          try simp only [Act.put, List.setIfInBounds_toArray, List.set_cons_zero, List.set_cons_succ]
          refine wpAnyH_ready (rs := [18]) (by kernel_rfl) (by simp) ?_
          refine AllReadyH.cons (by simp only [List.getElem?_toArray, List.getElem?_cons_zero, List.getElem?_cons_succ]; rfl) (fun K hK => ?_) ?_
          · go_simp
            refine hK.out _ _ ?_ (fun hHeld => ?_)
            · repeat (first | exact hHeld | exact HS.out | (refine SureS.alloc ?_ _) | (refine SureS.drew ?_) | (refine SureS.setCell ?_ _ _ (by show W.heap.size < _; simp; try omega)))
            clear hK K
            try simp only [Act.put, List.setIfInBounds_toArray, List.set_cons_zero, List.set_cons_succ]
            refine wpAnyH_ready (rs := [19]) (by kernel_rfl) (by simp) ?_
            refine AllReadyH.cons (by simp only [List.getElem?_toArray, List.getElem?_cons_zero, List.getElem?_cons_succ]; rfl) (fun K hK => ?_) ?_
            · go_simp
              refine hK.out _ _ ?_ (fun hHeld => ?_)
              · repeat (first | exact hHeld | exact HS.out | (refine SureS.alloc ?_ _) | (refine SureS.drew ?_) | (refine SureS.setCell ?_ _ _ (by show W.heap.size < _; simp; try omega)))
              clear hK K
              try simp only [Act.put, List.setIfInBounds_toArray, List.set_cons_zero, List.set_cons_succ]
              refine wpAnyH_ready (rs := [20]) (by kernel_rfl) (by simp) ?_
              refine AllReadyH.cons (by simp only [List.getElem?_toArray, List.getElem?_cons_zero, List.getElem?_cons_succ]; rfl) (fun K hK => ?_) ?_
              · go_simp
                refine hK.out _ _ ?_ (fun hHeld => ?_)
                · repeat (first | exact hHeld | exact HS.out | (refine SureS.alloc ?_ _) | (refine SureS.drew ?_) | (refine SureS.setCell ?_ _ _ (by show W.heap.size < _; simp; try omega)))
                clear hK K
                try simp only [Act.put, List.setIfInBounds_toArray, List.set_cons_zero, List.set_cons_succ]
                refine wpAnyH_done (by kernel_rfl) ?_ _
                go_wp2_with fail
                go_meet
                refine ⟨_, _, _, rfl, rfl, rfl, by omega, by omega, by omega, ⟨?_, ?_, ?_, ?_⟩, ⟨?_, ?_, ?_, ?_⟩, ⟨?_, ?_, ?_, ?_⟩, hHeld.box, ⟨?_, ?_, ?_, ?_⟩, fun o => ?_, hHeld.bel⟩
                all_goals first | (simp [go_sem]; done) | (simp [go_sem]; omega) | skip
              exact AllReadyH.nil
            exact AllReadyH.nil
          exact AllReadyH.nil
        exact AllReadyH.nil
      exact AllReadyH.nil
    exact AllReadyH.nil

  case rest =>
    obtain ⟨g, h, i, rfl, rfl, rfl, lg, lh, li, ⟨pg, pg0, pg1, pg2⟩, ⟨ph, ph0, ph1, ph2⟩, ⟨pi, pi0, pi1, pi2⟩, bx, ⟨pr, pr0, pr1, pr2⟩, fr, hbel⟩ := hcut
    have HR := Lib.hid (⟨bx, pr0, pr1, pr2, fr, pr, hbel⟩ : SureR W _ _ _ _ _ _ _ wc)
    have f0 := fr 0
    have f1 := fr 1
    have f2 := fr 2
    unfold At7 at bx
    cases hcase with
    | c_const h1 h2 hn =>
      have EX := Lib.hid (not_int hn)
      have HC := Lib.hid (fun x y ex ey W => kcut_of w x y _ _ h1 h2 (show 18446744073709551615 - n < 18446744073709551616 by omega) hn ex ey W)
      clear hn
      go_wp2_with fail
      refine (HC.out _ _ EX.out rfl _).mono ?_
      rintro e w5 ⟨rfl, hw5⟩
      have hb : Below wc.heap.size wc w5 := by rw [← hw5]; exact bel_alloc (Below.refl _ _) _
      clear hw5
      have HR5 := Lib.hid (HR.out.call hb)
      obtain ⟨b5, p50, p51, p52, f5, l5, bel5⟩ := HR5.out
      have f50 := f5 0
      have f51 := f5 1
      have f52 := f5 2
      clear hb
      go_wp2_with fail
      exact bodyPost_ret (v := .agg #[.int .u8 ((w : Nat) : Int), .int .u64 ((low w (18446744073709551615 - n) : Nat) : Int), .int .u64 ((low w n : Nat) : Int)]) (by simp [results, Try.results17, go_sem, p50, p51, p52]) rfl ⟨rfl, ((bel5.setCell (by simp) _).setCell (by simp) _).setCell (by simp) _⟩
    | c_not h1 h2 hz0 ho0 =>
      have HC := Lib.hid (fun x y ex ey W => kcut_of w x y _ _ h1 h2 ho0 hz0 ex ey W)
      clear hz0 ho0
      go_wp2_with fail
      refine (HC.out _ _ rfl rfl _).mono ?_
      rintro e w5 ⟨rfl, hw5⟩
      have hb : Below wc.heap.size wc w5 := by rw [← hw5]; exact bel_alloc (Below.refl _ _) _
      clear hw5
      have HR5 := Lib.hid (HR.out.call hb)
      obtain ⟨b5, p50, p51, p52, f5, l5, bel5⟩ := HR5.out
      have f50 := f5 0
      have f51 := f5 1
      have f52 := f5 2
      clear hb
      go_wp2_with fail
      exact bodyPost_ret (v := .agg #[.int .u8 ((w : Nat) : Int), .int .u64 ((low w o0 : Nat) : Int), .int .u64 ((low w z0 : Nat) : Int)]) (by simp [results, Try.results17, go_sem, p50, p51, p52]) rfl ⟨rfl, ((bel5.setCell (by simp) _).setCell (by simp) _).setCell (by simp) _⟩
    | c_and h1 h2 hz0 ho0 hz1 ho1 =>
      have EX := Lib.hid (bits_or_u64_nat z0 z1 hz0 hz1)
      have EY := Lib.hid (bits_and_u64_nat o0 o1 ho0 ho1)
      have HC := Lib.hid (fun x y ex ey W => kcut_of w x y _ _ h1 h2 (or_lt64 hz0 hz1) (and_lt64 o1 ho0) ex ey W)
      clear hz0 ho0 hz1 ho1
      go_wp2_with fail
      refine (HC.out _ _ EX.out EY.out _).mono ?_
      rintro e w5 ⟨rfl, hw5⟩
      have hb : Below wc.heap.size wc w5 := by rw [← hw5]; exact bel_alloc (Below.refl _ _) _
      clear hw5
      have HR5 := Lib.hid (HR.out.call hb)
      obtain ⟨b5, p50, p51, p52, f5, l5, bel5⟩ := HR5.out
      have f50 := f5 0
      have f51 := f5 1
      have f52 := f5 2
      clear hb
      go_wp2_with fail
      exact bodyPost_ret (v := .agg #[.int .u8 ((w : Nat) : Int), .int .u64 ((low w (z0 ||| z1) : Nat) : Int), .int .u64 ((low w (o0 &&& o1) : Nat) : Int)]) (by simp [results, Try.results17, go_sem, p50, p51, p52]) rfl ⟨rfl, ((bel5.setCell (by simp) _).setCell (by simp) _).setCell (by simp) _⟩
    | c_or h1 h2 hz0 ho0 hz1 ho1 =>
      have EX := Lib.hid (bits_and_u64_nat z0 z1 hz0 hz1)
      have EY := Lib.hid (bits_or_u64_nat o0 o1 ho0 ho1)
      have HC := Lib.hid (fun x y ex ey W => kcut_of w x y _ _ h1 h2 (and_lt64 z1 hz0) (or_lt64 ho0 ho1) ex ey W)
      clear hz0 ho0 hz1 ho1
      go_wp2_with fail
      refine (HC.out _ _ EX.out EY.out _).mono ?_
      rintro e w5 ⟨rfl, hw5⟩
      have hb : Below wc.heap.size wc w5 := by rw [← hw5]; exact bel_alloc (Below.refl _ _) _
      clear hw5
      have HR5 := Lib.hid (HR.out.call hb)
      obtain ⟨b5, p50, p51, p52, f5, l5, bel5⟩ := HR5.out
      have f50 := f5 0
      have f51 := f5 1
      have f52 := f5 2
      clear hb
      go_wp2_with fail
      exact bodyPost_ret (v := .agg #[.int .u8 ((w : Nat) : Int), .int .u64 ((low w (z0 &&& z1) : Nat) : Int), .int .u64 ((low w (o0 ||| o1) : Nat) : Int)]) (by simp [results, Try.results17, go_sem, p50, p51, p52]) rfl ⟨rfl, ((bel5.setCell (by simp) _).setCell (by simp) _).setCell (by simp) _⟩
    | c_xor h1 h2 hz0 ho0 hz1 ho1 =>
      have EX : Hid (bits .or .u64 (bits .and .u64 ((z0 : Nat) : Int) ((z1 : Nat) : Int)) (bits .and .u64 ((o0 : Nat) : Int) ((o1 : Nat) : Int)) = ((z0 &&& z1 ||| o0 &&& o1 : Nat) : Int)) := Lib.hid (by rw [bits_and_u64_nat z0 z1 hz0 hz1, bits_and_u64_nat o0 o1 ho0 ho1]; exact bits_or_u64_nat _ _ (and_lt64 z1 hz0) (and_lt64 o1 ho0))
      have EY : Hid (bits .or .u64 (bits .and .u64 ((z0 : Nat) : Int) ((o1 : Nat) : Int)) (bits .and .u64 ((o0 : Nat) : Int) ((z1 : Nat) : Int)) = ((z0 &&& o1 ||| o0 &&& z1 : Nat) : Int)) := Lib.hid (by rw [bits_and_u64_nat z0 o1 hz0 ho1, bits_and_u64_nat o0 z1 ho0 hz1]; exact bits_or_u64_nat _ _ (and_lt64 o1 hz0) (and_lt64 z1 ho0))
      have HC := Lib.hid (fun x y ex ey W => kcut_of w x y _ _ h1 h2 (or_lt64 (and_lt64 z1 hz0) (and_lt64 o1 ho0)) (or_lt64 (and_lt64 o1 hz0) (and_lt64 z1 ho0)) ex ey W)
      clear hz0 ho0 hz1 ho1
      go_wp2_with fail
      refine (HC.out _ _ EX.out EY.out _).mono ?_
      rintro e w5 ⟨rfl, hw5⟩
      have hb : Below wc.heap.size wc w5 := by rw [← hw5]; exact bel_alloc (Below.refl _ _) _
      clear hw5
      have HR5 := Lib.hid (HR.out.call hb)
      obtain ⟨b5, p50, p51, p52, f5, l5, bel5⟩ := HR5.out
      have f50 := f5 0
      have f51 := f5 1
      have f52 := f5 2
      clear hb
      go_wp2_with fail
      exact bodyPost_ret (v := .agg #[.int .u8 ((w : Nat) : Int), .int .u64 ((low w (z0 &&& z1 ||| o0 &&& o1) : Nat) : Int), .int .u64 ((low w (z0 &&& o1 ||| o0 &&& z1) : Nat) : Int)]) (by simp [results, Try.results17, go_sem, p50, p51, p52]) rfl ⟨rfl, ((bel5.setCell (by simp) _).setCell (by simp) _).setCell (by simp) _⟩
    | c_add h1 h2 hz0 hz1 =>
      have EX := Lib.hid (bits_and_u64_nat z0 z1 hz0 hz1)
      have HL := Lib.hid (fun W => klow_any (z0 &&& z1) (and_lt64 z1 hz0) W)
      have HC := Lib.hid (fun x y ex ey W => kcut_of w x y _ _ h1 h2 (lows_lt (z0 &&& z1)) (show 0 < 18446744073709551616 by decide) ex ey W)
      clear hz0 hz1
      have HM0 := Lib.hid ((⟨bx, ⟨pg, pg0, pg1, pg2⟩, ⟨ph, ph0, ph1, ph2⟩⟩ : SureM W g h _ _ _ _ _ _ _ _ _ _ _ _ _ wc).call (Below.refl _ _).drew)
      have HRD := Lib.hid (HR.out.call (Below.refl _ _).drew)
      go_wp2_with fail
      refine wp_region_held_drew (S := SureM W g h _ _ _ _ _ _ _ _ _ _ _ _ _) (by kernel_rfl) HM0.out (fun hHeld => ?_)
      refine wpAnyH_take (i := 0) (v := .pointer (some ⟨W.heap.size, 1, none⟩)) (by simp only [List.getElem?_toArray, List.getElem?_cons_zero]; rfl) (by kernel_rfl) (by kernel_rfl) (by kernel_rfl) (by exact fun _ _ _ h => h) (Or.inl ⟨by rfl, ?_⟩) hHeld ?_
      · intro w' hSw
        obtain ⟨m0, m1, m2, m3, m4, m5, m6, m7⟩ := hSw.facts; have lW := hSw.box.lt; go_simp; try rfl
      simp only [Act.put, List.setIfInBounds_toArray, List.set_cons_zero, List.set_cons_succ]
      refine wpAnyH_take (i := 1) (v := .int .u8 ((w : Nat) : Int)) (by simp only [List.getElem?_toArray, List.getElem?_cons_zero, List.getElem?_cons_succ]; rfl) (by kernel_rfl) (by kernel_rfl) (by kernel_rfl) (by exact fun _ _ _ h => h) (Or.inl ⟨by rfl, ?_⟩) hHeld ?_
      · intro w' hSw
        obtain ⟨m0, m1, m2, m3, m4, m5, m6, m7⟩ := hSw.facts; have lW := hSw.box.lt; go_simp; try rfl
      simp only [Act.put, List.setIfInBounds_toArray, List.set_cons_zero, List.set_cons_succ]
      refine wpAnyH_take (i := 2) (v := .pointer (some ⟨g, 1, none⟩)) (by simp only [List.getElem?_toArray, List.getElem?_cons_zero, List.getElem?_cons_succ]; rfl) (by kernel_rfl) (by kernel_rfl) (by kernel_rfl) (by exact fun _ _ _ h => h) (Or.inl ⟨by rfl, ?_⟩) hHeld ?_
      · intro w' hSw
        obtain ⟨m0, m1, m2, m3, m4, m5, m6, m7⟩ := hSw.facts; have lW := hSw.box.lt; go_simp; try rfl
      simp only [Act.put, List.setIfInBounds_toArray, List.set_cons_zero, List.set_cons_succ]
      refine wpAnyH_take (i := 3) (v := .int .u64 ((z0 : Nat) : Int)) (by simp only [List.getElem?_toArray, List.getElem?_cons_zero, List.getElem?_cons_succ]; rfl) (by kernel_rfl) (by kernel_rfl) (by kernel_rfl) (by exact fun _ _ _ h => h) (Or.inl ⟨by rfl, ?_⟩) hHeld ?_
      · intro w' hSw
        obtain ⟨m0, m1, m2, m3, m4, m5, m6, m7⟩ := hSw.facts; have lW := hSw.box.lt; go_simp; try rfl
      simp only [Act.put, List.setIfInBounds_toArray, List.set_cons_zero, List.set_cons_succ]
      refine wpAnyH_take (i := 4) (v := .pointer (some ⟨h, 1, none⟩)) (by simp only [List.getElem?_toArray, List.getElem?_cons_zero, List.getElem?_cons_succ]; rfl) (by kernel_rfl) (by kernel_rfl) (by kernel_rfl) (by exact fun _ _ _ h => h) (Or.inl ⟨by rfl, ?_⟩) hHeld ?_
      · intro w' hSw
        obtain ⟨m0, m1, m2, m3, m4, m5, m6, m7⟩ := hSw.facts; have lW := hSw.box.lt; go_simp; try rfl
      simp only [Act.put, List.setIfInBounds_toArray, List.set_cons_zero, List.set_cons_succ]
      refine wpAnyH_take (i := 5) (v := .int .u64 ((z1 : Nat) : Int)) (by simp only [List.getElem?_toArray, List.getElem?_cons_zero, List.getElem?_cons_succ]; rfl) (by kernel_rfl) (by kernel_rfl) (by kernel_rfl) (by exact fun _ _ _ h => h) (Or.inl ⟨by rfl, ?_⟩) hHeld ?_
      · intro w' hSw
        obtain ⟨m0, m1, m2, m3, m4, m5, m6, m7⟩ := hSw.facts; have lW := hSw.box.lt; go_simp; try rfl
      simp only [Act.put, List.setIfInBounds_toArray, List.set_cons_zero, List.set_cons_succ]
      refine wpAnyH_take (i := 6) (v := .int .u64 (bits .and .u64 ((z0 : Nat) : Int) ((z1 : Nat) : Int))) (by simp only [List.getElem?_toArray, List.getElem?_cons_zero, List.getElem?_cons_succ]; rfl) (by kernel_rfl) (by kernel_rfl) (by kernel_rfl) (by exact fun _ _ _ h => h) (Or.inl ⟨by rfl, ?_⟩) hHeld ?_
      · intro w' hSw
        obtain ⟨m0, m1, m2, m3, m4, m5, m6, m7⟩ := hSw.facts; have lW := hSw.box.lt; go_simp; try rfl
      simp only [Act.put, List.setIfInBounds_toArray, List.set_cons_zero, List.set_cons_succ]
      refine wpAnyH_ready (rs := [7]) (by kernel_rfl) (by simp) ?_
      refine AllReadyH.cons (by simp only [List.getElem?_toArray, List.getElem?_cons_zero, List.getElem?_cons_succ]; rfl) (fun K hK => ?_) AllReadyH.nil
      go_simp
      go_at_call 33; rw [EX.out]; refine (HL.out _).mono ?_; rintro e w' ⟨rfl, rfl⟩
      refine hK.out _ _ hHeld (fun hHeld => ?_)
      clear hK K
      try simp only [Act.put, List.setIfInBounds_toArray, List.set_cons_zero, List.set_cons_succ]
      refine wpAnyH_ready (rs := [8]) (by kernel_rfl) (by simp) ?_
      refine AllReadyH.cons (by simp only [List.getElem?_toArray, List.getElem?_cons_zero, List.getElem?_cons_succ]; rfl) (fun K hK => ?_) AllReadyH.nil
      go_simp
      go_at_call 32; refine (HC.out _ _ rfl rfl _).mono ?_; rintro e w5 ⟨rfl, hw5⟩
      have hb : Below wc.drew.heap.size wc.drew w5 := by rw [← hw5]; exact bel_alloc (Below.refl _ _) _
      have HR5 := Lib.hid (HRD.out.call hb)
      obtain ⟨b5, p50, p51, p52, f5, l5, bel5⟩ := HR5.out
      have f50 := f5 0
      have f51 := f5 1
      have f52 := f5 2
      refine hK.out _ _ (hHeld.call hb) (fun hHeld => ?_)
      clear hK K hb hw5
      try simp only [Act.put, List.setIfInBounds_toArray, List.set_cons_zero, List.set_cons_succ]
      refine wpAnyH_ready (rs := [9]) (by kernel_rfl) (by simp) ?_
      refine AllReadyH.cons (by simp only [List.getElem?_toArray, List.getElem?_cons_zero, List.getElem?_cons_succ]; rfl) (fun K hK => ?_) AllReadyH.nil
      go_simp
      refine hK.out _ _ (hHeld.set3 (by omega) (by omega)) (fun hHeld => ?_)
      clear hK K
      try simp only [Act.put, List.setIfInBounds_toArray, List.set_cons_zero, List.set_cons_succ]
      refine wpAnyH_done (by kernel_rfl) ?_ _
      go_wp2_with fail
      exact bodyPost_ret (v := .agg #[.int .u8 ((w : Nat) : Int), .int .u64 ((low w (lows (z0 &&& z1)) : Nat) : Int), .int .u64 ((low w 0 : Nat) : Int)]) (by simp [results, Try.results17, go_sem, p50, p51, p52]) rfl ⟨rfl, ((bel5.setCell (by simp) _).setCell (by simp) _).setCell (by simp) _⟩
    | c_sub h1 h2 hz0 hz1 =>
      have EX := Lib.hid (bits_and_u64_nat z0 z1 hz0 hz1)
      have HL := Lib.hid (fun W => klow_any (z0 &&& z1) (and_lt64 z1 hz0) W)
      have HC := Lib.hid (fun x y ex ey W => kcut_of w x y _ _ h1 h2 (lows_lt (z0 &&& z1)) (show 0 < 18446744073709551616 by decide) ex ey W)
      clear hz0 hz1
      have HM0 := Lib.hid ((⟨bx, ⟨pg, pg0, pg1, pg2⟩, ⟨ph, ph0, ph1, ph2⟩⟩ : SureM W g h _ _ _ _ _ _ _ _ _ _ _ _ _ wc).call (Below.refl _ _).drew)
      have HRD := Lib.hid (HR.out.call (Below.refl _ _).drew)
      go_wp2_with fail
      refine wp_region_held_drew (S := SureM W g h _ _ _ _ _ _ _ _ _ _ _ _ _) (by kernel_rfl) HM0.out (fun hHeld => ?_)
      refine wpAnyH_take (i := 0) (v := .pointer (some ⟨W.heap.size, 1, none⟩)) (by simp only [List.getElem?_toArray, List.getElem?_cons_zero]; rfl) (by kernel_rfl) (by kernel_rfl) (by kernel_rfl) (by exact fun _ _ _ h => h) (Or.inl ⟨by rfl, ?_⟩) hHeld ?_
      · intro w' hSw
        obtain ⟨m0, m1, m2, m3, m4, m5, m6, m7⟩ := hSw.facts; have lW := hSw.box.lt; go_simp; try rfl
      simp only [Act.put, List.setIfInBounds_toArray, List.set_cons_zero, List.set_cons_succ]
      refine wpAnyH_take (i := 1) (v := .int .u8 ((w : Nat) : Int)) (by simp only [List.getElem?_toArray, List.getElem?_cons_zero, List.getElem?_cons_succ]; rfl) (by kernel_rfl) (by kernel_rfl) (by kernel_rfl) (by exact fun _ _ _ h => h) (Or.inl ⟨by rfl, ?_⟩) hHeld ?_
      · intro w' hSw
        obtain ⟨m0, m1, m2, m3, m4, m5, m6, m7⟩ := hSw.facts; have lW := hSw.box.lt; go_simp; try rfl
      simp only [Act.put, List.setIfInBounds_toArray, List.set_cons_zero, List.set_cons_succ]
      refine wpAnyH_take (i := 2) (v := .pointer (some ⟨g, 1, none⟩)) (by simp only [List.getElem?_toArray, List.getElem?_cons_zero, List.getElem?_cons_succ]; rfl) (by kernel_rfl) (by kernel_rfl) (by kernel_rfl) (by exact fun _ _ _ h => h) (Or.inl ⟨by rfl, ?_⟩) hHeld ?_
      · intro w' hSw
        obtain ⟨m0, m1, m2, m3, m4, m5, m6, m7⟩ := hSw.facts; have lW := hSw.box.lt; go_simp; try rfl
      simp only [Act.put, List.setIfInBounds_toArray, List.set_cons_zero, List.set_cons_succ]
      refine wpAnyH_take (i := 3) (v := .int .u64 ((z0 : Nat) : Int)) (by simp only [List.getElem?_toArray, List.getElem?_cons_zero, List.getElem?_cons_succ]; rfl) (by kernel_rfl) (by kernel_rfl) (by kernel_rfl) (by exact fun _ _ _ h => h) (Or.inl ⟨by rfl, ?_⟩) hHeld ?_
      · intro w' hSw
        obtain ⟨m0, m1, m2, m3, m4, m5, m6, m7⟩ := hSw.facts; have lW := hSw.box.lt; go_simp; try rfl
      simp only [Act.put, List.setIfInBounds_toArray, List.set_cons_zero, List.set_cons_succ]
      refine wpAnyH_take (i := 4) (v := .pointer (some ⟨h, 1, none⟩)) (by simp only [List.getElem?_toArray, List.getElem?_cons_zero, List.getElem?_cons_succ]; rfl) (by kernel_rfl) (by kernel_rfl) (by kernel_rfl) (by exact fun _ _ _ h => h) (Or.inl ⟨by rfl, ?_⟩) hHeld ?_
      · intro w' hSw
        obtain ⟨m0, m1, m2, m3, m4, m5, m6, m7⟩ := hSw.facts; have lW := hSw.box.lt; go_simp; try rfl
      simp only [Act.put, List.setIfInBounds_toArray, List.set_cons_zero, List.set_cons_succ]
      refine wpAnyH_take (i := 5) (v := .int .u64 ((z1 : Nat) : Int)) (by simp only [List.getElem?_toArray, List.getElem?_cons_zero, List.getElem?_cons_succ]; rfl) (by kernel_rfl) (by kernel_rfl) (by kernel_rfl) (by exact fun _ _ _ h => h) (Or.inl ⟨by rfl, ?_⟩) hHeld ?_
      · intro w' hSw
        obtain ⟨m0, m1, m2, m3, m4, m5, m6, m7⟩ := hSw.facts; have lW := hSw.box.lt; go_simp; try rfl
      simp only [Act.put, List.setIfInBounds_toArray, List.set_cons_zero, List.set_cons_succ]
      refine wpAnyH_take (i := 6) (v := .int .u64 (bits .and .u64 ((z0 : Nat) : Int) ((z1 : Nat) : Int))) (by simp only [List.getElem?_toArray, List.getElem?_cons_zero, List.getElem?_cons_succ]; rfl) (by kernel_rfl) (by kernel_rfl) (by kernel_rfl) (by exact fun _ _ _ h => h) (Or.inl ⟨by rfl, ?_⟩) hHeld ?_
      · intro w' hSw
        obtain ⟨m0, m1, m2, m3, m4, m5, m6, m7⟩ := hSw.facts; have lW := hSw.box.lt; go_simp; try rfl
      simp only [Act.put, List.setIfInBounds_toArray, List.set_cons_zero, List.set_cons_succ]
      refine wpAnyH_ready (rs := [7]) (by kernel_rfl) (by simp) ?_
      refine AllReadyH.cons (by simp only [List.getElem?_toArray, List.getElem?_cons_zero, List.getElem?_cons_succ]; rfl) (fun K hK => ?_) AllReadyH.nil
      go_simp
      go_at_call 33; rw [EX.out]; refine (HL.out _).mono ?_; rintro e w' ⟨rfl, rfl⟩
      refine hK.out _ _ hHeld (fun hHeld => ?_)
      clear hK K
      try simp only [Act.put, List.setIfInBounds_toArray, List.set_cons_zero, List.set_cons_succ]
      refine wpAnyH_ready (rs := [8]) (by kernel_rfl) (by simp) ?_
      refine AllReadyH.cons (by simp only [List.getElem?_toArray, List.getElem?_cons_zero, List.getElem?_cons_succ]; rfl) (fun K hK => ?_) AllReadyH.nil
      go_simp
      go_at_call 32; refine (HC.out _ _ rfl rfl _).mono ?_; rintro e w5 ⟨rfl, hw5⟩
      have hb : Below wc.drew.heap.size wc.drew w5 := by rw [← hw5]; exact bel_alloc (Below.refl _ _) _
      have HR5 := Lib.hid (HRD.out.call hb)
      obtain ⟨b5, p50, p51, p52, f5, l5, bel5⟩ := HR5.out
      have f50 := f5 0
      have f51 := f5 1
      have f52 := f5 2
      refine hK.out _ _ (hHeld.call hb) (fun hHeld => ?_)
      clear hK K hb hw5
      try simp only [Act.put, List.setIfInBounds_toArray, List.set_cons_zero, List.set_cons_succ]
      refine wpAnyH_ready (rs := [9]) (by kernel_rfl) (by simp) ?_
      refine AllReadyH.cons (by simp only [List.getElem?_toArray, List.getElem?_cons_zero, List.getElem?_cons_succ]; rfl) (fun K hK => ?_) AllReadyH.nil
      go_simp
      refine hK.out _ _ (hHeld.set3 (by omega) (by omega)) (fun hHeld => ?_)
      clear hK K
      try simp only [Act.put, List.setIfInBounds_toArray, List.set_cons_zero, List.set_cons_succ]
      refine wpAnyH_done (by kernel_rfl) ?_ _
      go_wp2_with fail
      exact bodyPost_ret (v := .agg #[.int .u8 ((w : Nat) : Int), .int .u64 ((low w (lows (z0 &&& z1)) : Nat) : Int), .int .u64 ((low w 0 : Nat) : Int)]) (by simp [results, Try.results17, go_sem, p50, p51, p52]) rfl ⟨rfl, ((bel5.setCell (by simp) _).setCell (by simp) _).setCell (by simp) _⟩
    | c_mul h1 h2 hz0 hz1 =>
      have EX := Lib.hid (bits_or_u64_nat (lows z0) (lows z1) (lows_lt z0) (lows_lt z1))
      have HL := Lib.hid (fun W => klow_any z0 hz0 W)
      have HM := Lib.hid (fun W => klow_any z1 hz1 W)
      have HC := Lib.hid (fun x y ex ey W => kcut_of w x y _ _ h1 h2 (or_lt64 (lows_lt z0) (lows_lt z1)) (show 0 < 18446744073709551616 by decide) ex ey W)
      clear hz0 hz1
      have HM0 := Lib.hid ((⟨bx, ⟨pg, pg0, pg1, pg2⟩, ⟨ph, ph0, ph1, ph2⟩⟩ : SureM W g h _ _ _ _ _ _ _ _ _ _ _ _ _ wc).call (Below.refl _ _).drew)
      have HRD := Lib.hid (HR.out.call (Below.refl _ _).drew)
      go_wp2_with fail
      refine wp_region_held_drew (S := SureM W g h _ _ _ _ _ _ _ _ _ _ _ _ _) (by kernel_rfl) HM0.out (fun hHeld => ?_)
      refine wpAnyH_take (i := 0) (v := .pointer (some ⟨W.heap.size, 1, none⟩)) (by simp only [List.getElem?_toArray, List.getElem?_cons_zero]; rfl) (by kernel_rfl) (by kernel_rfl) (by kernel_rfl) (by exact fun _ _ _ h => h) (Or.inl ⟨by rfl, ?_⟩) hHeld ?_
      · intro w' hSw
        obtain ⟨m0, m1, m2, m3, m4, m5, m6, m7⟩ := hSw.facts; have lW := hSw.box.lt; go_simp; try rfl
      simp only [Act.put, List.setIfInBounds_toArray, List.set_cons_zero, List.set_cons_succ]
      refine wpAnyH_take (i := 1) (v := .int .u8 ((w : Nat) : Int)) (by simp only [List.getElem?_toArray, List.getElem?_cons_zero, List.getElem?_cons_succ]; rfl) (by kernel_rfl) (by kernel_rfl) (by kernel_rfl) (by exact fun _ _ _ h => h) (Or.inl ⟨by rfl, ?_⟩) hHeld ?_
      · intro w' hSw
        obtain ⟨m0, m1, m2, m3, m4, m5, m6, m7⟩ := hSw.facts; have lW := hSw.box.lt; go_simp; try rfl
      simp only [Act.put, List.setIfInBounds_toArray, List.set_cons_zero, List.set_cons_succ]
      refine wpAnyH_take (i := 2) (v := .pointer (some ⟨g, 1, none⟩)) (by simp only [List.getElem?_toArray, List.getElem?_cons_zero, List.getElem?_cons_succ]; rfl) (by kernel_rfl) (by kernel_rfl) (by kernel_rfl) (by exact fun _ _ _ h => h) (Or.inl ⟨by rfl, ?_⟩) hHeld ?_
      · intro w' hSw
        obtain ⟨m0, m1, m2, m3, m4, m5, m6, m7⟩ := hSw.facts; have lW := hSw.box.lt; go_simp; try rfl
      simp only [Act.put, List.setIfInBounds_toArray, List.set_cons_zero, List.set_cons_succ]
      refine wpAnyH_take (i := 3) (v := .int .u64 ((z0 : Nat) : Int)) (by simp only [List.getElem?_toArray, List.getElem?_cons_zero, List.getElem?_cons_succ]; rfl) (by kernel_rfl) (by kernel_rfl) (by kernel_rfl) (by exact fun _ _ _ h => h) (Or.inl ⟨by rfl, ?_⟩) hHeld ?_
      · intro w' hSw
        obtain ⟨m0, m1, m2, m3, m4, m5, m6, m7⟩ := hSw.facts; have lW := hSw.box.lt; go_simp; try rfl
      simp only [Act.put, List.setIfInBounds_toArray, List.set_cons_zero, List.set_cons_succ]
      refine wpAnyH_take (i := 5) (v := .pointer (some ⟨h, 1, none⟩)) (by simp only [List.getElem?_toArray, List.getElem?_cons_zero, List.getElem?_cons_succ]; rfl) (by kernel_rfl) (by kernel_rfl) (by kernel_rfl) (by exact fun _ _ _ h => h) (Or.inl ⟨by rfl, ?_⟩) hHeld ?_
      · intro w' hSw
        obtain ⟨m0, m1, m2, m3, m4, m5, m6, m7⟩ := hSw.facts; have lW := hSw.box.lt; go_simp; try rfl
      simp only [Act.put, List.setIfInBounds_toArray, List.set_cons_zero, List.set_cons_succ]
      refine wpAnyH_take (i := 6) (v := .int .u64 ((z1 : Nat) : Int)) (by simp only [List.getElem?_toArray, List.getElem?_cons_zero, List.getElem?_cons_succ]; rfl) (by kernel_rfl) (by kernel_rfl) (by kernel_rfl) (by exact fun _ _ _ h => h) (Or.inl ⟨by rfl, ?_⟩) hHeld ?_
      · intro w' hSw
        obtain ⟨m0, m1, m2, m3, m4, m5, m6, m7⟩ := hSw.facts; have lW := hSw.box.lt; go_simp; try rfl
      simp only [Act.put, List.setIfInBounds_toArray, List.set_cons_zero, List.set_cons_succ]
      refine wpAnyH_ready (rs := [4]) (by kernel_rfl) (by simp) ?_
      refine AllReadyH.cons (by simp only [List.getElem?_toArray, List.getElem?_cons_zero, List.getElem?_cons_succ]; rfl) (fun K hK => ?_) AllReadyH.nil
      go_simp
      go_at_call 33; refine (HL.out _).mono ?_; rintro e w' ⟨rfl, rfl⟩
      refine hK.out _ _ hHeld (fun hHeld => ?_)
      clear hK K
      try simp only [Act.put, List.setIfInBounds_toArray, List.set_cons_zero, List.set_cons_succ]
      refine wpAnyH_ready (rs := [7]) (by kernel_rfl) (by simp) ?_
      refine AllReadyH.cons (by simp only [List.getElem?_toArray, List.getElem?_cons_zero, List.getElem?_cons_succ]; rfl) (fun K hK => ?_) AllReadyH.nil
      go_simp
      go_at_call 33; refine (HM.out _).mono ?_; rintro e w' ⟨rfl, rfl⟩
      refine hK.out _ _ hHeld (fun hHeld => ?_)
      clear hK K
      try simp only [Act.put, List.setIfInBounds_toArray, List.set_cons_zero, List.set_cons_succ]
      refine wpAnyH_take (i := 8) (v := .int .u64 (bits .or .u64 ((lows z0 : Nat) : Int) ((lows z1 : Nat) : Int))) (by simp only [List.getElem?_toArray, List.getElem?_cons_zero, List.getElem?_cons_succ]; rfl) (by kernel_rfl) (by kernel_rfl) (by kernel_rfl) (by exact fun _ _ _ h => h) (Or.inl ⟨by rfl, ?_⟩) hHeld ?_
      · intro w' hSw
        obtain ⟨m0, m1, m2, m3, m4, m5, m6, m7⟩ := hSw.facts; have lW := hSw.box.lt; go_simp; try rfl
      simp only [Act.put, List.setIfInBounds_toArray, List.set_cons_zero, List.set_cons_succ]
      refine wpAnyH_ready (rs := [9]) (by kernel_rfl) (by simp) ?_
      refine AllReadyH.cons (by simp only [List.getElem?_toArray, List.getElem?_cons_zero, List.getElem?_cons_succ]; rfl) (fun K hK => ?_) AllReadyH.nil
      go_simp
      go_at_call 32; refine (HC.out _ _ EX.out rfl _).mono ?_; rintro e w5 ⟨rfl, hw5⟩
      have hb : Below wc.drew.heap.size wc.drew w5 := by rw [← hw5]; exact bel_alloc (Below.refl _ _) _
      have HR5 := Lib.hid (HRD.out.call hb)
      obtain ⟨b5, p50, p51, p52, f5, l5, bel5⟩ := HR5.out
      have f50 := f5 0
      have f51 := f5 1
      have f52 := f5 2
      refine hK.out _ _ (hHeld.call hb) (fun hHeld => ?_)
      clear hK K hb hw5
      try simp only [Act.put, List.setIfInBounds_toArray, List.set_cons_zero, List.set_cons_succ]
      refine wpAnyH_ready (rs := [10]) (by kernel_rfl) (by simp) ?_
      refine AllReadyH.cons (by simp only [List.getElem?_toArray, List.getElem?_cons_zero, List.getElem?_cons_succ]; rfl) (fun K hK => ?_) AllReadyH.nil
      go_simp
      refine hK.out _ _ (hHeld.set3 (by omega) (by omega)) (fun hHeld => ?_)
      clear hK K
      try simp only [Act.put, List.setIfInBounds_toArray, List.set_cons_zero, List.set_cons_succ]
      refine wpAnyH_done (by kernel_rfl) ?_ _
      go_wp2_with fail
      exact bodyPost_ret (v := .agg #[.int .u8 ((w : Nat) : Int), .int .u64 ((low w (lows z0 ||| lows z1) : Nat) : Int), .int .u64 ((low w 0 : Nat) : Int)]) (by simp [results, Try.results17, go_sem, p50, p51, p52]) rfl ⟨rfl, ((bel5.setCell (by simp) _).setCell (by simp) _).setCell (by simp) _⟩
    | c_shl h1 h2 hz0 ho0 yw y0 y1 y2 yl yn HN =>
      have HC := Lib.hid (fun W => kshl_any w0 z0 o0 yn h1 h2 W)
      clear hz0 ho0
      go_wp2_with fail
      refine (HN.out _ hbel).mono ?_
      rintro e w4 ⟨rfl, hb4⟩
      have HR4 := Lib.hid (HR.out.call hb4)
      have hx4 : At3 w4 g (.int .u8 ((w0 : Nat) : Int)) (.int .u64 ((z0 : Nat) : Int)) (.int .u64 ((o0 : Nat) : Int)) := ⟨Nat.lt_of_lt_of_le pg hb4.size, (hb4.cell (p := ⟨g, 0, none⟩) pg).trans pg0, (hb4.cell (p := ⟨g, 1, none⟩) pg).trans pg1, (hb4.cell (p := ⟨g, 2, none⟩) pg).trans pg2⟩
      obtain ⟨lg4, g40, g41, g42⟩ := hx4
      obtain ⟨bx4, q0, q1, q2, fr4, l4, bel4⟩ := HR4.out
      have f40 := fr4 0
      have f41 := fr4 1
      have f42 := fr4 2
      have l40 : W.heap.size < w4.heap.size := by omega
      unfold At7 at bx4
      clear hb4
      go_wp2_with fail
      refine (HC.out _).mono ?_
      rintro e w5 ⟨rfl, hb5⟩
      have hb : Below w4.heap.size w4 w5 := (bel_alloc (Below.refl _ _) _).trans (hb5.mono (by simp))
      clear hb5
      have HR5 := Lib.hid (HR4.out.call hb)
      obtain ⟨b5, p50, p51, p52, f5, l5, bel5⟩ := HR5.out
      have f50 := f5 0
      have f51 := f5 1
      have f52 := f5 2
      clear hb
      go_wp2_with fail
      exact bodyPost_ret (v := .agg #[.int .u8 ((w0 : Nat) : Int), .int .u64 (((shK 15 w0 (z0, o0) yn).1 : Nat) : Int), .int .u64 (((shK 15 w0 (z0, o0) yn).2 : Nat) : Int)]) (by simp [results, Try.results17, go_sem, p50, p51, p52]) rfl ⟨rfl, ((bel5.setCell (by simp) _).setCell (by simp) _).setCell (by simp) _⟩
    | c_lshr h1 h2 hz0 ho0 yw y0 y1 y2 yl yn HN =>
      have HC := Lib.hid (fun W => klshr_any w0 z0 o0 yn h1 h2 hz0 ho0 W)
      clear hz0 ho0
      go_wp2_with fail
      refine (HN.out _ hbel).mono ?_
      rintro e w4 ⟨rfl, hb4⟩
      have HR4 := Lib.hid (HR.out.call hb4)
      have hx4 : At3 w4 g (.int .u8 ((w0 : Nat) : Int)) (.int .u64 ((z0 : Nat) : Int)) (.int .u64 ((o0 : Nat) : Int)) := ⟨Nat.lt_of_lt_of_le pg hb4.size, (hb4.cell (p := ⟨g, 0, none⟩) pg).trans pg0, (hb4.cell (p := ⟨g, 1, none⟩) pg).trans pg1, (hb4.cell (p := ⟨g, 2, none⟩) pg).trans pg2⟩
      obtain ⟨lg4, g40, g41, g42⟩ := hx4
      obtain ⟨bx4, q0, q1, q2, fr4, l4, bel4⟩ := HR4.out
      have f40 := fr4 0
      have f41 := fr4 1
      have f42 := fr4 2
      have l40 : W.heap.size < w4.heap.size := by omega
      unfold At7 at bx4
      clear hb4
      go_wp2_with fail
      refine (HC.out _).mono ?_
      rintro e w5 ⟨rfl, hb5⟩
      have hb : Below w4.heap.size w4 w5 := (bel_alloc (Below.refl _ _) _).trans (hb5.mono (by simp))
      clear hb5
      have HR5 := Lib.hid (HR4.out.call hb)
      obtain ⟨b5, p50, p51, p52, f5, l5, bel5⟩ := HR5.out
      have f50 := f5 0
      have f51 := f5 1
      have f52 := f5 2
      clear hb
      go_wp2_with fail
      exact bodyPost_ret (v := .agg #[.int .u8 ((w0 : Nat) : Int), .int .u64 (((shK 16 w0 (z0, o0) yn).1 : Nat) : Int), .int .u64 (((shK 16 w0 (z0, o0) yn).2 : Nat) : Int)]) (by simp [results, Try.results17, go_sem, p50, p51, p52]) rfl ⟨rfl, ((bel5.setCell (by simp) _).setCell (by simp) _).setCell (by simp) _⟩
    | c_ashr h1 h2 hz0 ho0 yw y0 y1 y2 yl yn HN =>
      have HC := Lib.hid (fun W => kashr_any w0 z0 o0 yn h1 h2 hz0 ho0 W)
      clear hz0 ho0
      go_wp2_with fail
      refine (HN.out _ hbel).mono ?_
      rintro e w4 ⟨rfl, hb4⟩
      have HR4 := Lib.hid (HR.out.call hb4)
      have hx4 : At3 w4 g (.int .u8 ((w0 : Nat) : Int)) (.int .u64 ((z0 : Nat) : Int)) (.int .u64 ((o0 : Nat) : Int)) := ⟨Nat.lt_of_lt_of_le pg hb4.size, (hb4.cell (p := ⟨g, 0, none⟩) pg).trans pg0, (hb4.cell (p := ⟨g, 1, none⟩) pg).trans pg1, (hb4.cell (p := ⟨g, 2, none⟩) pg).trans pg2⟩
      obtain ⟨lg4, g40, g41, g42⟩ := hx4
      obtain ⟨bx4, q0, q1, q2, fr4, l4, bel4⟩ := HR4.out
      have f40 := fr4 0
      have f41 := fr4 1
      have f42 := fr4 2
      have l40 : W.heap.size < w4.heap.size := by omega
      unfold At7 at bx4
      clear hb4
      go_wp2_with fail
      refine (HC.out _).mono ?_
      rintro e w5 ⟨rfl, hb5⟩
      have hb : Below w4.heap.size w4 w5 := (bel_alloc (Below.refl _ _) _).trans (hb5.mono (by simp))
      clear hb5
      have HR5 := Lib.hid (HR4.out.call hb)
      obtain ⟨b5, p50, p51, p52, f5, l5, bel5⟩ := HR5.out
      have f50 := f5 0
      have f51 := f5 1
      have f52 := f5 2
      clear hb
      go_wp2_with fail
      exact bodyPost_ret (v := .agg #[.int .u8 ((w0 : Nat) : Int), .int .u64 (((shK 17 w0 (z0, o0) yn).1 : Nat) : Int), .int .u64 (((shK 17 w0 (z0, o0) yn).2 : Nat) : Int)]) (by simp [results, Try.results17, go_sem, p50, p51, p52]) rfl ⟨rfl, ((bel5.setCell (by simp) _).setCell (by simp) _).setCell (by simp) _⟩
    | c_shl0 yo yw y0 y1 y2 yl yn HN yo0 =>
      have d0 : (yo == 1) = false := by rw [beq_eq_false_iff_ne]; exact yo0
      go_wp2_with fail
      refine (HN.out _ hbel).mono ?_
      rintro e w4 ⟨rfl, hb4⟩
      have HR4 := Lib.hid (HR.out.call hb4)
      have hx4 : At3 w4 g (.int .u8 ((w0 : Nat) : Int)) (.int .u64 ((z0 : Nat) : Int)) (.int .u64 ((o0 : Nat) : Int)) := ⟨Nat.lt_of_lt_of_le pg hb4.size, (hb4.cell (p := ⟨g, 0, none⟩) pg).trans pg0, (hb4.cell (p := ⟨g, 1, none⟩) pg).trans pg1, (hb4.cell (p := ⟨g, 2, none⟩) pg).trans pg2⟩
      obtain ⟨lg4, g40, g41, g42⟩ := hx4
      obtain ⟨bx4, q0, q1, q2, fr4, l4, bel4⟩ := HR4.out
      have f40 := fr4 0
      have f41 := fr4 1
      have f42 := fr4 2
      have l40 : W.heap.size < w4.heap.size := by omega
      unfold At7 at bx4
      clear hb4
      go_wp2_with fail
      exact bodyPost_ret (v := .agg #[.int .u8 ((w : Nat) : Int), .int .u64 0, .int .u64 0]) (by simp [results, Try.results17, go_sem, q0, q1, q2, l4]) rfl ⟨rfl, bel_alloc (((bel4.setCell (by simp) _).setCell (by simp) _).setCell (by simp) _) _⟩
    | c_lshr0 yo yw y0 y1 y2 yl yn HN yo0 =>
      have d0 : (yo == 1) = false := by rw [beq_eq_false_iff_ne]; exact yo0
      go_wp2_with fail
      refine (HN.out _ hbel).mono ?_
      rintro e w4 ⟨rfl, hb4⟩
      have HR4 := Lib.hid (HR.out.call hb4)
      have hx4 : At3 w4 g (.int .u8 ((w0 : Nat) : Int)) (.int .u64 ((z0 : Nat) : Int)) (.int .u64 ((o0 : Nat) : Int)) := ⟨Nat.lt_of_lt_of_le pg hb4.size, (hb4.cell (p := ⟨g, 0, none⟩) pg).trans pg0, (hb4.cell (p := ⟨g, 1, none⟩) pg).trans pg1, (hb4.cell (p := ⟨g, 2, none⟩) pg).trans pg2⟩
      obtain ⟨lg4, g40, g41, g42⟩ := hx4
      obtain ⟨bx4, q0, q1, q2, fr4, l4, bel4⟩ := HR4.out
      have f40 := fr4 0
      have f41 := fr4 1
      have f42 := fr4 2
      have l40 : W.heap.size < w4.heap.size := by omega
      unfold At7 at bx4
      clear hb4
      go_wp2_with fail
      exact bodyPost_ret (v := .agg #[.int .u8 ((w : Nat) : Int), .int .u64 0, .int .u64 0]) (by simp [results, Try.results17, go_sem, q0, q1, q2, l4]) rfl ⟨rfl, bel_alloc (((bel4.setCell (by simp) _).setCell (by simp) _).setCell (by simp) _) _⟩
    | c_ashr0 yo yw y0 y1 y2 yl yn HN yo0 =>
      have d0 : (yo == 1) = false := by rw [beq_eq_false_iff_ne]; exact yo0
      go_wp2_with fail
      refine (HN.out _ hbel).mono ?_
      rintro e w4 ⟨rfl, hb4⟩
      have HR4 := Lib.hid (HR.out.call hb4)
      have hx4 : At3 w4 g (.int .u8 ((w0 : Nat) : Int)) (.int .u64 ((z0 : Nat) : Int)) (.int .u64 ((o0 : Nat) : Int)) := ⟨Nat.lt_of_lt_of_le pg hb4.size, (hb4.cell (p := ⟨g, 0, none⟩) pg).trans pg0, (hb4.cell (p := ⟨g, 1, none⟩) pg).trans pg1, (hb4.cell (p := ⟨g, 2, none⟩) pg).trans pg2⟩
      obtain ⟨lg4, g40, g41, g42⟩ := hx4
      obtain ⟨bx4, q0, q1, q2, fr4, l4, bel4⟩ := HR4.out
      have f40 := fr4 0
      have f41 := fr4 1
      have f42 := fr4 2
      have l40 : W.heap.size < w4.heap.size := by omega
      unfold At7 at bx4
      clear hb4
      go_wp2_with fail
      exact bodyPost_ret (v := .agg #[.int .u8 ((w : Nat) : Int), .int .u64 0, .int .u64 0]) (by simp [results, Try.results17, go_sem, q0, q1, q2, l4]) rfl ⟨rfl, bel_alloc (((bel4.setCell (by simp) _).setCell (by simp) _).setCell (by simp) _) _⟩
    | c_concat h1 h2 hz0 ho0 hz1 ho1 =>
      have EX : Hid (bits .or .u64 (IntKind.u64.wrap (((z0 : Nat) : Int) * 2 ^ min w1 64)) ((z1 : Nat) : Int) = ((z0 * 2 ^ min w1 64 % 18446744073709551616 ||| z1 : Nat) : Int)) := Lib.hid (by rw [shl_int]; exact bits_or_u64_nat _ _ (mulM_lt z0 w1) hz1)
      have EY : Hid (bits .or .u64 (IntKind.u64.wrap (((o0 : Nat) : Int) * 2 ^ min w1 64)) ((o1 : Nat) : Int) = ((o0 * 2 ^ min w1 64 % 18446744073709551616 ||| o1 : Nat) : Int)) := Lib.hid (by rw [shl_int]; exact bits_or_u64_nat _ _ (mulM_lt o0 w1) ho1)
      have HC := Lib.hid (fun x y ex ey W => kcut_of w x y _ _ h1 h2 (or_lt64 (mulM_lt z0 w1) hz1) (or_lt64 (mulM_lt o0 w1) ho1) ex ey W)
      clear hz0 ho0 hz1 ho1
      go_wp2_with fail
      refine (HC.out _ _ EX.out EY.out _).mono ?_
      rintro e w5 ⟨rfl, hw5⟩
      have hb : Below wc.heap.size wc w5 := by rw [← hw5]; exact bel_alloc (Below.refl _ _) _
      clear hw5
      have HR5 := Lib.hid (HR.out.call hb)
      obtain ⟨b5, p50, p51, p52, f5, l5, bel5⟩ := HR5.out
      have f50 := f5 0
      have f51 := f5 1
      have f52 := f5 2
      clear hb
      go_wp2_with fail
      exact bodyPost_ret (v := .agg #[.int .u8 ((w : Nat) : Int), .int .u64 ((low w (z0 * 2 ^ min w1 64 % 18446744073709551616 ||| z1) : Nat) : Int), .int .u64 ((low w (o0 * 2 ^ min w1 64 % 18446744073709551616 ||| o1) : Nat) : Int)]) (by simp [results, Try.results17, go_sem, p50, p51, p52]) rfl ⟨rfl, ((bel5.setCell (by simp) _).setCell (by simp) _).setCell (by simp) _⟩
    | c_extract h1 h2 hz0 ho0 =>
      have EX := Lib.hid (shr_int z0 l)
      have EY := Lib.hid (shr_int o0 l)
      have HC := Lib.hid (fun x y ex ey W => kcut_of w x y (z0 / 2 ^ min l 64) (o0 / 2 ^ min l 64) h1 h2 (Nat.lt_of_le_of_lt (Nat.div_le_self _ _) hz0) (Nat.lt_of_le_of_lt (Nat.div_le_self _ _) ho0) ex ey W)
      clear hz0 ho0
      go_wp2_with fail
      refine (HC.out _ _ EX.out EY.out _).mono ?_
      rintro e w5 ⟨rfl, hw5⟩
      have hb : Below wc.heap.size wc w5 := by rw [← hw5]; exact bel_alloc (Below.refl _ _) _
      clear hw5
      have HR5 := Lib.hid (HR.out.call hb)
      obtain ⟨b5, p50, p51, p52, f5, l5, bel5⟩ := HR5.out
      have f50 := f5 0
      have f51 := f5 1
      have f52 := f5 2
      clear hb
      go_wp2_with fail
      exact bodyPost_ret (v := .agg #[.int .u8 ((w : Nat) : Int), .int .u64 ((low w (z0 / 2 ^ min l 64) : Nat) : Int), .int .u64 ((low w (o0 / 2 ^ min l 64) : Nat) : Int)]) (by simp [results, Try.results17, go_sem, p50, p51, p52]) rfl ⟨rfl, ((bel5.setCell (by simp) _).setCell (by simp) _).setCell (by simp) _⟩
    | c_zext h1 h2 h3 h4 hz0 ho0 =>
      have l3 : 18446744073709551615 - (2 ^ w0 - 1) < 18446744073709551616 := Nat.lt_of_le_of_lt (Nat.sub_le _ _) (by decide)
      have l4 : 2 ^ w0 - 1 < 18446744073709551616 := Nat.lt_of_lt_of_le (Nat.sub_lt (pow_pos' w0) (by decide)) (pow_le64 h4)
      have EX : Hid (bits .or .u64 ((z0 : Nat) : Int) (bits .xor .u64 IntKind.u64.max ((2 ^ w0 - 1 : Nat) : Int)) = ((z0 ||| (18446744073709551615 - (2 ^ w0 - 1)) : Nat) : Int)) := Lib.hid (by rw [not_int l4]; exact bits_or_u64_nat _ _ hz0 l3)
      have HM := Lib.hid (fun W => kmask_any w0 h3 h4 W)
      have HI : Hid ((if IntKind.u64.signed = true then (-1 : Int) else IntKind.u64.max) = IntKind.u64.max) := Lib.hid rfl
      have HC := Lib.hid (fun x y ex ey W => kcut_of w x y _ _ h1 h2 (or_lt64 hz0 l3) ho0 ex ey W)
      clear hz0 ho0 l3 l4
      have HM0 := Lib.hid ((⟨bx, ⟨pg, pg0, pg1, pg2⟩, ⟨ph, ph0, ph1, ph2⟩⟩ : SureM W g h _ _ _ _ _ _ _ _ _ _ _ _ _ wc).call (Below.refl _ _).drew)
      have HRD := Lib.hid (HR.out.call (Below.refl _ _).drew)
      go_wp2_with fail
      refine wp_region_held_drew (S := SureM W g h _ _ _ _ _ _ _ _ _ _ _ _ _) (by kernel_rfl) HM0.out (fun hHeld => ?_)
      refine wpAnyH_take (i := 0) (v := .pointer (some ⟨W.heap.size, 1, none⟩)) (by simp only [List.getElem?_toArray, List.getElem?_cons_zero]; rfl) (by kernel_rfl) (by kernel_rfl) (by kernel_rfl) (by exact fun _ _ _ h => h) (Or.inl ⟨by rfl, ?_⟩) hHeld ?_
      · intro w' hSw
        obtain ⟨m0, m1, m2, m3, m4, m5, m6, m7⟩ := hSw.facts; have lW := hSw.box.lt; go_simp; try rfl
      simp only [Act.put, List.setIfInBounds_toArray, List.set_cons_zero, List.set_cons_succ]
      refine wpAnyH_take (i := 1) (v := .int .u8 ((w : Nat) : Int)) (by simp only [List.getElem?_toArray, List.getElem?_cons_zero, List.getElem?_cons_succ]; rfl) (by kernel_rfl) (by kernel_rfl) (by kernel_rfl) (by exact fun _ _ _ h => h) (Or.inl ⟨by rfl, ?_⟩) hHeld ?_
      · intro w' hSw
        obtain ⟨m0, m1, m2, m3, m4, m5, m6, m7⟩ := hSw.facts; have lW := hSw.box.lt; go_simp; try rfl
      simp only [Act.put, List.setIfInBounds_toArray, List.set_cons_zero, List.set_cons_succ]
      refine wpAnyH_take (i := 2) (v := .pointer (some ⟨g, 1, none⟩)) (by simp only [List.getElem?_toArray, List.getElem?_cons_zero, List.getElem?_cons_succ]; rfl) (by kernel_rfl) (by kernel_rfl) (by kernel_rfl) (by exact fun _ _ _ h => h) (Or.inl ⟨by rfl, ?_⟩) hHeld ?_
      · intro w' hSw
        obtain ⟨m0, m1, m2, m3, m4, m5, m6, m7⟩ := hSw.facts; have lW := hSw.box.lt; go_simp; try rfl
      simp only [Act.put, List.setIfInBounds_toArray, List.set_cons_zero, List.set_cons_succ]
      refine wpAnyH_take (i := 3) (v := .int .u64 ((z0 : Nat) : Int)) (by simp only [List.getElem?_toArray, List.getElem?_cons_zero, List.getElem?_cons_succ]; rfl) (by kernel_rfl) (by kernel_rfl) (by kernel_rfl) (by exact fun _ _ _ h => h) (Or.inl ⟨by rfl, ?_⟩) hHeld ?_
      · intro w' hSw
        obtain ⟨m0, m1, m2, m3, m4, m5, m6, m7⟩ := hSw.facts; have lW := hSw.box.lt; go_simp; try rfl
      simp only [Act.put, List.setIfInBounds_toArray, List.set_cons_zero, List.set_cons_succ]
      refine wpAnyH_take (i := 4) (v := .pointer (some ⟨g, 0, none⟩)) (by simp only [List.getElem?_toArray, List.getElem?_cons_zero, List.getElem?_cons_succ]; rfl) (by kernel_rfl) (by kernel_rfl) (by kernel_rfl) (by exact fun _ _ _ h => h) (Or.inl ⟨by rfl, ?_⟩) hHeld ?_
      · intro w' hSw
        obtain ⟨m0, m1, m2, m3, m4, m5, m6, m7⟩ := hSw.facts; have lW := hSw.box.lt; go_simp; try rfl
      simp only [Act.put, List.setIfInBounds_toArray, List.set_cons_zero, List.set_cons_succ]
      refine wpAnyH_take (i := 5) (v := .int .u8 ((w0 : Nat) : Int)) (by simp only [List.getElem?_toArray, List.getElem?_cons_zero, List.getElem?_cons_succ]; rfl) (by kernel_rfl) (by kernel_rfl) (by kernel_rfl) (by exact fun _ _ _ h => h) (Or.inl ⟨by rfl, ?_⟩) hHeld ?_
      · intro w' hSw
        obtain ⟨m0, m1, m2, m3, m4, m5, m6, m7⟩ := hSw.facts; have lW := hSw.box.lt; go_simp; try rfl
      simp only [Act.put, List.setIfInBounds_toArray, List.set_cons_zero, List.set_cons_succ]
      refine wpAnyH_take (i := 9) (v := .pointer (some ⟨g, 2, none⟩)) (by simp only [List.getElem?_toArray, List.getElem?_cons_zero, List.getElem?_cons_succ]; rfl) (by kernel_rfl) (by kernel_rfl) (by kernel_rfl) (by exact fun _ _ _ h => h) (Or.inl ⟨by rfl, ?_⟩) hHeld ?_
      · intro w' hSw
        obtain ⟨m0, m1, m2, m3, m4, m5, m6, m7⟩ := hSw.facts; have lW := hSw.box.lt; go_simp; try rfl
      simp only [Act.put, List.setIfInBounds_toArray, List.set_cons_zero, List.set_cons_succ]
      refine wpAnyH_take (i := 10) (v := .int .u64 ((o0 : Nat) : Int)) (by simp only [List.getElem?_toArray, List.getElem?_cons_zero, List.getElem?_cons_succ]; rfl) (by kernel_rfl) (by kernel_rfl) (by kernel_rfl) (by exact fun _ _ _ h => h) (Or.inl ⟨by rfl, ?_⟩) hHeld ?_
      · intro w' hSw
        obtain ⟨m0, m1, m2, m3, m4, m5, m6, m7⟩ := hSw.facts; have lW := hSw.box.lt; go_simp; try rfl
      simp only [Act.put, List.setIfInBounds_toArray, List.set_cons_zero, List.set_cons_succ]
      refine wpAnyH_ready (rs := [6]) (by kernel_rfl) (by simp) ?_
      refine AllReadyH.cons (by simp only [List.getElem?_toArray, List.getElem?_cons_zero, List.getElem?_cons_succ]; rfl) (fun K hK => ?_) AllReadyH.nil
      go_simp
      go_at_call 35; refine (HM.out _).mono ?_; rintro e w' ⟨rfl, rfl⟩
      refine hK.out _ _ hHeld (fun hHeld => ?_)
      clear hK K
      try simp only [Act.put, List.setIfInBounds_toArray, List.set_cons_zero, List.set_cons_succ]
      refine wpAnyH_take (i := 7) (v := .int .u64 (bits .xor .u64 IntKind.u64.max ((2 ^ w0 - 1 : Nat) : Int))) (by simp only [List.getElem?_toArray, List.getElem?_cons_zero, List.getElem?_cons_succ]; rfl) (by kernel_rfl) (by kernel_rfl) (by kernel_rfl) (by exact fun _ _ _ h => h) (Or.inl ⟨by rfl, ?_⟩) hHeld ?_
      · intro w' hSw
        obtain ⟨m0, m1, m2, m3, m4, m5, m6, m7⟩ := hSw.facts; have lW := hSw.box.lt; go_simp; try rfl
      simp only [Act.put, List.setIfInBounds_toArray, List.set_cons_zero, List.set_cons_succ]
      refine wpAnyH_take (i := 8) (v := .int .u64 (bits .or .u64 ((z0 : Nat) : Int) (bits .xor .u64 IntKind.u64.max ((2 ^ w0 - 1 : Nat) : Int)))) (by simp only [List.getElem?_toArray, List.getElem?_cons_zero, List.getElem?_cons_succ]; rfl) (by kernel_rfl) (by kernel_rfl) (by kernel_rfl) (by exact fun _ _ _ h => h) (Or.inl ⟨by rfl, ?_⟩) hHeld ?_
      · intro w' hSw
        obtain ⟨m0, m1, m2, m3, m4, m5, m6, m7⟩ := hSw.facts; have lW := hSw.box.lt; go_simp; try rfl
      simp only [Act.put, List.setIfInBounds_toArray, List.set_cons_zero, List.set_cons_succ]
      refine wpAnyH_ready (rs := [11]) (by kernel_rfl) (by simp) ?_
      refine AllReadyH.cons (by simp only [List.getElem?_toArray, List.getElem?_cons_zero, List.getElem?_cons_succ]; rfl) (fun K hK => ?_) AllReadyH.nil
      go_simp
      go_at_call 32; refine (HC.out _ _ EX.out rfl _).mono ?_; rintro e w5 ⟨rfl, hw5⟩
      have hb : Below wc.drew.heap.size wc.drew w5 := by rw [← hw5]; exact bel_alloc (Below.refl _ _) _
      have HR5 := Lib.hid (HRD.out.call hb)
      obtain ⟨b5, p50, p51, p52, f5, l5, bel5⟩ := HR5.out
      have f50 := f5 0
      have f51 := f5 1
      have f52 := f5 2
      refine hK.out _ _ (hHeld.call hb) (fun hHeld => ?_)
      clear hK K hb hw5
      try simp only [Act.put, List.setIfInBounds_toArray, List.set_cons_zero, List.set_cons_succ]
      refine wpAnyH_ready (rs := [12]) (by kernel_rfl) (by simp) ?_
      refine AllReadyH.cons (by simp only [List.getElem?_toArray, List.getElem?_cons_zero, List.getElem?_cons_succ]; rfl) (fun K hK => ?_) AllReadyH.nil
      go_simp
      refine hK.out _ _ (hHeld.set3 (by omega) (by omega)) (fun hHeld => ?_)
      clear hK K
      try simp only [Act.put, List.setIfInBounds_toArray, List.set_cons_zero, List.set_cons_succ]
      refine wpAnyH_done (by kernel_rfl) ?_ _
      go_wp2_with fail
      exact bodyPost_ret (v := .agg #[.int .u8 ((w : Nat) : Int), .int .u64 ((low w (z0 ||| (18446744073709551615 - (2 ^ w0 - 1))) : Nat) : Int), .int .u64 ((low w o0 : Nat) : Int)]) (by simp [results, Try.results17, go_sem, p50, p51, p52]) rfl ⟨rfl, ((bel5.setCell (by simp) _).setCell (by simp) _).setCell (by simp) _⟩
    | c_sext h1 h2 h3 h4 hz0 ho0 =>
      have EX := Lib.hid (fun n => sext64 w0 n)
      have HM := Lib.hid (fun W => kspread_any w0 z0 h3 h4 hz0 W)
      have HT := Lib.hid (fun W => kspread_any w0 o0 h3 h4 ho0 W)
      have HC := Lib.hid (fun x y ex ey W => kcut_of w x y _ _ h1 h2 (numE_lt 24 w0 (Nat.lt_of_lt_of_le hz0 (pow_le64 h4))) (numE_lt 24 w0 (Nat.lt_of_lt_of_le ho0 (pow_le64 h4))) ex ey W)
      clear hz0 ho0
      have HM0 := Lib.hid ((⟨bx, ⟨pg, pg0, pg1, pg2⟩, ⟨ph, ph0, ph1, ph2⟩⟩ : SureM W g h _ _ _ _ _ _ _ _ _ _ _ _ _ wc).call (Below.refl _ _).drew)
      have HRD := Lib.hid (HR.out.call (Below.refl _ _).drew)
      go_wp2_with fail
      refine wp_region_held_drew (S := SureM W g h _ _ _ _ _ _ _ _ _ _ _ _ _) (by kernel_rfl) HM0.out (fun hHeld => ?_)
      refine wpAnyH_take (i := 0) (v := .pointer (some ⟨W.heap.size, 1, none⟩)) (by simp only [List.getElem?_toArray, List.getElem?_cons_zero]; rfl) (by kernel_rfl) (by kernel_rfl) (by kernel_rfl) (by exact fun _ _ _ h => h) (Or.inl ⟨by rfl, ?_⟩) hHeld ?_
      · intro w' hSw
        obtain ⟨m0, m1, m2, m3, m4, m5, m6, m7⟩ := hSw.facts; have lW := hSw.box.lt; go_simp; try rfl
      simp only [Act.put, List.setIfInBounds_toArray, List.set_cons_zero, List.set_cons_succ]
      refine wpAnyH_take (i := 1) (v := .int .u8 ((w : Nat) : Int)) (by simp only [List.getElem?_toArray, List.getElem?_cons_zero, List.getElem?_cons_succ]; rfl) (by kernel_rfl) (by kernel_rfl) (by kernel_rfl) (by exact fun _ _ _ h => h) (Or.inl ⟨by rfl, ?_⟩) hHeld ?_
      · intro w' hSw
        obtain ⟨m0, m1, m2, m3, m4, m5, m6, m7⟩ := hSw.facts; have lW := hSw.box.lt; go_simp; try rfl
      simp only [Act.put, List.setIfInBounds_toArray, List.set_cons_zero, List.set_cons_succ]
      refine wpAnyH_take (i := 2) (v := .pointer (some ⟨g, 0, none⟩)) (by simp only [List.getElem?_toArray, List.getElem?_cons_zero, List.getElem?_cons_succ]; rfl) (by kernel_rfl) (by kernel_rfl) (by kernel_rfl) (by exact fun _ _ _ h => h) (Or.inl ⟨by rfl, ?_⟩) hHeld ?_
      · intro w' hSw
        obtain ⟨m0, m1, m2, m3, m4, m5, m6, m7⟩ := hSw.facts; have lW := hSw.box.lt; go_simp; try rfl
      simp only [Act.put, List.setIfInBounds_toArray, List.set_cons_zero, List.set_cons_succ]
      refine wpAnyH_take (i := 3) (v := .int .u8 ((w0 : Nat) : Int)) (by simp only [List.getElem?_toArray, List.getElem?_cons_zero, List.getElem?_cons_succ]; rfl) (by kernel_rfl) (by kernel_rfl) (by kernel_rfl) (by exact fun _ _ _ h => h) (Or.inl ⟨by rfl, ?_⟩) hHeld ?_
      · intro w' hSw
        obtain ⟨m0, m1, m2, m3, m4, m5, m6, m7⟩ := hSw.facts; have lW := hSw.box.lt; go_simp; try rfl
      simp only [Act.put, List.setIfInBounds_toArray, List.set_cons_zero, List.set_cons_succ]
      refine wpAnyH_take (i := 4) (v := .pointer (some ⟨g, 1, none⟩)) (by simp only [List.getElem?_toArray, List.getElem?_cons_zero, List.getElem?_cons_succ]; rfl) (by kernel_rfl) (by kernel_rfl) (by kernel_rfl) (by exact fun _ _ _ h => h) (Or.inl ⟨by rfl, ?_⟩) hHeld ?_
      · intro w' hSw
        obtain ⟨m0, m1, m2, m3, m4, m5, m6, m7⟩ := hSw.facts; have lW := hSw.box.lt; go_simp; try rfl
      simp only [Act.put, List.setIfInBounds_toArray, List.set_cons_zero, List.set_cons_succ]
      refine wpAnyH_take (i := 5) (v := .int .u64 ((z0 : Nat) : Int)) (by simp only [List.getElem?_toArray, List.getElem?_cons_zero, List.getElem?_cons_succ]; rfl) (by kernel_rfl) (by kernel_rfl) (by kernel_rfl) (by exact fun _ _ _ h => h) (Or.inl ⟨by rfl, ?_⟩) hHeld ?_
      · intro w' hSw
        obtain ⟨m0, m1, m2, m3, m4, m5, m6, m7⟩ := hSw.facts; have lW := hSw.box.lt; go_simp; try rfl
      simp only [Act.put, List.setIfInBounds_toArray, List.set_cons_zero, List.set_cons_succ]
      refine wpAnyH_take (i := 8) (v := .pointer (some ⟨g, 0, none⟩)) (by simp only [List.getElem?_toArray, List.getElem?_cons_zero, List.getElem?_cons_succ]; rfl) (by kernel_rfl) (by kernel_rfl) (by kernel_rfl) (by exact fun _ _ _ h => h) (Or.inl ⟨by rfl, ?_⟩) hHeld ?_
      · intro w' hSw
        obtain ⟨m0, m1, m2, m3, m4, m5, m6, m7⟩ := hSw.facts; have lW := hSw.box.lt; go_simp; try rfl
      simp only [Act.put, List.setIfInBounds_toArray, List.set_cons_zero, List.set_cons_succ]
      refine wpAnyH_take (i := 9) (v := .int .u8 ((w0 : Nat) : Int)) (by simp only [List.getElem?_toArray, List.getElem?_cons_zero, List.getElem?_cons_succ]; rfl) (by kernel_rfl) (by kernel_rfl) (by kernel_rfl) (by exact fun _ _ _ h => h) (Or.inl ⟨by rfl, ?_⟩) hHeld ?_
      · intro w' hSw
        obtain ⟨m0, m1, m2, m3, m4, m5, m6, m7⟩ := hSw.facts; have lW := hSw.box.lt; go_simp; try rfl
      simp only [Act.put, List.setIfInBounds_toArray, List.set_cons_zero, List.set_cons_succ]
      refine wpAnyH_take (i := 10) (v := .pointer (some ⟨g, 2, none⟩)) (by simp only [List.getElem?_toArray, List.getElem?_cons_zero, List.getElem?_cons_succ]; rfl) (by kernel_rfl) (by kernel_rfl) (by kernel_rfl) (by exact fun _ _ _ h => h) (Or.inl ⟨by rfl, ?_⟩) hHeld ?_
      · intro w' hSw
        obtain ⟨m0, m1, m2, m3, m4, m5, m6, m7⟩ := hSw.facts; have lW := hSw.box.lt; go_simp; try rfl
      simp only [Act.put, List.setIfInBounds_toArray, List.set_cons_zero, List.set_cons_succ]
      refine wpAnyH_take (i := 11) (v := .int .u64 ((o0 : Nat) : Int)) (by simp only [List.getElem?_toArray, List.getElem?_cons_zero, List.getElem?_cons_succ]; rfl) (by kernel_rfl) (by kernel_rfl) (by kernel_rfl) (by exact fun _ _ _ h => h) (Or.inl ⟨by rfl, ?_⟩) hHeld ?_
      · intro w' hSw
        obtain ⟨m0, m1, m2, m3, m4, m5, m6, m7⟩ := hSw.facts; have lW := hSw.box.lt; go_simp; try rfl
      simp only [Act.put, List.setIfInBounds_toArray, List.set_cons_zero, List.set_cons_succ]
      refine wpAnyH_ready (rs := [6]) (by kernel_rfl) (by simp) ?_
      refine AllReadyH.cons (by simp only [List.getElem?_toArray, List.getElem?_cons_zero, List.getElem?_cons_succ]; rfl) (fun K hK => ?_) AllReadyH.nil
      go_simp
      go_at_call 36; refine (HM.out _).mono ?_; rintro e w' ⟨rfl, rfl⟩
      refine hK.out _ _ hHeld (fun hHeld => ?_)
      clear hK K
      try simp only [Act.put, List.setIfInBounds_toArray, List.set_cons_zero, List.set_cons_succ]
      refine wpAnyH_take (i := 7) (v := .int .u64 (IntKind.u64.wrap (wo w0 z0))) (by simp only [List.getElem?_toArray, List.getElem?_cons_zero, List.getElem?_cons_succ]; rfl) (by kernel_rfl) (by kernel_rfl) (by kernel_rfl) (by exact fun _ _ _ h => h) (Or.inl ⟨by rfl, ?_⟩) hHeld ?_
      · intro w' hSw
        obtain ⟨m0, m1, m2, m3, m4, m5, m6, m7⟩ := hSw.facts; have lW := hSw.box.lt; go_simp; try rfl
      simp only [Act.put, List.setIfInBounds_toArray, List.set_cons_zero, List.set_cons_succ]
      refine wpAnyH_ready (rs := [12]) (by kernel_rfl) (by simp) ?_
      refine AllReadyH.cons (by simp only [List.getElem?_toArray, List.getElem?_cons_zero, List.getElem?_cons_succ]; rfl) (fun K hK => ?_) AllReadyH.nil
      go_simp
      go_at_call 36; refine (HT.out _).mono ?_; rintro e w' ⟨rfl, rfl⟩
      refine hK.out _ _ hHeld (fun hHeld => ?_)
      clear hK K
      try simp only [Act.put, List.setIfInBounds_toArray, List.set_cons_zero, List.set_cons_succ]
      refine wpAnyH_take (i := 13) (v := .int .u64 (IntKind.u64.wrap (wo w0 o0))) (by simp only [List.getElem?_toArray, List.getElem?_cons_zero, List.getElem?_cons_succ]; rfl) (by kernel_rfl) (by kernel_rfl) (by kernel_rfl) (by exact fun _ _ _ h => h) (Or.inl ⟨by rfl, ?_⟩) hHeld ?_
      · intro w' hSw
        obtain ⟨m0, m1, m2, m3, m4, m5, m6, m7⟩ := hSw.facts; have lW := hSw.box.lt; go_simp; try rfl
      simp only [Act.put, List.setIfInBounds_toArray, List.set_cons_zero, List.set_cons_succ]
      refine wpAnyH_ready (rs := [14]) (by kernel_rfl) (by simp) ?_
      refine AllReadyH.cons (by simp only [List.getElem?_toArray, List.getElem?_cons_zero, List.getElem?_cons_succ]; rfl) (fun K hK => ?_) AllReadyH.nil
      go_simp
      go_at_call 32; refine (HC.out _ _ (EX.out _) (EX.out _) _).mono ?_; rintro e w5 ⟨rfl, hw5⟩
      have hb : Below wc.drew.heap.size wc.drew w5 := by rw [← hw5]; exact bel_alloc (Below.refl _ _) _
      have HR5 := Lib.hid (HRD.out.call hb)
      obtain ⟨b5, p50, p51, p52, f5, l5, bel5⟩ := HR5.out
      have f50 := f5 0
      have f51 := f5 1
      have f52 := f5 2
      refine hK.out _ _ (hHeld.call hb) (fun hHeld => ?_)
      clear hK K hb hw5
      try simp only [Act.put, List.setIfInBounds_toArray, List.set_cons_zero, List.set_cons_succ]
      refine wpAnyH_ready (rs := [15]) (by kernel_rfl) (by simp) ?_
      refine AllReadyH.cons (by simp only [List.getElem?_toArray, List.getElem?_cons_zero, List.getElem?_cons_succ]; rfl) (fun K hK => ?_) AllReadyH.nil
      go_simp
      refine hK.out _ _ (hHeld.set3 (by omega) (by omega)) (fun hHeld => ?_)
      clear hK K
      try simp only [Act.put, List.setIfInBounds_toArray, List.set_cons_zero, List.set_cons_succ]
      refine wpAnyH_done (by kernel_rfl) ?_ _
      go_wp2_with fail
      exact bodyPost_ret (v := .agg #[.int .u8 ((w : Nat) : Int), .int .u64 ((low w (numE 24 w0 z0) : Nat) : Int), .int .u64 ((low w (numE 24 w0 o0) : Nat) : Int)]) (by simp [results, Try.results17, go_sem, p50, p51, p52]) rfl ⟨rfl, ((bel5.setCell (by simp) _).setCell (by simp) _).setCell (by simp) _⟩
    | c_ite h1 h2 hz1 ho1 hz2 ho2 wr zr orr er ez eo =>
      have HC := Lib.hid (fun W => kite_any w0 z0 o0 w1 z1 o1 w2 z2 o2 h1 h2 hz1 ho1 hz2 ho2 W)
      rw [er, ez, eo] at HC
      clear hz1 ho1 hz2 ho2 er ez eo
      go_wp2_with fail
      refine (HC.out _).mono ?_
      rintro e w5 ⟨rfl, hb⟩
      have HR5 := Lib.hid (HR.out.call hb)
      obtain ⟨b5, p50, p51, p52, f5, l5, bel5⟩ := HR5.out
      have f50 := f5 0
      have f51 := f5 1
      have f52 := f5 2
      clear hb
      go_wp2_with fail
      exact bodyPost_ret (v := .agg #[.int .u8 ((wr : Nat) : Int), .int .u64 ((zr : Nat) : Int), .int .u64 ((orr : Nat) : Int)]) (by simp [results, Try.results17, go_sem, p50, p51, p52]) rfl ⟨rfl, ((bel5.setCell (by simp) _).setCell (by simp) _).setCell (by simp) _⟩
    | c_eq h1 h2 hz0 ho0 hz1 ho1 zr orr ez eo =>
      have HC := Lib.hid (fun W => ksame_any w0 z0 o0 w1 z1 o1 h1 h2 hz0 ho0 hz1 ho1 W)
      rw [ez, eo] at HC
      clear hz0 ho0 hz1 ho1 ez eo
      go_wp2_with fail
      refine (HC.out _).mono ?_
      rintro e w5 ⟨rfl, hb⟩
      have HR5 := Lib.hid (HR.out.call hb)
      obtain ⟨b5, p50, p51, p52, f5, l5, bel5⟩ := HR5.out
      have f50 := f5 0
      have f51 := f5 1
      have f52 := f5 2
      clear hb
      go_wp2_with fail
      exact bodyPost_ret (v := .agg #[.int .u8 1, .int .u64 ((zr : Nat) : Int), .int .u64 ((orr : Nat) : Int)]) (by simp [results, Try.results17, go_sem, p50, p51, p52]) rfl ⟨rfl, ((bel5.setCell (by simp) _).setCell (by simp) _).setCell (by simp) _⟩
    | c_none o ho =>
      have d1 : (((o : Nat) : Int) == 1) = false := by rw [beq_eq_false_iff_ne]; omega
      have d3 : (((o : Nat) : Int) == 3) = false := by rw [beq_eq_false_iff_ne]; omega
      have d5 : (((o : Nat) : Int) == 5) = false := by rw [beq_eq_false_iff_ne]; omega
      have d6 : (((o : Nat) : Int) == 6) = false := by rw [beq_eq_false_iff_ne]; omega
      have d7 : (((o : Nat) : Int) == 7) = false := by rw [beq_eq_false_iff_ne]; omega
      have d8 : (((o : Nat) : Int) == 8) = false := by rw [beq_eq_false_iff_ne]; omega
      have d9 : (((o : Nat) : Int) == 9) = false := by rw [beq_eq_false_iff_ne]; omega
      have d10 : (((o : Nat) : Int) == 10) = false := by rw [beq_eq_false_iff_ne]; omega
      have d15 : (((o : Nat) : Int) == 15) = false := by rw [beq_eq_false_iff_ne]; omega
      have d16 : (((o : Nat) : Int) == 16) = false := by rw [beq_eq_false_iff_ne]; omega
      have d17 : (((o : Nat) : Int) == 17) = false := by rw [beq_eq_false_iff_ne]; omega
      have d21 : (((o : Nat) : Int) == 21) = false := by rw [beq_eq_false_iff_ne]; omega
      have d22 : (((o : Nat) : Int) == 22) = false := by rw [beq_eq_false_iff_ne]; omega
      have d23 : (((o : Nat) : Int) == 23) = false := by rw [beq_eq_false_iff_ne]; omega
      have d24 : (((o : Nat) : Int) == 24) = false := by rw [beq_eq_false_iff_ne]; omega
      have d25 : (((o : Nat) : Int) == 25) = false := by rw [beq_eq_false_iff_ne]; omega
      have d18 : (((o : Nat) : Int) == 18) = false := by rw [beq_eq_false_iff_ne]; omega
      clear ho
      go_wp2_with fail
      exact bodyPost_ret (v := .agg #[.int .u8 ((w : Nat) : Int), .int .u64 0, .int .u64 0]) (by simp [results, Try.results17, go_sem, pr0, pr1, pr2]) rfl ⟨rfl, ((hbel.setCell (by simp) _).setCell (by simp) _).setCell (by simp) _⟩

theorem sure_const (w n l b : Nat) (k0 k1 k2 : Int) (w0 z0 o0 w1 z1 o1 w2 z2 o2 : Nat) (sp : Value) (W : World) (h1 : 1 ≤ w) (h2 : w ≤ 64) (hn : n < 18446744073709551616) (HL : Hid (LookK W b k0 k1 k2 w0 z0 o0 w1 z1 o1 w2 z2 o2)) :
    Calls Try.prog 17 #[sp, .agg #[.int .u8 1, .int .u8 ((w : Nat) : Int), .int .i64 k0, .int .i64 k1, .int .i64 k2, .int .u64 ((n : Nat) : Int), .int .u8 ((l : Nat) : Int)], .map (some b)] W fun e W' => e = .returned (.agg #[.int .u8 ((w : Nat) : Int), .int .u64 ((low w (18446744073709551615 - n) : Nat) : Int), .int .u64 ((low w n : Nat) : Int)]) ∧ Below W.heap.size W W' :=
  sure_all w n l b k0 k1 k2 w0 z0 o0 w1 z1 o1 w2 z2 o2 sp W _ _ (.c_const h1 h2 hn) HL
theorem sure_not (w n l b : Nat) (k0 k1 k2 : Int) (w0 z0 o0 w1 z1 o1 w2 z2 o2 : Nat) (sp : Value) (W : World) (h1 : 1 ≤ w) (h2 : w ≤ 64) (hz0 : z0 < 18446744073709551616) (ho0 : o0 < 18446744073709551616) (HL : Hid (LookK W b k0 k1 k2 w0 z0 o0 w1 z1 o1 w2 z2 o2)) :
    Calls Try.prog 17 #[sp, .agg #[.int .u8 3, .int .u8 ((w : Nat) : Int), .int .i64 k0, .int .i64 k1, .int .i64 k2, .int .u64 ((n : Nat) : Int), .int .u8 ((l : Nat) : Int)], .map (some b)] W fun e W' => e = .returned (.agg #[.int .u8 ((w : Nat) : Int), .int .u64 ((low w o0 : Nat) : Int), .int .u64 ((low w z0 : Nat) : Int)]) ∧ Below W.heap.size W W' :=
  sure_all w n l b k0 k1 k2 w0 z0 o0 w1 z1 o1 w2 z2 o2 sp W _ _ (.c_not h1 h2 hz0 ho0) HL
theorem sure_and (w n l b : Nat) (k0 k1 k2 : Int) (w0 z0 o0 w1 z1 o1 w2 z2 o2 : Nat) (sp : Value) (W : World) (h1 : 1 ≤ w) (h2 : w ≤ 64) (hz0 : z0 < 18446744073709551616) (ho0 : o0 < 18446744073709551616) (hz1 : z1 < 18446744073709551616) (ho1 : o1 < 18446744073709551616) (HL : Hid (LookK W b k0 k1 k2 w0 z0 o0 w1 z1 o1 w2 z2 o2)) :
    Calls Try.prog 17 #[sp, .agg #[.int .u8 5, .int .u8 ((w : Nat) : Int), .int .i64 k0, .int .i64 k1, .int .i64 k2, .int .u64 ((n : Nat) : Int), .int .u8 ((l : Nat) : Int)], .map (some b)] W fun e W' => e = .returned (.agg #[.int .u8 ((w : Nat) : Int), .int .u64 ((low w (z0 ||| z1) : Nat) : Int), .int .u64 ((low w (o0 &&& o1) : Nat) : Int)]) ∧ Below W.heap.size W W' :=
  sure_all w n l b k0 k1 k2 w0 z0 o0 w1 z1 o1 w2 z2 o2 sp W _ _ (.c_and h1 h2 hz0 ho0 hz1 ho1) HL
theorem sure_or (w n l b : Nat) (k0 k1 k2 : Int) (w0 z0 o0 w1 z1 o1 w2 z2 o2 : Nat) (sp : Value) (W : World) (h1 : 1 ≤ w) (h2 : w ≤ 64) (hz0 : z0 < 18446744073709551616) (ho0 : o0 < 18446744073709551616) (hz1 : z1 < 18446744073709551616) (ho1 : o1 < 18446744073709551616) (HL : Hid (LookK W b k0 k1 k2 w0 z0 o0 w1 z1 o1 w2 z2 o2)) :
    Calls Try.prog 17 #[sp, .agg #[.int .u8 6, .int .u8 ((w : Nat) : Int), .int .i64 k0, .int .i64 k1, .int .i64 k2, .int .u64 ((n : Nat) : Int), .int .u8 ((l : Nat) : Int)], .map (some b)] W fun e W' => e = .returned (.agg #[.int .u8 ((w : Nat) : Int), .int .u64 ((low w (z0 &&& z1) : Nat) : Int), .int .u64 ((low w (o0 ||| o1) : Nat) : Int)]) ∧ Below W.heap.size W W' :=
  sure_all w n l b k0 k1 k2 w0 z0 o0 w1 z1 o1 w2 z2 o2 sp W _ _ (.c_or h1 h2 hz0 ho0 hz1 ho1) HL
theorem sure_xor (w n l b : Nat) (k0 k1 k2 : Int) (w0 z0 o0 w1 z1 o1 w2 z2 o2 : Nat) (sp : Value) (W : World) (h1 : 1 ≤ w) (h2 : w ≤ 64) (hz0 : z0 < 18446744073709551616) (ho0 : o0 < 18446744073709551616) (hz1 : z1 < 18446744073709551616) (ho1 : o1 < 18446744073709551616) (HL : Hid (LookK W b k0 k1 k2 w0 z0 o0 w1 z1 o1 w2 z2 o2)) :
    Calls Try.prog 17 #[sp, .agg #[.int .u8 7, .int .u8 ((w : Nat) : Int), .int .i64 k0, .int .i64 k1, .int .i64 k2, .int .u64 ((n : Nat) : Int), .int .u8 ((l : Nat) : Int)], .map (some b)] W fun e W' => e = .returned (.agg #[.int .u8 ((w : Nat) : Int), .int .u64 ((low w (z0 &&& z1 ||| o0 &&& o1) : Nat) : Int), .int .u64 ((low w (z0 &&& o1 ||| o0 &&& z1) : Nat) : Int)]) ∧ Below W.heap.size W W' :=
  sure_all w n l b k0 k1 k2 w0 z0 o0 w1 z1 o1 w2 z2 o2 sp W _ _ (.c_xor h1 h2 hz0 ho0 hz1 ho1) HL
theorem sure_add (w n l b : Nat) (k0 k1 k2 : Int) (w0 z0 o0 w1 z1 o1 w2 z2 o2 : Nat) (sp : Value) (W : World) (h1 : 1 ≤ w) (h2 : w ≤ 64) (hz0 : z0 < 18446744073709551616) (hz1 : z1 < 18446744073709551616) (HL : Hid (LookK W b k0 k1 k2 w0 z0 o0 w1 z1 o1 w2 z2 o2)) :
    Calls Try.prog 17 #[sp, .agg #[.int .u8 8, .int .u8 ((w : Nat) : Int), .int .i64 k0, .int .i64 k1, .int .i64 k2, .int .u64 ((n : Nat) : Int), .int .u8 ((l : Nat) : Int)], .map (some b)] W fun e W' => e = .returned (.agg #[.int .u8 ((w : Nat) : Int), .int .u64 ((low w (lows (z0 &&& z1)) : Nat) : Int), .int .u64 0]) ∧ Below W.heap.size W W' :=
  sure_all w n l b k0 k1 k2 w0 z0 o0 w1 z1 o1 w2 z2 o2 sp W _ _ (.c_add h1 h2 hz0 hz1) HL
theorem sure_sub (w n l b : Nat) (k0 k1 k2 : Int) (w0 z0 o0 w1 z1 o1 w2 z2 o2 : Nat) (sp : Value) (W : World) (h1 : 1 ≤ w) (h2 : w ≤ 64) (hz0 : z0 < 18446744073709551616) (hz1 : z1 < 18446744073709551616) (HL : Hid (LookK W b k0 k1 k2 w0 z0 o0 w1 z1 o1 w2 z2 o2)) :
    Calls Try.prog 17 #[sp, .agg #[.int .u8 9, .int .u8 ((w : Nat) : Int), .int .i64 k0, .int .i64 k1, .int .i64 k2, .int .u64 ((n : Nat) : Int), .int .u8 ((l : Nat) : Int)], .map (some b)] W fun e W' => e = .returned (.agg #[.int .u8 ((w : Nat) : Int), .int .u64 ((low w (lows (z0 &&& z1)) : Nat) : Int), .int .u64 0]) ∧ Below W.heap.size W W' :=
  sure_all w n l b k0 k1 k2 w0 z0 o0 w1 z1 o1 w2 z2 o2 sp W _ _ (.c_sub h1 h2 hz0 hz1) HL
theorem sure_mul (w n l b : Nat) (k0 k1 k2 : Int) (w0 z0 o0 w1 z1 o1 w2 z2 o2 : Nat) (sp : Value) (W : World) (h1 : 1 ≤ w) (h2 : w ≤ 64) (hz0 : z0 < 18446744073709551616) (hz1 : z1 < 18446744073709551616) (HL : Hid (LookK W b k0 k1 k2 w0 z0 o0 w1 z1 o1 w2 z2 o2)) :
    Calls Try.prog 17 #[sp, .agg #[.int .u8 10, .int .u8 ((w : Nat) : Int), .int .i64 k0, .int .i64 k1, .int .i64 k2, .int .u64 ((n : Nat) : Int), .int .u8 ((l : Nat) : Int)], .map (some b)] W fun e W' => e = .returned (.agg #[.int .u8 ((w : Nat) : Int), .int .u64 ((low w (lows z0 ||| lows z1) : Nat) : Int), .int .u64 0]) ∧ Below W.heap.size W W' :=
  sure_all w n l b k0 k1 k2 w0 z0 o0 w1 z1 o1 w2 z2 o2 sp W _ _ (.c_mul h1 h2 hz0 hz1) HL
theorem sure_shl (w n l b : Nat) (k0 k1 k2 : Int) (w0 z0 o0 w1 z1 o1 w2 z2 o2 : Nat) (sp : Value) (W : World) (h1 : 1 ≤ w0) (h2 : w0 ≤ 64) (hz0 : z0 < 18446744073709551616) (ho0 : o0 < 18446744073709551616) (yw y0 y1 y2 yl : Int) (yn : Nat) (HN : Hid (∀ v, Below W.heap.size W v → Calls Try.prog 15 #[sp, .int .i64 k1] v fun e v' => e = .returned (.tuple #[.agg #[.int .u8 1, .int .u8 yw, .int .i64 y0, .int .i64 y1, .int .i64 y2, .int .u64 ((yn : Nat) : Int), .int .u8 yl], .int .i64 0]) ∧ Below v.heap.size v v')) (HL : Hid (LookK W b k0 k1 k2 w0 z0 o0 w1 z1 o1 w2 z2 o2)) :
    Calls Try.prog 17 #[sp, .agg #[.int .u8 15, .int .u8 ((w : Nat) : Int), .int .i64 k0, .int .i64 k1, .int .i64 k2, .int .u64 ((n : Nat) : Int), .int .u8 ((l : Nat) : Int)], .map (some b)] W fun e W' => e = .returned (.agg #[.int .u8 ((w0 : Nat) : Int), .int .u64 (((shK 15 w0 (z0, o0) yn).1 : Nat) : Int), .int .u64 (((shK 15 w0 (z0, o0) yn).2 : Nat) : Int)]) ∧ Below W.heap.size W W' :=
  sure_all w n l b k0 k1 k2 w0 z0 o0 w1 z1 o1 w2 z2 o2 sp W _ _ (.c_shl h1 h2 hz0 ho0 yw y0 y1 y2 yl yn HN) HL
theorem sure_lshr (w n l b : Nat) (k0 k1 k2 : Int) (w0 z0 o0 w1 z1 o1 w2 z2 o2 : Nat) (sp : Value) (W : World) (h1 : 1 ≤ w0) (h2 : w0 ≤ 64) (hz0 : z0 < 18446744073709551616) (ho0 : o0 < 18446744073709551616) (yw y0 y1 y2 yl : Int) (yn : Nat) (HN : Hid (∀ v, Below W.heap.size W v → Calls Try.prog 15 #[sp, .int .i64 k1] v fun e v' => e = .returned (.tuple #[.agg #[.int .u8 1, .int .u8 yw, .int .i64 y0, .int .i64 y1, .int .i64 y2, .int .u64 ((yn : Nat) : Int), .int .u8 yl], .int .i64 0]) ∧ Below v.heap.size v v')) (HL : Hid (LookK W b k0 k1 k2 w0 z0 o0 w1 z1 o1 w2 z2 o2)) :
    Calls Try.prog 17 #[sp, .agg #[.int .u8 16, .int .u8 ((w : Nat) : Int), .int .i64 k0, .int .i64 k1, .int .i64 k2, .int .u64 ((n : Nat) : Int), .int .u8 ((l : Nat) : Int)], .map (some b)] W fun e W' => e = .returned (.agg #[.int .u8 ((w0 : Nat) : Int), .int .u64 (((shK 16 w0 (z0, o0) yn).1 : Nat) : Int), .int .u64 (((shK 16 w0 (z0, o0) yn).2 : Nat) : Int)]) ∧ Below W.heap.size W W' :=
  sure_all w n l b k0 k1 k2 w0 z0 o0 w1 z1 o1 w2 z2 o2 sp W _ _ (.c_lshr h1 h2 hz0 ho0 yw y0 y1 y2 yl yn HN) HL
theorem sure_ashr (w n l b : Nat) (k0 k1 k2 : Int) (w0 z0 o0 w1 z1 o1 w2 z2 o2 : Nat) (sp : Value) (W : World) (h1 : 1 ≤ w0) (h2 : w0 ≤ 64) (hz0 : z0 < 2 ^ w0) (ho0 : o0 < 2 ^ w0) (yw y0 y1 y2 yl : Int) (yn : Nat) (HN : Hid (∀ v, Below W.heap.size W v → Calls Try.prog 15 #[sp, .int .i64 k1] v fun e v' => e = .returned (.tuple #[.agg #[.int .u8 1, .int .u8 yw, .int .i64 y0, .int .i64 y1, .int .i64 y2, .int .u64 ((yn : Nat) : Int), .int .u8 yl], .int .i64 0]) ∧ Below v.heap.size v v')) (HL : Hid (LookK W b k0 k1 k2 w0 z0 o0 w1 z1 o1 w2 z2 o2)) :
    Calls Try.prog 17 #[sp, .agg #[.int .u8 17, .int .u8 ((w : Nat) : Int), .int .i64 k0, .int .i64 k1, .int .i64 k2, .int .u64 ((n : Nat) : Int), .int .u8 ((l : Nat) : Int)], .map (some b)] W fun e W' => e = .returned (.agg #[.int .u8 ((w0 : Nat) : Int), .int .u64 (((shK 17 w0 (z0, o0) yn).1 : Nat) : Int), .int .u64 (((shK 17 w0 (z0, o0) yn).2 : Nat) : Int)]) ∧ Below W.heap.size W W' :=
  sure_all w n l b k0 k1 k2 w0 z0 o0 w1 z1 o1 w2 z2 o2 sp W _ _ (.c_ashr h1 h2 hz0 ho0 yw y0 y1 y2 yl yn HN) HL
theorem sure_shl0 (w n l b : Nat) (k0 k1 k2 : Int) (w0 z0 o0 w1 z1 o1 w2 z2 o2 : Nat) (sp : Value) (W : World) (yo yw y0 y1 y2 yl : Int) (yn : Nat) (HN : Hid (∀ v, Below W.heap.size W v → Calls Try.prog 15 #[sp, .int .i64 k1] v fun e v' => e = .returned (.tuple #[.agg #[.int .u8 yo, .int .u8 yw, .int .i64 y0, .int .i64 y1, .int .i64 y2, .int .u64 ((yn : Nat) : Int), .int .u8 yl], .int .i64 0]) ∧ Below v.heap.size v v')) (yo0 : ¬ yo = 1) (HL : Hid (LookK W b k0 k1 k2 w0 z0 o0 w1 z1 o1 w2 z2 o2)) :
    Calls Try.prog 17 #[sp, .agg #[.int .u8 15, .int .u8 ((w : Nat) : Int), .int .i64 k0, .int .i64 k1, .int .i64 k2, .int .u64 ((n : Nat) : Int), .int .u8 ((l : Nat) : Int)], .map (some b)] W fun e W' => e = .returned (.agg #[.int .u8 ((w : Nat) : Int), .int .u64 0, .int .u64 0]) ∧ Below W.heap.size W W' :=
  sure_all w n l b k0 k1 k2 w0 z0 o0 w1 z1 o1 w2 z2 o2 sp W _ _ (.c_shl0 yo yw y0 y1 y2 yl yn HN yo0) HL
theorem sure_lshr0 (w n l b : Nat) (k0 k1 k2 : Int) (w0 z0 o0 w1 z1 o1 w2 z2 o2 : Nat) (sp : Value) (W : World) (yo yw y0 y1 y2 yl : Int) (yn : Nat) (HN : Hid (∀ v, Below W.heap.size W v → Calls Try.prog 15 #[sp, .int .i64 k1] v fun e v' => e = .returned (.tuple #[.agg #[.int .u8 yo, .int .u8 yw, .int .i64 y0, .int .i64 y1, .int .i64 y2, .int .u64 ((yn : Nat) : Int), .int .u8 yl], .int .i64 0]) ∧ Below v.heap.size v v')) (yo0 : ¬ yo = 1) (HL : Hid (LookK W b k0 k1 k2 w0 z0 o0 w1 z1 o1 w2 z2 o2)) :
    Calls Try.prog 17 #[sp, .agg #[.int .u8 16, .int .u8 ((w : Nat) : Int), .int .i64 k0, .int .i64 k1, .int .i64 k2, .int .u64 ((n : Nat) : Int), .int .u8 ((l : Nat) : Int)], .map (some b)] W fun e W' => e = .returned (.agg #[.int .u8 ((w : Nat) : Int), .int .u64 0, .int .u64 0]) ∧ Below W.heap.size W W' :=
  sure_all w n l b k0 k1 k2 w0 z0 o0 w1 z1 o1 w2 z2 o2 sp W _ _ (.c_lshr0 yo yw y0 y1 y2 yl yn HN yo0) HL
theorem sure_ashr0 (w n l b : Nat) (k0 k1 k2 : Int) (w0 z0 o0 w1 z1 o1 w2 z2 o2 : Nat) (sp : Value) (W : World) (yo yw y0 y1 y2 yl : Int) (yn : Nat) (HN : Hid (∀ v, Below W.heap.size W v → Calls Try.prog 15 #[sp, .int .i64 k1] v fun e v' => e = .returned (.tuple #[.agg #[.int .u8 yo, .int .u8 yw, .int .i64 y0, .int .i64 y1, .int .i64 y2, .int .u64 ((yn : Nat) : Int), .int .u8 yl], .int .i64 0]) ∧ Below v.heap.size v v')) (yo0 : ¬ yo = 1) (HL : Hid (LookK W b k0 k1 k2 w0 z0 o0 w1 z1 o1 w2 z2 o2)) :
    Calls Try.prog 17 #[sp, .agg #[.int .u8 17, .int .u8 ((w : Nat) : Int), .int .i64 k0, .int .i64 k1, .int .i64 k2, .int .u64 ((n : Nat) : Int), .int .u8 ((l : Nat) : Int)], .map (some b)] W fun e W' => e = .returned (.agg #[.int .u8 ((w : Nat) : Int), .int .u64 0, .int .u64 0]) ∧ Below W.heap.size W W' :=
  sure_all w n l b k0 k1 k2 w0 z0 o0 w1 z1 o1 w2 z2 o2 sp W _ _ (.c_ashr0 yo yw y0 y1 y2 yl yn HN yo0) HL
theorem sure_concat (w n l b : Nat) (k0 k1 k2 : Int) (w0 z0 o0 w1 z1 o1 w2 z2 o2 : Nat) (sp : Value) (W : World) (h1 : 1 ≤ w) (h2 : w ≤ 64) (hz0 : z0 < 18446744073709551616) (ho0 : o0 < 18446744073709551616) (hz1 : z1 < 18446744073709551616) (ho1 : o1 < 18446744073709551616) (HL : Hid (LookK W b k0 k1 k2 w0 z0 o0 w1 z1 o1 w2 z2 o2)) :
    Calls Try.prog 17 #[sp, .agg #[.int .u8 21, .int .u8 ((w : Nat) : Int), .int .i64 k0, .int .i64 k1, .int .i64 k2, .int .u64 ((n : Nat) : Int), .int .u8 ((l : Nat) : Int)], .map (some b)] W fun e W' => e = .returned (.agg #[.int .u8 ((w : Nat) : Int), .int .u64 ((low w (z0 * 2 ^ min w1 64 % 18446744073709551616 ||| z1) : Nat) : Int), .int .u64 ((low w (o0 * 2 ^ min w1 64 % 18446744073709551616 ||| o1) : Nat) : Int)]) ∧ Below W.heap.size W W' :=
  sure_all w n l b k0 k1 k2 w0 z0 o0 w1 z1 o1 w2 z2 o2 sp W _ _ (.c_concat h1 h2 hz0 ho0 hz1 ho1) HL
theorem sure_extract (w n l b : Nat) (k0 k1 k2 : Int) (w0 z0 o0 w1 z1 o1 w2 z2 o2 : Nat) (sp : Value) (W : World) (h1 : 1 ≤ w) (h2 : w ≤ 64) (hz0 : z0 < 18446744073709551616) (ho0 : o0 < 18446744073709551616) (HL : Hid (LookK W b k0 k1 k2 w0 z0 o0 w1 z1 o1 w2 z2 o2)) :
    Calls Try.prog 17 #[sp, .agg #[.int .u8 22, .int .u8 ((w : Nat) : Int), .int .i64 k0, .int .i64 k1, .int .i64 k2, .int .u64 ((n : Nat) : Int), .int .u8 ((l : Nat) : Int)], .map (some b)] W fun e W' => e = .returned (.agg #[.int .u8 ((w : Nat) : Int), .int .u64 ((low w (z0 / 2 ^ min l 64) : Nat) : Int), .int .u64 ((low w (o0 / 2 ^ min l 64) : Nat) : Int)]) ∧ Below W.heap.size W W' :=
  sure_all w n l b k0 k1 k2 w0 z0 o0 w1 z1 o1 w2 z2 o2 sp W _ _ (.c_extract h1 h2 hz0 ho0) HL
theorem sure_zext (w n l b : Nat) (k0 k1 k2 : Int) (w0 z0 o0 w1 z1 o1 w2 z2 o2 : Nat) (sp : Value) (W : World) (h1 : 1 ≤ w) (h2 : w ≤ 64) (h3 : 1 ≤ w0) (h4 : w0 ≤ 64) (hz0 : z0 < 18446744073709551616) (ho0 : o0 < 18446744073709551616) (HL : Hid (LookK W b k0 k1 k2 w0 z0 o0 w1 z1 o1 w2 z2 o2)) :
    Calls Try.prog 17 #[sp, .agg #[.int .u8 23, .int .u8 ((w : Nat) : Int), .int .i64 k0, .int .i64 k1, .int .i64 k2, .int .u64 ((n : Nat) : Int), .int .u8 ((l : Nat) : Int)], .map (some b)] W fun e W' => e = .returned (.agg #[.int .u8 ((w : Nat) : Int), .int .u64 ((low w (z0 ||| (18446744073709551615 - (2 ^ w0 - 1))) : Nat) : Int), .int .u64 ((low w o0 : Nat) : Int)]) ∧ Below W.heap.size W W' :=
  sure_all w n l b k0 k1 k2 w0 z0 o0 w1 z1 o1 w2 z2 o2 sp W _ _ (.c_zext h1 h2 h3 h4 hz0 ho0) HL
theorem sure_sext (w n l b : Nat) (k0 k1 k2 : Int) (w0 z0 o0 w1 z1 o1 w2 z2 o2 : Nat) (sp : Value) (W : World) (h1 : 1 ≤ w) (h2 : w ≤ 64) (h3 : 1 ≤ w0) (h4 : w0 ≤ 64) (hz0 : z0 < 2 ^ w0) (ho0 : o0 < 2 ^ w0) (HL : Hid (LookK W b k0 k1 k2 w0 z0 o0 w1 z1 o1 w2 z2 o2)) :
    Calls Try.prog 17 #[sp, .agg #[.int .u8 24, .int .u8 ((w : Nat) : Int), .int .i64 k0, .int .i64 k1, .int .i64 k2, .int .u64 ((n : Nat) : Int), .int .u8 ((l : Nat) : Int)], .map (some b)] W fun e W' => e = .returned (.agg #[.int .u8 ((w : Nat) : Int), .int .u64 ((low w (numE 24 w0 z0) : Nat) : Int), .int .u64 ((low w (numE 24 w0 o0) : Nat) : Int)]) ∧ Below W.heap.size W W' :=
  sure_all w n l b k0 k1 k2 w0 z0 o0 w1 z1 o1 w2 z2 o2 sp W _ _ (.c_sext h1 h2 h3 h4 hz0 ho0) HL
theorem sure_ite (w n l b : Nat) (k0 k1 k2 : Int) (w0 z0 o0 w1 z1 o1 w2 z2 o2 : Nat) (sp : Value) (W : World) (h1 : 1 ≤ w1) (h2 : w1 ≤ 64) (hz1 : z1 < 18446744073709551616) (ho1 : o1 < 18446744073709551616) (hz2 : z2 < 18446744073709551616) (ho2 : o2 < 18446744073709551616) (wr zr orr : Nat) (er : (if o0 = 1 then w1 else if z0 = 1 then w2 else w1) = wr) (ez : (iteK w1 (z0, o0) (z1, o1) (z2, o2)).1 = zr) (eo : (iteK w1 (z0, o0) (z1, o1) (z2, o2)).2 = orr) (HL : Hid (LookK W b k0 k1 k2 w0 z0 o0 w1 z1 o1 w2 z2 o2)) :
    Calls Try.prog 17 #[sp, .agg #[.int .u8 25, .int .u8 ((w : Nat) : Int), .int .i64 k0, .int .i64 k1, .int .i64 k2, .int .u64 ((n : Nat) : Int), .int .u8 ((l : Nat) : Int)], .map (some b)] W fun e W' => e = .returned (.agg #[.int .u8 ((wr : Nat) : Int), .int .u64 ((zr : Nat) : Int), .int .u64 ((orr : Nat) : Int)]) ∧ Below W.heap.size W W' :=
  sure_all w n l b k0 k1 k2 w0 z0 o0 w1 z1 o1 w2 z2 o2 sp W _ _ (.c_ite h1 h2 hz1 ho1 hz2 ho2 wr zr orr er ez eo) HL
theorem sure_eq (w n l b : Nat) (k0 k1 k2 : Int) (w0 z0 o0 w1 z1 o1 w2 z2 o2 : Nat) (sp : Value) (W : World) (h1 : 1 ≤ w0) (h2 : w0 ≤ 64) (hz0 : z0 < 18446744073709551616) (ho0 : o0 < 18446744073709551616) (hz1 : z1 < 18446744073709551616) (ho1 : o1 < 18446744073709551616) (zr orr : Nat) (ez : (eqK w0 (z0, o0) (z1, o1)).1 = zr) (eo : (eqK w0 (z0, o0) (z1, o1)).2 = orr) (HL : Hid (LookK W b k0 k1 k2 w0 z0 o0 w1 z1 o1 w2 z2 o2)) :
    Calls Try.prog 17 #[sp, .agg #[.int .u8 18, .int .u8 ((w : Nat) : Int), .int .i64 k0, .int .i64 k1, .int .i64 k2, .int .u64 ((n : Nat) : Int), .int .u8 ((l : Nat) : Int)], .map (some b)] W fun e W' => e = .returned (.agg #[.int .u8 1, .int .u64 ((zr : Nat) : Int), .int .u64 ((orr : Nat) : Int)]) ∧ Below W.heap.size W W' :=
  sure_all w n l b k0 k1 k2 w0 z0 o0 w1 z1 o1 w2 z2 o2 sp W _ _ (.c_eq h1 h2 hz0 ho0 hz1 ho1 zr orr ez eo) HL
theorem sure_none (w n l b : Nat) (k0 k1 k2 : Int) (w0 z0 o0 w1 z1 o1 w2 z2 o2 : Nat) (sp : Value) (W : World) (o : Nat) (ho : o = 2 ∨ o = 4 ∨ (11 ≤ o ∧ o ≤ 14) ∨ o = 19 ∨ o = 20) (HL : Hid (LookK W b k0 k1 k2 w0 z0 o0 w1 z1 o1 w2 z2 o2)) :
    Calls Try.prog 17 #[sp, .agg #[.int .u8 ((o : Nat) : Int), .int .u8 ((w : Nat) : Int), .int .i64 k0, .int .i64 k1, .int .i64 k2, .int .u64 ((n : Nat) : Int), .int .u8 ((l : Nat) : Int)], .map (some b)] W fun e W' => e = .returned (.agg #[.int .u8 ((w : Nat) : Int), .int .u64 0, .int .u64 0]) ∧ Below W.heap.size W W' :=
  sure_all w n l b k0 k1 k2 w0 z0 o0 w1 z1 o1 w2 z2 o2 sp W _ _ (.c_none o ho) HL
end Kn
end Go.Proofs.Ytigjbngedbbdbaa
