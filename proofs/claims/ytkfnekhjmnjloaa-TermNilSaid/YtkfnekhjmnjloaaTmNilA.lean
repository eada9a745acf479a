/-
  The statement that of none, and of a zero one, all is refused, or nothing, as a fact on the call.
-/
import Derived.Test.YtkfnekhjmnjloaaTmWorks
namespace Go.Proofs.Ytkfnekhjmnjloaa
open Go.RowKit Go.Maps Bv
namespace Tm
set_option maxHeartbeats 1000000
set_option maxRecDepth 100000

theorem noneAt_zero (W : World) (o : Obj) : NoneAt ((W.alloc o).alloc (.cells Try.zeroCells54 54)) (.pointer (some ⟨W.heap.size + 1, 0, none⟩)) := by
  refine .inr ⟨_, rfl, ?_⟩
  have h := (MapKept.heap_alloc (W.alloc o) (.cells Try.zeroCells54 54)).1
  rw [size_alloc] at h
  unfold World.cell?
  rw [h, zero_is]
  rfl

theorem nil_false (o w n l : Nat) (k0 k1 k2 : Int) (id : Int) (W : World) :
    Calls Try.prog 6 #[.agg #[.int .u8 o, .int .u8 w, .int .i64 k0, .int .i64 k1, .int .i64 k2, .int .u64 n, .int .u8 l], .int .i64 id, .bool false] W fun e W' => e = .returned (.bool true) ∧ Below W.heap.size W W' := by
  have N0 : NoneAt (W.alloc (.cells #[.int .u8 o, .int .u8 w, .int .i64 k0, .int .i64 k1, .int .i64 k2, .int .u64 n, .int .u8 l] 36)) (.pointer none) := .inl rfl
  have b0 : Below W.heap.size W (W.alloc (.cells #[.int .u8 o, .int .u8 w, .int .i64 k0, .int .i64 k1, .int .i64 k2, .int .u64 n, .int .u8 l] 36)) := bel_alloc (Below.refl _ _) _
  have H0 := Lib.hid N0
  have B0 := Lib.hid b0
  clear N0 b0
  go_enter Try.func6, Try.ntmps6
  go_wp2_with (go_at_call 8; refine (make_none _ ⟨o, w, k0, k1, k2, n, l⟩ _ H0.out).mono ?_; rintro e v1 ⟨rfl, hb1⟩)
  have H1 := Lib.hid (H0.out.keep hb1)
  have B1 := Lib.hid (bel_call B0.out hb1)
  clear hb1 H0 B0
  go_wp2_with (go_at_call 18; refine (const_none _ 8 1 _ H1.out).mono ?_; rintro e v2 ⟨rfl, hb2⟩)
  have H2 := Lib.hid (H1.out.keep hb2)
  have B2 := Lib.hid (bel_call B1.out hb2)
  clear hb2 H1 B1
  go_wp2_with (go_at_call 19; refine (var_none _ 8 id _ H2.out).mono ?_; rintro e v3 ⟨rfl, hb3⟩)
  have H3 := Lib.hid (H2.out.keep hb3)
  have B3 := Lib.hid (bel_call B2.out hb3)
  clear hb3 H2 B2
  go_wp2_with (go_at_call 10; refine (node_none _ id _ H3.out).mono ?_; rintro e v4 ⟨rfl, hb4⟩)
  have H4 := Lib.hid (H3.out.keep hb4)
  have B4 := Lib.hid (bel_call B3.out hb4)
  clear hb4 H3 B3
  have H5 := Lib.hid (H4.out.alloc (.cells #[.int .u8 0, .int .u8 0, .int .i64 0, .int .i64 0, .int .i64 0, .int .u64 0, .int .u8 0] 36))
  have B5 := Lib.hid (bel_alloc B4.out (.cells #[.int .u8 0, .int .u8 0, .int .i64 0, .int .i64 0, .int .i64 0, .int .u64 0, .int .u8 0] 36))
  clear H4 B4
  go_wp2_with (first | (go_at_call 12; refine (vars_none _ id _ H5.out).mono ?_; rintro e z ⟨rfl, rfl⟩) | (go_at_call 15; refine (len_none _ _ H5.out).mono ?_; rintro e z ⟨rfl, rfl⟩) | (go_at_call 16; refine (width_none _ id _ H5.out).mono ?_; rintro e z ⟨rfl, rfl⟩) | (go_at_call 17; refine (works_any _).mono ?_; rintro e v6 ⟨rfl, hb6⟩))
  go_ret
  exact ⟨rfl, bel_call B5.out hb6⟩

theorem nil_true (o w n l : Nat) (k0 k1 k2 : Int) (id : Int) (W : World) :
    Calls Try.prog 6 #[.agg #[.int .u8 o, .int .u8 w, .int .i64 k0, .int .i64 k1, .int .i64 k2, .int .u64 n, .int .u8 l], .int .i64 id, .bool true] W fun e W' => e = .returned (.bool true) ∧ Below W.heap.size W W' := by
  have N0 := noneAt_zero W (.cells #[.int .u8 o, .int .u8 w, .int .i64 k0, .int .i64 k1, .int .i64 k2, .int .u64 n, .int .u8 l] 36)
  have b0 : Below W.heap.size W ((W.alloc (.cells #[.int .u8 o, .int .u8 w, .int .i64 k0, .int .i64 k1, .int .i64 k2, .int .u64 n, .int .u8 l] 36)).alloc (.cells Try.zeroCells54 54)) := bel_alloc (bel_alloc (Below.refl _ _) _) _
  have H0 := Lib.hid N0
  have B0 := Lib.hid b0
  clear N0 b0
  go_enter Try.func6, Try.ntmps6
  go_wp2_with (go_at_call 8; refine (make_none _ ⟨o, w, k0, k1, k2, n, l⟩ _ H0.out).mono ?_; rintro e v1 ⟨rfl, hb1⟩)
  have H1 := Lib.hid (H0.out.keep hb1)
  have B1 := Lib.hid (bel_call B0.out hb1)
  clear hb1 H0 B0
  go_wp2_with (go_at_call 18; refine (const_none _ 8 1 _ H1.out).mono ?_; rintro e v2 ⟨rfl, hb2⟩)
  have H2 := Lib.hid (H1.out.keep hb2)
  have B2 := Lib.hid (bel_call B1.out hb2)
  clear hb2 H1 B1
  go_wp2_with (go_at_call 19; refine (var_none _ 8 id _ H2.out).mono ?_; rintro e v3 ⟨rfl, hb3⟩)
  have H3 := Lib.hid (H2.out.keep hb3)
  have B3 := Lib.hid (bel_call B2.out hb3)
  clear hb3 H2 B2
  go_wp2_with (go_at_call 10; refine (node_none _ id _ H3.out).mono ?_; rintro e v4 ⟨rfl, hb4⟩)
  have H4 := Lib.hid (H3.out.keep hb4)
  have B4 := Lib.hid (bel_call B3.out hb4)
  clear hb4 H3 B3
  have H5 := Lib.hid (H4.out.alloc (.cells #[.int .u8 0, .int .u8 0, .int .i64 0, .int .i64 0, .int .i64 0, .int .u64 0, .int .u8 0] 36))
  have B5 := Lib.hid (bel_alloc B4.out (.cells #[.int .u8 0, .int .u8 0, .int .i64 0, .int .i64 0, .int .i64 0, .int .u64 0, .int .u8 0] 36))
  clear H4 B4
  go_wp2_with (first | (go_at_call 12; refine (vars_none _ id _ H5.out).mono ?_; rintro e z ⟨rfl, rfl⟩) | (go_at_call 15; refine (len_none _ _ H5.out).mono ?_; rintro e z ⟨rfl, rfl⟩) | (go_at_call 16; refine (width_none _ id _ H5.out).mono ?_; rintro e z ⟨rfl, rfl⟩) | (go_at_call 17; refine (works_any _).mono ?_; rintro e v6 ⟨rfl, hb6⟩))
  go_ret
  exact ⟨rfl, bel_call B5.out hb6⟩

end Tm
end Go.Proofs.Ytkfnekhjmnjloaa
