/-
  The statement that of none, and of a zero one, eval is refused, as a fact on the call.
-/
import Derived.Test.YtjhghfndhpaapaaEvWorks
namespace Go.Proofs.Ytjhghfndhpaapaa
open Go.RowKit Go.Maps Bv
namespace Tm
set_option maxHeartbeats 1000000
set_option maxRecDepth 100000

theorem noneAt_zeroE (W : World) : NoneAt (W.alloc (.cells Try.zeroCells55 55)) (.pointer (some ⟨W.heap.size, 0, none⟩)) := by
  refine .inr ⟨_, rfl, ?_⟩
  have h := (MapKept.heap_alloc W (.cells Try.zeroCells55 55)).1
  unfold World.cell?
  rw [h, zero_is]
  rfl

theorem evnil_true (id : Int) (aal : Option Addr) (an ac : Nat) (W : World) :
    Calls Try.prog 6 #[.int .i64 id, .slice aal an ac, .bool true] W fun e W' => e = .returned (.bool true) ∧ Below W.heap.size W W' := by
  have HN0 : Hid (NoneAt (W.alloc (.cells Try.zeroCells55 55)) (.pointer (some ⟨W.heap.size, 0, none⟩))) := Lib.hid (noneAt_zeroE W)
  have HB0 : Hid (Below W.heap.size W (W.alloc (.cells Try.zeroCells55 55))) := Lib.hid (bel_alloc (Below.refl W.heap.size W) _)
  go_enter Try.func6, Try.ntmps6
  go_wp2_with (go_at_call 8; refine (eval_none _ id aal an ac _ HN0.out).mono ?_; rintro e v1 ⟨rfl, hb1⟩; have HN1 := Lib.hid (HN0.out.keep hb1); have HB1 := Lib.hid (bel_call HB0.out hb1); clear hb1)
  have B1 := Lib.hid (bel_alloc (bel_alloc (Below.refl v1.heap.size v1) (.cells #[.int .u8 0, .int .u64 0] 31)) (.cells #[.int .i64 id] 3))
  have HX1 := Lib.hid ((At2.new v1 (.int .u8 0) (.int .u64 0) 31).keep (bel_alloc (Below.refl _ _) (.cells #[.int .i64 id] 3)))
  have HN2 := Lib.hid (HN1.out.keep B1.out)
  have HB2 := Lib.hid (bel_call HB1.out B1.out)
  clear HN0 HB0 HN1 HB1 B1
  go_wp2_with (go_at_call 12; with_reducible refine (all_none _ _ aal 1 1 an ac _ HN2.out).mono ?_; rintro e v2 ⟨rfl, hb2⟩; have HN3 := Lib.hid (HN2.out.keep hb2); have HB3 := Lib.hid (bel_call HB2.out hb2); have HX3 := Lib.hid (HX1.out.keep hb2); clear hb2)
  clear HN2 HB2 HX1
  go_wp2_with fail
  with_reducible refine (all_none _ _ aal 0 0 an ac _ HN3.out).mono ?_
  rintro e v3 ⟨rfl, hb3⟩
  have HN4 := Lib.hid (HN3.out.keep hb3)
  have HB4 := Lib.hid (bel_call HB3.out hb3)
  have HX4 := Lib.hid (HX3.out.keep hb3)
  obtain ⟨lx, x0, x1⟩ := HX4.out
  clear hb3 HN3 HB3 HX3 HX4
  go_wp2_with fail
  with_reducible refine (true_of _ id aal an ac 0 0 1 v3 (eval_none _ id aal an ac v3 HN4.out)).mono ?_
  rintro e v4 ⟨rfl, hb4⟩
  have HB5 := Lib.hid (bel_call HB4.out hb4)
  clear hb4 HN4 HB4
  go_wp2_with (go_at_call 10; refine (works_any _).mono ?_; rintro e v5 ⟨rfl, hb5⟩)
  go_ret
  exact ⟨rfl, bel_call HB5.out hb5⟩

theorem evnil_false (id : Int) (aal : Option Addr) (an ac : Nat) (W : World) :
    Calls Try.prog 6 #[.int .i64 id, .slice aal an ac, .bool false] W fun e W' => e = .returned (.bool true) ∧ Below W.heap.size W W' := by
  have HN0 : Hid (NoneAt W (.pointer none)) := Lib.hid (.inl rfl)
  have HB0 : Hid (Below W.heap.size W W) := Lib.hid (Below.refl _ _)
  go_enter Try.func6, Try.ntmps6
  go_wp2_with (go_at_call 8; refine (eval_none _ id aal an ac _ HN0.out).mono ?_; rintro e v1 ⟨rfl, hb1⟩; have HN1 := Lib.hid (HN0.out.keep hb1); have HB1 := Lib.hid (bel_call HB0.out hb1); clear hb1)
  have B1 := Lib.hid (bel_alloc (bel_alloc (Below.refl v1.heap.size v1) (.cells #[.int .u8 0, .int .u64 0] 31)) (.cells #[.int .i64 id] 3))
  have HX1 := Lib.hid ((At2.new v1 (.int .u8 0) (.int .u64 0) 31).keep (bel_alloc (Below.refl _ _) (.cells #[.int .i64 id] 3)))
  have HN2 := Lib.hid (HN1.out.keep B1.out)
  have HB2 := Lib.hid (bel_call HB1.out B1.out)
  clear HN0 HB0 HN1 HB1 B1
  go_wp2_with (go_at_call 12; with_reducible refine (all_none _ _ aal 1 1 an ac _ HN2.out).mono ?_; rintro e v2 ⟨rfl, hb2⟩; have HN3 := Lib.hid (HN2.out.keep hb2); have HB3 := Lib.hid (bel_call HB2.out hb2); have HX3 := Lib.hid (HX1.out.keep hb2); clear hb2)
  clear HN2 HB2 HX1
  go_wp2_with fail
  with_reducible refine (all_none _ _ aal 0 0 an ac _ HN3.out).mono ?_
  rintro e v3 ⟨rfl, hb3⟩
  have HN4 := Lib.hid (HN3.out.keep hb3)
  have HB4 := Lib.hid (bel_call HB3.out hb3)
  have HX4 := Lib.hid (HX3.out.keep hb3)
  obtain ⟨lx, x0, x1⟩ := HX4.out
  clear hb3 HN3 HB3 HX3 HX4
  go_wp2_with fail
  with_reducible refine (true_of _ id aal an ac 0 0 1 v3 (eval_none _ id aal an ac v3 HN4.out)).mono ?_
  rintro e v4 ⟨rfl, hb4⟩
  have HB5 := Lib.hid (bel_call HB4.out hb4)
  clear hb4 HN4 HB4
  go_wp2_with (go_at_call 10; refine (works_any _).mono ?_; rintro e v5 ⟨rfl, hb5⟩)
  go_ret
  exact ⟨rfl, bel_call HB5.out hb5⟩

end Tm
end Go.Proofs.Ytjhghfndhpaapaa
