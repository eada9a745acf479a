/-
  What layer blast answers of no blaster and of a zero one, and of no store; the statement on it, as a fact on the call.
-/
import Derived.Test.YthelkbdiedfmfaaGreatBlWorks
namespace Go.Proofs.YthelkbdiedfmfaaGreat
open Go.RowKit Go.Maps Bv Tm
namespace Bl
set_option maxHeartbeats 4000000
set_option maxRecDepth 100000

/-- The value leads to no blaster that a call made. -/
def BNone (w : World) (ptr : Value) : Prop := ptr = .pointer none ∨ ∃ p, ptr = .pointer (some ⟨p, 0, none⟩) ∧ w.cell? ⟨p, 0, none⟩ = some (.pointer none)
theorem BNone.keep {w w' : World} {ptr : Value} (h : BNone w ptr) (k : Below w.heap.size w w') : BNone w' ptr := by
  rcases h with h | ⟨p, h, hc⟩
  · exact .inl h
  · exact .inr ⟨p, h, (k.cell (p := ⟨p, 0, none⟩) (World.block_lt_of_cell? w _ hc)).trans hc⟩
theorem bisNone_any {w : World} {ptr : Value} (h : BNone w ptr) : Calls Tryz.prog 12 #[ptr] w fun e W' => e = .returned (.bool true) ∧ w = W' := by
  rcases h with h | ⟨p, h, hc⟩
  · subst h; exact bnone_nil w
  · subst h; exact bnone_zero p w hc
theorem bnew_none {W : World} {ptr : Value} (h : NoneAt W ptr) : Calls Tryz.prog 4 #[ptr] W fun e W' => e = .returned (.tuple #[.pointer none, .int .i64 1]) ∧ Below W.heap.size W W' := by
  have HN := Lib.hid (node_none ptr 0 W h)
  clear h
  go_enter Tryz.func4, Tryz.ntmps4
  go_wp2_with (go_at_call 10; refine HN.out.mono ?_; rintro e w1 ⟨rfl, hb1⟩)
  go_ret2
  exact ⟨rfl, bel_alloc hb1 _⟩
theorem bbits_none {W : World} {ptr : Value} (k : Int) (h : BNone W ptr) : Calls Tryz.prog 5 #[ptr, .int .i64 k] W fun e W' => e = .returned (.tuple #[.slice none 0 0, .int .i64 1]) ∧ Below W.heap.size W W' := by
  have HN := Lib.hid (bisNone_any h)
  clear h
  go_enter Tryz.func5, Tryz.ntmps5
  go_wp2_with (go_at_call 12; refine HN.out.mono ?_; rintro e w1 ⟨rfl, rfl⟩)
  go_ret2
  exact ⟨rfl, Below.refl _ _⟩
theorem bcnf_none {W : World} {ptr : Value} (h : BNone W ptr) : Calls Tryz.prog 6 #[ptr] W fun e W' => e = .returned (.agg #[.int .i64 0, .slice none 0 0]) ∧ Below W.heap.size W W' := by
  have HN := Lib.hid (bisNone_any (h.keep (bel_alloc (Below.refl _ _) (.cells #[.int .i64 0, .slice none 0 0] 43))))
  clear h
  go_enter Tryz.func6, Tryz.ntmps6
  go_wp2_with (go_at_call 12; refine HN.out.mono ?_; rintro e w1 ⟨rfl, rfl⟩)
  exact bodyPost_ret (v := .agg #[.int .i64 0, .slice none 0 0]) (by simp [results, Tryz.results6, go_sem]) rfl ⟨rfl, by repeat (first | exact Below.refl _ _ | (refine Below.setCell ?_ (by simp; try omega) _) | (refine bel_alloc ?_ _) | (refine Below.drew ?_))⟩
theorem bvar_none {W : World} {ptr : Value} (k : Int) (h : BNone W ptr) : Calls Tryz.prog 7 #[ptr, .int .i64 k] W fun e W' => e = .returned (.slice none 0 0) ∧ Below W.heap.size W W' := by
  have HN := Lib.hid (bisNone_any h)
  clear h
  go_enter Tryz.func7, Tryz.ntmps7
  go_wp2_with (go_at_call 12; refine HN.out.mono ?_; rintro e w1 ⟨rfl, rfl⟩)
  go_ret
  exact ⟨rfl, Below.refl _ _⟩
theorem bmodel_none {W : World} {ptr mv : Value} (h : BNone W ptr) : Calls Tryz.prog 8 #[ptr, mv] W fun e W' => e = .returned (.slice none 0 0) ∧ Below W.heap.size W W' := by
  have HN := Lib.hid (bisNone_any h)
  clear h
  go_enter Tryz.func8, Tryz.ntmps8
  go_wp2_with (go_at_call 12; refine HN.out.mono ?_; rintro e w1 ⟨rfl, rfl⟩)
  go_ret
  exact ⟨rfl, Below.refl _ _⟩

theorem zero0 : Tryz.zeroCells35[0]? = some (.pointer none) := by kernel_rfl

theorem blnil_false (id : Int) (W : World) :
    Calls Tryz.prog 3 #[.int .i64 id, .bool false] W fun e W' => e = .returned (.bool true) ∧ Below W.heap.size W W' := by
  have HN : Hid (∀ w, NoneAt w (.pointer none)) := Lib.hid (fun _ => .inl rfl)
  have HB : Hid (∀ w, BNone w (.pointer none)) := Lib.hid (fun _ => .inl rfl)
  go_enter Tryz.func3, Tryz.ntmps3
  go_wp2_with (first
    | (go_at_call 4; refine (bnew_none (HN.out _)).mono ?_; rintro e w1 ⟨rfl, hb1⟩; have HB1 := Lib.hid hb1; clear hb1)
    | (go_at_call 5; refine (bbits_none id (HB.out _)).mono ?_; rintro e w2 ⟨rfl, hb2⟩; have HB2 := Lib.hid (bel_call HB1.out hb2); clear hb2)
    | (go_at_call 6; refine (bcnf_none (HB.out _)).mono ?_; rintro e w3 ⟨rfl, hb3⟩; have HB3 := Lib.hid (bel_call HB2.out (bel_alloc hb3 (.cells #[.int .i64 0, .slice none 0 0] 43))); clear hb3)
    | (go_at_call 7; refine (bvar_none id (HB.out _)).mono ?_; rintro e w4 ⟨rfl, hb4⟩; have g0 := hb4.cell (p := ⟨w3.heap.size, 0, none⟩); have g1 := hb4.cell (p := ⟨w3.heap.size, 1, none⟩); have lw4 := hb4.size; rw [Tm.size_alloc] at lw4; have HB4 := Lib.hid (bel_call HB3.out hb4); clear hb4)
    | (go_at_call 8; refine (bmodel_none (HB.out _)).mono ?_; rintro e w5 ⟨rfl, hb5⟩; have HB5 := Lib.hid (bel_call (bel_alloc HB4.out (.cells #[.bool true] 4)) hb5); clear hb5)
    | (go_at_call 9; refine (bworks_any _).mono ?_; rintro e w6 ⟨rfl, hb6⟩))
  go_ret
  exact ⟨rfl, bel_call HB5.out hb6⟩

theorem noneAt_zeroB (W : World) : NoneAt (W.alloc (.cells Tryz.zeroCells28 28)) (.pointer (some ⟨W.heap.size, 0, none⟩)) := by
  refine .inr ⟨_, rfl, ?_⟩
  have h := (MapKept.heap_alloc W (.cells Tryz.zeroCells28 28)).1
  unfold World.cell?
  rw [h, zero_is]
  rfl
theorem bnone_zeroB (W : World) : BNone (W.alloc (.cells Tryz.zeroCells35 35)) (.pointer (some ⟨W.heap.size, 0, none⟩)) := by
  refine .inr ⟨_, rfl, ?_⟩
  have h := (MapKept.heap_alloc W (.cells Tryz.zeroCells35 35)).1
  unfold World.cell?
  rw [h]
  exact zero0

theorem blnil_true (id : Int) (W : World) :
    Calls Tryz.prog 3 #[.int .i64 id, .bool true] W fun e W' => e = .returned (.bool true) ∧ Below W.heap.size W W' := by
  obtain ⟨U, hU⟩ : ∃ U, U = (W.alloc (.cells Tryz.zeroCells28 28)).alloc (.cells Tryz.zeroCells35 35) := ⟨_, rfl⟩
  have kU : Below W.heap.size W U := by rw [hU]; exact bel_alloc (bel_alloc (Below.refl _ _) _) _
  have nU : NoneAt U (.pointer (some ⟨W.heap.size, 0, none⟩)) := by rw [hU]; exact (noneAt_zeroB W).alloc _
  have mU : BNone U (.pointer (some ⟨W.heap.size + 1, 0, none⟩)) := by
    rw [hU]
    have := bnone_zeroB (W.alloc (.cells Tryz.zeroCells28 28))
    rw [Tm.size_alloc] at this
    exact this
  have HU := Lib.hid hU
  have HK := Lib.hid kU
  have HN : Hid (∀ w, Below U.heap.size U w → NoneAt w (.pointer (some ⟨W.heap.size, 0, none⟩))) := Lib.hid (fun _ h => nU.keep h)
  have HB : Hid (∀ w, Below U.heap.size U w → BNone w (.pointer (some ⟨W.heap.size + 1, 0, none⟩))) := Lib.hid (fun _ h => mU.keep h)
  have HB0 := Lib.hid (Below.refl U.heap.size U)
  clear kU nU mU hU
  go_enter Tryz.func3, Tryz.ntmps3
  go_wp2_with fail
  rw [← HU.out]
  refine (bnew_none (HN.out _ HB0.out)).mono ?_
  rintro e w1 ⟨rfl, hb1⟩
  have HB1 := Lib.hid hb1
  clear hb1
  go_wp2_with (first
    | (go_at_call 5; refine (bbits_none id (HB.out _ HB1.out)).mono ?_; rintro e w2 ⟨rfl, hb2⟩; have HB2 := Lib.hid (bel_call HB1.out hb2); clear hb2)
    | (go_at_call 6; refine (bcnf_none (HB.out _ HB2.out)).mono ?_; rintro e w3 ⟨rfl, hb3⟩; have HB3 := Lib.hid (bel_call HB2.out (bel_alloc hb3 (.cells #[.int .i64 0, .slice none 0 0] 43))); clear hb3)
    | (go_at_call 7; refine (bvar_none id (HB.out _ HB3.out)).mono ?_; rintro e w4 ⟨rfl, hb4⟩; have g0 := hb4.cell (p := ⟨w3.heap.size, 0, none⟩); have g1 := hb4.cell (p := ⟨w3.heap.size, 1, none⟩); have lw4 := hb4.size; rw [Tm.size_alloc] at lw4; have HB4 := Lib.hid (bel_call HB3.out hb4); clear hb4)
    | (go_at_call 8; refine (bmodel_none (HB.out _ (bel_alloc HB4.out (.cells #[.bool true] 4)))).mono ?_; rintro e w5 ⟨rfl, hb5⟩; have HB5 := Lib.hid (bel_call (bel_alloc HB4.out (.cells #[.bool true] 4)) hb5); clear hb5)
    | (go_at_call 9; refine (bworks_any _).mono ?_; rintro e w6 ⟨rfl, hb6⟩))
  go_ret
  exact ⟨rfl, HK.out.trans ((bel_call HB5.out hb6).mono HK.out.size)⟩
end Bl
end Go.Proofs.YthelkbdiedfmfaaGreat
