/-
  The masks of Zext and Sext, each as a fact on one call.
-/
import Derived.Test.YtbemkaninedonaaKnSure
namespace Go.Proofs.Ytbemkaninedonaa
open Go.RowKit Go.Maps Bv Tm
namespace Kn
set_option maxHeartbeats 2000000
set_option maxRecDepth 100000

theorem sure_zext (w n l b : Nat) (k0 k1 k2 : Int) (w0 z0 o0 w1 z1 o1 w2 z2 o2 : Nat) (sp : Value) (W : World) (h1 : 1 ≤ w) (h2 : w ≤ 64) (h3 : 1 ≤ w0) (h4 : w0 ≤ 64) (hz0 : z0 < 18446744073709551616) (ho0 : o0 < 18446744073709551616) (HL : Hid (LookK W b k0 k1 k2 w0 z0 o0 w1 z1 o1 w2 z2 o2)) :
    Calls Try.prog 17 #[sp, .agg #[.int .u8 23, .int .u8 ((w : Nat) : Int), .int .i64 k0, .int .i64 k1, .int .i64 k2, .int .u64 ((n : Nat) : Int), .int .u8 ((l : Nat) : Int)], .map (some b)] W fun e W' => e = .returned (.agg #[.int .u8 ((w : Nat) : Int), .int .u64 ((low w (z0 ||| (18446744073709551615 - (2 ^ w0 - 1))) : Nat) : Int), .int .u64 ((low w o0 : Nat) : Int)]) ∧ Below W.heap.size W W' := by
  have HS : Hid (SureS W b (.int .u8 23) (.int .u8 ((w : Nat) : Int)) (.int .u64 ((n : Nat) : Int)) (.int .u8 ((l : Nat) : Int)) k0 k1 k2 w0 z0 o0 w1 z1 o1 w2 z2 o2 ((W.alloc (.cells #[.int .u8 23, .int .u8 ((w : Nat) : Int), .int .i64 k0, .int .i64 k1, .int .i64 k2, .int .u64 ((n : Nat) : Int), .int .u8 ((l : Nat) : Int)] 57)).alloc (.cells #[.int .u8 0, .int .u64 0, .int .u64 0] 64))) :=
    SureS.alloc ⟨At7.new W _ _ _ _ _ _ _ _, HL.out.same (Below.heap_alloc _ _ _ HL.out.1) (by simp), bel_alloc (Below.refl _ _) _, HL.out.1⟩ _
  have l3 : 18446744073709551615 - (2 ^ w0 - 1) < 18446744073709551616 := Nat.lt_of_le_of_lt (Nat.sub_le _ _) (by decide)
  have l4 : 2 ^ w0 - 1 < 18446744073709551616 := Nat.lt_of_lt_of_le (Nat.sub_lt (pow_pos' w0) (by decide)) (pow_le64 h4)
  have EX : Hid (bits .or .u64 ((z0 : Nat) : Int) (bits .xor .u64 IntKind.u64.max ((2 ^ w0 - 1 : Nat) : Int)) = ((z0 ||| (18446744073709551615 - (2 ^ w0 - 1)) : Nat) : Int)) := Lib.hid (by rw [not_int l4]; exact bits_or_u64_nat _ _ hz0 l3)
  have HM := Lib.hid (fun W => kmask_any w0 h3 h4 W)
  have HI : Hid ((if IntKind.u64.signed = true then (-1 : Int) else IntKind.u64.max) = IntKind.u64.max) := Lib.hid rfl
  have HC := Lib.hid (fun x y ex ey W => kcut_of w x y _ _ h1 h2 (or_lt64 hz0 l3) ho0 ex ey W)
  clear hz0 ho0 l3 l4
  go_enter Try.func17, Try.ntmps17
  go_upto_region 1 with fail
  go_cut [7, 8, 9] (fun s7 s8 s9 wx => ∃ g h i : Nat, s7 = .pointer (some ⟨g, 0, none⟩) ∧ s8 = .pointer (some ⟨h, 0, none⟩) ∧ s9 = .pointer (some ⟨i, 0, none⟩) ∧ W.heap.size + 1 < g ∧ W.heap.size + 1 < h ∧ W.heap.size + 1 < i ∧ At3 wx g (.int .u8 ((w0 : Nat) : Int)) (.int .u64 ((z0 : Nat) : Int)) (.int .u64 ((o0 : Nat) : Int)) ∧ At3 wx h (.int .u8 ((w1 : Nat) : Int)) (.int .u64 ((z1 : Nat) : Int)) (.int .u64 ((o1 : Nat) : Int)) ∧ At3 wx i (.int .u8 ((w2 : Nat) : Int)) (.int .u64 ((z2 : Nat) : Int)) (.int .u64 ((o2 : Nat) : Int)) ∧ At7 wx W.heap.size (.int .u8 23) (.int .u8 ((w : Nat) : Int)) (.int .i64 k0) (.int .i64 k1) (.int .i64 k2) (.int .u64 ((n : Nat) : Int)) (.int .u8 ((l : Nat) : Int)) ∧ At3 wx (W.heap.size + 1) (.int .u8 0) (.int .u64 0) (.int .u64 0) ∧ (∀ o, wx.frozen? ⟨W.heap.size + 1, o, none⟩ = false) ∧ Below W.heap.size W wx)
  case first =>
    refine wp_region_held_drew (S := fun w' => SureS W b (.int .u8 23) (.int .u8 ((w : Nat) : Int)) (.int .u64 ((n : Nat) : Int)) (.int .u8 ((l : Nat) : Int)) k0 k1 k2 w0 z0 o0 w1 z1 o1 w2 z2 o2 w') (by kernel_rfl) HS.out.drew (fun hHeld => ?_)
    refine wpAnyH_take (i := 0) (v := .map (some b)) (by simp only [List.getElem?_toArray, List.getElem?_cons_zero]; rfl) (by kernel_rfl) (by kernel_rfl) (by kernel_rfl) (by exact fun _ _ _ h => h) (Or.inl ⟨by rfl, ?_⟩) hHeld ?_
    · intro w' hSw
      go_simp
    simp only [Act.put, List.setIfInBounds_toArray, List.set_cons_zero, List.set_cons_succ]
    refine wpAnyH_take (i := 1) (v := .pointer (some ⟨W.heap.size, 2, none⟩)) (by simp only [List.getElem?_toArray, List.getElem?_cons_zero, List.getElem?_cons_succ]; rfl) (by kernel_rfl) (by kernel_rfl) (by kernel_rfl) (by exact fun _ _ _ h => h) (Or.inl ⟨by rfl, ?_⟩) hHeld ?_
    · intro w' hSw
      go_simp
    simp only [Act.put, List.setIfInBounds_toArray, List.set_cons_zero, List.set_cons_succ]
    refine wpAnyH_take (i := 2) (v := .pointer (some ⟨W.heap.size, 2, none⟩)) (by simp only [List.getElem?_toArray, List.getElem?_cons_zero, List.getElem?_cons_succ]; rfl) (by kernel_rfl) (by kernel_rfl) (by kernel_rfl) (by exact fun _ _ _ h => h) (Or.inl ⟨by rfl, ?_⟩) hHeld ?_
    · intro w' hSw
      go_simp
    simp only [Act.put, List.setIfInBounds_toArray, List.set_cons_zero, List.set_cons_succ]
    refine wpAnyH_take (i := 3) (v := .int .i64 k0) (by simp only [List.getElem?_toArray, List.getElem?_cons_zero, List.getElem?_cons_succ]; rfl) (by kernel_rfl) (by kernel_rfl) (by kernel_rfl) (by exact fun _ _ _ h => h) (Or.inl ⟨by rfl, ?_⟩) hHeld ?_
    · intro w' hSw
      obtain ⟨f0, f1, f2, f3, f4, f5, f6, f7, f8, f9⟩ := hSw.facts; have lW := hSw.box.lt; go_simp
    simp only [Act.put, List.setIfInBounds_toArray, List.set_cons_zero, List.set_cons_succ]
    refine wpAnyH_take (i := 4) (v := .agg #[.int .u8 ((w0 : Nat) : Int), .int .u64 ((z0 : Nat) : Int), .int .u64 ((o0 : Nat) : Int)]) (by simp only [List.getElem?_toArray, List.getElem?_cons_zero, List.getElem?_cons_succ]; rfl) (by kernel_rfl) (by kernel_rfl) (by kernel_rfl) (by exact fun _ _ _ h => h) (Or.inl ⟨by rfl, ?_⟩) hHeld ?_
    · intro w' hSw
      obtain ⟨f0, f1, f2, f3, f4, f5, f6, f7, f8, f9⟩ := hSw.facts; have lW := hSw.box.lt; go_simp
    simp only [Act.put, List.setIfInBounds_toArray, List.set_cons_zero, List.set_cons_succ]
    refine wpAnyH_take (i := 5) (v := .map (some b)) (by simp only [List.getElem?_toArray, List.getElem?_cons_zero, List.getElem?_cons_succ]; rfl) (by kernel_rfl) (by kernel_rfl) (by kernel_rfl) (by exact fun _ _ _ h => h) (Or.inl ⟨by rfl, ?_⟩) hHeld ?_
    · intro w' hSw
      go_simp
    simp only [Act.put, List.setIfInBounds_toArray, List.set_cons_zero, List.set_cons_succ]
    refine wpAnyH_take (i := 6) (v := .pointer (some ⟨W.heap.size, 2, none⟩)) (by simp only [List.getElem?_toArray, List.getElem?_cons_zero, List.getElem?_cons_succ]; rfl) (by kernel_rfl) (by kernel_rfl) (by kernel_rfl) (by exact fun _ _ _ h => h) (Or.inl ⟨by rfl, ?_⟩) hHeld ?_
    · intro w' hSw
      go_simp
    simp only [Act.put, List.setIfInBounds_toArray, List.set_cons_zero, List.set_cons_succ]
    refine wpAnyH_take (i := 7) (v := .pointer (some ⟨W.heap.size, 3, none⟩)) (by simp only [List.getElem?_toArray, List.getElem?_cons_zero, List.getElem?_cons_succ]; rfl) (by kernel_rfl) (by kernel_rfl) (by kernel_rfl) (by exact fun _ _ _ h => h) (Or.inl ⟨by rfl, ?_⟩) hHeld ?_
    · intro w' hSw
      go_simp
    simp only [Act.put, List.setIfInBounds_toArray, List.set_cons_zero, List.set_cons_succ]
    refine wpAnyH_take (i := 8) (v := .int .i64 k1) (by simp only [List.getElem?_toArray, List.getElem?_cons_zero, List.getElem?_cons_succ]; rfl) (by kernel_rfl) (by kernel_rfl) (by kernel_rfl) (by exact fun _ _ _ h => h) (Or.inl ⟨by rfl, ?_⟩) hHeld ?_
    · intro w' hSw
      obtain ⟨f0, f1, f2, f3, f4, f5, f6, f7, f8, f9⟩ := hSw.facts; have lW := hSw.box.lt; go_simp
    simp only [Act.put, List.setIfInBounds_toArray, List.set_cons_zero, List.set_cons_succ]
    refine wpAnyH_take (i := 9) (v := .agg #[.int .u8 ((w1 : Nat) : Int), .int .u64 ((z1 : Nat) : Int), .int .u64 ((o1 : Nat) : Int)]) (by simp only [List.getElem?_toArray, List.getElem?_cons_zero, List.getElem?_cons_succ]; rfl) (by kernel_rfl) (by kernel_rfl) (by kernel_rfl) (by exact fun _ _ _ h => h) (Or.inl ⟨by rfl, ?_⟩) hHeld ?_
    · intro w' hSw
      obtain ⟨f0, f1, f2, f3, f4, f5, f6, f7, f8, f9⟩ := hSw.facts; have lW := hSw.box.lt; go_simp
    simp only [Act.put, List.setIfInBounds_toArray, List.set_cons_zero, List.set_cons_succ]
    refine wpAnyH_take (i := 10) (v := .map (some b)) (by simp only [List.getElem?_toArray, List.getElem?_cons_zero, List.getElem?_cons_succ]; rfl) (by kernel_rfl) (by kernel_rfl) (by kernel_rfl) (by exact fun _ _ _ h => h) (Or.inl ⟨by rfl, ?_⟩) hHeld ?_
    · intro w' hSw
      go_simp
    simp only [Act.put, List.setIfInBounds_toArray, List.set_cons_zero, List.set_cons_succ]
    refine wpAnyH_take (i := 11) (v := .pointer (some ⟨W.heap.size, 2, none⟩)) (by simp only [List.getElem?_toArray, List.getElem?_cons_zero, List.getElem?_cons_succ]; rfl) (by kernel_rfl) (by kernel_rfl) (by kernel_rfl) (by exact fun _ _ _ h => h) (Or.inl ⟨by rfl, ?_⟩) hHeld ?_
    · intro w' hSw
      go_simp
    simp only [Act.put, List.setIfInBounds_toArray, List.set_cons_zero, List.set_cons_succ]
    refine wpAnyH_take (i := 12) (v := .pointer (some ⟨W.heap.size, 4, none⟩)) (by simp only [List.getElem?_toArray, List.getElem?_cons_zero, List.getElem?_cons_succ]; rfl) (by kernel_rfl) (by kernel_rfl) (by kernel_rfl) (by exact fun _ _ _ h => h) (Or.inl ⟨by rfl, ?_⟩) hHeld ?_
    · intro w' hSw
      go_simp
    simp only [Act.put, List.setIfInBounds_toArray, List.set_cons_zero, List.set_cons_succ]
    refine wpAnyH_take (i := 13) (v := .int .i64 k2) (by simp only [List.getElem?_toArray, List.getElem?_cons_zero, List.getElem?_cons_succ]; rfl) (by kernel_rfl) (by kernel_rfl) (by kernel_rfl) (by exact fun _ _ _ h => h) (Or.inl ⟨by rfl, ?_⟩) hHeld ?_
    · intro w' hSw
      obtain ⟨f0, f1, f2, f3, f4, f5, f6, f7, f8, f9⟩ := hSw.facts; have lW := hSw.box.lt; go_simp
    simp only [Act.put, List.setIfInBounds_toArray, List.set_cons_zero, List.set_cons_succ]
    refine wpAnyH_take (i := 14) (v := .agg #[.int .u8 ((w2 : Nat) : Int), .int .u64 ((z2 : Nat) : Int), .int .u64 ((o2 : Nat) : Int)]) (by simp only [List.getElem?_toArray, List.getElem?_cons_zero, List.getElem?_cons_succ]; rfl) (by kernel_rfl) (by kernel_rfl) (by kernel_rfl) (by exact fun _ _ _ h => h) (Or.inl ⟨by rfl, ?_⟩) hHeld ?_
    · intro w' hSw
      obtain ⟨f0, f1, f2, f3, f4, f5, f6, f7, f8, f9⟩ := hSw.facts; have lW := hSw.box.lt; go_simp
    simp only [Act.put, List.setIfInBounds_toArray, List.set_cons_zero, List.set_cons_succ]
    refine wpAnyH_ready (rs := [15, 16, 17]) (by kernel_rfl) (by simp) ?_
    refine AllReadyH.cons (by simp only [List.getElem?_toArray, List.getElem?_cons_zero, List.getElem?_cons_succ]; rfl) (fun K hK => ?_) ?_
    · go_simp
      refine hK.out _ _ ?_ (fun hHeld => ?_)
      · repeat (first | exact hHeld | exact HS.out | (refine SureS.alloc ?_ _) | (refine SureS.drew ?_) | (refine SureS.setCell ?_ _ _ (by show W.heap.size < _; simp; try omega)))
      clear hK K
      try simp only [Act.put, List.setIfInBounds_toArray, List.set_cons_zero, List.set_cons_succ]
      refine wpAnyH_ready (rs := [16, 17]) (by kernel_rfl) (by simp) ?_
      refine AllReadyH.cons (by simp only [List.getElem?_toArray, List.getElem?_cons_zero, List.getElem?_cons_succ]; rfl) (fun K hK => ?_) ?_
      · go_simp
        refine hK.out _ _ ?_ (fun hHeld => ?_)
        · repeat (first | exact hHeld | exact HS.out | (refine SureS.alloc ?_ _) | (refine SureS.drew ?_) | (refine SureS.setCell ?_ _ _ (by show W.heap.size < _; simp; try omega)))
        clear hK K
        try simp only [Act.put, List.setIfInBounds_toArray, List.set_cons_zero, List.set_cons_succ]
        refine wpAnyH_ready (rs := [17]) (by kernel_rfl) (by simp) ?_
        refine AllReadyH.cons (by simp only [List.getElem?_toArray, List.getElem?_cons_zero, List.getElem?_cons_succ]; rfl) (fun K hK => ?_) ?_
        · go_simp
          refine hK.out _ _ ?_ (fun hHeld => ?_)
          · repeat (first | exact hHeld | exact HS.out | (refine SureS.alloc ?_ _) | (refine SureS.drew ?_) | (refine SureS.setCell ?_ _ _ (by show W.heap.size < _; simp; try omega)))
          clear hK K
          try simp only [Act.put, List.setIfInBounds_toArray, List.set_cons_zero, List.set_cons_succ]
          refine wpAnyH_ready (rs := [18]) (by kernel_rfl) (by simp) ?_
          refine AllReadyH.cons (by simp only [List.getElem?_toArray, List.getElem?_cons_zero, List.getElem?_cons_succ]; rfl) (fun K hK => ?_) ?_
          · go_simp
            refine hK.out _ _ ?_ (fun hHeld => ?_)
            · repeat (first | exact hHeld | exact HS.out | (refine SureS.alloc ?_ _) | (refine SureS.drew ?_) | (refine SureS.setCell ?_ _ _ (by show W.heap.size < _; simp; try omega)))
            clear hK K
            try simp only [Act.put, List.setIfInBounds_toArray, List.set_cons_zero, List.set_cons_succ]
            refine wpAnyH_ready (rs := [19]) (by kernel_rfl) (by simp) ?_
            refine AllReadyH.cons (by simp only [List.getElem?_toArray, List.getElem?_cons_zero, List.getElem?_cons_succ]; rfl) (fun K hK => ?_) ?_
            · go_simp
              refine hK.out _ _ ?_ (fun hHeld => ?_)
              · repeat (first | exact hHeld | exact HS.out | (refine SureS.alloc ?_ _) | (refine SureS.drew ?_) | (refine SureS.setCell ?_ _ _ (by show W.heap.size < _; simp; try omega)))
              clear hK K
              try simp only [Act.put, List.setIfInBounds_toArray, List.set_cons_zero, List.set_cons_succ]
              refine wpAnyH_ready (rs := [20]) (by kernel_rfl) (by simp) ?_
              refine AllReadyH.cons (by simp only [List.getElem?_toArray, List.getElem?_cons_zero, List.getElem?_cons_succ]; rfl) (fun K hK => ?_) ?_
              · go_simp
                refine hK.out _ _ ?_ (fun hHeld => ?_)
                · repeat (first | exact hHeld | exact HS.out | (refine SureS.alloc ?_ _) | (refine SureS.drew ?_) | (refine SureS.setCell ?_ _ _ (by show W.heap.size < _; simp; try omega)))
                clear hK K
                try simp only [Act.put, List.setIfInBounds_toArray, List.set_cons_zero, List.set_cons_succ]
                refine wpAnyH_done (by kernel_rfl) ?_ _
                go_wp2_with fail
                go_meet
                refine ⟨_, _, _, rfl, rfl, rfl, by omega, by omega, by omega, ⟨?_, ?_, ?_, ?_⟩, ⟨?_, ?_, ?_, ?_⟩, ⟨?_, ?_, ?_, ?_⟩, hHeld.box, ⟨?_, ?_, ?_, ?_⟩, fun o => ?_, hHeld.bel⟩
                all_goals first | (simp [go_sem]; done) | (simp [go_sem]; omega) | skip
              exact AllReadyH.nil
            exact AllReadyH.nil
          exact AllReadyH.nil
        exact AllReadyH.nil
      refine AllReadyH.cons (by simp only [List.getElem?_toArray, List.getElem?_cons_zero, List.getElem?_cons_succ]; rfl) (fun K hK => ?_) ?_
      · go_simp
        refine hK.out _ _ ?_ (fun hHeld => ?_)
        · repeat (first | exact hHeld | exact HS.out | (refine SureS.alloc ?_ _) | (refine SureS.drew ?_) | (refine SureS.setCell ?_ _ _ (by show W.heap.size < _; simp; try omega)))
        clear hK K
        try simp only [Act.put, List.setIfInBounds_toArray, List.set_cons_zero, List.set_cons_succ]
        refine wpAnyH_ready (rs := [16]) (by kernel_rfl) (by simp) ?_
        refine AllReadyH.cons (by simp only [List.getElem?_toArray, List.getElem?_cons_zero, List.getElem?_cons_succ]; rfl) (fun K hK => ?_) ?_
        · go_simp
          refine hK.out _ _ ?_ (fun hHeld => ?_)
          · repeat (first | exact hHeld | exact HS.out | (refine SureS.alloc ?_ _) | (refine SureS.drew ?_) | (refine SureS.setCell ?_ _ _ (by show W.heap.size < _; simp; try omega)))
          clear hK K
          try simp only [Act.put, List.setIfInBounds_toArray, List.set_cons_zero, List.set_cons_succ]
          refine wpAnyH_ready (rs := [18]) (by kernel_rfl) (by simp) ?_
          refine AllReadyH.cons (by simp only [List.getElem?_toArray, List.getElem?_cons_zero, List.getElem?_cons_succ]; rfl) (fun K hK => ?_) ?_
          · go_simp
            refine hK.out _ _ ?_ (fun hHeld => ?_)
            · repeat (first | exact hHeld | exact HS.out | (refine SureS.alloc ?_ _) | (refine SureS.drew ?_) | (refine SureS.setCell ?_ _ _ (by show W.heap.size < _; simp; try omega)))
            clear hK K
            try simp only [Act.put, List.setIfInBounds_toArray, List.set_cons_zero, List.set_cons_succ]
            refine wpAnyH_ready (rs := [19]) (by kernel_rfl) (by simp) ?_
            refine AllReadyH.cons (by simp only [List.getElem?_toArray, List.getElem?_cons_zero, List.getElem?_cons_succ]; rfl) (fun K hK => ?_) ?_
            · go_simp
              refine hK.out _ _ ?_ (fun hHeld => ?_)
              · repeat (first | exact hHeld | exact HS.out | (refine SureS.alloc ?_ _) | (refine SureS.drew ?_) | (refine SureS.setCell ?_ _ _ (by show W.heap.size < _; simp; try omega)))
              clear hK K
              try simp only [Act.put, List.setIfInBounds_toArray, List.set_cons_zero, List.set_cons_succ]
              refine wpAnyH_ready (rs := [20]) (by kernel_rfl) (by simp) ?_
              refine AllReadyH.cons (by simp only [List.getElem?_toArray, List.getElem?_cons_zero, List.getElem?_cons_succ]; rfl) (fun K hK => ?_) ?_
              · go_simp
                refine hK.out _ _ ?_ (fun hHeld => ?_)
                · repeat (first | exact hHeld | exact HS.out | (refine SureS.alloc ?_ _) | (refine SureS.drew ?_) | (refine SureS.setCell ?_ _ _ (by show W.heap.size < _; simp; try omega)))
                clear hK K
                try simp only [Act.put, List.setIfInBounds_toArray, List.set_cons_zero, List.set_cons_succ]
                refine wpAnyH_done (by kernel_rfl) ?_ _
                go_wp2_with fail
                go_meet
                refine ⟨_, _, _, rfl, rfl, rfl, by omega, by omega, by omega, ⟨?_, ?_, ?_, ?_⟩, ⟨?_, ?_, ?_, ?_⟩, ⟨?_, ?_, ?_, ?_⟩, hHeld.box, ⟨?_, ?_, ?_, ?_⟩, fun o => ?_, hHeld.bel⟩
                all_goals first | (simp [go_sem]; done) | (simp [go_sem]; omega) | skip
              exact AllReadyH.nil
            exact AllReadyH.nil
          exact AllReadyH.nil
        exact AllReadyH.nil
      exact AllReadyH.nil
    refine AllReadyH.cons (by simp only [List.getElem?_toArray, List.getElem?_cons_zero, List.getElem?_cons_succ]; rfl) (fun K hK => ?_) ?_
    · go_simp
      refine hK.out _ _ ?_ (fun hHeld => ?_)
      · repeat (first | exact hHeld | exact HS.out | (refine SureS.alloc ?_ _) | (refine SureS.drew ?_) | (refine SureS.setCell ?_ _ _ (by show W.heap.size < _; simp; try omega)))
      clear hK K
      try simp only [Act.put, List.setIfInBounds_toArray, List.set_cons_zero, List.set_cons_succ]
      refine wpAnyH_ready (rs := [15, 17]) (by kernel_rfl) (by simp) ?_
      refine AllReadyH.cons (by simp only [List.getElem?_toArray, List.getElem?_cons_zero, List.getElem?_cons_succ]; rfl) (fun K hK => ?_) ?_
      · go_simp
        refine hK.out _ _ ?_ (fun hHeld => ?_)
        · repeat (first | exact hHeld | exact HS.out | (refine SureS.alloc ?_ _) | (refine SureS.drew ?_) | (refine SureS.setCell ?_ _ _ (by show W.heap.size < _; simp; try omega)))
        clear hK K
        try simp only [Act.put, List.setIfInBounds_toArray, List.set_cons_zero, List.set_cons_succ]
        refine wpAnyH_ready (rs := [17]) (by kernel_rfl) (by simp) ?_
        refine AllReadyH.cons (by simp only [List.getElem?_toArray, List.getElem?_cons_zero, List.getElem?_cons_succ]; rfl) (fun K hK => ?_) ?_
        · go_simp
          refine hK.out _ _ ?_ (fun hHeld => ?_)
          · repeat (first | exact hHeld | exact HS.out | (refine SureS.alloc ?_ _) | (refine SureS.drew ?_) | (refine SureS.setCell ?_ _ _ (by show W.heap.size < _; simp; try omega)))
          clear hK K
          try simp only [Act.put, List.setIfInBounds_toArray, List.set_cons_zero, List.set_cons_succ]
          refine wpAnyH_ready (rs := [18]) (by kernel_rfl) (by simp) ?_
          refine AllReadyH.cons (by simp only [List.getElem?_toArray, List.getElem?_cons_zero, List.getElem?_cons_succ]; rfl) (fun K hK => ?_) ?_
          · go_simp
            refine hK.out _ _ ?_ (fun hHeld => ?_)
            · repeat (first | exact hHeld | exact HS.out | (refine SureS.alloc ?_ _) | (refine SureS.drew ?_) | (refine SureS.setCell ?_ _ _ (by show W.heap.size < _; simp; try omega)))
            clear hK K
            try simp only [Act.put, List.setIfInBounds_toArray, List.set_cons_zero, List.set_cons_succ]
            refine wpAnyH_ready (rs := [19]) (by kernel_rfl) (by simp) ?_
            refine AllReadyH.cons (by simp only [List.getElem?_toArray, List.getElem?_cons_zero, List.getElem?_cons_succ]; rfl) (fun K hK => ?_) ?_
            · go_simp
              refine hK.out _ _ ?_ (fun hHeld => ?_)
              · repeat (first | exact hHeld | exact HS.out | (refine SureS.alloc ?_ _) | (refine SureS.drew ?_) | (refine SureS.setCell ?_ _ _ (by show W.heap.size < _; simp; try omega)))
              clear hK K
              try simp only [Act.put, List.setIfInBounds_toArray, List.set_cons_zero, List.set_cons_succ]
              refine wpAnyH_ready (rs := [20]) (by kernel_rfl) (by simp) ?_
              refine AllReadyH.cons (by simp only [List.getElem?_toArray, List.getElem?_cons_zero, List.getElem?_cons_succ]; rfl) (fun K hK => ?_) ?_
              · go_simp
                refine hK.out _ _ ?_ (fun hHeld => ?_)
                · repeat (first | exact hHeld | exact HS.out | (refine SureS.alloc ?_ _) | (refine SureS.drew ?_) | (refine SureS.setCell ?_ _ _ (by show W.heap.size < _; simp; try omega)))
                clear hK K
                try simp only [Act.put, List.setIfInBounds_toArray, List.set_cons_zero, List.set_cons_succ]
                refine wpAnyH_done (by kernel_rfl) ?_ _
                go_wp2_with fail
                go_meet
                refine ⟨_, _, _, rfl, rfl, rfl, by omega, by omega, by omega, ⟨?_, ?_, ?_, ?_⟩, ⟨?_, ?_, ?_, ?_⟩, ⟨?_, ?_, ?_, ?_⟩, hHeld.box, ⟨?_, ?_, ?_, ?_⟩, fun o => ?_, hHeld.bel⟩
                all_goals first | (simp [go_sem]; done) | (simp [go_sem]; omega) | skip
              exact AllReadyH.nil
            exact AllReadyH.nil
          exact AllReadyH.nil
        exact AllReadyH.nil
      refine AllReadyH.cons (by simp only [List.getElem?_toArray, List.getElem?_cons_zero, List.getElem?_cons_succ]; rfl) (fun K hK => ?_) ?_
      · go_simp
        refine hK.out _ _ ?_ (fun hHeld => ?_)
        · repeat (first | exact hHeld | exact HS.out | (refine SureS.alloc ?_ _) | (refine SureS.drew ?_) | (refine SureS.setCell ?_ _ _ (by show W.heap.size < _; simp; try omega)))
        clear hK K
        try simp only [Act.put, List.setIfInBounds_toArray, List.set_cons_zero, List.set_cons_succ]
        refine wpAnyH_ready (rs := [15]) (by kernel_rfl) (by simp) ?_
        refine AllReadyH.cons (by simp only [List.getElem?_toArray, List.getElem?_cons_zero, List.getElem?_cons_succ]; rfl) (fun K hK => ?_) ?_
        · go_simp
          refine hK.out _ _ ?_ (fun hHeld => ?_)
          · repeat (first | exact hHeld | exact HS.out | (refine SureS.alloc ?_ _) | (refine SureS.drew ?_) | (refine SureS.setCell ?_ _ _ (by show W.heap.size < _; simp; try omega)))
          clear hK K
          try simp only [Act.put, List.setIfInBounds_toArray, List.set_cons_zero, List.set_cons_succ]
          refine wpAnyH_ready (rs := [18]) (by kernel_rfl) (by simp) ?_
          refine AllReadyH.cons (by simp only [List.getElem?_toArray, List.getElem?_cons_zero, List.getElem?_cons_succ]; rfl) (fun K hK => ?_) ?_
          · go_simp
            refine hK.out _ _ ?_ (fun hHeld => ?_)
            · repeat (first | exact hHeld | exact HS.out | (refine SureS.alloc ?_ _) | (refine SureS.drew ?_) | (refine SureS.setCell ?_ _ _ (by show W.heap.size < _; simp; try omega)))
            clear hK K
            try simp only [Act.put, List.setIfInBounds_toArray, List.set_cons_zero, List.set_cons_succ]
            refine wpAnyH_ready (rs := [19]) (by kernel_rfl) (by simp) ?_
            refine AllReadyH.cons (by simp only [List.getElem?_toArray, List.getElem?_cons_zero, List.getElem?_cons_succ]; rfl) (fun K hK => ?_) ?_
            · go_simp
              refine hK.out _ _ ?_ (fun hHeld => ?_)
              · repeat (first | exact hHeld | exact HS.out | (refine SureS.alloc ?_ _) | (refine SureS.drew ?_) | (refine SureS.setCell ?_ _ _ (by show W.heap.size < _; simp; try omega)))
              clear hK K
              try simp only [Act.put, List.setIfInBounds_toArray, List.set_cons_zero, List.set_cons_succ]
              refine wpAnyH_ready (rs := [20]) (by kernel_rfl) (by simp) ?_
              refine AllReadyH.cons (by simp only [List.getElem?_toArray, List.getElem?_cons_zero, List.getElem?_cons_succ]; rfl) (fun K hK => ?_) ?_
              · go_simp
                refine hK.out _ _ ?_ (fun hHeld => ?_)
                · repeat (first | exact hHeld | exact HS.out | (refine SureS.alloc ?_ _) | (refine SureS.drew ?_) | (refine SureS.setCell ?_ _ _ (by show W.heap.size < _; simp; try omega)))
                clear hK K
                try simp only [Act.put, List.setIfInBounds_toArray, List.set_cons_zero, List.set_cons_succ]
                refine wpAnyH_done (by kernel_rfl) ?_ _
                go_wp2_with fail
                go_meet
                refine ⟨_, _, _, rfl, rfl, rfl, by omega, by omega, by omega, ⟨?_, ?_, ?_, ?_⟩, ⟨?_, ?_, ?_, ?_⟩, ⟨?_, ?_, ?_, ?_⟩, hHeld.box, ⟨?_, ?_, ?_, ?_⟩, fun o => ?_, hHeld.bel⟩
                all_goals first | (simp [go_sem]; done) | (simp [go_sem]; omega) | skip
              exact AllReadyH.nil
            exact AllReadyH.nil
          exact AllReadyH.nil
        exact AllReadyH.nil
      exact AllReadyH.nil
    refine AllReadyH.cons (by simp only [List.getElem?_toArray, List.getElem?_cons_zero, List.getElem?_cons_succ]; rfl) (fun K hK => ?_) ?_
    · go_simp
      refine hK.out _ _ ?_ (fun hHeld => ?_)
      · repeat (first | exact hHeld | exact HS.out | (refine SureS.alloc ?_ _) | (refine SureS.drew ?_) | (refine SureS.setCell ?_ _ _ (by show W.heap.size < _; simp; try omega)))
      clear hK K
      try simp only [Act.put, List.setIfInBounds_toArray, List.set_cons_zero, List.set_cons_succ]
      refine wpAnyH_ready (rs := [15, 16]) (by kernel_rfl) (by simp) ?_
      refine AllReadyH.cons (by simp only [List.getElem?_toArray, List.getElem?_cons_zero, List.getElem?_cons_succ]; rfl) (fun K hK => ?_) ?_
      · go_simp
        refine hK.out _ _ ?_ (fun hHeld => ?_)
        · repeat (first | exact hHeld | exact HS.out | (refine SureS.alloc ?_ _) | (refine SureS.drew ?_) | (refine SureS.setCell ?_ _ _ (by show W.heap.size < _; simp; try omega)))
        clear hK K
        try simp only [Act.put, List.setIfInBounds_toArray, List.set_cons_zero, List.set_cons_succ]
        refine wpAnyH_ready (rs := [16]) (by kernel_rfl) (by simp) ?_
        refine AllReadyH.cons (by simp only [List.getElem?_toArray, List.getElem?_cons_zero, List.getElem?_cons_succ]; rfl) (fun K hK => ?_) ?_
        · go_simp
          refine hK.out _ _ ?_ (fun hHeld => ?_)
          · repeat (first | exact hHeld | exact HS.out | (refine SureS.alloc ?_ _) | (refine SureS.drew ?_) | (refine SureS.setCell ?_ _ _ (by show W.heap.size < _; simp; try omega)))
          clear hK K
          try simp only [Act.put, List.setIfInBounds_toArray, List.set_cons_zero, List.set_cons_succ]
          refine wpAnyH_ready (rs := [18]) (by kernel_rfl) (by simp) ?_
          refine AllReadyH.cons (by simp only [List.getElem?_toArray, List.getElem?_cons_zero, List.getElem?_cons_succ]; rfl) (fun K hK => ?_) ?_
          · go_simp
            refine hK.out _ _ ?_ (fun hHeld => ?_)
            · repeat (first | exact hHeld | exact HS.out | (refine SureS.alloc ?_ _) | (refine SureS.drew ?_) | (refine SureS.setCell ?_ _ _ (by show W.heap.size < _; simp; try omega)))
            clear hK K
            try simp only [Act.put, List.setIfInBounds_toArray, List.set_cons_zero, List.set_cons_succ]
            refine wpAnyH_ready (rs := [19]) (by kernel_rfl) (by simp) ?_
            refine AllReadyH.cons (by simp only [List.getElem?_toArray, List.getElem?_cons_zero, List.getElem?_cons_succ]; rfl) (fun K hK => ?_) ?_
            · go_simp
              refine hK.out _ _ ?_ (fun hHeld => ?_)
              · repeat (first | exact hHeld | exact HS.out | (refine SureS.alloc ?_ _) | (refine SureS.drew ?_) | (refine SureS.setCell ?_ _ _ (by show W.heap.size < _; simp; try omega)))
              clear hK K
              try simp only [Act.put, List.setIfInBounds_toArray, List.set_cons_zero, List.set_cons_succ]
              refine wpAnyH_ready (rs := [20]) (by kernel_rfl) (by simp) ?_
              refine AllReadyH.cons (by simp only [List.getElem?_toArray, List.getElem?_cons_zero, List.getElem?_cons_succ]; rfl) (fun K hK => ?_) ?_
              · go_simp
                refine hK.out _ _ ?_ (fun hHeld => ?_)
                · repeat (first | exact hHeld | exact HS.out | (refine SureS.alloc ?_ _) | (refine SureS.drew ?_) | (refine SureS.setCell ?_ _ _ (by show W.heap.size < _; simp; try omega)))
                clear hK K
                try simp only [Act.put, List.setIfInBounds_toArray, List.set_cons_zero, List.set_cons_succ]
                refine wpAnyH_done (by kernel_rfl) ?_ _
                go_wp2_with fail
                go_meet
                refine ⟨_, _, _, rfl, rfl, rfl, by omega, by omega, by omega, ⟨?_, ?_, ?_, ?_⟩, ⟨?_, ?_, ?_, ?_⟩, ⟨?_, ?_, ?_, ?_⟩, hHeld.box, ⟨?_, ?_, ?_, ?_⟩, fun o => ?_, hHeld.bel⟩
                all_goals first | (simp [go_sem]; done) | (simp [go_sem]; omega) | skip
              exact AllReadyH.nil
            exact AllReadyH.nil
          exact AllReadyH.nil
        exact AllReadyH.nil
      refine AllReadyH.cons (by simp only [List.getElem?_toArray, List.getElem?_cons_zero, List.getElem?_cons_succ]; rfl) (fun K hK => ?_) ?_
      · go_simp
        refine hK.out _ _ ?_ (fun hHeld => ?_)
        · repeat (first | exact hHeld | exact HS.out | (refine SureS.alloc ?_ _) | (refine SureS.drew ?_) | (refine SureS.setCell ?_ _ _ (by show W.heap.size < _; simp; try omega)))
        clear hK K
        try simp only [Act.put, List.setIfInBounds_toArray, List.set_cons_zero, List.set_cons_succ]
        refine wpAnyH_ready (rs := [15]) (by kernel_rfl) (by simp) ?_
        refine AllReadyH.cons (by simp only [List.getElem?_toArray, List.getElem?_cons_zero, List.getElem?_cons_succ]; rfl) (fun K hK => ?_) ?_
        · go_simp
          refine hK.out _ _ ?_ (fun hHeld => ?_)
          · repeat (first | exact hHeld | exact HS.out | (refine SureS.alloc ?_ _) | (refine SureS.drew ?_) | (refine SureS.setCell ?_ _ _ (by show W.heap.size < _; simp; try omega)))
          clear hK K
          try simp only [Act.put, List.setIfInBounds_toArray, List.set_cons_zero, List.set_cons_succ]
          refine wpAnyH_ready (rs := [18]) (by kernel_rfl) (by simp) ?_
          refine AllReadyH.cons (by simp only [List.getElem?_toArray, List.getElem?_cons_zero, List.getElem?_cons_succ]; rfl) (fun K hK => ?_) ?_
          · go_simp
            refine hK.out _ _ ?_ (fun hHeld => ?_)
            · repeat (first | exact hHeld | exact HS.out | (refine SureS.alloc ?_ _) | (refine SureS.drew ?_) | (refine SureS.setCell ?_ _ _ (by show W.heap.size < _; simp; try omega)))
            clear hK K
            try simp only [Act.put, List.setIfInBounds_toArray, List.set_cons_zero, List.set_cons_succ]
            refine wpAnyH_ready (rs := [19]) (by kernel_rfl) (by simp) ?_
            refine AllReadyH.cons (by simp only [List.getElem?_toArray, List.getElem?_cons_zero, List.getElem?_cons_succ]; rfl) (fun K hK => ?_) ?_
            · go_simp
              refine hK.out _ _ ?_ (fun hHeld => ?_)
              · repeat (first | exact hHeld | exact HS.out | (refine SureS.alloc ?_ _) | (refine SureS.drew ?_) | (refine SureS.setCell ?_ _ _ (by show W.heap.size < _; simp; try omega)))
              clear hK K
              try simp only [Act.put, List.setIfInBounds_toArray, List.set_cons_zero, List.set_cons_succ]
              refine wpAnyH_ready (rs := [20]) (by kernel_rfl) (by simp) ?_
              refine AllReadyH.cons (by simp only [List.getElem?_toArray, List.getElem?_cons_zero, List.getElem?_cons_succ]; rfl) (fun K hK => ?_) ?_
              · go_simp
                refine hK.out _ _ ?_ (fun hHeld => ?_)
                · repeat (first | exact hHeld | exact HS.out | (refine SureS.alloc ?_ _) | (refine SureS.drew ?_) | (refine SureS.setCell ?_ _ _ (by show W.heap.size < _; simp; try omega)))
                clear hK K
                try simp only [Act.put, List.setIfInBounds_toArray, List.set_cons_zero, List.set_cons_succ]
                refine wpAnyH_done (by kernel_rfl) ?_ _
                go_wp2_with fail
                go_meet
                refine ⟨_, _, _, rfl, rfl, rfl, by omega, by omega, by omega, ⟨?_, ?_, ?_, ?_⟩, ⟨?_, ?_, ?_, ?_⟩, ⟨?_, ?_, ?_, ?_⟩, hHeld.box, ⟨?_, ?_, ?_, ?_⟩, fun o => ?_, hHeld.bel⟩
                all_goals first | (simp [go_sem]; done) | (simp [go_sem]; omega) | skip
              exact AllReadyH.nil
            exact AllReadyH.nil
          exact AllReadyH.nil
        exact AllReadyH.nil
      exact AllReadyH.nil
    exact AllReadyH.nil

  case rest =>
    obtain ⟨g, h, i, rfl, rfl, rfl, lg, lh, li, ⟨pg, pg0, pg1, pg2⟩, ⟨ph, ph0, ph1, ph2⟩, ⟨pi, pi0, pi1, pi2⟩, bx, ⟨pr, pr0, pr1, pr2⟩, fr, hbel⟩ := hcut
    have HR := Lib.hid (⟨bx, pr0, pr1, pr2, fr, pr, hbel⟩ : SureR W _ _ _ _ _ _ _ wc)
    have f0 := fr 0
    have f1 := fr 1
    have f2 := fr 2
    unfold At7 at bx
    have HM0 := Lib.hid ((⟨bx, ⟨pg, pg0, pg1, pg2⟩, ⟨ph, ph0, ph1, ph2⟩⟩ : SureM W g h _ _ _ _ _ _ _ _ _ _ _ _ _ wc).call (Below.refl _ _).drew)
    have HRD := Lib.hid (HR.out.call (Below.refl _ _).drew)
    go_wp2_with fail
    refine wp_region_held_drew (S := SureM W g h _ _ _ _ _ _ _ _ _ _ _ _ _) (by kernel_rfl) HM0.out (fun hHeld => ?_)
    refine wpAnyH_take (i := 0) (v := .pointer (some ⟨W.heap.size, 1, none⟩)) (by simp only [List.getElem?_toArray, List.getElem?_cons_zero]; rfl) (by kernel_rfl) (by kernel_rfl) (by kernel_rfl) (by exact fun _ _ _ h => h) (Or.inl ⟨by rfl, ?_⟩) hHeld ?_
    · intro w' hSw
      obtain ⟨m0, m1, m2, m3, m4, m5, m6, m7⟩ := hSw.facts; have lW := hSw.box.lt; go_simp; try rfl
    simp only [Act.put, List.setIfInBounds_toArray, List.set_cons_zero, List.set_cons_succ]
    refine wpAnyH_take (i := 1) (v := .int .u8 ((w : Nat) : Int)) (by simp only [List.getElem?_toArray, List.getElem?_cons_zero, List.getElem?_cons_succ]; rfl) (by kernel_rfl) (by kernel_rfl) (by kernel_rfl) (by exact fun _ _ _ h => h) (Or.inl ⟨by rfl, ?_⟩) hHeld ?_
    · intro w' hSw
      obtain ⟨m0, m1, m2, m3, m4, m5, m6, m7⟩ := hSw.facts; have lW := hSw.box.lt; go_simp; try rfl
    simp only [Act.put, List.setIfInBounds_toArray, List.set_cons_zero, List.set_cons_succ]
    refine wpAnyH_take (i := 2) (v := .pointer (some ⟨g, 1, none⟩)) (by simp only [List.getElem?_toArray, List.getElem?_cons_zero, List.getElem?_cons_succ]; rfl) (by kernel_rfl) (by kernel_rfl) (by kernel_rfl) (by exact fun _ _ _ h => h) (Or.inl ⟨by rfl, ?_⟩) hHeld ?_
    · intro w' hSw
      obtain ⟨m0, m1, m2, m3, m4, m5, m6, m7⟩ := hSw.facts; have lW := hSw.box.lt; go_simp; try rfl
    simp only [Act.put, List.setIfInBounds_toArray, List.set_cons_zero, List.set_cons_succ]
    refine wpAnyH_take (i := 3) (v := .int .u64 ((z0 : Nat) : Int)) (by simp only [List.getElem?_toArray, List.getElem?_cons_zero, List.getElem?_cons_succ]; rfl) (by kernel_rfl) (by kernel_rfl) (by kernel_rfl) (by exact fun _ _ _ h => h) (Or.inl ⟨by rfl, ?_⟩) hHeld ?_
    · intro w' hSw
      obtain ⟨m0, m1, m2, m3, m4, m5, m6, m7⟩ := hSw.facts; have lW := hSw.box.lt; go_simp; try rfl
    simp only [Act.put, List.setIfInBounds_toArray, List.set_cons_zero, List.set_cons_succ]
    refine wpAnyH_take (i := 4) (v := .pointer (some ⟨g, 0, none⟩)) (by simp only [List.getElem?_toArray, List.getElem?_cons_zero, List.getElem?_cons_succ]; rfl) (by kernel_rfl) (by kernel_rfl) (by kernel_rfl) (by exact fun _ _ _ h => h) (Or.inl ⟨by rfl, ?_⟩) hHeld ?_
    · intro w' hSw
      obtain ⟨m0, m1, m2, m3, m4, m5, m6, m7⟩ := hSw.facts; have lW := hSw.box.lt; go_simp; try rfl
    simp only [Act.put, List.setIfInBounds_toArray, List.set_cons_zero, List.set_cons_succ]
    refine wpAnyH_take (i := 5) (v := .int .u8 ((w0 : Nat) : Int)) (by simp only [List.getElem?_toArray, List.getElem?_cons_zero, List.getElem?_cons_succ]; rfl) (by kernel_rfl) (by kernel_rfl) (by kernel_rfl) (by exact fun _ _ _ h => h) (Or.inl ⟨by rfl, ?_⟩) hHeld ?_
    · intro w' hSw
      obtain ⟨m0, m1, m2, m3, m4, m5, m6, m7⟩ := hSw.facts; have lW := hSw.box.lt; go_simp; try rfl
    simp only [Act.put, List.setIfInBounds_toArray, List.set_cons_zero, List.set_cons_succ]
    refine wpAnyH_take (i := 9) (v := .pointer (some ⟨g, 2, none⟩)) (by simp only [List.getElem?_toArray, List.getElem?_cons_zero, List.getElem?_cons_succ]; rfl) (by kernel_rfl) (by kernel_rfl) (by kernel_rfl) (by exact fun _ _ _ h => h) (Or.inl ⟨by rfl, ?_⟩) hHeld ?_
    · intro w' hSw
      obtain ⟨m0, m1, m2, m3, m4, m5, m6, m7⟩ := hSw.facts; have lW := hSw.box.lt; go_simp; try rfl
    simp only [Act.put, List.setIfInBounds_toArray, List.set_cons_zero, List.set_cons_succ]
    refine wpAnyH_take (i := 10) (v := .int .u64 ((o0 : Nat) : Int)) (by simp only [List.getElem?_toArray, List.getElem?_cons_zero, List.getElem?_cons_succ]; rfl) (by kernel_rfl) (by kernel_rfl) (by kernel_rfl) (by exact fun _ _ _ h => h) (Or.inl ⟨by rfl, ?_⟩) hHeld ?_
    · intro w' hSw
      obtain ⟨m0, m1, m2, m3, m4, m5, m6, m7⟩ := hSw.facts; have lW := hSw.box.lt; go_simp; try rfl
    simp only [Act.put, List.setIfInBounds_toArray, List.set_cons_zero, List.set_cons_succ]
    refine wpAnyH_ready (rs := [6]) (by kernel_rfl) (by simp) ?_
    refine AllReadyH.cons (by simp only [List.getElem?_toArray, List.getElem?_cons_zero, List.getElem?_cons_succ]; rfl) (fun K hK => ?_) AllReadyH.nil
    go_simp
    go_at_call 33; refine (HM.out _).mono ?_; rintro e w' ⟨rfl, rfl⟩
    refine hK.out _ _ hHeld (fun hHeld => ?_)
    clear hK K
    try simp only [Act.put, List.setIfInBounds_toArray, List.set_cons_zero, List.set_cons_succ]
    refine wpAnyH_take (i := 7) (v := .int .u64 (bits .xor .u64 IntKind.u64.max ((2 ^ w0 - 1 : Nat) : Int))) (by simp only [List.getElem?_toArray, List.getElem?_cons_zero, List.getElem?_cons_succ]; rfl) (by kernel_rfl) (by kernel_rfl) (by kernel_rfl) (by exact fun _ _ _ h => h) (Or.inl ⟨by rfl, ?_⟩) hHeld ?_
    · intro w' hSw
      obtain ⟨m0, m1, m2, m3, m4, m5, m6, m7⟩ := hSw.facts; have lW := hSw.box.lt; go_simp; try rfl
    simp only [Act.put, List.setIfInBounds_toArray, List.set_cons_zero, List.set_cons_succ]
    refine wpAnyH_take (i := 8) (v := .int .u64 (bits .or .u64 ((z0 : Nat) : Int) (bits .xor .u64 IntKind.u64.max ((2 ^ w0 - 1 : Nat) : Int)))) (by simp only [List.getElem?_toArray, List.getElem?_cons_zero, List.getElem?_cons_succ]; rfl) (by kernel_rfl) (by kernel_rfl) (by kernel_rfl) (by exact fun _ _ _ h => h) (Or.inl ⟨by rfl, ?_⟩) hHeld ?_
    · intro w' hSw
      obtain ⟨m0, m1, m2, m3, m4, m5, m6, m7⟩ := hSw.facts; have lW := hSw.box.lt; go_simp; try rfl
    simp only [Act.put, List.setIfInBounds_toArray, List.set_cons_zero, List.set_cons_succ]
    refine wpAnyH_ready (rs := [11]) (by kernel_rfl) (by simp) ?_
    refine AllReadyH.cons (by simp only [List.getElem?_toArray, List.getElem?_cons_zero, List.getElem?_cons_succ]; rfl) (fun K hK => ?_) AllReadyH.nil
    go_simp
    go_at_call 30; refine (HC.out _ _ EX.out rfl _).mono ?_; rintro e w5 ⟨rfl, hw5⟩
    have hb : Below wc.drew.heap.size wc.drew w5 := by rw [← hw5]; exact bel_alloc (Below.refl _ _) _
    have HR5 := Lib.hid (HRD.out.call hb)
    obtain ⟨b5, p50, p51, p52, f5, l5, bel5⟩ := HR5.out
    have f50 := f5 0
    have f51 := f5 1
    have f52 := f5 2
    refine hK.out _ _ (hHeld.call hb) (fun hHeld => ?_)
    clear hK K hb hw5
    try simp only [Act.put, List.setIfInBounds_toArray, List.set_cons_zero, List.set_cons_succ]
    refine wpAnyH_ready (rs := [12]) (by kernel_rfl) (by simp) ?_
    refine AllReadyH.cons (by simp only [List.getElem?_toArray, List.getElem?_cons_zero, List.getElem?_cons_succ]; rfl) (fun K hK => ?_) AllReadyH.nil
    go_simp
    refine hK.out _ _ (hHeld.set3 (by omega) (by omega)) (fun hHeld => ?_)
    clear hK K
    try simp only [Act.put, List.setIfInBounds_toArray, List.set_cons_zero, List.set_cons_succ]
    refine wpAnyH_done (by kernel_rfl) ?_ _
    go_wp2_with fail
    exact bodyPost_ret (v := .agg #[.int .u8 ((w : Nat) : Int), .int .u64 ((low w (z0 ||| (18446744073709551615 - (2 ^ w0 - 1))) : Nat) : Int), .int .u64 ((low w o0 : Nat) : Int)]) (by simp [results, Try.results17, go_sem, p50, p51, p52]) rfl ⟨rfl, ((bel5.setCell (by simp) _).setCell (by simp) _).setCell (by simp) _⟩

theorem sure_sext (w n l b : Nat) (k0 k1 k2 : Int) (w0 z0 o0 w1 z1 o1 w2 z2 o2 : Nat) (sp : Value) (W : World) (h1 : 1 ≤ w) (h2 : w ≤ 64) (h3 : 1 ≤ w0) (h4 : w0 ≤ 64) (hz0 : z0 < 2 ^ w0) (ho0 : o0 < 2 ^ w0) (HL : Hid (LookK W b k0 k1 k2 w0 z0 o0 w1 z1 o1 w2 z2 o2)) :
    Calls Try.prog 17 #[sp, .agg #[.int .u8 24, .int .u8 ((w : Nat) : Int), .int .i64 k0, .int .i64 k1, .int .i64 k2, .int .u64 ((n : Nat) : Int), .int .u8 ((l : Nat) : Int)], .map (some b)] W fun e W' => e = .returned (.agg #[.int .u8 ((w : Nat) : Int), .int .u64 ((low w (numE 24 w0 z0) : Nat) : Int), .int .u64 ((low w (numE 24 w0 o0) : Nat) : Int)]) ∧ Below W.heap.size W W' := by
  have HS : Hid (SureS W b (.int .u8 24) (.int .u8 ((w : Nat) : Int)) (.int .u64 ((n : Nat) : Int)) (.int .u8 ((l : Nat) : Int)) k0 k1 k2 w0 z0 o0 w1 z1 o1 w2 z2 o2 ((W.alloc (.cells #[.int .u8 24, .int .u8 ((w : Nat) : Int), .int .i64 k0, .int .i64 k1, .int .i64 k2, .int .u64 ((n : Nat) : Int), .int .u8 ((l : Nat) : Int)] 57)).alloc (.cells #[.int .u8 0, .int .u64 0, .int .u64 0] 64))) :=
    SureS.alloc ⟨At7.new W _ _ _ _ _ _ _ _, HL.out.same (Below.heap_alloc _ _ _ HL.out.1) (by simp), bel_alloc (Below.refl _ _) _, HL.out.1⟩ _
  have EX := Lib.hid (fun n => sext64 w0 n)
  have HM := Lib.hid (fun W => kspread_any w0 z0 h3 h4 hz0 W)
  have HT := Lib.hid (fun W => kspread_any w0 o0 h3 h4 ho0 W)
  have HC := Lib.hid (fun x y ex ey W => kcut_of w x y _ _ h1 h2 (numE_lt 24 w0 (Nat.lt_of_lt_of_le hz0 (pow_le64 h4))) (numE_lt 24 w0 (Nat.lt_of_lt_of_le ho0 (pow_le64 h4))) ex ey W)
  clear hz0 ho0
  go_enter Try.func17, Try.ntmps17
  go_upto_region 1 with fail
  go_cut [7, 8, 9] (fun s7 s8 s9 wx => ∃ g h i : Nat, s7 = .pointer (some ⟨g, 0, none⟩) ∧ s8 = .pointer (some ⟨h, 0, none⟩) ∧ s9 = .pointer (some ⟨i, 0, none⟩) ∧ W.heap.size + 1 < g ∧ W.heap.size + 1 < h ∧ W.heap.size + 1 < i ∧ At3 wx g (.int .u8 ((w0 : Nat) : Int)) (.int .u64 ((z0 : Nat) : Int)) (.int .u64 ((o0 : Nat) : Int)) ∧ At3 wx h (.int .u8 ((w1 : Nat) : Int)) (.int .u64 ((z1 : Nat) : Int)) (.int .u64 ((o1 : Nat) : Int)) ∧ At3 wx i (.int .u8 ((w2 : Nat) : Int)) (.int .u64 ((z2 : Nat) : Int)) (.int .u64 ((o2 : Nat) : Int)) ∧ At7 wx W.heap.size (.int .u8 24) (.int .u8 ((w : Nat) : Int)) (.int .i64 k0) (.int .i64 k1) (.int .i64 k2) (.int .u64 ((n : Nat) : Int)) (.int .u8 ((l : Nat) : Int)) ∧ At3 wx (W.heap.size + 1) (.int .u8 0) (.int .u64 0) (.int .u64 0) ∧ (∀ o, wx.frozen? ⟨W.heap.size + 1, o, none⟩ = false) ∧ Below W.heap.size W wx)
  case first =>
    refine wp_region_held_drew (S := fun w' => SureS W b (.int .u8 24) (.int .u8 ((w : Nat) : Int)) (.int .u64 ((n : Nat) : Int)) (.int .u8 ((l : Nat) : Int)) k0 k1 k2 w0 z0 o0 w1 z1 o1 w2 z2 o2 w') (by kernel_rfl) HS.out.drew (fun hHeld => ?_)
    refine wpAnyH_take (i := 0) (v := .map (some b)) (by simp only [List.getElem?_toArray, List.getElem?_cons_zero]; rfl) (by kernel_rfl) (by kernel_rfl) (by kernel_rfl) (by exact fun _ _ _ h => h) (Or.inl ⟨by rfl, ?_⟩) hHeld ?_
    · intro w' hSw
      go_simp
    simp only [Act.put, List.setIfInBounds_toArray, List.set_cons_zero, List.set_cons_succ]
    refine wpAnyH_take (i := 1) (v := .pointer (some ⟨W.heap.size, 2, none⟩)) (by simp only [List.getElem?_toArray, List.getElem?_cons_zero, List.getElem?_cons_succ]; rfl) (by kernel_rfl) (by kernel_rfl) (by kernel_rfl) (by exact fun _ _ _ h => h) (Or.inl ⟨by rfl, ?_⟩) hHeld ?_
    · intro w' hSw
      go_simp
    simp only [Act.put, List.setIfInBounds_toArray, List.set_cons_zero, List.set_cons_succ]
    refine wpAnyH_take (i := 2) (v := .pointer (some ⟨W.heap.size, 2, none⟩)) (by simp only [List.getElem?_toArray, List.getElem?_cons_zero, List.getElem?_cons_succ]; rfl) (by kernel_rfl) (by kernel_rfl) (by kernel_rfl) (by exact fun _ _ _ h => h) (Or.inl ⟨by rfl, ?_⟩) hHeld ?_
    · intro w' hSw
      go_simp
    simp only [Act.put, List.setIfInBounds_toArray, List.set_cons_zero, List.set_cons_succ]
    refine wpAnyH_take (i := 3) (v := .int .i64 k0) (by simp only [List.getElem?_toArray, List.getElem?_cons_zero, List.getElem?_cons_succ]; rfl) (by kernel_rfl) (by kernel_rfl) (by kernel_rfl) (by exact fun _ _ _ h => h) (Or.inl ⟨by rfl, ?_⟩) hHeld ?_
    · intro w' hSw
      obtain ⟨f0, f1, f2, f3, f4, f5, f6, f7, f8, f9⟩ := hSw.facts; have lW := hSw.box.lt; go_simp
    simp only [Act.put, List.setIfInBounds_toArray, List.set_cons_zero, List.set_cons_succ]
    refine wpAnyH_take (i := 4) (v := .agg #[.int .u8 ((w0 : Nat) : Int), .int .u64 ((z0 : Nat) : Int), .int .u64 ((o0 : Nat) : Int)]) (by simp only [List.getElem?_toArray, List.getElem?_cons_zero, List.getElem?_cons_succ]; rfl) (by kernel_rfl) (by kernel_rfl) (by kernel_rfl) (by exact fun _ _ _ h => h) (Or.inl ⟨by rfl, ?_⟩) hHeld ?_
    · intro w' hSw
      obtain ⟨f0, f1, f2, f3, f4, f5, f6, f7, f8, f9⟩ := hSw.facts; have lW := hSw.box.lt; go_simp
    simp only [Act.put, List.setIfInBounds_toArray, List.set_cons_zero, List.set_cons_succ]
    refine wpAnyH_take (i := 5) (v := .map (some b)) (by simp only [List.getElem?_toArray, List.getElem?_cons_zero, List.getElem?_cons_succ]; rfl) (by kernel_rfl) (by kernel_rfl) (by kernel_rfl) (by exact fun _ _ _ h => h) (Or.inl ⟨by rfl, ?_⟩) hHeld ?_
    · intro w' hSw
      go_simp
    simp only [Act.put, List.setIfInBounds_toArray, List.set_cons_zero, List.set_cons_succ]
    refine wpAnyH_take (i := 6) (v := .pointer (some ⟨W.heap.size, 2, none⟩)) (by simp only [List.getElem?_toArray, List.getElem?_cons_zero, List.getElem?_cons_succ]; rfl) (by kernel_rfl) (by kernel_rfl) (by kernel_rfl) (by exact fun _ _ _ h => h) (Or.inl ⟨by rfl, ?_⟩) hHeld ?_
    · intro w' hSw
      go_simp
    simp only [Act.put, List.setIfInBounds_toArray, List.set_cons_zero, List.set_cons_succ]
    refine wpAnyH_take (i := 7) (v := .pointer (some ⟨W.heap.size, 3, none⟩)) (by simp only [List.getElem?_toArray, List.getElem?_cons_zero, List.getElem?_cons_succ]; rfl) (by kernel_rfl) (by kernel_rfl) (by kernel_rfl) (by exact fun _ _ _ h => h) (Or.inl ⟨by rfl, ?_⟩) hHeld ?_
    · intro w' hSw
      go_simp
    simp only [Act.put, List.setIfInBounds_toArray, List.set_cons_zero, List.set_cons_succ]
    refine wpAnyH_take (i := 8) (v := .int .i64 k1) (by simp only [List.getElem?_toArray, List.getElem?_cons_zero, List.getElem?_cons_succ]; rfl) (by kernel_rfl) (by kernel_rfl) (by kernel_rfl) (by exact fun _ _ _ h => h) (Or.inl ⟨by rfl, ?_⟩) hHeld ?_
    · intro w' hSw
      obtain ⟨f0, f1, f2, f3, f4, f5, f6, f7, f8, f9⟩ := hSw.facts; have lW := hSw.box.lt; go_simp
    simp only [Act.put, List.setIfInBounds_toArray, List.set_cons_zero, List.set_cons_succ]
    refine wpAnyH_take (i := 9) (v := .agg #[.int .u8 ((w1 : Nat) : Int), .int .u64 ((z1 : Nat) : Int), .int .u64 ((o1 : Nat) : Int)]) (by simp only [List.getElem?_toArray, List.getElem?_cons_zero, List.getElem?_cons_succ]; rfl) (by kernel_rfl) (by kernel_rfl) (by kernel_rfl) (by exact fun _ _ _ h => h) (Or.inl ⟨by rfl, ?_⟩) hHeld ?_
    · intro w' hSw
      obtain ⟨f0, f1, f2, f3, f4, f5, f6, f7, f8, f9⟩ := hSw.facts; have lW := hSw.box.lt; go_simp
    simp only [Act.put, List.setIfInBounds_toArray, List.set_cons_zero, List.set_cons_succ]
    refine wpAnyH_take (i := 10) (v := .map (some b)) (by simp only [List.getElem?_toArray, List.getElem?_cons_zero, List.getElem?_cons_succ]; rfl) (by kernel_rfl) (by kernel_rfl) (by kernel_rfl) (by exact fun _ _ _ h => h) (Or.inl ⟨by rfl, ?_⟩) hHeld ?_
    · intro w' hSw
      go_simp
    simp only [Act.put, List.setIfInBounds_toArray, List.set_cons_zero, List.set_cons_succ]
    refine wpAnyH_take (i := 11) (v := .pointer (some ⟨W.heap.size, 2, none⟩)) (by simp only [List.getElem?_toArray, List.getElem?_cons_zero, List.getElem?_cons_succ]; rfl) (by kernel_rfl) (by kernel_rfl) (by kernel_rfl) (by exact fun _ _ _ h => h) (Or.inl ⟨by rfl, ?_⟩) hHeld ?_
    · intro w' hSw
      go_simp
    simp only [Act.put, List.setIfInBounds_toArray, List.set_cons_zero, List.set_cons_succ]
    refine wpAnyH_take (i := 12) (v := .pointer (some ⟨W.heap.size, 4, none⟩)) (by simp only [List.getElem?_toArray, List.getElem?_cons_zero, List.getElem?_cons_succ]; rfl) (by kernel_rfl) (by kernel_rfl) (by kernel_rfl) (by exact fun _ _ _ h => h) (Or.inl ⟨by rfl, ?_⟩) hHeld ?_
    · intro w' hSw
      go_simp
    simp only [Act.put, List.setIfInBounds_toArray, List.set_cons_zero, List.set_cons_succ]
    refine wpAnyH_take (i := 13) (v := .int .i64 k2) (by simp only [List.getElem?_toArray, List.getElem?_cons_zero, List.getElem?_cons_succ]; rfl) (by kernel_rfl) (by kernel_rfl) (by kernel_rfl) (by exact fun _ _ _ h => h) (Or.inl ⟨by rfl, ?_⟩) hHeld ?_
    · intro w' hSw
      obtain ⟨f0, f1, f2, f3, f4, f5, f6, f7, f8, f9⟩ := hSw.facts; have lW := hSw.box.lt; go_simp
    simp only [Act.put, List.setIfInBounds_toArray, List.set_cons_zero, List.set_cons_succ]
    refine wpAnyH_take (i := 14) (v := .agg #[.int .u8 ((w2 : Nat) : Int), .int .u64 ((z2 : Nat) : Int), .int .u64 ((o2 : Nat) : Int)]) (by simp only [List.getElem?_toArray, List.getElem?_cons_zero, List.getElem?_cons_succ]; rfl) (by kernel_rfl) (by kernel_rfl) (by kernel_rfl) (by exact fun _ _ _ h => h) (Or.inl ⟨by rfl, ?_⟩) hHeld ?_
    · intro w' hSw
      obtain ⟨f0, f1, f2, f3, f4, f5, f6, f7, f8, f9⟩ := hSw.facts; have lW := hSw.box.lt; go_simp
    simp only [Act.put, List.setIfInBounds_toArray, List.set_cons_zero, List.set_cons_succ]
    refine wpAnyH_ready (rs := [15, 16, 17]) (by kernel_rfl) (by simp) ?_
    refine AllReadyH.cons (by simp only [List.getElem?_toArray, List.getElem?_cons_zero, List.getElem?_cons_succ]; rfl) (fun K hK => ?_) ?_
    · go_simp
      refine hK.out _ _ ?_ (fun hHeld => ?_)
      · repeat (first | exact hHeld | exact HS.out | (refine SureS.alloc ?_ _) | (refine SureS.drew ?_) | (refine SureS.setCell ?_ _ _ (by show W.heap.size < _; simp; try omega)))
      clear hK K
      try simp only [Act.put, List.setIfInBounds_toArray, List.set_cons_zero, List.set_cons_succ]
      refine wpAnyH_ready (rs := [16, 17]) (by kernel_rfl) (by simp) ?_
      refine AllReadyH.cons (by simp only [List.getElem?_toArray, List.getElem?_cons_zero, List.getElem?_cons_succ]; rfl) (fun K hK => ?_) ?_
      · go_simp
        refine hK.out _ _ ?_ (fun hHeld => ?_)
        · repeat (first | exact hHeld | exact HS.out | (refine SureS.alloc ?_ _) | (refine SureS.drew ?_) | (refine SureS.setCell ?_ _ _ (by show W.heap.size < _; simp; try omega)))
        clear hK K
        try simp only [Act.put, List.setIfInBounds_toArray, List.set_cons_zero, List.set_cons_succ]
        refine wpAnyH_ready (rs := [17]) (by kernel_rfl) (by simp) ?_
        refine AllReadyH.cons (by simp only [List.getElem?_toArray, List.getElem?_cons_zero, List.getElem?_cons_succ]; rfl) (fun K hK => ?_) ?_
        · go_simp
          refine hK.out _ _ ?_ (fun hHeld => ?_)
          · repeat (first | exact hHeld | exact HS.out | (refine SureS.alloc ?_ _) | (refine SureS.drew ?_) | (refine SureS.setCell ?_ _ _ (by show W.heap.size < _; simp; try omega)))
          clear hK K
          try simp only [Act.put, List.setIfInBounds_toArray, List.set_cons_zero, List.set_cons_succ]
          refine wpAnyH_ready (rs := [18]) (by kernel_rfl) (by simp) ?_
          refine AllReadyH.cons (by simp only [List.getElem?_toArray, List.getElem?_cons_zero, List.getElem?_cons_succ]; rfl) (fun K hK => ?_) ?_
          · go_simp
            refine hK.out _ _ ?_ (fun hHeld => ?_)
            · repeat (first | exact hHeld | exact HS.out | (refine SureS.alloc ?_ _) | (refine SureS.drew ?_) | (refine SureS.setCell ?_ _ _ (by show W.heap.size < _; simp; try omega)))
            clear hK K
            try simp only [Act.put, List.setIfInBounds_toArray, List.set_cons_zero, List.set_cons_succ]
            refine wpAnyH_ready (rs := [19]) (by kernel_rfl) (by simp) ?_
            refine AllReadyH.cons (by simp only [List.getElem?_toArray, List.getElem?_cons_zero, List.getElem?_cons_succ]; rfl) (fun K hK => ?_) ?_
            · go_simp
              refine hK.out _ _ ?_ (fun hHeld => ?_)
              · repeat (first | exact hHeld | exact HS.out | (refine SureS.alloc ?_ _) | (refine SureS.drew ?_) | (refine SureS.setCell ?_ _ _ (by show W.heap.size < _; simp; try omega)))
              clear hK K
              try simp only [Act.put, List.setIfInBounds_toArray, List.set_cons_zero, List.set_cons_succ]
              refine wpAnyH_ready (rs := [20]) (by kernel_rfl) (by simp) ?_
              refine AllReadyH.cons (by simp only [List.getElem?_toArray, List.getElem?_cons_zero, List.getElem?_cons_succ]; rfl) (fun K hK => ?_) ?_
              · go_simp
                refine hK.out _ _ ?_ (fun hHeld => ?_)
                · repeat (first | exact hHeld | exact HS.out | (refine SureS.alloc ?_ _) | (refine SureS.drew ?_) | (refine SureS.setCell ?_ _ _ (by show W.heap.size < _; simp; try omega)))
                clear hK K
                try simp only [Act.put, List.setIfInBounds_toArray, List.set_cons_zero, List.set_cons_succ]
                refine wpAnyH_done (by kernel_rfl) ?_ _
                go_wp2_with fail
                go_meet
                refine ⟨_, _, _, rfl, rfl, rfl, by omega, by omega, by omega, ⟨?_, ?_, ?_, ?_⟩, ⟨?_, ?_, ?_, ?_⟩, ⟨?_, ?_, ?_, ?_⟩, hHeld.box, ⟨?_, ?_, ?_, ?_⟩, fun o => ?_, hHeld.bel⟩
                all_goals first | (simp [go_sem]; done) | (simp [go_sem]; omega) | skip
              exact AllReadyH.nil
            exact AllReadyH.nil
          exact AllReadyH.nil
        exact AllReadyH.nil
      refine AllReadyH.cons (by simp only [List.getElem?_toArray, List.getElem?_cons_zero, List.getElem?_cons_succ]; rfl) (fun K hK => ?_) ?_
      · go_simp
        refine hK.out _ _ ?_ (fun hHeld => ?_)
        · repeat (first | exact hHeld | exact HS.out | (refine SureS.alloc ?_ _) | (refine SureS.drew ?_) | (refine SureS.setCell ?_ _ _ (by show W.heap.size < _; simp; try omega)))
        clear hK K
        try simp only [Act.put, List.setIfInBounds_toArray, List.set_cons_zero, List.set_cons_succ]
        refine wpAnyH_ready (rs := [16]) (by kernel_rfl) (by simp) ?_
        refine AllReadyH.cons (by simp only [List.getElem?_toArray, List.getElem?_cons_zero, List.getElem?_cons_succ]; rfl) (fun K hK => ?_) ?_
        · go_simp
          refine hK.out _ _ ?_ (fun hHeld => ?_)
          · repeat (first | exact hHeld | exact HS.out | (refine SureS.alloc ?_ _) | (refine SureS.drew ?_) | (refine SureS.setCell ?_ _ _ (by show W.heap.size < _; simp; try omega)))
          clear hK K
          try simp only [Act.put, List.setIfInBounds_toArray, List.set_cons_zero, List.set_cons_succ]
          refine wpAnyH_ready (rs := [18]) (by kernel_rfl) (by simp) ?_
          refine AllReadyH.cons (by simp only [List.getElem?_toArray, List.getElem?_cons_zero, List.getElem?_cons_succ]; rfl) (fun K hK => ?_) ?_
          · go_simp
            refine hK.out _ _ ?_ (fun hHeld => ?_)
            · repeat (first | exact hHeld | exact HS.out | (refine SureS.alloc ?_ _) | (refine SureS.drew ?_) | (refine SureS.setCell ?_ _ _ (by show W.heap.size < _; simp; try omega)))
            clear hK K
            try simp only [Act.put, List.setIfInBounds_toArray, List.set_cons_zero, List.set_cons_succ]
            refine wpAnyH_ready (rs := [19]) (by kernel_rfl) (by simp) ?_
            refine AllReadyH.cons (by simp only [List.getElem?_toArray, List.getElem?_cons_zero, List.getElem?_cons_succ]; rfl) (fun K hK => ?_) ?_
            · go_simp
              refine hK.out _ _ ?_ (fun hHeld => ?_)
              · repeat (first | exact hHeld | exact HS.out | (refine SureS.alloc ?_ _) | (refine SureS.drew ?_) | (refine SureS.setCell ?_ _ _ (by show W.heap.size < _; simp; try omega)))
              clear hK K
              try simp only [Act.put, List.setIfInBounds_toArray, List.set_cons_zero, List.set_cons_succ]
              refine wpAnyH_ready (rs := [20]) (by kernel_rfl) (by simp) ?_
              refine AllReadyH.cons (by simp only [List.getElem?_toArray, List.getElem?_cons_zero, List.getElem?_cons_succ]; rfl) (fun K hK => ?_) ?_
              · go_simp
                refine hK.out _ _ ?_ (fun hHeld => ?_)
                · repeat (first | exact hHeld | exact HS.out | (refine SureS.alloc ?_ _) | (refine SureS.drew ?_) | (refine SureS.setCell ?_ _ _ (by show W.heap.size < _; simp; try omega)))
                clear hK K
                try simp only [Act.put, List.setIfInBounds_toArray, List.set_cons_zero, List.set_cons_succ]
                refine wpAnyH_done (by kernel_rfl) ?_ _
                go_wp2_with fail
                go_meet
                refine ⟨_, _, _, rfl, rfl, rfl, by omega, by omega, by omega, ⟨?_, ?_, ?_, ?_⟩, ⟨?_, ?_, ?_, ?_⟩, ⟨?_, ?_, ?_, ?_⟩, hHeld.box, ⟨?_, ?_, ?_, ?_⟩, fun o => ?_, hHeld.bel⟩
                all_goals first | (simp [go_sem]; done) | (simp [go_sem]; omega) | skip
              exact AllReadyH.nil
            exact AllReadyH.nil
          exact AllReadyH.nil
        exact AllReadyH.nil
      exact AllReadyH.nil
    refine AllReadyH.cons (by simp only [List.getElem?_toArray, List.getElem?_cons_zero, List.getElem?_cons_succ]; rfl) (fun K hK => ?_) ?_
    · go_simp
      refine hK.out _ _ ?_ (fun hHeld => ?_)
      · repeat (first | exact hHeld | exact HS.out | (refine SureS.alloc ?_ _) | (refine SureS.drew ?_) | (refine SureS.setCell ?_ _ _ (by show W.heap.size < _; simp; try omega)))
      clear hK K
      try simp only [Act.put, List.setIfInBounds_toArray, List.set_cons_zero, List.set_cons_succ]
      refine wpAnyH_ready (rs := [15, 17]) (by kernel_rfl) (by simp) ?_
      refine AllReadyH.cons (by simp only [List.getElem?_toArray, List.getElem?_cons_zero, List.getElem?_cons_succ]; rfl) (fun K hK => ?_) ?_
      · go_simp
        refine hK.out _ _ ?_ (fun hHeld => ?_)
        · repeat (first | exact hHeld | exact HS.out | (refine SureS.alloc ?_ _) | (refine SureS.drew ?_) | (refine SureS.setCell ?_ _ _ (by show W.heap.size < _; simp; try omega)))
        clear hK K
        try simp only [Act.put, List.setIfInBounds_toArray, List.set_cons_zero, List.set_cons_succ]
        refine wpAnyH_ready (rs := [17]) (by kernel_rfl) (by simp) ?_
        refine AllReadyH.cons (by simp only [List.getElem?_toArray, List.getElem?_cons_zero, List.getElem?_cons_succ]; rfl) (fun K hK => ?_) ?_
        · go_simp
          refine hK.out _ _ ?_ (fun hHeld => ?_)
          · repeat (first | exact hHeld | exact HS.out | (refine SureS.alloc ?_ _) | (refine SureS.drew ?_) | (refine SureS.setCell ?_ _ _ (by show W.heap.size < _; simp; try omega)))
          clear hK K
          try simp only [Act.put, List.setIfInBounds_toArray, List.set_cons_zero, List.set_cons_succ]
          refine wpAnyH_ready (rs := [18]) (by kernel_rfl) (by simp) ?_
          refine AllReadyH.cons (by simp only [List.getElem?_toArray, List.getElem?_cons_zero, List.getElem?_cons_succ]; rfl) (fun K hK => ?_) ?_
          · go_simp
            refine hK.out _ _ ?_ (fun hHeld => ?_)
            · repeat (first | exact hHeld | exact HS.out | (refine SureS.alloc ?_ _) | (refine SureS.drew ?_) | (refine SureS.setCell ?_ _ _ (by show W.heap.size < _; simp; try omega)))
            clear hK K
            try simp only [Act.put, List.setIfInBounds_toArray, List.set_cons_zero, List.set_cons_succ]
            refine wpAnyH_ready (rs := [19]) (by kernel_rfl) (by simp) ?_
            refine AllReadyH.cons (by simp only [List.getElem?_toArray, List.getElem?_cons_zero, List.getElem?_cons_succ]; rfl) (fun K hK => ?_) ?_
            · go_simp
              refine hK.out _ _ ?_ (fun hHeld => ?_)
              · repeat (first | exact hHeld | exact HS.out | (refine SureS.alloc ?_ _) | (refine SureS.drew ?_) | (refine SureS.setCell ?_ _ _ (by show W.heap.size < _; simp; try omega)))
              clear hK K
              try simp only [Act.put, List.setIfInBounds_toArray, List.set_cons_zero, List.set_cons_succ]
              refine wpAnyH_ready (rs := [20]) (by kernel_rfl) (by simp) ?_
              refine AllReadyH.cons (by simp only [List.getElem?_toArray, List.getElem?_cons_zero, List.getElem?_cons_succ]; rfl) (fun K hK => ?_) ?_
              · go_simp
                refine hK.out _ _ ?_ (fun hHeld => ?_)
                · repeat (first | exact hHeld | exact HS.out | (refine SureS.alloc ?_ _) | (refine SureS.drew ?_) | (refine SureS.setCell ?_ _ _ (by show W.heap.size < _; simp; try omega)))
                clear hK K
                try simp only [Act.put, List.setIfInBounds_toArray, List.set_cons_zero, List.set_cons_succ]
                refine wpAnyH_done (by kernel_rfl) ?_ _
                go_wp2_with fail
                go_meet
                refine ⟨_, _, _, rfl, rfl, rfl, by omega, by omega, by omega, ⟨?_, ?_, ?_, ?_⟩, ⟨?_, ?_, ?_, ?_⟩, ⟨?_, ?_, ?_, ?_⟩, hHeld.box, ⟨?_, ?_, ?_, ?_⟩, fun o => ?_, hHeld.bel⟩
                all_goals first | (simp [go_sem]; done) | (simp [go_sem]; omega) | skip
              exact AllReadyH.nil
            exact AllReadyH.nil
          exact AllReadyH.nil
        exact AllReadyH.nil
      refine AllReadyH.cons (by simp only [List.getElem?_toArray, List.getElem?_cons_zero, List.getElem?_cons_succ]; rfl) (fun K hK => ?_) ?_
      · go_simp
        refine hK.out _ _ ?_ (fun hHeld => ?_)
        · repeat (first | exact hHeld | exact HS.out | (refine SureS.alloc ?_ _) | (refine SureS.drew ?_) | (refine SureS.setCell ?_ _ _ (by show W.heap.size < _; simp; try omega)))
        clear hK K
        try simp only [Act.put, List.setIfInBounds_toArray, List.set_cons_zero, List.set_cons_succ]
        refine wpAnyH_ready (rs := [15]) (by kernel_rfl) (by simp) ?_
        refine AllReadyH.cons (by simp only [List.getElem?_toArray, List.getElem?_cons_zero, List.getElem?_cons_succ]; rfl) (fun K hK => ?_) ?_
        · go_simp
          refine hK.out _ _ ?_ (fun hHeld => ?_)
          · repeat (first | exact hHeld | exact HS.out | (refine SureS.alloc ?_ _) | (refine SureS.drew ?_) | (refine SureS.setCell ?_ _ _ (by show W.heap.size < _; simp; try omega)))
          clear hK K
          try simp only [Act.put, List.setIfInBounds_toArray, List.set_cons_zero, List.set_cons_succ]
          refine wpAnyH_ready (rs := [18]) (by kernel_rfl) (by simp) ?_
          refine AllReadyH.cons (by simp only [List.getElem?_toArray, List.getElem?_cons_zero, List.getElem?_cons_succ]; rfl) (fun K hK => ?_) ?_
          · go_simp
            refine hK.out _ _ ?_ (fun hHeld => ?_)
            · repeat (first | exact hHeld | exact HS.out | (refine SureS.alloc ?_ _) | (refine SureS.drew ?_) | (refine SureS.setCell ?_ _ _ (by show W.heap.size < _; simp; try omega)))
            clear hK K
            try simp only [Act.put, List.setIfInBounds_toArray, List.set_cons_zero, List.set_cons_succ]
            refine wpAnyH_ready (rs := [19]) (by kernel_rfl) (by simp) ?_
            refine AllReadyH.cons (by simp only [List.getElem?_toArray, List.getElem?_cons_zero, List.getElem?_cons_succ]; rfl) (fun K hK => ?_) ?_
            · go_simp
              refine hK.out _ _ ?_ (fun hHeld => ?_)
              · repeat (first | exact hHeld | exact HS.out | (refine SureS.alloc ?_ _) | (refine SureS.drew ?_) | (refine SureS.setCell ?_ _ _ (by show W.heap.size < _; simp; try omega)))
              clear hK K
              try simp only [Act.put, List.setIfInBounds_toArray, List.set_cons_zero, List.set_cons_succ]
              refine wpAnyH_ready (rs := [20]) (by kernel_rfl) (by simp) ?_
              refine AllReadyH.cons (by simp only [List.getElem?_toArray, List.getElem?_cons_zero, List.getElem?_cons_succ]; rfl) (fun K hK => ?_) ?_
              · go_simp
                refine hK.out _ _ ?_ (fun hHeld => ?_)
                · repeat (first | exact hHeld | exact HS.out | (refine SureS.alloc ?_ _) | (refine SureS.drew ?_) | (refine SureS.setCell ?_ _ _ (by show W.heap.size < _; simp; try omega)))
                clear hK K
                try simp only [Act.put, List.setIfInBounds_toArray, List.set_cons_zero, List.set_cons_succ]
                refine wpAnyH_done (by kernel_rfl) ?_ _
                go_wp2_with fail
                go_meet
                refine ⟨_, _, _, rfl, rfl, rfl, by omega, by omega, by omega, ⟨?_, ?_, ?_, ?_⟩, ⟨?_, ?_, ?_, ?_⟩, ⟨?_, ?_, ?_, ?_⟩, hHeld.box, ⟨?_, ?_, ?_, ?_⟩, fun o => ?_, hHeld.bel⟩
                all_goals first | (simp [go_sem]; done) | (simp [go_sem]; omega) | skip
              exact AllReadyH.nil
            exact AllReadyH.nil
          exact AllReadyH.nil
        exact AllReadyH.nil
      exact AllReadyH.nil
    refine AllReadyH.cons (by simp only [List.getElem?_toArray, List.getElem?_cons_zero, List.getElem?_cons_succ]; rfl) (fun K hK => ?_) ?_
    · go_simp
      refine hK.out _ _ ?_ (fun hHeld => ?_)
      · repeat (first | exact hHeld | exact HS.out | (refine SureS.alloc ?_ _) | (refine SureS.drew ?_) | (refine SureS.setCell ?_ _ _ (by show W.heap.size < _; simp; try omega)))
      clear hK K
      try simp only [Act.put, List.setIfInBounds_toArray, List.set_cons_zero, List.set_cons_succ]
      refine wpAnyH_ready (rs := [15, 16]) (by kernel_rfl) (by simp) ?_
      refine AllReadyH.cons (by simp only [List.getElem?_toArray, List.getElem?_cons_zero, List.getElem?_cons_succ]; rfl) (fun K hK => ?_) ?_
      · go_simp
        refine hK.out _ _ ?_ (fun hHeld => ?_)
        · repeat (first | exact hHeld | exact HS.out | (refine SureS.alloc ?_ _) | (refine SureS.drew ?_) | (refine SureS.setCell ?_ _ _ (by show W.heap.size < _; simp; try omega)))
        clear hK K
        try simp only [Act.put, List.setIfInBounds_toArray, List.set_cons_zero, List.set_cons_succ]
        refine wpAnyH_ready (rs := [16]) (by kernel_rfl) (by simp) ?_
        refine AllReadyH.cons (by simp only [List.getElem?_toArray, List.getElem?_cons_zero, List.getElem?_cons_succ]; rfl) (fun K hK => ?_) ?_
        · go_simp
          refine hK.out _ _ ?_ (fun hHeld => ?_)
          · repeat (first | exact hHeld | exact HS.out | (refine SureS.alloc ?_ _) | (refine SureS.drew ?_) | (refine SureS.setCell ?_ _ _ (by show W.heap.size < _; simp; try omega)))
          clear hK K
          try simp only [Act.put, List.setIfInBounds_toArray, List.set_cons_zero, List.set_cons_succ]
          refine wpAnyH_ready (rs := [18]) (by kernel_rfl) (by simp) ?_
          refine AllReadyH.cons (by simp only [List.getElem?_toArray, List.getElem?_cons_zero, List.getElem?_cons_succ]; rfl) (fun K hK => ?_) ?_
          · go_simp
            refine hK.out _ _ ?_ (fun hHeld => ?_)
            · repeat (first | exact hHeld | exact HS.out | (refine SureS.alloc ?_ _) | (refine SureS.drew ?_) | (refine SureS.setCell ?_ _ _ (by show W.heap.size < _; simp; try omega)))
            clear hK K
            try simp only [Act.put, List.setIfInBounds_toArray, List.set_cons_zero, List.set_cons_succ]
            refine wpAnyH_ready (rs := [19]) (by kernel_rfl) (by simp) ?_
            refine AllReadyH.cons (by simp only [List.getElem?_toArray, List.getElem?_cons_zero, List.getElem?_cons_succ]; rfl) (fun K hK => ?_) ?_
            · go_simp
              refine hK.out _ _ ?_ (fun hHeld => ?_)
              · repeat (first | exact hHeld | exact HS.out | (refine SureS.alloc ?_ _) | (refine SureS.drew ?_) | (refine SureS.setCell ?_ _ _ (by show W.heap.size < _; simp; try omega)))
              clear hK K
              try simp only [Act.put, List.setIfInBounds_toArray, List.set_cons_zero, List.set_cons_succ]
              refine wpAnyH_ready (rs := [20]) (by kernel_rfl) (by simp) ?_
              refine AllReadyH.cons (by simp only [List.getElem?_toArray, List.getElem?_cons_zero, List.getElem?_cons_succ]; rfl) (fun K hK => ?_) ?_
              · go_simp
                refine hK.out _ _ ?_ (fun hHeld => ?_)
                · repeat (first | exact hHeld | exact HS.out | (refine SureS.alloc ?_ _) | (refine SureS.drew ?_) | (refine SureS.setCell ?_ _ _ (by show W.heap.size < _; simp; try omega)))
                clear hK K
                try simp only [Act.put, List.setIfInBounds_toArray, List.set_cons_zero, List.set_cons_succ]
                refine wpAnyH_done (by kernel_rfl) ?_ _
                go_wp2_with fail
                go_meet
                refine ⟨_, _, _, rfl, rfl, rfl, by omega, by omega, by omega, ⟨?_, ?_, ?_, ?_⟩, ⟨?_, ?_, ?_, ?_⟩, ⟨?_, ?_, ?_, ?_⟩, hHeld.box, ⟨?_, ?_, ?_, ?_⟩, fun o => ?_, hHeld.bel⟩
                all_goals first | (simp [go_sem]; done) | (simp [go_sem]; omega) | skip
              exact AllReadyH.nil
            exact AllReadyH.nil
          exact AllReadyH.nil
        exact AllReadyH.nil
      refine AllReadyH.cons (by simp only [List.getElem?_toArray, List.getElem?_cons_zero, List.getElem?_cons_succ]; rfl) (fun K hK => ?_) ?_
      · go_simp
        refine hK.out _ _ ?_ (fun hHeld => ?_)
        · repeat (first | exact hHeld | exact HS.out | (refine SureS.alloc ?_ _) | (refine SureS.drew ?_) | (refine SureS.setCell ?_ _ _ (by show W.heap.size < _; simp; try omega)))
        clear hK K
        try simp only [Act.put, List.setIfInBounds_toArray, List.set_cons_zero, List.set_cons_succ]
        refine wpAnyH_ready (rs := [15]) (by kernel_rfl) (by simp) ?_
        refine AllReadyH.cons (by simp only [List.getElem?_toArray, List.getElem?_cons_zero, List.getElem?_cons_succ]; rfl) (fun K hK => ?_) ?_
        · go_simp
          refine hK.out _ _ ?_ (fun hHeld => ?_)
          · repeat (first | exact hHeld | exact HS.out | (refine SureS.alloc ?_ _) | (refine SureS.drew ?_) | (refine SureS.setCell ?_ _ _ (by show W.heap.size < _; simp; try omega)))
          clear hK K
          try simp only [Act.put, List.setIfInBounds_toArray, List.set_cons_zero, List.set_cons_succ]
          refine wpAnyH_ready (rs := [18]) (by kernel_rfl) (by simp) ?_
          refine AllReadyH.cons (by simp only [List.getElem?_toArray, List.getElem?_cons_zero, List.getElem?_cons_succ]; rfl) (fun K hK => ?_) ?_
          · go_simp
            refine hK.out _ _ ?_ (fun hHeld => ?_)
            · repeat (first | exact hHeld | exact HS.out | (refine SureS.alloc ?_ _) | (refine SureS.drew ?_) | (refine SureS.setCell ?_ _ _ (by show W.heap.size < _; simp; try omega)))
            clear hK K
            try simp only [Act.put, List.setIfInBounds_toArray, List.set_cons_zero, List.set_cons_succ]
            refine wpAnyH_ready (rs := [19]) (by kernel_rfl) (by simp) ?_
            refine AllReadyH.cons (by simp only [List.getElem?_toArray, List.getElem?_cons_zero, List.getElem?_cons_succ]; rfl) (fun K hK => ?_) ?_
            · go_simp
              refine hK.out _ _ ?_ (fun hHeld => ?_)
              · repeat (first | exact hHeld | exact HS.out | (refine SureS.alloc ?_ _) | (refine SureS.drew ?_) | (refine SureS.setCell ?_ _ _ (by show W.heap.size < _; simp; try omega)))
              clear hK K
              try simp only [Act.put, List.setIfInBounds_toArray, List.set_cons_zero, List.set_cons_succ]
              refine wpAnyH_ready (rs := [20]) (by kernel_rfl) (by simp) ?_
              refine AllReadyH.cons (by simp only [List.getElem?_toArray, List.getElem?_cons_zero, List.getElem?_cons_succ]; rfl) (fun K hK => ?_) ?_
              · go_simp
                refine hK.out _ _ ?_ (fun hHeld => ?_)
                · repeat (first | exact hHeld | exact HS.out | (refine SureS.alloc ?_ _) | (refine SureS.drew ?_) | (refine SureS.setCell ?_ _ _ (by show W.heap.size < _; simp; try omega)))
                clear hK K
                try simp only [Act.put, List.setIfInBounds_toArray, List.set_cons_zero, List.set_cons_succ]
                refine wpAnyH_done (by kernel_rfl) ?_ _
                go_wp2_with fail
                go_meet
                refine ⟨_, _, _, rfl, rfl, rfl, by omega, by omega, by omega, ⟨?_, ?_, ?_, ?_⟩, ⟨?_, ?_, ?_, ?_⟩, ⟨?_, ?_, ?_, ?_⟩, hHeld.box, ⟨?_, ?_, ?_, ?_⟩, fun o => ?_, hHeld.bel⟩
                all_goals first | (simp [go_sem]; done) | (simp [go_sem]; omega) | skip
              exact AllReadyH.nil
            exact AllReadyH.nil
          exact AllReadyH.nil
        exact AllReadyH.nil
      exact AllReadyH.nil
    exact AllReadyH.nil

  case rest =>
    obtain ⟨g, h, i, rfl, rfl, rfl, lg, lh, li, ⟨pg, pg0, pg1, pg2⟩, ⟨ph, ph0, ph1, ph2⟩, ⟨pi, pi0, pi1, pi2⟩, bx, ⟨pr, pr0, pr1, pr2⟩, fr, hbel⟩ := hcut
    have HR := Lib.hid (⟨bx, pr0, pr1, pr2, fr, pr, hbel⟩ : SureR W _ _ _ _ _ _ _ wc)
    have f0 := fr 0
    have f1 := fr 1
    have f2 := fr 2
    unfold At7 at bx
    have HM0 := Lib.hid ((⟨bx, ⟨pg, pg0, pg1, pg2⟩, ⟨ph, ph0, ph1, ph2⟩⟩ : SureM W g h _ _ _ _ _ _ _ _ _ _ _ _ _ wc).call (Below.refl _ _).drew)
    have HRD := Lib.hid (HR.out.call (Below.refl _ _).drew)
    go_wp2_with fail
    refine wp_region_held_drew (S := SureM W g h _ _ _ _ _ _ _ _ _ _ _ _ _) (by kernel_rfl) HM0.out (fun hHeld => ?_)
    refine wpAnyH_take (i := 0) (v := .pointer (some ⟨W.heap.size, 1, none⟩)) (by simp only [List.getElem?_toArray, List.getElem?_cons_zero]; rfl) (by kernel_rfl) (by kernel_rfl) (by kernel_rfl) (by exact fun _ _ _ h => h) (Or.inl ⟨by rfl, ?_⟩) hHeld ?_
    · intro w' hSw
      obtain ⟨m0, m1, m2, m3, m4, m5, m6, m7⟩ := hSw.facts; have lW := hSw.box.lt; go_simp; try rfl
    simp only [Act.put, List.setIfInBounds_toArray, List.set_cons_zero, List.set_cons_succ]
    refine wpAnyH_take (i := 1) (v := .int .u8 ((w : Nat) : Int)) (by simp only [List.getElem?_toArray, List.getElem?_cons_zero, List.getElem?_cons_succ]; rfl) (by kernel_rfl) (by kernel_rfl) (by kernel_rfl) (by exact fun _ _ _ h => h) (Or.inl ⟨by rfl, ?_⟩) hHeld ?_
    · intro w' hSw
      obtain ⟨m0, m1, m2, m3, m4, m5, m6, m7⟩ := hSw.facts; have lW := hSw.box.lt; go_simp; try rfl
    simp only [Act.put, List.setIfInBounds_toArray, List.set_cons_zero, List.set_cons_succ]
    refine wpAnyH_take (i := 2) (v := .pointer (some ⟨g, 0, none⟩)) (by simp only [List.getElem?_toArray, List.getElem?_cons_zero, List.getElem?_cons_succ]; rfl) (by kernel_rfl) (by kernel_rfl) (by kernel_rfl) (by exact fun _ _ _ h => h) (Or.inl ⟨by rfl, ?_⟩) hHeld ?_
    · intro w' hSw
      obtain ⟨m0, m1, m2, m3, m4, m5, m6, m7⟩ := hSw.facts; have lW := hSw.box.lt; go_simp; try rfl
    simp only [Act.put, List.setIfInBounds_toArray, List.set_cons_zero, List.set_cons_succ]
    refine wpAnyH_take (i := 3) (v := .int .u8 ((w0 : Nat) : Int)) (by simp only [List.getElem?_toArray, List.getElem?_cons_zero, List.getElem?_cons_succ]; rfl) (by kernel_rfl) (by kernel_rfl) (by kernel_rfl) (by exact fun _ _ _ h => h) (Or.inl ⟨by rfl, ?_⟩) hHeld ?_
    · intro w' hSw
      obtain ⟨m0, m1, m2, m3, m4, m5, m6, m7⟩ := hSw.facts; have lW := hSw.box.lt; go_simp; try rfl
    simp only [Act.put, List.setIfInBounds_toArray, List.set_cons_zero, List.set_cons_succ]
    refine wpAnyH_take (i := 4) (v := .pointer (some ⟨g, 1, none⟩)) (by simp only [List.getElem?_toArray, List.getElem?_cons_zero, List.getElem?_cons_succ]; rfl) (by kernel_rfl) (by kernel_rfl) (by kernel_rfl) (by exact fun _ _ _ h => h) (Or.inl ⟨by rfl, ?_⟩) hHeld ?_
    · intro w' hSw
      obtain ⟨m0, m1, m2, m3, m4, m5, m6, m7⟩ := hSw.facts; have lW := hSw.box.lt; go_simp; try rfl
    simp only [Act.put, List.setIfInBounds_toArray, List.set_cons_zero, List.set_cons_succ]
    refine wpAnyH_take (i := 5) (v := .int .u64 ((z0 : Nat) : Int)) (by simp only [List.getElem?_toArray, List.getElem?_cons_zero, List.getElem?_cons_succ]; rfl) (by kernel_rfl) (by kernel_rfl) (by kernel_rfl) (by exact fun _ _ _ h => h) (Or.inl ⟨by rfl, ?_⟩) hHeld ?_
    · intro w' hSw
      obtain ⟨m0, m1, m2, m3, m4, m5, m6, m7⟩ := hSw.facts; have lW := hSw.box.lt; go_simp; try rfl
    simp only [Act.put, List.setIfInBounds_toArray, List.set_cons_zero, List.set_cons_succ]
    refine wpAnyH_take (i := 8) (v := .pointer (some ⟨g, 0, none⟩)) (by simp only [List.getElem?_toArray, List.getElem?_cons_zero, List.getElem?_cons_succ]; rfl) (by kernel_rfl) (by kernel_rfl) (by kernel_rfl) (by exact fun _ _ _ h => h) (Or.inl ⟨by rfl, ?_⟩) hHeld ?_
    · intro w' hSw
      obtain ⟨m0, m1, m2, m3, m4, m5, m6, m7⟩ := hSw.facts; have lW := hSw.box.lt; go_simp; try rfl
    simp only [Act.put, List.setIfInBounds_toArray, List.set_cons_zero, List.set_cons_succ]
    refine wpAnyH_take (i := 9) (v := .int .u8 ((w0 : Nat) : Int)) (by simp only [List.getElem?_toArray, List.getElem?_cons_zero, List.getElem?_cons_succ]; rfl) (by kernel_rfl) (by kernel_rfl) (by kernel_rfl) (by exact fun _ _ _ h => h) (Or.inl ⟨by rfl, ?_⟩) hHeld ?_
    · intro w' hSw
      obtain ⟨m0, m1, m2, m3, m4, m5, m6, m7⟩ := hSw.facts; have lW := hSw.box.lt; go_simp; try rfl
    simp only [Act.put, List.setIfInBounds_toArray, List.set_cons_zero, List.set_cons_succ]
    refine wpAnyH_take (i := 10) (v := .pointer (some ⟨g, 2, none⟩)) (by simp only [List.getElem?_toArray, List.getElem?_cons_zero, List.getElem?_cons_succ]; rfl) (by kernel_rfl) (by kernel_rfl) (by kernel_rfl) (by exact fun _ _ _ h => h) (Or.inl ⟨by rfl, ?_⟩) hHeld ?_
    · intro w' hSw
      obtain ⟨m0, m1, m2, m3, m4, m5, m6, m7⟩ := hSw.facts; have lW := hSw.box.lt; go_simp; try rfl
    simp only [Act.put, List.setIfInBounds_toArray, List.set_cons_zero, List.set_cons_succ]
    refine wpAnyH_take (i := 11) (v := .int .u64 ((o0 : Nat) : Int)) (by simp only [List.getElem?_toArray, List.getElem?_cons_zero, List.getElem?_cons_succ]; rfl) (by kernel_rfl) (by kernel_rfl) (by kernel_rfl) (by exact fun _ _ _ h => h) (Or.inl ⟨by rfl, ?_⟩) hHeld ?_
    · intro w' hSw
      obtain ⟨m0, m1, m2, m3, m4, m5, m6, m7⟩ := hSw.facts; have lW := hSw.box.lt; go_simp; try rfl
    simp only [Act.put, List.setIfInBounds_toArray, List.set_cons_zero, List.set_cons_succ]
    refine wpAnyH_ready (rs := [6]) (by kernel_rfl) (by simp) ?_
    refine AllReadyH.cons (by simp only [List.getElem?_toArray, List.getElem?_cons_zero, List.getElem?_cons_succ]; rfl) (fun K hK => ?_) AllReadyH.nil
    go_simp
    go_at_call 34; refine (HM.out _).mono ?_; rintro e w' ⟨rfl, rfl⟩
    refine hK.out _ _ hHeld (fun hHeld => ?_)
    clear hK K
    try simp only [Act.put, List.setIfInBounds_toArray, List.set_cons_zero, List.set_cons_succ]
    refine wpAnyH_take (i := 7) (v := .int .u64 (IntKind.u64.wrap (wo w0 z0))) (by simp only [List.getElem?_toArray, List.getElem?_cons_zero, List.getElem?_cons_succ]; rfl) (by kernel_rfl) (by kernel_rfl) (by kernel_rfl) (by exact fun _ _ _ h => h) (Or.inl ⟨by rfl, ?_⟩) hHeld ?_
    · intro w' hSw
      obtain ⟨m0, m1, m2, m3, m4, m5, m6, m7⟩ := hSw.facts; have lW := hSw.box.lt; go_simp; try rfl
    simp only [Act.put, List.setIfInBounds_toArray, List.set_cons_zero, List.set_cons_succ]
    refine wpAnyH_ready (rs := [12]) (by kernel_rfl) (by simp) ?_
    refine AllReadyH.cons (by simp only [List.getElem?_toArray, List.getElem?_cons_zero, List.getElem?_cons_succ]; rfl) (fun K hK => ?_) AllReadyH.nil
    go_simp
    go_at_call 34; refine (HT.out _).mono ?_; rintro e w' ⟨rfl, rfl⟩
    refine hK.out _ _ hHeld (fun hHeld => ?_)
    clear hK K
    try simp only [Act.put, List.setIfInBounds_toArray, List.set_cons_zero, List.set_cons_succ]
    refine wpAnyH_take (i := 13) (v := .int .u64 (IntKind.u64.wrap (wo w0 o0))) (by simp only [List.getElem?_toArray, List.getElem?_cons_zero, List.getElem?_cons_succ]; rfl) (by kernel_rfl) (by kernel_rfl) (by kernel_rfl) (by exact fun _ _ _ h => h) (Or.inl ⟨by rfl, ?_⟩) hHeld ?_
    · intro w' hSw
      obtain ⟨m0, m1, m2, m3, m4, m5, m6, m7⟩ := hSw.facts; have lW := hSw.box.lt; go_simp; try rfl
    simp only [Act.put, List.setIfInBounds_toArray, List.set_cons_zero, List.set_cons_succ]
    refine wpAnyH_ready (rs := [14]) (by kernel_rfl) (by simp) ?_
    refine AllReadyH.cons (by simp only [List.getElem?_toArray, List.getElem?_cons_zero, List.getElem?_cons_succ]; rfl) (fun K hK => ?_) AllReadyH.nil
    go_simp
    go_at_call 30; refine (HC.out _ _ (EX.out _) (EX.out _) _).mono ?_; rintro e w5 ⟨rfl, hw5⟩
    have hb : Below wc.drew.heap.size wc.drew w5 := by rw [← hw5]; exact bel_alloc (Below.refl _ _) _
    have HR5 := Lib.hid (HRD.out.call hb)
    obtain ⟨b5, p50, p51, p52, f5, l5, bel5⟩ := HR5.out
    have f50 := f5 0
    have f51 := f5 1
    have f52 := f5 2
    refine hK.out _ _ (hHeld.call hb) (fun hHeld => ?_)
    clear hK K hb hw5
    try simp only [Act.put, List.setIfInBounds_toArray, List.set_cons_zero, List.set_cons_succ]
    refine wpAnyH_ready (rs := [15]) (by kernel_rfl) (by simp) ?_
    refine AllReadyH.cons (by simp only [List.getElem?_toArray, List.getElem?_cons_zero, List.getElem?_cons_succ]; rfl) (fun K hK => ?_) AllReadyH.nil
    go_simp
    refine hK.out _ _ (hHeld.set3 (by omega) (by omega)) (fun hHeld => ?_)
    clear hK K
    try simp only [Act.put, List.setIfInBounds_toArray, List.set_cons_zero, List.set_cons_succ]
    refine wpAnyH_done (by kernel_rfl) ?_ _
    go_wp2_with fail
    exact bodyPost_ret (v := .agg #[.int .u8 ((w : Nat) : Int), .int .u64 ((low w (numE 24 w0 z0) : Nat) : Int), .int .u64 ((low w (numE 24 w0 o0) : Nat) : Int)]) (by simp [results, Try.results17, go_sem, p50, p51, p52]) rfl ⟨rfl, ((bel5.setCell (by simp) _).setCell (by simp) _).setCell (by simp) _⟩

end Kn
end Go.Proofs.Ytbemkaninedonaa
