/-
  The masks of shifts by a number, each as a fact on one call.
-/
import Derived.Test.YtbemkaninedonaaKnSure
namespace Go.Proofs.Ytbemkaninedonaa
open Go.RowKit Go.Maps Bv Tm
namespace Kn
set_option maxHeartbeats 2000000
set_option maxRecDepth 100000

theorem sure_shl (w n l b : Nat) (k0 k1 k2 : Int) (w0 z0 o0 w1 z1 o1 w2 z2 o2 : Nat) (sp : Value) (W : World) (h1 : 1 ≤ w0) (h2 : w0 ≤ 64) (_hz0 : z0 < 18446744073709551616) (_ho0 : o0 < 18446744073709551616) (yw y0 y1 y2 yl : Int) (yn : Nat) (HN : Hid (∀ v, Below W.heap.size W v → Calls Try.prog 15 #[sp, .int .i64 k1] v fun e v' => e = .returned (.tuple #[.agg #[.int .u8 1, .int .u8 yw, .int .i64 y0, .int .i64 y1, .int .i64 y2, .int .u64 ((yn : Nat) : Int), .int .u8 yl], .int .i64 0]) ∧ Below v.heap.size v v')) (HL : Hid (LookK W b k0 k1 k2 w0 z0 o0 w1 z1 o1 w2 z2 o2)) :
    Calls Try.prog 17 #[sp, .agg #[.int .u8 15, .int .u8 ((w : Nat) : Int), .int .i64 k0, .int .i64 k1, .int .i64 k2, .int .u64 ((n : Nat) : Int), .int .u8 ((l : Nat) : Int)], .map (some b)] W fun e W' => e = .returned (.agg #[.int .u8 ((w0 : Nat) : Int), .int .u64 (((shK 15 w0 (z0, o0) yn).1 : Nat) : Int), .int .u64 (((shK 15 w0 (z0, o0) yn).2 : Nat) : Int)]) ∧ Below W.heap.size W W' := by
  have HS : Hid (SureS W b (.int .u8 15) (.int .u8 ((w : Nat) : Int)) (.int .u64 ((n : Nat) : Int)) (.int .u8 ((l : Nat) : Int)) k0 k1 k2 w0 z0 o0 w1 z1 o1 w2 z2 o2 ((W.alloc (.cells #[.int .u8 15, .int .u8 ((w : Nat) : Int), .int .i64 k0, .int .i64 k1, .int .i64 k2, .int .u64 ((n : Nat) : Int), .int .u8 ((l : Nat) : Int)] 57)).alloc (.cells #[.int .u8 0, .int .u64 0, .int .u64 0] 64))) :=
    SureS.alloc ⟨At7.new W _ _ _ _ _ _ _ _, HL.out.same (Below.heap_alloc _ _ _ HL.out.1) (by simp), bel_alloc (Below.refl _ _) _, HL.out.1⟩ _
  have HC := Lib.hid (fun W => kshl_any w0 z0 o0 yn h1 h2 W)
  go_enter Try.func17, Try.ntmps17
  go_upto_region 1 with fail
  go_cut [7, 8, 9] (fun s7 s8 s9 wx => ∃ g h i : Nat, s7 = .pointer (some ⟨g, 0, none⟩) ∧ s8 = .pointer (some ⟨h, 0, none⟩) ∧ s9 = .pointer (some ⟨i, 0, none⟩) ∧ W.heap.size + 1 < g ∧ W.heap.size + 1 < h ∧ W.heap.size + 1 < i ∧ At3 wx g (.int .u8 ((w0 : Nat) : Int)) (.int .u64 ((z0 : Nat) : Int)) (.int .u64 ((o0 : Nat) : Int)) ∧ At3 wx h (.int .u8 ((w1 : Nat) : Int)) (.int .u64 ((z1 : Nat) : Int)) (.int .u64 ((o1 : Nat) : Int)) ∧ At3 wx i (.int .u8 ((w2 : Nat) : Int)) (.int .u64 ((z2 : Nat) : Int)) (.int .u64 ((o2 : Nat) : Int)) ∧ At7 wx W.heap.size (.int .u8 15) (.int .u8 ((w : Nat) : Int)) (.int .i64 k0) (.int .i64 k1) (.int .i64 k2) (.int .u64 ((n : Nat) : Int)) (.int .u8 ((l : Nat) : Int)) ∧ At3 wx (W.heap.size + 1) (.int .u8 0) (.int .u64 0) (.int .u64 0) ∧ (∀ o, wx.frozen? ⟨W.heap.size + 1, o, none⟩ = false) ∧ Below W.heap.size W wx)
  case first =>
    refine wp_region_held_drew (S := fun w' => SureS W b (.int .u8 15) (.int .u8 ((w : Nat) : Int)) (.int .u64 ((n : Nat) : Int)) (.int .u8 ((l : Nat) : Int)) k0 k1 k2 w0 z0 o0 w1 z1 o1 w2 z2 o2 w') (by kernel_rfl) HS.out.drew (fun hHeld => ?_)
    refine wpAnyH_take (i := 0) (v := .map (some b)) (by simp only [List.getElem?_toArray, List.getElem?_cons_zero]; rfl) (by kernel_rfl) (by kernel_rfl) (by kernel_rfl) (by exact fun _ _ _ h => h) (Or.inl ⟨by rfl, ?_⟩) hHeld ?_
    · intro w' hSw
      go_simp
    simp only [Act.put, List.setIfInBounds_toArray, List.set_cons_zero, List.set_cons_succ]
    refine wpAnyH_take (i := 1) (v := .pointer (some ⟨W.heap.size, 2, none⟩)) (by simp only [List.getElem?_toArray, List.getElem?_cons_zero, List.getElem?_cons_succ]; rfl) (by kernel_rfl) (by kernel_rfl) (by kernel_rfl) (by exact fun _ _ _ h => h) (Or.inl ⟨by rfl, ?_⟩) hHeld ?_
    · intro w' hSw
      go_simp
    simp only [Act.put, List.setIfInBounds_toArray, List.set_cons_zero, List.set_cons_succ]
    refine wpAnyH_take (i := 2) (v := .pointer (some ⟨W.heap.size, 2, none⟩)) (by simp only [List.getElem?_toArray, List.getElem?_cons_zero, List.getElem?_cons_succ]; rfl) (by kernel_rfl) (by kernel_rfl) (by kernel_rfl) (by exact fun _ _ _ h => h) (Or.inl ⟨by rfl, ?_⟩) hHeld ?_
    · intro w' hSw
      go_simp
    simp only [Act.put, List.setIfInBounds_toArray, List.set_cons_zero, List.set_cons_succ]
    refine wpAnyH_take (i := 3) (v := .int .i64 k0) (by simp only [List.getElem?_toArray, List.getElem?_cons_zero, List.getElem?_cons_succ]; rfl) (by kernel_rfl) (by kernel_rfl) (by kernel_rfl) (by exact fun _ _ _ h => h) (Or.inl ⟨by rfl, ?_⟩) hHeld ?_
    · intro w' hSw
      obtain ⟨f0, f1, f2, f3, f4, f5, f6, f7, f8, f9⟩ := hSw.facts; have lW := hSw.box.lt; go_simp
    simp only [Act.put, List.setIfInBounds_toArray, List.set_cons_zero, List.set_cons_succ]
    refine wpAnyH_take (i := 4) (v := .agg #[.int .u8 ((w0 : Nat) : Int), .int .u64 ((z0 : Nat) : Int), .int .u64 ((o0 : Nat) : Int)]) (by simp only [List.getElem?_toArray, List.getElem?_cons_zero, List.getElem?_cons_succ]; rfl) (by kernel_rfl) (by kernel_rfl) (by kernel_rfl) (by exact fun _ _ _ h => h) (Or.inl ⟨by rfl, ?_⟩) hHeld ?_
    · intro w' hSw
      obtain ⟨f0, f1, f2, f3, f4, f5, f6, f7, f8, f9⟩ := hSw.facts; have lW := hSw.box.lt; go_simp
    simp only [Act.put, List.setIfInBounds_toArray, List.set_cons_zero, List.set_cons_succ]
    refine wpAnyH_take (i := 5) (v := .map (some b)) (by simp only [List.getElem?_toArray, List.getElem?_cons_zero, List.getElem?_cons_succ]; rfl) (by kernel_rfl) (by kernel_rfl) (by kernel_rfl) (by exact fun _ _ _ h => h) (Or.inl ⟨by rfl, ?_⟩) hHeld ?_
    · intro w' hSw
      go_simp
    simp only [Act.put, List.setIfInBounds_toArray, List.set_cons_zero, List.set_cons_succ]
    refine wpAnyH_take (i := 6) (v := .pointer (some ⟨W.heap.size, 2, none⟩)) (by simp only [List.getElem?_toArray, List.getElem?_cons_zero, List.getElem?_cons_succ]; rfl) (by kernel_rfl) (by kernel_rfl) (by kernel_rfl) (by exact fun _ _ _ h => h) (Or.inl ⟨by rfl, ?_⟩) hHeld ?_
    · intro w' hSw
      go_simp
    simp only [Act.put, List.setIfInBounds_toArray, List.set_cons_zero, List.set_cons_succ]
    refine wpAnyH_take (i := 7) (v := .pointer (some ⟨W.heap.size, 3, none⟩)) (by simp only [List.getElem?_toArray, List.getElem?_cons_zero, List.getElem?_cons_succ]; rfl) (by kernel_rfl) (by kernel_rfl) (by kernel_rfl) (by exact fun _ _ _ h => h) (Or.inl ⟨by rfl, ?_⟩) hHeld ?_
    · intro w' hSw
      go_simp
    simp only [Act.put, List.setIfInBounds_toArray, List.set_cons_zero, List.set_cons_succ]
    refine wpAnyH_take (i := 8) (v := .int .i64 k1) (by simp only [List.getElem?_toArray, List.getElem?_cons_zero, List.getElem?_cons_succ]; rfl) (by kernel_rfl) (by kernel_rfl) (by kernel_rfl) (by exact fun _ _ _ h => h) (Or.inl ⟨by rfl, ?_⟩) hHeld ?_
    · intro w' hSw
      obtain ⟨f0, f1, f2, f3, f4, f5, f6, f7, f8, f9⟩ := hSw.facts; have lW := hSw.box.lt; go_simp
    simp only [Act.put, List.setIfInBounds_toArray, List.set_cons_zero, List.set_cons_succ]
    refine wpAnyH_take (i := 9) (v := .agg #[.int .u8 ((w1 : Nat) : Int), .int .u64 ((z1 : Nat) : Int), .int .u64 ((o1 : Nat) : Int)]) (by simp only [List.getElem?_toArray, List.getElem?_cons_zero, List.getElem?_cons_succ]; rfl) (by kernel_rfl) (by kernel_rfl) (by kernel_rfl) (by exact fun _ _ _ h => h) (Or.inl ⟨by rfl, ?_⟩) hHeld ?_
    · intro w' hSw
      obtain ⟨f0, f1, f2, f3, f4, f5, f6, f7, f8, f9⟩ := hSw.facts; have lW := hSw.box.lt; go_simp
    simp only [Act.put, List.setIfInBounds_toArray, List.set_cons_zero, List.set_cons_succ]
    refine wpAnyH_take (i := 10) (v := .map (some b)) (by simp only [List.getElem?_toArray, List.getElem?_cons_zero, List.getElem?_cons_succ]; rfl) (by kernel_rfl) (by kernel_rfl) (by kernel_rfl) (by exact fun _ _ _ h => h) (Or.inl ⟨by rfl, ?_⟩) hHeld ?_
    · intro w' hSw
      go_simp
    simp only [Act.put, List.setIfInBounds_toArray, List.set_cons_zero, List.set_cons_succ]
    refine wpAnyH_take (i := 11) (v := .pointer (some ⟨W.heap.size, 2, none⟩)) (by simp only [List.getElem?_toArray, List.getElem?_cons_zero, List.getElem?_cons_succ]; rfl) (by kernel_rfl) (by kernel_rfl) (by kernel_rfl) (by exact fun _ _ _ h => h) (Or.inl ⟨by rfl, ?_⟩) hHeld ?_
    · intro w' hSw
      go_simp
    simp only [Act.put, List.setIfInBounds_toArray, List.set_cons_zero, List.set_cons_succ]
    refine wpAnyH_take (i := 12) (v := .pointer (some ⟨W.heap.size, 4, none⟩)) (by simp only [List.getElem?_toArray, List.getElem?_cons_zero, List.getElem?_cons_succ]; rfl) (by kernel_rfl) (by kernel_rfl) (by kernel_rfl) (by exact fun _ _ _ h => h) (Or.inl ⟨by rfl, ?_⟩) hHeld ?_
    · intro w' hSw
      go_simp
    simp only [Act.put, List.setIfInBounds_toArray, List.set_cons_zero, List.set_cons_succ]
    refine wpAnyH_take (i := 13) (v := .int .i64 k2) (by simp only [List.getElem?_toArray, List.getElem?_cons_zero, List.getElem?_cons_succ]; rfl) (by kernel_rfl) (by kernel_rfl) (by kernel_rfl) (by exact fun _ _ _ h => h) (Or.inl ⟨by rfl, ?_⟩) hHeld ?_
    · intro w' hSw
      obtain ⟨f0, f1, f2, f3, f4, f5, f6, f7, f8, f9⟩ := hSw.facts; have lW := hSw.box.lt; go_simp
    simp only [Act.put, List.setIfInBounds_toArray, List.set_cons_zero, List.set_cons_succ]
    refine wpAnyH_take (i := 14) (v := .agg #[.int .u8 ((w2 : Nat) : Int), .int .u64 ((z2 : Nat) : Int), .int .u64 ((o2 : Nat) : Int)]) (by simp only [List.getElem?_toArray, List.getElem?_cons_zero, List.getElem?_cons_succ]; rfl) (by kernel_rfl) (by kernel_rfl) (by kernel_rfl) (by exact fun _ _ _ h => h) (Or.inl ⟨by rfl, ?_⟩) hHeld ?_
    · intro w' hSw
      obtain ⟨f0, f1, f2, f3, f4, f5, f6, f7, f8, f9⟩ := hSw.facts; have lW := hSw.box.lt; go_simp
    simp only [Act.put, List.setIfInBounds_toArray, List.set_cons_zero, List.set_cons_succ]
    refine wpAnyH_ready (rs := [15, 16, 17]) (by kernel_rfl) (by simp) ?_
    refine AllReadyH.cons (by simp only [List.getElem?_toArray, List.getElem?_cons_zero, List.getElem?_cons_succ]; rfl) (fun K hK => ?_) ?_
    · go_simp
      refine hK.out _ _ ?_ (fun hHeld => ?_)
      · repeat (first | exact hHeld | exact HS.out | (refine SureS.alloc ?_ _) | (refine SureS.drew ?_) | (refine SureS.setCell ?_ _ _ (by show W.heap.size < _; simp; try omega)))
      clear hK K
      try simp only [Act.put, List.setIfInBounds_toArray, List.set_cons_zero, List.set_cons_succ]
      refine wpAnyH_ready (rs := [16, 17]) (by kernel_rfl) (by simp) ?_
      refine AllReadyH.cons (by simp only [List.getElem?_toArray, List.getElem?_cons_zero, List.getElem?_cons_succ]; rfl) (fun K hK => ?_) ?_
      · go_simp
        refine hK.out _ _ ?_ (fun hHeld => ?_)
        · repeat (first | exact hHeld | exact HS.out | (refine SureS.alloc ?_ _) | (refine SureS.drew ?_) | (refine SureS.setCell ?_ _ _ (by show W.heap.size < _; simp; try omega)))
        clear hK K
        try simp only [Act.put, List.setIfInBounds_toArray, List.set_cons_zero, List.set_cons_succ]
        refine wpAnyH_ready (rs := [17]) (by kernel_rfl) (by simp) ?_
        refine AllReadyH.cons (by simp only [List.getElem?_toArray, List.getElem?_cons_zero, List.getElem?_cons_succ]; rfl) (fun K hK => ?_) ?_
        · go_simp
          refine hK.out _ _ ?_ (fun hHeld => ?_)
          · repeat (first | exact hHeld | exact HS.out | (refine SureS.alloc ?_ _) | (refine SureS.drew ?_) | (refine SureS.setCell ?_ _ _ (by show W.heap.size < _; simp; try omega)))
          clear hK K
          try simp only [Act.put, List.setIfInBounds_toArray, List.set_cons_zero, List.set_cons_succ]
          refine wpAnyH_ready (rs := [18]) (by kernel_rfl) (by simp) ?_
          refine AllReadyH.cons (by simp only [List.getElem?_toArray, List.getElem?_cons_zero, List.getElem?_cons_succ]; rfl) (fun K hK => ?_) ?_
          · go_simp
            refine hK.out _ _ ?_ (fun hHeld => ?_)
            · repeat (first | exact hHeld | exact HS.out | (refine SureS.alloc ?_ _) | (refine SureS.drew ?_) | (refine SureS.setCell ?_ _ _ (by show W.heap.size < _; simp; try omega)))
            clear hK K
            try simp only [Act.put, List.setIfInBounds_toArray, List.set_cons_zero, List.set_cons_succ]
            refine wpAnyH_ready (rs := [19]) (by kernel_rfl) (by simp) ?_
            refine AllReadyH.cons (by simp only [List.getElem?_toArray, List.getElem?_cons_zero, List.getElem?_cons_succ]; rfl) (fun K hK => ?_) ?_
            · go_simp
              refine hK.out _ _ ?_ (fun hHeld => ?_)
              · repeat (first | exact hHeld | exact HS.out | (refine SureS.alloc ?_ _) | (refine SureS.drew ?_) | (refine SureS.setCell ?_ _ _ (by show W.heap.size < _; simp; try omega)))
              clear hK K
              try simp only [Act.put, List.setIfInBounds_toArray, List.set_cons_zero, List.set_cons_succ]
              refine wpAnyH_ready (rs := [20]) (by kernel_rfl) (by simp) ?_
              refine AllReadyH.cons (by simp only [List.getElem?_toArray, List.getElem?_cons_zero, List.getElem?_cons_succ]; rfl) (fun K hK => ?_) ?_
              · go_simp
                refine hK.out _ _ ?_ (fun hHeld => ?_)
                · repeat (first | exact hHeld | exact HS.out | (refine SureS.alloc ?_ _) | (refine SureS.drew ?_) | (refine SureS.setCell ?_ _ _ (by show W.heap.size < _; simp; try omega)))
                clear hK K
                try simp only [Act.put, List.setIfInBounds_toArray, List.set_cons_zero, List.set_cons_succ]
                refine wpAnyH_done (by kernel_rfl) ?_ _
                go_wp2_with fail
                go_meet
                refine ⟨_, _, _, rfl, rfl, rfl, by omega, by omega, by omega, ⟨?_, ?_, ?_, ?_⟩, ⟨?_, ?_, ?_, ?_⟩, ⟨?_, ?_, ?_, ?_⟩, hHeld.box, ⟨?_, ?_, ?_, ?_⟩, fun o => ?_, hHeld.bel⟩
                all_goals first | (simp [go_sem]; done) | (simp [go_sem]; omega) | skip
              exact AllReadyH.nil
            exact AllReadyH.nil
          exact AllReadyH.nil
        exact AllReadyH.nil
      refine AllReadyH.cons (by simp only [List.getElem?_toArray, List.getElem?_cons_zero, List.getElem?_cons_succ]; rfl) (fun K hK => ?_) ?_
      · go_simp
        refine hK.out _ _ ?_ (fun hHeld => ?_)
        · repeat (first | exact hHeld | exact HS.out | (refine SureS.alloc ?_ _) | (refine SureS.drew ?_) | (refine SureS.setCell ?_ _ _ (by show W.heap.size < _; simp; try omega)))
        clear hK K
        try simp only [Act.put, List.setIfInBounds_toArray, List.set_cons_zero, List.set_cons_succ]
        refine wpAnyH_ready (rs := [16]) (by kernel_rfl) (by simp) ?_
        refine AllReadyH.cons (by simp only [List.getElem?_toArray, List.getElem?_cons_zero, List.getElem?_cons_succ]; rfl) (fun K hK => ?_) ?_
        · go_simp
          refine hK.out _ _ ?_ (fun hHeld => ?_)
          · repeat (first | exact hHeld | exact HS.out | (refine SureS.alloc ?_ _) | (refine SureS.drew ?_) | (refine SureS.setCell ?_ _ _ (by show W.heap.size < _; simp; try omega)))
          clear hK K
          try simp only [Act.put, List.setIfInBounds_toArray, List.set_cons_zero, List.set_cons_succ]
          refine wpAnyH_ready (rs := [18]) (by kernel_rfl) (by simp) ?_
          refine AllReadyH.cons (by simp only [List.getElem?_toArray, List.getElem?_cons_zero, List.getElem?_cons_succ]; rfl) (fun K hK => ?_) ?_
          · go_simp
            refine hK.out _ _ ?_ (fun hHeld => ?_)
            · repeat (first | exact hHeld | exact HS.out | (refine SureS.alloc ?_ _) | (refine SureS.drew ?_) | (refine SureS.setCell ?_ _ _ (by show W.heap.size < _; simp; try omega)))
            clear hK K
            try simp only [Act.put, List.setIfInBounds_toArray, List.set_cons_zero, List.set_cons_succ]
            refine wpAnyH_ready (rs := [19]) (by kernel_rfl) (by simp) ?_
            refine AllReadyH.cons (by simp only [List.getElem?_toArray, List.getElem?_cons_zero, List.getElem?_cons_succ]; rfl) (fun K hK => ?_) ?_
            · go_simp
              refine hK.out _ _ ?_ (fun hHeld => ?_)
              · repeat (first | exact hHeld | exact HS.out | (refine SureS.alloc ?_ _) | (refine SureS.drew ?_) | (refine SureS.setCell ?_ _ _ (by show W.heap.size < _; simp; try omega)))
              clear hK K
              try simp only [Act.put, List.setIfInBounds_toArray, List.set_cons_zero, List.set_cons_succ]
              refine wpAnyH_ready (rs := [20]) (by kernel_rfl) (by simp) ?_
              refine AllReadyH.cons (by simp only [List.getElem?_toArray, List.getElem?_cons_zero, List.getElem?_cons_succ]; rfl) (fun K hK => ?_) ?_
              · go_simp
                refine hK.out _ _ ?_ (fun hHeld => ?_)
                · repeat (first | exact hHeld | exact HS.out | (refine SureS.alloc ?_ _) | (refine SureS.drew ?_) | (refine SureS.setCell ?_ _ _ (by show W.heap.size < _; simp; try omega)))
                clear hK K
                try simp only [Act.put, List.setIfInBounds_toArray, List.set_cons_zero, List.set_cons_succ]
                refine wpAnyH_done (by kernel_rfl) ?_ _
                go_wp2_with fail
                go_meet
                refine ⟨_, _, _, rfl, rfl, rfl, by omega, by omega, by omega, ⟨?_, ?_, ?_, ?_⟩, ⟨?_, ?_, ?_, ?_⟩, ⟨?_, ?_, ?_, ?_⟩, hHeld.box, ⟨?_, ?_, ?_, ?_⟩, fun o => ?_, hHeld.bel⟩
                all_goals first | (simp [go_sem]; done) | (simp [go_sem]; omega) | skip
              exact AllReadyH.nil
            exact AllReadyH.nil
          exact AllReadyH.nil
        exact AllReadyH.nil
      exact AllReadyH.nil
    refine AllReadyH.cons (by simp only [List.getElem?_toArray, List.getElem?_cons_zero, List.getElem?_cons_succ]; rfl) (fun K hK => ?_) ?_
    · go_simp
      refine hK.out _ _ ?_ (fun hHeld => ?_)
      · repeat (first | exact hHeld | exact HS.out | (refine SureS.alloc ?_ _) | (refine SureS.drew ?_) | (refine SureS.setCell ?_ _ _ (by show W.heap.size < _; simp; try omega)))
      clear hK K
      try simp only [Act.put, List.setIfInBounds_toArray, List.set_cons_zero, List.set_cons_succ]
      refine wpAnyH_ready (rs := [15, 17]) (by kernel_rfl) (by simp) ?_
      refine AllReadyH.cons (by simp only [List.getElem?_toArray, List.getElem?_cons_zero, List.getElem?_cons_succ]; rfl) (fun K hK => ?_) ?_
      · go_simp
        refine hK.out _ _ ?_ (fun hHeld => ?_)
        · repeat (first | exact hHeld | exact HS.out | (refine SureS.alloc ?_ _) | (refine SureS.drew ?_) | (refine SureS.setCell ?_ _ _ (by show W.heap.size < _; simp; try omega)))
        clear hK K
        try simp only [Act.put, List.setIfInBounds_toArray, List.set_cons_zero, List.set_cons_succ]
        refine wpAnyH_ready (rs := [17]) (by kernel_rfl) (by simp) ?_
        refine AllReadyH.cons (by simp only [List.getElem?_toArray, List.getElem?_cons_zero, List.getElem?_cons_succ]; rfl) (fun K hK => ?_) ?_
        · go_simp
          refine hK.out _ _ ?_ (fun hHeld => ?_)
          · repeat (first | exact hHeld | exact HS.out | (refine SureS.alloc ?_ _) | (refine SureS.drew ?_) | (refine SureS.setCell ?_ _ _ (by show W.heap.size < _; simp; try omega)))
          clear hK K
          try simp only [Act.put, List.setIfInBounds_toArray, List.set_cons_zero, List.set_cons_succ]
          refine wpAnyH_ready (rs := [18]) (by kernel_rfl) (by simp) ?_
          refine AllReadyH.cons (by simp only [List.getElem?_toArray, List.getElem?_cons_zero, List.getElem?_cons_succ]; rfl) (fun K hK => ?_) ?_
          · go_simp
            refine hK.out _ _ ?_ (fun hHeld => ?_)
            · repeat (first | exact hHeld | exact HS.out | (refine SureS.alloc ?_ _) | (refine SureS.drew ?_) | (refine SureS.setCell ?_ _ _ (by show W.heap.size < _; simp; try omega)))
            clear hK K
            try simp only [Act.put, List.setIfInBounds_toArray, List.set_cons_zero, List.set_cons_succ]
            refine wpAnyH_ready (rs := [19]) (by kernel_rfl) (by simp) ?_
            refine AllReadyH.cons (by simp only [List.getElem?_toArray, List.getElem?_cons_zero, List.getElem?_cons_succ]; rfl) (fun K hK => ?_) ?_
            · go_simp
              refine hK.out _ _ ?_ (fun hHeld => ?_)
              · repeat (first | exact hHeld | exact HS.out | (refine SureS.alloc ?_ _) | (refine SureS.drew ?_) | (refine SureS.setCell ?_ _ _ (by show W.heap.size < _; simp; try omega)))
              clear hK K
              try simp only [Act.put, List.setIfInBounds_toArray, List.set_cons_zero, List.set_cons_succ]
              refine wpAnyH_ready (rs := [20]) (by kernel_rfl) (by simp) ?_
              refine AllReadyH.cons (by simp only [List.getElem?_toArray, List.getElem?_cons_zero, List.getElem?_cons_succ]; rfl) (fun K hK => ?_) ?_
              · go_simp
                refine hK.out _ _ ?_ (fun hHeld => ?_)
                · repeat (first | exact hHeld | exact HS.out | (refine SureS.alloc ?_ _) | (refine SureS.drew ?_) | (refine SureS.setCell ?_ _ _ (by show W.heap.size < _; simp; try omega)))
                clear hK K
                try simp only [Act.put, List.setIfInBounds_toArray, List.set_cons_zero, List.set_cons_succ]
                refine wpAnyH_done (by kernel_rfl) ?_ _
                go_wp2_with fail
                go_meet
                refine ⟨_, _, _, rfl, rfl, rfl, by omega, by omega, by omega, ⟨?_, ?_, ?_, ?_⟩, ⟨?_, ?_, ?_, ?_⟩, ⟨?_, ?_, ?_, ?_⟩, hHeld.box, ⟨?_, ?_, ?_, ?_⟩, fun o => ?_, hHeld.bel⟩
                all_goals first | (simp [go_sem]; done) | (simp [go_sem]; omega) | skip
              exact AllReadyH.nil
            exact AllReadyH.nil
          exact AllReadyH.nil
        exact AllReadyH.nil
      refine AllReadyH.cons (by simp only [List.getElem?_toArray, List.getElem?_cons_zero, List.getElem?_cons_succ]; rfl) (fun K hK => ?_) ?_
      · go_simp
        refine hK.out _ _ ?_ (fun hHeld => ?_)
        · repeat (first | exact hHeld | exact HS.out | (refine SureS.alloc ?_ _) | (refine SureS.drew ?_) | (refine SureS.setCell ?_ _ _ (by show W.heap.size < _; simp; try omega)))
        clear hK K
        try simp only [Act.put, List.setIfInBounds_toArray, List.set_cons_zero, List.set_cons_succ]
        refine wpAnyH_ready (rs := [15]) (by kernel_rfl) (by simp) ?_
        refine AllReadyH.cons (by simp only [List.getElem?_toArray, List.getElem?_cons_zero, List.getElem?_cons_succ]; rfl) (fun K hK => ?_) ?_
        · go_simp
          refine hK.out _ _ ?_ (fun hHeld => ?_)
          · repeat (first | exact hHeld | exact HS.out | (refine SureS.alloc ?_ _) | (refine SureS.drew ?_) | (refine SureS.setCell ?_ _ _ (by show W.heap.size < _; simp; try omega)))
          clear hK K
          try simp only [Act.put, List.setIfInBounds_toArray, List.set_cons_zero, List.set_cons_succ]
          refine wpAnyH_ready (rs := [18]) (by kernel_rfl) (by simp) ?_
          refine AllReadyH.cons (by simp only [List.getElem?_toArray, List.getElem?_cons_zero, List.getElem?_cons_succ]; rfl) (fun K hK => ?_) ?_
          · go_simp
            refine hK.out _ _ ?_ (fun hHeld => ?_)
            · repeat (first | exact hHeld | exact HS.out | (refine SureS.alloc ?_ _) | (refine SureS.drew ?_) | (refine SureS.setCell ?_ _ _ (by show W.heap.size < _; simp; try omega)))
            clear hK K
            try simp only [Act.put, List.setIfInBounds_toArray, List.set_cons_zero, List.set_cons_succ]
            refine wpAnyH_ready (rs := [19]) (by kernel_rfl) (by simp) ?_
            refine AllReadyH.cons (by simp only [List.getElem?_toArray, List.getElem?_cons_zero, List.getElem?_cons_succ]; rfl) (fun K hK => ?_) ?_
            · go_simp
              refine hK.out _ _ ?_ (fun hHeld => ?_)
              · repeat (first | exact hHeld | exact HS.out | (refine SureS.alloc ?_ _) | (refine SureS.drew ?_) | (refine SureS.setCell ?_ _ _ (by show W.heap.size < _; simp; try omega)))
              clear hK K
              try simp only [Act.put, List.setIfInBounds_toArray, List.set_cons_zero, List.set_cons_succ]
              refine wpAnyH_ready (rs := [20]) (by kernel_rfl) (by simp) ?_
              refine AllReadyH.cons (by simp only [List.getElem?_toArray, List.getElem?_cons_zero, List.getElem?_cons_succ]; rfl) (fun K hK => ?_) ?_
              · go_simp
                refine hK.out _ _ ?_ (fun hHeld => ?_)
                · repeat (first | exact hHeld | exact HS.out | (refine SureS.alloc ?_ _) | (refine SureS.drew ?_) | (refine SureS.setCell ?_ _ _ (by show W.heap.size < _; simp; try omega)))
                clear hK K
                try simp only [Act.put, List.setIfInBounds_toArray, List.set_cons_zero, List.set_cons_succ]
                refine wpAnyH_done (by kernel_rfl) ?_ _
                go_wp2_with fail
                go_meet
                refine ⟨_, _, _, rfl, rfl, rfl, by omega, by omega, by omega, ⟨?_, ?_, ?_, ?_⟩, ⟨?_, ?_, ?_, ?_⟩, ⟨?_, ?_, ?_, ?_⟩, hHeld.box, ⟨?_, ?_, ?_, ?_⟩, fun o => ?_, hHeld.bel⟩
                all_goals first | (simp [go_sem]; done) | (simp [go_sem]; omega) | skip
              exact AllReadyH.nil
            exact AllReadyH.nil
          exact AllReadyH.nil
        exact AllReadyH.nil
      exact AllReadyH.nil
    refine AllReadyH.cons (by simp only [List.getElem?_toArray, List.getElem?_cons_zero, List.getElem?_cons_succ]; rfl) (fun K hK => ?_) ?_
    · go_simp
      refine hK.out _ _ ?_ (fun hHeld => ?_)
      · repeat (first | exact hHeld | exact HS.out | (refine SureS.alloc ?_ _) | (refine SureS.drew ?_) | (refine SureS.setCell ?_ _ _ (by show W.heap.size < _; simp; try omega)))
      clear hK K
      try simp only [Act.put, List.setIfInBounds_toArray, List.set_cons_zero, List.set_cons_succ]
      refine wpAnyH_ready (rs := [15, 16]) (by kernel_rfl) (by simp) ?_
      refine AllReadyH.cons (by simp only [List.getElem?_toArray, List.getElem?_cons_zero, List.getElem?_cons_succ]; rfl) (fun K hK => ?_) ?_
      · go_simp
        refine hK.out _ _ ?_ (fun hHeld => ?_)
        · repeat (first | exact hHeld | exact HS.out | (refine SureS.alloc ?_ _) | (refine SureS.drew ?_) | (refine SureS.setCell ?_ _ _ (by show W.heap.size < _; simp; try omega)))
        clear hK K
        try simp only [Act.put, List.setIfInBounds_toArray, List.set_cons_zero, List.set_cons_succ]
        refine wpAnyH_ready (rs := [16]) (by kernel_rfl) (by simp) ?_
        refine AllReadyH.cons (by simp only [List.getElem?_toArray, List.getElem?_cons_zero, List.getElem?_cons_succ]; rfl) (fun K hK => ?_) ?_
        · go_simp
          refine hK.out _ _ ?_ (fun hHeld => ?_)
          · repeat (first | exact hHeld | exact HS.out | (refine SureS.alloc ?_ _) | (refine SureS.drew ?_) | (refine SureS.setCell ?_ _ _ (by show W.heap.size < _; simp; try omega)))
          clear hK K
          try simp only [Act.put, List.setIfInBounds_toArray, List.set_cons_zero, List.set_cons_succ]
          refine wpAnyH_ready (rs := [18]) (by kernel_rfl) (by simp) ?_
          refine AllReadyH.cons (by simp only [List.getElem?_toArray, List.getElem?_cons_zero, List.getElem?_cons_succ]; rfl) (fun K hK => ?_) ?_
          · go_simp
            refine hK.out _ _ ?_ (fun hHeld => ?_)
            · repeat (first | exact hHeld | exact HS.out | (refine SureS.alloc ?_ _) | (refine SureS.drew ?_) | (refine SureS.setCell ?_ _ _ (by show W.heap.size < _; simp; try omega)))
            clear hK K
            try simp only [Act.put, List.setIfInBounds_toArray, List.set_cons_zero, List.set_cons_succ]
            refine wpAnyH_ready (rs := [19]) (by kernel_rfl) (by simp) ?_
            refine AllReadyH.cons (by simp only [List.getElem?_toArray, List.getElem?_cons_zero, List.getElem?_cons_succ]; rfl) (fun K hK => ?_) ?_
            · go_simp
              refine hK.out _ _ ?_ (fun hHeld => ?_)
              · repeat (first | exact hHeld | exact HS.out | (refine SureS.alloc ?_ _) | (refine SureS.drew ?_) | (refine SureS.setCell ?_ _ _ (by show W.heap.size < _; simp; try omega)))
              clear hK K
              try simp only [Act.put, List.setIfInBounds_toArray, List.set_cons_zero, List.set_cons_succ]
              refine wpAnyH_ready (rs := [20]) (by kernel_rfl) (by simp) ?_
              refine AllReadyH.cons (by simp only [List.getElem?_toArray, List.getElem?_cons_zero, List.getElem?_cons_succ]; rfl) (fun K hK => ?_) ?_
              · go_simp
                refine hK.out _ _ ?_ (fun hHeld => ?_)
                · repeat (first | exact hHeld | exact HS.out | (refine SureS.alloc ?_ _) | (refine SureS.drew ?_) | (refine SureS.setCell ?_ _ _ (by show W.heap.size < _; simp; try omega)))
                clear hK K
                try simp only [Act.put, List.setIfInBounds_toArray, List.set_cons_zero, List.set_cons_succ]
                refine wpAnyH_done (by kernel_rfl) ?_ _
                go_wp2_with fail
                go_meet
                refine ⟨_, _, _, rfl, rfl, rfl, by omega, by omega, by omega, ⟨?_, ?_, ?_, ?_⟩, ⟨?_, ?_, ?_, ?_⟩, ⟨?_, ?_, ?_, ?_⟩, hHeld.box, ⟨?_, ?_, ?_, ?_⟩, fun o => ?_, hHeld.bel⟩
                all_goals first | (simp [go_sem]; done) | (simp [go_sem]; omega) | skip
              exact AllReadyH.nil
            exact AllReadyH.nil
          exact AllReadyH.nil
        exact AllReadyH.nil
      refine AllReadyH.cons (by simp only [List.getElem?_toArray, List.getElem?_cons_zero, List.getElem?_cons_succ]; rfl) (fun K hK => ?_) ?_
      · go_simp
        refine hK.out _ _ ?_ (fun hHeld => ?_)
        · repeat (first | exact hHeld | exact HS.out | (refine SureS.alloc ?_ _) | (refine SureS.drew ?_) | (refine SureS.setCell ?_ _ _ (by show W.heap.size < _; simp; try omega)))
        clear hK K
        try simp only [Act.put, List.setIfInBounds_toArray, List.set_cons_zero, List.set_cons_succ]
        refine wpAnyH_ready (rs := [15]) (by kernel_rfl) (by simp) ?_
        refine AllReadyH.cons (by simp only [List.getElem?_toArray, List.getElem?_cons_zero, List.getElem?_cons_succ]; rfl) (fun K hK => ?_) ?_
        · go_simp
          refine hK.out _ _ ?_ (fun hHeld => ?_)
          · repeat (first | exact hHeld | exact HS.out | (refine SureS.alloc ?_ _) | (refine SureS.drew ?_) | (refine SureS.setCell ?_ _ _ (by show W.heap.size < _; simp; try omega)))
          clear hK K
          try simp only [Act.put, List.setIfInBounds_toArray, List.set_cons_zero, List.set_cons_succ]
          refine wpAnyH_ready (rs := [18]) (by kernel_rfl) (by simp) ?_
          refine AllReadyH.cons (by simp only [List.getElem?_toArray, List.getElem?_cons_zero, List.getElem?_cons_succ]; rfl) (fun K hK => ?_) ?_
          · go_simp
            refine hK.out _ _ ?_ (fun hHeld => ?_)
            · repeat (first | exact hHeld | exact HS.out | (refine SureS.alloc ?_ _) | (refine SureS.drew ?_) | (refine SureS.setCell ?_ _ _ (by show W.heap.size < _; simp; try omega)))
            clear hK K
            try simp only [Act.put, List.setIfInBounds_toArray, List.set_cons_zero, List.set_cons_succ]
            refine wpAnyH_ready (rs := [19]) (by kernel_rfl) (by simp) ?_
            refine AllReadyH.cons (by simp only [List.getElem?_toArray, List.getElem?_cons_zero, List.getElem?_cons_succ]; rfl) (fun K hK => ?_) ?_
            · go_simp
              refine hK.out _ _ ?_ (fun hHeld => ?_)
              · repeat (first | exact hHeld | exact HS.out | (refine SureS.alloc ?_ _) | (refine SureS.drew ?_) | (refine SureS.setCell ?_ _ _ (by show W.heap.size < _; simp; try omega)))
              clear hK K
              try simp only [Act.put, List.setIfInBounds_toArray, List.set_cons_zero, List.set_cons_succ]
              refine wpAnyH_ready (rs := [20]) (by kernel_rfl) (by simp) ?_
              refine AllReadyH.cons (by simp only [List.getElem?_toArray, List.getElem?_cons_zero, List.getElem?_cons_succ]; rfl) (fun K hK => ?_) ?_
              · go_simp
                refine hK.out _ _ ?_ (fun hHeld => ?_)
                · repeat (first | exact hHeld | exact HS.out | (refine SureS.alloc ?_ _) | (refine SureS.drew ?_) | (refine SureS.setCell ?_ _ _ (by show W.heap.size < _; simp; try omega)))
                clear hK K
                try simp only [Act.put, List.setIfInBounds_toArray, List.set_cons_zero, List.set_cons_succ]
                refine wpAnyH_done (by kernel_rfl) ?_ _
                go_wp2_with fail
                go_meet
                refine ⟨_, _, _, rfl, rfl, rfl, by omega, by omega, by omega, ⟨?_, ?_, ?_, ?_⟩, ⟨?_, ?_, ?_, ?_⟩, ⟨?_, ?_, ?_, ?_⟩, hHeld.box, ⟨?_, ?_, ?_, ?_⟩, fun o => ?_, hHeld.bel⟩
                all_goals first | (simp [go_sem]; done) | (simp [go_sem]; omega) | skip
              exact AllReadyH.nil
            exact AllReadyH.nil
          exact AllReadyH.nil
        exact AllReadyH.nil
      exact AllReadyH.nil
    exact AllReadyH.nil

  case rest =>
    obtain ⟨g, h, i, rfl, rfl, rfl, lg, lh, li, ⟨pg, pg0, pg1, pg2⟩, ⟨ph, ph0, ph1, ph2⟩, ⟨pi, pi0, pi1, pi2⟩, bx, ⟨pr, pr0, pr1, pr2⟩, fr, hbel⟩ := hcut
    have HR := Lib.hid (⟨bx, pr0, pr1, pr2, fr, pr, hbel⟩ : SureR W _ _ _ _ _ _ _ wc)
    have f0 := fr 0
    have f1 := fr 1
    have f2 := fr 2
    unfold At7 at bx
    go_wp2_with fail
    refine (HN.out _ hbel).mono ?_
    rintro e w4 ⟨rfl, hb4⟩
    have HR4 := Lib.hid (HR.out.call hb4)
    have hx4 : At3 w4 g (.int .u8 ((w0 : Nat) : Int)) (.int .u64 ((z0 : Nat) : Int)) (.int .u64 ((o0 : Nat) : Int)) := ⟨Nat.lt_of_lt_of_le pg hb4.size, (hb4.cell (p := ⟨g, 0, none⟩) pg).trans pg0, (hb4.cell (p := ⟨g, 1, none⟩) pg).trans pg1, (hb4.cell (p := ⟨g, 2, none⟩) pg).trans pg2⟩
    obtain ⟨lg4, g40, g41, g42⟩ := hx4
    obtain ⟨bx4, q0, q1, q2, fr4, l4, bel4⟩ := HR4.out
    have f40 := fr4 0
    have f41 := fr4 1
    have f42 := fr4 2
    have l40 : W.heap.size < w4.heap.size := by omega
    unfold At7 at bx4
    clear hb4
    go_wp2_with fail
    refine (HC.out _).mono ?_
    rintro e w5 ⟨rfl, hb5⟩
    have hb : Below w4.heap.size w4 w5 := (bel_alloc (Below.refl _ _) _).trans (hb5.mono (by simp))
    clear hb5
    have HR5 := Lib.hid (HR4.out.call hb)
    obtain ⟨b5, p50, p51, p52, f5, l5, bel5⟩ := HR5.out
    have f50 := f5 0
    have f51 := f5 1
    have f52 := f5 2
    clear hb
    go_wp2_with fail
    exact bodyPost_ret (v := .agg #[.int .u8 ((w0 : Nat) : Int), .int .u64 (((shK 15 w0 (z0, o0) yn).1 : Nat) : Int), .int .u64 (((shK 15 w0 (z0, o0) yn).2 : Nat) : Int)]) (by simp [results, Try.results17, go_sem, p50, p51, p52]) rfl ⟨rfl, ((bel5.setCell (by simp) _).setCell (by simp) _).setCell (by simp) _⟩

theorem sure_lshr (w n l b : Nat) (k0 k1 k2 : Int) (w0 z0 o0 w1 z1 o1 w2 z2 o2 : Nat) (sp : Value) (W : World) (h1 : 1 ≤ w0) (h2 : w0 ≤ 64) (hz0 : z0 < 18446744073709551616) (ho0 : o0 < 18446744073709551616) (yw y0 y1 y2 yl : Int) (yn : Nat) (HN : Hid (∀ v, Below W.heap.size W v → Calls Try.prog 15 #[sp, .int .i64 k1] v fun e v' => e = .returned (.tuple #[.agg #[.int .u8 1, .int .u8 yw, .int .i64 y0, .int .i64 y1, .int .i64 y2, .int .u64 ((yn : Nat) : Int), .int .u8 yl], .int .i64 0]) ∧ Below v.heap.size v v')) (HL : Hid (LookK W b k0 k1 k2 w0 z0 o0 w1 z1 o1 w2 z2 o2)) :
    Calls Try.prog 17 #[sp, .agg #[.int .u8 16, .int .u8 ((w : Nat) : Int), .int .i64 k0, .int .i64 k1, .int .i64 k2, .int .u64 ((n : Nat) : Int), .int .u8 ((l : Nat) : Int)], .map (some b)] W fun e W' => e = .returned (.agg #[.int .u8 ((w0 : Nat) : Int), .int .u64 (((shK 16 w0 (z0, o0) yn).1 : Nat) : Int), .int .u64 (((shK 16 w0 (z0, o0) yn).2 : Nat) : Int)]) ∧ Below W.heap.size W W' := by
  have HS : Hid (SureS W b (.int .u8 16) (.int .u8 ((w : Nat) : Int)) (.int .u64 ((n : Nat) : Int)) (.int .u8 ((l : Nat) : Int)) k0 k1 k2 w0 z0 o0 w1 z1 o1 w2 z2 o2 ((W.alloc (.cells #[.int .u8 16, .int .u8 ((w : Nat) : Int), .int .i64 k0, .int .i64 k1, .int .i64 k2, .int .u64 ((n : Nat) : Int), .int .u8 ((l : Nat) : Int)] 57)).alloc (.cells #[.int .u8 0, .int .u64 0, .int .u64 0] 64))) :=
    SureS.alloc ⟨At7.new W _ _ _ _ _ _ _ _, HL.out.same (Below.heap_alloc _ _ _ HL.out.1) (by simp), bel_alloc (Below.refl _ _) _, HL.out.1⟩ _
  have HC := Lib.hid (fun W => klshr_any w0 z0 o0 yn h1 h2 hz0 ho0 W)
  clear hz0 ho0
  go_enter Try.func17, Try.ntmps17
  go_upto_region 1 with fail
  go_cut [7, 8, 9] (fun s7 s8 s9 wx => ∃ g h i : Nat, s7 = .pointer (some ⟨g, 0, none⟩) ∧ s8 = .pointer (some ⟨h, 0, none⟩) ∧ s9 = .pointer (some ⟨i, 0, none⟩) ∧ W.heap.size + 1 < g ∧ W.heap.size + 1 < h ∧ W.heap.size + 1 < i ∧ At3 wx g (.int .u8 ((w0 : Nat) : Int)) (.int .u64 ((z0 : Nat) : Int)) (.int .u64 ((o0 : Nat) : Int)) ∧ At3 wx h (.int .u8 ((w1 : Nat) : Int)) (.int .u64 ((z1 : Nat) : Int)) (.int .u64 ((o1 : Nat) : Int)) ∧ At3 wx i (.int .u8 ((w2 : Nat) : Int)) (.int .u64 ((z2 : Nat) : Int)) (.int .u64 ((o2 : Nat) : Int)) ∧ At7 wx W.heap.size (.int .u8 16) (.int .u8 ((w : Nat) : Int)) (.int .i64 k0) (.int .i64 k1) (.int .i64 k2) (.int .u64 ((n : Nat) : Int)) (.int .u8 ((l : Nat) : Int)) ∧ At3 wx (W.heap.size + 1) (.int .u8 0) (.int .u64 0) (.int .u64 0) ∧ (∀ o, wx.frozen? ⟨W.heap.size + 1, o, none⟩ = false) ∧ Below W.heap.size W wx)
  case first =>
    refine wp_region_held_drew (S := fun w' => SureS W b (.int .u8 16) (.int .u8 ((w : Nat) : Int)) (.int .u64 ((n : Nat) : Int)) (.int .u8 ((l : Nat) : Int)) k0 k1 k2 w0 z0 o0 w1 z1 o1 w2 z2 o2 w') (by kernel_rfl) HS.out.drew (fun hHeld => ?_)
    refine wpAnyH_take (i := 0) (v := .map (some b)) (by simp only [List.getElem?_toArray, List.getElem?_cons_zero]; rfl) (by kernel_rfl) (by kernel_rfl) (by kernel_rfl) (by exact fun _ _ _ h => h) (Or.inl ⟨by rfl, ?_⟩) hHeld ?_
    · intro w' hSw
      go_simp
    simp only [Act.put, List.setIfInBounds_toArray, List.set_cons_zero, List.set_cons_succ]
    refine wpAnyH_take (i := 1) (v := .pointer (some ⟨W.heap.size, 2, none⟩)) (by simp only [List.getElem?_toArray, List.getElem?_cons_zero, List.getElem?_cons_succ]; rfl) (by kernel_rfl) (by kernel_rfl) (by kernel_rfl) (by exact fun _ _ _ h => h) (Or.inl ⟨by rfl, ?_⟩) hHeld ?_
    · intro w' hSw
      go_simp
    simp only [Act.put, List.setIfInBounds_toArray, List.set_cons_zero, List.set_cons_succ]
    refine wpAnyH_take (i := 2) (v := .pointer (some ⟨W.heap.size, 2, none⟩)) (by simp only [List.getElem?_toArray, List.getElem?_cons_zero, List.getElem?_cons_succ]; rfl) (by kernel_rfl) (by kernel_rfl) (by kernel_rfl) (by exact fun _ _ _ h => h) (Or.inl ⟨by rfl, ?_⟩) hHeld ?_
    · intro w' hSw
      go_simp
    simp only [Act.put, List.setIfInBounds_toArray, List.set_cons_zero, List.set_cons_succ]
    refine wpAnyH_take (i := 3) (v := .int .i64 k0) (by simp only [List.getElem?_toArray, List.getElem?_cons_zero, List.getElem?_cons_succ]; rfl) (by kernel_rfl) (by kernel_rfl) (by kernel_rfl) (by exact fun _ _ _ h => h) (Or.inl ⟨by rfl, ?_⟩) hHeld ?_
    · intro w' hSw
      obtain ⟨f0, f1, f2, f3, f4, f5, f6, f7, f8, f9⟩ := hSw.facts; have lW := hSw.box.lt; go_simp
    simp only [Act.put, List.setIfInBounds_toArray, List.set_cons_zero, List.set_cons_succ]
    refine wpAnyH_take (i := 4) (v := .agg #[.int .u8 ((w0 : Nat) : Int), .int .u64 ((z0 : Nat) : Int), .int .u64 ((o0 : Nat) : Int)]) (by simp only [List.getElem?_toArray, List.getElem?_cons_zero, List.getElem?_cons_succ]; rfl) (by kernel_rfl) (by kernel_rfl) (by kernel_rfl) (by exact fun _ _ _ h => h) (Or.inl ⟨by rfl, ?_⟩) hHeld ?_
    · intro w' hSw
      obtain ⟨f0, f1, f2, f3, f4, f5, f6, f7, f8, f9⟩ := hSw.facts; have lW := hSw.box.lt; go_simp
    simp only [Act.put, List.setIfInBounds_toArray, List.set_cons_zero, List.set_cons_succ]
    refine wpAnyH_take (i := 5) (v := .map (some b)) (by simp only [List.getElem?_toArray, List.getElem?_cons_zero, List.getElem?_cons_succ]; rfl) (by kernel_rfl) (by kernel_rfl) (by kernel_rfl) (by exact fun _ _ _ h => h) (Or.inl ⟨by rfl, ?_⟩) hHeld ?_
    · intro w' hSw
      go_simp
    simp only [Act.put, List.setIfInBounds_toArray, List.set_cons_zero, List.set_cons_succ]
    refine wpAnyH_take (i := 6) (v := .pointer (some ⟨W.heap.size, 2, none⟩)) (by simp only [List.getElem?_toArray, List.getElem?_cons_zero, List.getElem?_cons_succ]; rfl) (by kernel_rfl) (by kernel_rfl) (by kernel_rfl) (by exact fun _ _ _ h => h) (Or.inl ⟨by rfl, ?_⟩) hHeld ?_
    · intro w' hSw
      go_simp
    simp only [Act.put, List.setIfInBounds_toArray, List.set_cons_zero, List.set_cons_succ]
    refine wpAnyH_take (i := 7) (v := .pointer (some ⟨W.heap.size, 3, none⟩)) (by simp only [List.getElem?_toArray, List.getElem?_cons_zero, List.getElem?_cons_succ]; rfl) (by kernel_rfl) (by kernel_rfl) (by kernel_rfl) (by exact fun _ _ _ h => h) (Or.inl ⟨by rfl, ?_⟩) hHeld ?_
    · intro w' hSw
      go_simp
    simp only [Act.put, List.setIfInBounds_toArray, List.set_cons_zero, List.set_cons_succ]
    refine wpAnyH_take (i := 8) (v := .int .i64 k1) (by simp only [List.getElem?_toArray, List.getElem?_cons_zero, List.getElem?_cons_succ]; rfl) (by kernel_rfl) (by kernel_rfl) (by kernel_rfl) (by exact fun _ _ _ h => h) (Or.inl ⟨by rfl, ?_⟩) hHeld ?_
    · intro w' hSw
      obtain ⟨f0, f1, f2, f3, f4, f5, f6, f7, f8, f9⟩ := hSw.facts; have lW := hSw.box.lt; go_simp
    simp only [Act.put, List.setIfInBounds_toArray, List.set_cons_zero, List.set_cons_succ]
    refine wpAnyH_take (i := 9) (v := .agg #[.int .u8 ((w1 : Nat) : Int), .int .u64 ((z1 : Nat) : Int), .int .u64 ((o1 : Nat) : Int)]) (by simp only [List.getElem?_toArray, List.getElem?_cons_zero, List.getElem?_cons_succ]; rfl) (by kernel_rfl) (by kernel_rfl) (by kernel_rfl) (by exact fun _ _ _ h => h) (Or.inl ⟨by rfl, ?_⟩) hHeld ?_
    · intro w' hSw
      obtain ⟨f0, f1, f2, f3, f4, f5, f6, f7, f8, f9⟩ := hSw.facts; have lW := hSw.box.lt; go_simp
    simp only [Act.put, List.setIfInBounds_toArray, List.set_cons_zero, List.set_cons_succ]
    refine wpAnyH_take (i := 10) (v := .map (some b)) (by simp only [List.getElem?_toArray, List.getElem?_cons_zero, List.getElem?_cons_succ]; rfl) (by kernel_rfl) (by kernel_rfl) (by kernel_rfl) (by exact fun _ _ _ h => h) (Or.inl ⟨by rfl, ?_⟩) hHeld ?_
    · intro w' hSw
      go_simp
    simp only [Act.put, List.setIfInBounds_toArray, List.set_cons_zero, List.set_cons_succ]
    refine wpAnyH_take (i := 11) (v := .pointer (some ⟨W.heap.size, 2, none⟩)) (by simp only [List.getElem?_toArray, List.getElem?_cons_zero, List.getElem?_cons_succ]; rfl) (by kernel_rfl) (by kernel_rfl) (by kernel_rfl) (by exact fun _ _ _ h => h) (Or.inl ⟨by rfl, ?_⟩) hHeld ?_
    · intro w' hSw
      go_simp
    simp only [Act.put, List.setIfInBounds_toArray, List.set_cons_zero, List.set_cons_succ]
    refine wpAnyH_take (i := 12) (v := .pointer (some ⟨W.heap.size, 4, none⟩)) (by simp only [List.getElem?_toArray, List.getElem?_cons_zero, List.getElem?_cons_succ]; rfl) (by kernel_rfl) (by kernel_rfl) (by kernel_rfl) (by exact fun _ _ _ h => h) (Or.inl ⟨by rfl, ?_⟩) hHeld ?_
    · intro w' hSw
      go_simp
    simp only [Act.put, List.setIfInBounds_toArray, List.set_cons_zero, List.set_cons_succ]
    refine wpAnyH_take (i := 13) (v := .int .i64 k2) (by simp only [List.getElem?_toArray, List.getElem?_cons_zero, List.getElem?_cons_succ]; rfl) (by kernel_rfl) (by kernel_rfl) (by kernel_rfl) (by exact fun _ _ _ h => h) (Or.inl ⟨by rfl, ?_⟩) hHeld ?_
    · intro w' hSw
      obtain ⟨f0, f1, f2, f3, f4, f5, f6, f7, f8, f9⟩ := hSw.facts; have lW := hSw.box.lt; go_simp
    simp only [Act.put, List.setIfInBounds_toArray, List.set_cons_zero, List.set_cons_succ]
    refine wpAnyH_take (i := 14) (v := .agg #[.int .u8 ((w2 : Nat) : Int), .int .u64 ((z2 : Nat) : Int), .int .u64 ((o2 : Nat) : Int)]) (by simp only [List.getElem?_toArray, List.getElem?_cons_zero, List.getElem?_cons_succ]; rfl) (by kernel_rfl) (by kernel_rfl) (by kernel_rfl) (by exact fun _ _ _ h => h) (Or.inl ⟨by rfl, ?_⟩) hHeld ?_
    · intro w' hSw
      obtain ⟨f0, f1, f2, f3, f4, f5, f6, f7, f8, f9⟩ := hSw.facts; have lW := hSw.box.lt; go_simp
    simp only [Act.put, List.setIfInBounds_toArray, List.set_cons_zero, List.set_cons_succ]
    refine wpAnyH_ready (rs := [15, 16, 17]) (by kernel_rfl) (by simp) ?_
    refine AllReadyH.cons (by simp only [List.getElem?_toArray, List.getElem?_cons_zero, List.getElem?_cons_succ]; rfl) (fun K hK => ?_) ?_
    · go_simp
      refine hK.out _ _ ?_ (fun hHeld => ?_)
      · repeat (first | exact hHeld | exact HS.out | (refine SureS.alloc ?_ _) | (refine SureS.drew ?_) | (refine SureS.setCell ?_ _ _ (by show W.heap.size < _; simp; try omega)))
      clear hK K
      try simp only [Act.put, List.setIfInBounds_toArray, List.set_cons_zero, List.set_cons_succ]
      refine wpAnyH_ready (rs := [16, 17]) (by kernel_rfl) (by simp) ?_
      refine AllReadyH.cons (by simp only [List.getElem?_toArray, List.getElem?_cons_zero, List.getElem?_cons_succ]; rfl) (fun K hK => ?_) ?_
      · go_simp
        refine hK.out _ _ ?_ (fun hHeld => ?_)
        · repeat (first | exact hHeld | exact HS.out | (refine SureS.alloc ?_ _) | (refine SureS.drew ?_) | (refine SureS.setCell ?_ _ _ (by show W.heap.size < _; simp; try omega)))
        clear hK K
        try simp only [Act.put, List.setIfInBounds_toArray, List.set_cons_zero, List.set_cons_succ]
        refine wpAnyH_ready (rs := [17]) (by kernel_rfl) (by simp) ?_
        refine AllReadyH.cons (by simp only [List.getElem?_toArray, List.getElem?_cons_zero, List.getElem?_cons_succ]; rfl) (fun K hK => ?_) ?_
        · go_simp
          refine hK.out _ _ ?_ (fun hHeld => ?_)
          · repeat (first | exact hHeld | exact HS.out | (refine SureS.alloc ?_ _) | (refine SureS.drew ?_) | (refine SureS.setCell ?_ _ _ (by show W.heap.size < _; simp; try omega)))
          clear hK K
          try simp only [Act.put, List.setIfInBounds_toArray, List.set_cons_zero, List.set_cons_succ]
          refine wpAnyH_ready (rs := [18]) (by kernel_rfl) (by simp) ?_
          refine AllReadyH.cons (by simp only [List.getElem?_toArray, List.getElem?_cons_zero, List.getElem?_cons_succ]; rfl) (fun K hK => ?_) ?_
          · go_simp
            refine hK.out _ _ ?_ (fun hHeld => ?_)
            · repeat (first | exact hHeld | exact HS.out | (refine SureS.alloc ?_ _) | (refine SureS.drew ?_) | (refine SureS.setCell ?_ _ _ (by show W.heap.size < _; simp; try omega)))
            clear hK K
            try simp only [Act.put, List.setIfInBounds_toArray, List.set_cons_zero, List.set_cons_succ]
            refine wpAnyH_ready (rs := [19]) (by kernel_rfl) (by simp) ?_
            refine AllReadyH.cons (by simp only [List.getElem?_toArray, List.getElem?_cons_zero, List.getElem?_cons_succ]; rfl) (fun K hK => ?_) ?_
            · go_simp
              refine hK.out _ _ ?_ (fun hHeld => ?_)
              · repeat (first | exact hHeld | exact HS.out | (refine SureS.alloc ?_ _) | (refine SureS.drew ?_) | (refine SureS.setCell ?_ _ _ (by show W.heap.size < _; simp; try omega)))
              clear hK K
              try simp only [Act.put, List.setIfInBounds_toArray, List.set_cons_zero, List.set_cons_succ]
              refine wpAnyH_ready (rs := [20]) (by kernel_rfl) (by simp) ?_
              refine AllReadyH.cons (by simp only [List.getElem?_toArray, List.getElem?_cons_zero, List.getElem?_cons_succ]; rfl) (fun K hK => ?_) ?_
              · go_simp
                refine hK.out _ _ ?_ (fun hHeld => ?_)
                · repeat (first | exact hHeld | exact HS.out | (refine SureS.alloc ?_ _) | (refine SureS.drew ?_) | (refine SureS.setCell ?_ _ _ (by show W.heap.size < _; simp; try omega)))
                clear hK K
                try simp only [Act.put, List.setIfInBounds_toArray, List.set_cons_zero, List.set_cons_succ]
                refine wpAnyH_done (by kernel_rfl) ?_ _
                go_wp2_with fail
                go_meet
                refine ⟨_, _, _, rfl, rfl, rfl, by omega, by omega, by omega, ⟨?_, ?_, ?_, ?_⟩, ⟨?_, ?_, ?_, ?_⟩, ⟨?_, ?_, ?_, ?_⟩, hHeld.box, ⟨?_, ?_, ?_, ?_⟩, fun o => ?_, hHeld.bel⟩
                all_goals first | (simp [go_sem]; done) | (simp [go_sem]; omega) | skip
              exact AllReadyH.nil
            exact AllReadyH.nil
          exact AllReadyH.nil
        exact AllReadyH.nil
      refine AllReadyH.cons (by simp only [List.getElem?_toArray, List.getElem?_cons_zero, List.getElem?_cons_succ]; rfl) (fun K hK => ?_) ?_
      · go_simp
        refine hK.out _ _ ?_ (fun hHeld => ?_)
        · repeat (first | exact hHeld | exact HS.out | (refine SureS.alloc ?_ _) | (refine SureS.drew ?_) | (refine SureS.setCell ?_ _ _ (by show W.heap.size < _; simp; try omega)))
        clear hK K
        try simp only [Act.put, List.setIfInBounds_toArray, List.set_cons_zero, List.set_cons_succ]
        refine wpAnyH_ready (rs := [16]) (by kernel_rfl) (by simp) ?_
        refine AllReadyH.cons (by simp only [List.getElem?_toArray, List.getElem?_cons_zero, List.getElem?_cons_succ]; rfl) (fun K hK => ?_) ?_
        · go_simp
          refine hK.out _ _ ?_ (fun hHeld => ?_)
          · repeat (first | exact hHeld | exact HS.out | (refine SureS.alloc ?_ _) | (refine SureS.drew ?_) | (refine SureS.setCell ?_ _ _ (by show W.heap.size < _; simp; try omega)))
          clear hK K
          try simp only [Act.put, List.setIfInBounds_toArray, List.set_cons_zero, List.set_cons_succ]
          refine wpAnyH_ready (rs := [18]) (by kernel_rfl) (by simp) ?_
          refine AllReadyH.cons (by simp only [List.getElem?_toArray, List.getElem?_cons_zero, List.getElem?_cons_succ]; rfl) (fun K hK => ?_) ?_
          · go_simp
            refine hK.out _ _ ?_ (fun hHeld => ?_)
            · repeat (first | exact hHeld | exact HS.out | (refine SureS.alloc ?_ _) | (refine SureS.drew ?_) | (refine SureS.setCell ?_ _ _ (by show W.heap.size < _; simp; try omega)))
            clear hK K
            try simp only [Act.put, List.setIfInBounds_toArray, List.set_cons_zero, List.set_cons_succ]
            refine wpAnyH_ready (rs := [19]) (by kernel_rfl) (by simp) ?_
            refine AllReadyH.cons (by simp only [List.getElem?_toArray, List.getElem?_cons_zero, List.getElem?_cons_succ]; rfl) (fun K hK => ?_) ?_
            · go_simp
              refine hK.out _ _ ?_ (fun hHeld => ?_)
              · repeat (first | exact hHeld | exact HS.out | (refine SureS.alloc ?_ _) | (refine SureS.drew ?_) | (refine SureS.setCell ?_ _ _ (by show W.heap.size < _; simp; try omega)))
              clear hK K
              try simp only [Act.put, List.setIfInBounds_toArray, List.set_cons_zero, List.set_cons_succ]
              refine wpAnyH_ready (rs := [20]) (by kernel_rfl) (by simp) ?_
              refine AllReadyH.cons (by simp only [List.getElem?_toArray, List.getElem?_cons_zero, List.getElem?_cons_succ]; rfl) (fun K hK => ?_) ?_
              · go_simp
                refine hK.out _ _ ?_ (fun hHeld => ?_)
                · repeat (first | exact hHeld | exact HS.out | (refine SureS.alloc ?_ _) | (refine SureS.drew ?_) | (refine SureS.setCell ?_ _ _ (by show W.heap.size < _; simp; try omega)))
                clear hK K
                try simp only [Act.put, List.setIfInBounds_toArray, List.set_cons_zero, List.set_cons_succ]
                refine wpAnyH_done (by kernel_rfl) ?_ _
                go_wp2_with fail
                go_meet
                refine ⟨_, _, _, rfl, rfl, rfl, by omega, by omega, by omega, ⟨?_, ?_, ?_, ?_⟩, ⟨?_, ?_, ?_, ?_⟩, ⟨?_, ?_, ?_, ?_⟩, hHeld.box, ⟨?_, ?_, ?_, ?_⟩, fun o => ?_, hHeld.bel⟩
                all_goals first | (simp [go_sem]; done) | (simp [go_sem]; omega) | skip
              exact AllReadyH.nil
            exact AllReadyH.nil
          exact AllReadyH.nil
        exact AllReadyH.nil
      exact AllReadyH.nil
    refine AllReadyH.cons (by simp only [List.getElem?_toArray, List.getElem?_cons_zero, List.getElem?_cons_succ]; rfl) (fun K hK => ?_) ?_
    · go_simp
      refine hK.out _ _ ?_ (fun hHeld => ?_)
      · repeat (first | exact hHeld | exact HS.out | (refine SureS.alloc ?_ _) | (refine SureS.drew ?_) | (refine SureS.setCell ?_ _ _ (by show W.heap.size < _; simp; try omega)))
      clear hK K
      try simp only [Act.put, List.setIfInBounds_toArray, List.set_cons_zero, List.set_cons_succ]
      refine wpAnyH_ready (rs := [15, 17]) (by kernel_rfl) (by simp) ?_
      refine AllReadyH.cons (by simp only [List.getElem?_toArray, List.getElem?_cons_zero, List.getElem?_cons_succ]; rfl) (fun K hK => ?_) ?_
      · go_simp
        refine hK.out _ _ ?_ (fun hHeld => ?_)
        · repeat (first | exact hHeld | exact HS.out | (refine SureS.alloc ?_ _) | (refine SureS.drew ?_) | (refine SureS.setCell ?_ _ _ (by show W.heap.size < _; simp; try omega)))
        clear hK K
        try simp only [Act.put, List.setIfInBounds_toArray, List.set_cons_zero, List.set_cons_succ]
        refine wpAnyH_ready (rs := [17]) (by kernel_rfl) (by simp) ?_
        refine AllReadyH.cons (by simp only [List.getElem?_toArray, List.getElem?_cons_zero, List.getElem?_cons_succ]; rfl) (fun K hK => ?_) ?_
        · go_simp
          refine hK.out _ _ ?_ (fun hHeld => ?_)
          · repeat (first | exact hHeld | exact HS.out | (refine SureS.alloc ?_ _) | (refine SureS.drew ?_) | (refine SureS.setCell ?_ _ _ (by show W.heap.size < _; simp; try omega)))
          clear hK K
          try simp only [Act.put, List.setIfInBounds_toArray, List.set_cons_zero, List.set_cons_succ]
          refine wpAnyH_ready (rs := [18]) (by kernel_rfl) (by simp) ?_
          refine AllReadyH.cons (by simp only [List.getElem?_toArray, List.getElem?_cons_zero, List.getElem?_cons_succ]; rfl) (fun K hK => ?_) ?_
          · go_simp
            refine hK.out _ _ ?_ (fun hHeld => ?_)
            · repeat (first | exact hHeld | exact HS.out | (refine SureS.alloc ?_ _) | (refine SureS.drew ?_) | (refine SureS.setCell ?_ _ _ (by show W.heap.size < _; simp; try omega)))
            clear hK K
            try simp only [Act.put, List.setIfInBounds_toArray, List.set_cons_zero, List.set_cons_succ]
            refine wpAnyH_ready (rs := [19]) (by kernel_rfl) (by simp) ?_
            refine AllReadyH.cons (by simp only [List.getElem?_toArray, List.getElem?_cons_zero, List.getElem?_cons_succ]; rfl) (fun K hK => ?_) ?_
            · go_simp
              refine hK.out _ _ ?_ (fun hHeld => ?_)
              · repeat (first | exact hHeld | exact HS.out | (refine SureS.alloc ?_ _) | (refine SureS.drew ?_) | (refine SureS.setCell ?_ _ _ (by show W.heap.size < _; simp; try omega)))
              clear hK K
              try simp only [Act.put, List.setIfInBounds_toArray, List.set_cons_zero, List.set_cons_succ]
              refine wpAnyH_ready (rs := [20]) (by kernel_rfl) (by simp) ?_
              refine AllReadyH.cons (by simp only [List.getElem?_toArray, List.getElem?_cons_zero, List.getElem?_cons_succ]; rfl) (fun K hK => ?_) ?_
              · go_simp
                refine hK.out _ _ ?_ (fun hHeld => ?_)
                · repeat (first | exact hHeld | exact HS.out | (refine SureS.alloc ?_ _) | (refine SureS.drew ?_) | (refine SureS.setCell ?_ _ _ (by show W.heap.size < _; simp; try omega)))
                clear hK K
                try simp only [Act.put, List.setIfInBounds_toArray, List.set_cons_zero, List.set_cons_succ]
                refine wpAnyH_done (by kernel_rfl) ?_ _
                go_wp2_with fail
                go_meet
                refine ⟨_, _, _, rfl, rfl, rfl, by omega, by omega, by omega, ⟨?_, ?_, ?_, ?_⟩, ⟨?_, ?_, ?_, ?_⟩, ⟨?_, ?_, ?_, ?_⟩, hHeld.box, ⟨?_, ?_, ?_, ?_⟩, fun o => ?_, hHeld.bel⟩
                all_goals first | (simp [go_sem]; done) | (simp [go_sem]; omega) | skip
              exact AllReadyH.nil
            exact AllReadyH.nil
          exact AllReadyH.nil
        exact AllReadyH.nil
      refine AllReadyH.cons (by simp only [List.getElem?_toArray, List.getElem?_cons_zero, List.getElem?_cons_succ]; rfl) (fun K hK => ?_) ?_
      · go_simp
        refine hK.out _ _ ?_ (fun hHeld => ?_)
        · repeat (first | exact hHeld | exact HS.out | (refine SureS.alloc ?_ _) | (refine SureS.drew ?_) | (refine SureS.setCell ?_ _ _ (by show W.heap.size < _; simp; try omega)))
        clear hK K
        try simp only [Act.put, List.setIfInBounds_toArray, List.set_cons_zero, List.set_cons_succ]
        refine wpAnyH_ready (rs := [15]) (by kernel_rfl) (by simp) ?_
        refine AllReadyH.cons (by simp only [List.getElem?_toArray, List.getElem?_cons_zero, List.getElem?_cons_succ]; rfl) (fun K hK => ?_) ?_
        · go_simp
          refine hK.out _ _ ?_ (fun hHeld => ?_)
          · repeat (first | exact hHeld | exact HS.out | (refine SureS.alloc ?_ _) | (refine SureS.drew ?_) | (refine SureS.setCell ?_ _ _ (by show W.heap.size < _; simp; try omega)))
          clear hK K
          try simp only [Act.put, List.setIfInBounds_toArray, List.set_cons_zero, List.set_cons_succ]
          refine wpAnyH_ready (rs := [18]) (by kernel_rfl) (by simp) ?_
          refine AllReadyH.cons (by simp only [List.getElem?_toArray, List.getElem?_cons_zero, List.getElem?_cons_succ]; rfl) (fun K hK => ?_) ?_
          · go_simp
            refine hK.out _ _ ?_ (fun hHeld => ?_)
            · repeat (first | exact hHeld | exact HS.out | (refine SureS.alloc ?_ _) | (refine SureS.drew ?_) | (refine SureS.setCell ?_ _ _ (by show W.heap.size < _; simp; try omega)))
            clear hK K
            try simp only [Act.put, List.setIfInBounds_toArray, List.set_cons_zero, List.set_cons_succ]
            refine wpAnyH_ready (rs := [19]) (by kernel_rfl) (by simp) ?_
            refine AllReadyH.cons (by simp only [List.getElem?_toArray, List.getElem?_cons_zero, List.getElem?_cons_succ]; rfl) (fun K hK => ?_) ?_
            · go_simp
              refine hK.out _ _ ?_ (fun hHeld => ?_)
              · repeat (first | exact hHeld | exact HS.out | (refine SureS.alloc ?_ _) | (refine SureS.drew ?_) | (refine SureS.setCell ?_ _ _ (by show W.heap.size < _; simp; try omega)))
              clear hK K
              try simp only [Act.put, List.setIfInBounds_toArray, List.set_cons_zero, List.set_cons_succ]
              refine wpAnyH_ready (rs := [20]) (by kernel_rfl) (by simp) ?_
              refine AllReadyH.cons (by simp only [List.getElem?_toArray, List.getElem?_cons_zero, List.getElem?_cons_succ]; rfl) (fun K hK => ?_) ?_
              · go_simp
                refine hK.out _ _ ?_ (fun hHeld => ?_)
                · repeat (first | exact hHeld | exact HS.out | (refine SureS.alloc ?_ _) | (refine SureS.drew ?_) | (refine SureS.setCell ?_ _ _ (by show W.heap.size < _; simp; try omega)))
                clear hK K
                try simp only [Act.put, List.setIfInBounds_toArray, List.set_cons_zero, List.set_cons_succ]
                refine wpAnyH_done (by kernel_rfl) ?_ _
                go_wp2_with fail
                go_meet
                refine ⟨_, _, _, rfl, rfl, rfl, by omega, by omega, by omega, ⟨?_, ?_, ?_, ?_⟩, ⟨?_, ?_, ?_, ?_⟩, ⟨?_, ?_, ?_, ?_⟩, hHeld.box, ⟨?_, ?_, ?_, ?_⟩, fun o => ?_, hHeld.bel⟩
                all_goals first | (simp [go_sem]; done) | (simp [go_sem]; omega) | skip
              exact AllReadyH.nil
            exact AllReadyH.nil
          exact AllReadyH.nil
        exact AllReadyH.nil
      exact AllReadyH.nil
    refine AllReadyH.cons (by simp only [List.getElem?_toArray, List.getElem?_cons_zero, List.getElem?_cons_succ]; rfl) (fun K hK => ?_) ?_
    · go_simp
      refine hK.out _ _ ?_ (fun hHeld => ?_)
      · repeat (first | exact hHeld | exact HS.out | (refine SureS.alloc ?_ _) | (refine SureS.drew ?_) | (refine SureS.setCell ?_ _ _ (by show W.heap.size < _; simp; try omega)))
      clear hK K
      try simp only [Act.put, List.setIfInBounds_toArray, List.set_cons_zero, List.set_cons_succ]
      refine wpAnyH_ready (rs := [15, 16]) (by kernel_rfl) (by simp) ?_
      refine AllReadyH.cons (by simp only [List.getElem?_toArray, List.getElem?_cons_zero, List.getElem?_cons_succ]; rfl) (fun K hK => ?_) ?_
      · go_simp
        refine hK.out _ _ ?_ (fun hHeld => ?_)
        · repeat (first | exact hHeld | exact HS.out | (refine SureS.alloc ?_ _) | (refine SureS.drew ?_) | (refine SureS.setCell ?_ _ _ (by show W.heap.size < _; simp; try omega)))
        clear hK K
        try simp only [Act.put, List.setIfInBounds_toArray, List.set_cons_zero, List.set_cons_succ]
        refine wpAnyH_ready (rs := [16]) (by kernel_rfl) (by simp) ?_
        refine AllReadyH.cons (by simp only [List.getElem?_toArray, List.getElem?_cons_zero, List.getElem?_cons_succ]; rfl) (fun K hK => ?_) ?_
        · go_simp
          refine hK.out _ _ ?_ (fun hHeld => ?_)
          · repeat (first | exact hHeld | exact HS.out | (refine SureS.alloc ?_ _) | (refine SureS.drew ?_) | (refine SureS.setCell ?_ _ _ (by show W.heap.size < _; simp; try omega)))
          clear hK K
          try simp only [Act.put, List.setIfInBounds_toArray, List.set_cons_zero, List.set_cons_succ]
          refine wpAnyH_ready (rs := [18]) (by kernel_rfl) (by simp) ?_
          refine AllReadyH.cons (by simp only [List.getElem?_toArray, List.getElem?_cons_zero, List.getElem?_cons_succ]; rfl) (fun K hK => ?_) ?_
          · go_simp
            refine hK.out _ _ ?_ (fun hHeld => ?_)
            · repeat (first | exact hHeld | exact HS.out | (refine SureS.alloc ?_ _) | (refine SureS.drew ?_) | (refine SureS.setCell ?_ _ _ (by show W.heap.size < _; simp; try omega)))
            clear hK K
            try simp only [Act.put, List.setIfInBounds_toArray, List.set_cons_zero, List.set_cons_succ]
            refine wpAnyH_ready (rs := [19]) (by kernel_rfl) (by simp) ?_
            refine AllReadyH.cons (by simp only [List.getElem?_toArray, List.getElem?_cons_zero, List.getElem?_cons_succ]; rfl) (fun K hK => ?_) ?_
            · go_simp
              refine hK.out _ _ ?_ (fun hHeld => ?_)
              · repeat (first | exact hHeld | exact HS.out | (refine SureS.alloc ?_ _) | (refine SureS.drew ?_) | (refine SureS.setCell ?_ _ _ (by show W.heap.size < _; simp; try omega)))
              clear hK K
              try simp only [Act.put, List.setIfInBounds_toArray, List.set_cons_zero, List.set_cons_succ]
              refine wpAnyH_ready (rs := [20]) (by kernel_rfl) (by simp) ?_
              refine AllReadyH.cons (by simp only [List.getElem?_toArray, List.getElem?_cons_zero, List.getElem?_cons_succ]; rfl) (fun K hK => ?_) ?_
              · go_simp
                refine hK.out _ _ ?_ (fun hHeld => ?_)
                · repeat (first | exact hHeld | exact HS.out | (refine SureS.alloc ?_ _) | (refine SureS.drew ?_) | (refine SureS.setCell ?_ _ _ (by show W.heap.size < _; simp; try omega)))
                clear hK K
                try simp only [Act.put, List.setIfInBounds_toArray, List.set_cons_zero, List.set_cons_succ]
                refine wpAnyH_done (by kernel_rfl) ?_ _
                go_wp2_with fail
                go_meet
                refine ⟨_, _, _, rfl, rfl, rfl, by omega, by omega, by omega, ⟨?_, ?_, ?_, ?_⟩, ⟨?_, ?_, ?_, ?_⟩, ⟨?_, ?_, ?_, ?_⟩, hHeld.box, ⟨?_, ?_, ?_, ?_⟩, fun o => ?_, hHeld.bel⟩
                all_goals first | (simp [go_sem]; done) | (simp [go_sem]; omega) | skip
              exact AllReadyH.nil
            exact AllReadyH.nil
          exact AllReadyH.nil
        exact AllReadyH.nil
      refine AllReadyH.cons (by simp only [List.getElem?_toArray, List.getElem?_cons_zero, List.getElem?_cons_succ]; rfl) (fun K hK => ?_) ?_
      · go_simp
        refine hK.out _ _ ?_ (fun hHeld => ?_)
        · repeat (first | exact hHeld | exact HS.out | (refine SureS.alloc ?_ _) | (refine SureS.drew ?_) | (refine SureS.setCell ?_ _ _ (by show W.heap.size < _; simp; try omega)))
        clear hK K
        try simp only [Act.put, List.setIfInBounds_toArray, List.set_cons_zero, List.set_cons_succ]
        refine wpAnyH_ready (rs := [15]) (by kernel_rfl) (by simp) ?_
        refine AllReadyH.cons (by simp only [List.getElem?_toArray, List.getElem?_cons_zero, List.getElem?_cons_succ]; rfl) (fun K hK => ?_) ?_
        · go_simp
          refine hK.out _ _ ?_ (fun hHeld => ?_)
          · repeat (first | exact hHeld | exact HS.out | (refine SureS.alloc ?_ _) | (refine SureS.drew ?_) | (refine SureS.setCell ?_ _ _ (by show W.heap.size < _; simp; try omega)))
          clear hK K
          try simp only [Act.put, List.setIfInBounds_toArray, List.set_cons_zero, List.set_cons_succ]
          refine wpAnyH_ready (rs := [18]) (by kernel_rfl) (by simp) ?_
          refine AllReadyH.cons (by simp only [List.getElem?_toArray, List.getElem?_cons_zero, List.getElem?_cons_succ]; rfl) (fun K hK => ?_) ?_
          · go_simp
            refine hK.out _ _ ?_ (fun hHeld => ?_)
            · repeat (first | exact hHeld | exact HS.out | (refine SureS.alloc ?_ _) | (refine SureS.drew ?_) | (refine SureS.setCell ?_ _ _ (by show W.heap.size < _; simp; try omega)))
            clear hK K
            try simp only [Act.put, List.setIfInBounds_toArray, List.set_cons_zero, List.set_cons_succ]
            refine wpAnyH_ready (rs := [19]) (by kernel_rfl) (by simp) ?_
            refine AllReadyH.cons (by simp only [List.getElem?_toArray, List.getElem?_cons_zero, List.getElem?_cons_succ]; rfl) (fun K hK => ?_) ?_
            · go_simp
              refine hK.out _ _ ?_ (fun hHeld => ?_)
              · repeat (first | exact hHeld | exact HS.out | (refine SureS.alloc ?_ _) | (refine SureS.drew ?_) | (refine SureS.setCell ?_ _ _ (by show W.heap.size < _; simp; try omega)))
              clear hK K
              try simp only [Act.put, List.setIfInBounds_toArray, List.set_cons_zero, List.set_cons_succ]
              refine wpAnyH_ready (rs := [20]) (by kernel_rfl) (by simp) ?_
              refine AllReadyH.cons (by simp only [List.getElem?_toArray, List.getElem?_cons_zero, List.getElem?_cons_succ]; rfl) (fun K hK => ?_) ?_
              · go_simp
                refine hK.out _ _ ?_ (fun hHeld => ?_)
                · repeat (first | exact hHeld | exact HS.out | (refine SureS.alloc ?_ _) | (refine SureS.drew ?_) | (refine SureS.setCell ?_ _ _ (by show W.heap.size < _; simp; try omega)))
                clear hK K
                try simp only [Act.put, List.setIfInBounds_toArray, List.set_cons_zero, List.set_cons_succ]
                refine wpAnyH_done (by kernel_rfl) ?_ _
                go_wp2_with fail
                go_meet
                refine ⟨_, _, _, rfl, rfl, rfl, by omega, by omega, by omega, ⟨?_, ?_, ?_, ?_⟩, ⟨?_, ?_, ?_, ?_⟩, ⟨?_, ?_, ?_, ?_⟩, hHeld.box, ⟨?_, ?_, ?_, ?_⟩, fun o => ?_, hHeld.bel⟩
                all_goals first | (simp [go_sem]; done) | (simp [go_sem]; omega) | skip
              exact AllReadyH.nil
            exact AllReadyH.nil
          exact AllReadyH.nil
        exact AllReadyH.nil
      exact AllReadyH.nil
    exact AllReadyH.nil

  case rest =>
    obtain ⟨g, h, i, rfl, rfl, rfl, lg, lh, li, ⟨pg, pg0, pg1, pg2⟩, ⟨ph, ph0, ph1, ph2⟩, ⟨pi, pi0, pi1, pi2⟩, bx, ⟨pr, pr0, pr1, pr2⟩, fr, hbel⟩ := hcut
    have HR := Lib.hid (⟨bx, pr0, pr1, pr2, fr, pr, hbel⟩ : SureR W _ _ _ _ _ _ _ wc)
    have f0 := fr 0
    have f1 := fr 1
    have f2 := fr 2
    unfold At7 at bx
    go_wp2_with fail
    refine (HN.out _ hbel).mono ?_
    rintro e w4 ⟨rfl, hb4⟩
    have HR4 := Lib.hid (HR.out.call hb4)
    have hx4 : At3 w4 g (.int .u8 ((w0 : Nat) : Int)) (.int .u64 ((z0 : Nat) : Int)) (.int .u64 ((o0 : Nat) : Int)) := ⟨Nat.lt_of_lt_of_le pg hb4.size, (hb4.cell (p := ⟨g, 0, none⟩) pg).trans pg0, (hb4.cell (p := ⟨g, 1, none⟩) pg).trans pg1, (hb4.cell (p := ⟨g, 2, none⟩) pg).trans pg2⟩
    obtain ⟨lg4, g40, g41, g42⟩ := hx4
    obtain ⟨bx4, q0, q1, q2, fr4, l4, bel4⟩ := HR4.out
    have f40 := fr4 0
    have f41 := fr4 1
    have f42 := fr4 2
    have l40 : W.heap.size < w4.heap.size := by omega
    unfold At7 at bx4
    clear hb4
    go_wp2_with fail
    refine (HC.out _).mono ?_
    rintro e w5 ⟨rfl, hb5⟩
    have hb : Below w4.heap.size w4 w5 := (bel_alloc (Below.refl _ _) _).trans (hb5.mono (by simp))
    clear hb5
    have HR5 := Lib.hid (HR4.out.call hb)
    obtain ⟨b5, p50, p51, p52, f5, l5, bel5⟩ := HR5.out
    have f50 := f5 0
    have f51 := f5 1
    have f52 := f5 2
    clear hb
    go_wp2_with fail
    exact bodyPost_ret (v := .agg #[.int .u8 ((w0 : Nat) : Int), .int .u64 (((shK 16 w0 (z0, o0) yn).1 : Nat) : Int), .int .u64 (((shK 16 w0 (z0, o0) yn).2 : Nat) : Int)]) (by simp [results, Try.results17, go_sem, p50, p51, p52]) rfl ⟨rfl, ((bel5.setCell (by simp) _).setCell (by simp) _).setCell (by simp) _⟩

theorem sure_ashr (w n l b : Nat) (k0 k1 k2 : Int) (w0 z0 o0 w1 z1 o1 w2 z2 o2 : Nat) (sp : Value) (W : World) (h1 : 1 ≤ w0) (h2 : w0 ≤ 64) (hz0 : z0 < 2 ^ w0) (ho0 : o0 < 2 ^ w0) (yw y0 y1 y2 yl : Int) (yn : Nat) (HN : Hid (∀ v, Below W.heap.size W v → Calls Try.prog 15 #[sp, .int .i64 k1] v fun e v' => e = .returned (.tuple #[.agg #[.int .u8 1, .int .u8 yw, .int .i64 y0, .int .i64 y1, .int .i64 y2, .int .u64 ((yn : Nat) : Int), .int .u8 yl], .int .i64 0]) ∧ Below v.heap.size v v')) (HL : Hid (LookK W b k0 k1 k2 w0 z0 o0 w1 z1 o1 w2 z2 o2)) :
    Calls Try.prog 17 #[sp, .agg #[.int .u8 17, .int .u8 ((w : Nat) : Int), .int .i64 k0, .int .i64 k1, .int .i64 k2, .int .u64 ((n : Nat) : Int), .int .u8 ((l : Nat) : Int)], .map (some b)] W fun e W' => e = .returned (.agg #[.int .u8 ((w0 : Nat) : Int), .int .u64 (((shK 17 w0 (z0, o0) yn).1 : Nat) : Int), .int .u64 (((shK 17 w0 (z0, o0) yn).2 : Nat) : Int)]) ∧ Below W.heap.size W W' := by
  have HS : Hid (SureS W b (.int .u8 17) (.int .u8 ((w : Nat) : Int)) (.int .u64 ((n : Nat) : Int)) (.int .u8 ((l : Nat) : Int)) k0 k1 k2 w0 z0 o0 w1 z1 o1 w2 z2 o2 ((W.alloc (.cells #[.int .u8 17, .int .u8 ((w : Nat) : Int), .int .i64 k0, .int .i64 k1, .int .i64 k2, .int .u64 ((n : Nat) : Int), .int .u8 ((l : Nat) : Int)] 57)).alloc (.cells #[.int .u8 0, .int .u64 0, .int .u64 0] 64))) :=
    SureS.alloc ⟨At7.new W _ _ _ _ _ _ _ _, HL.out.same (Below.heap_alloc _ _ _ HL.out.1) (by simp), bel_alloc (Below.refl _ _) _, HL.out.1⟩ _
  have HC := Lib.hid (fun W => kashr_any w0 z0 o0 yn h1 h2 hz0 ho0 W)
  clear hz0 ho0
  go_enter Try.func17, Try.ntmps17
  go_upto_region 1 with fail
  go_cut [7, 8, 9] (fun s7 s8 s9 wx => ∃ g h i : Nat, s7 = .pointer (some ⟨g, 0, none⟩) ∧ s8 = .pointer (some ⟨h, 0, none⟩) ∧ s9 = .pointer (some ⟨i, 0, none⟩) ∧ W.heap.size + 1 < g ∧ W.heap.size + 1 < h ∧ W.heap.size + 1 < i ∧ At3 wx g (.int .u8 ((w0 : Nat) : Int)) (.int .u64 ((z0 : Nat) : Int)) (.int .u64 ((o0 : Nat) : Int)) ∧ At3 wx h (.int .u8 ((w1 : Nat) : Int)) (.int .u64 ((z1 : Nat) : Int)) (.int .u64 ((o1 : Nat) : Int)) ∧ At3 wx i (.int .u8 ((w2 : Nat) : Int)) (.int .u64 ((z2 : Nat) : Int)) (.int .u64 ((o2 : Nat) : Int)) ∧ At7 wx W.heap.size (.int .u8 17) (.int .u8 ((w : Nat) : Int)) (.int .i64 k0) (.int .i64 k1) (.int .i64 k2) (.int .u64 ((n : Nat) : Int)) (.int .u8 ((l : Nat) : Int)) ∧ At3 wx (W.heap.size + 1) (.int .u8 0) (.int .u64 0) (.int .u64 0) ∧ (∀ o, wx.frozen? ⟨W.heap.size + 1, o, none⟩ = false) ∧ Below W.heap.size W wx)
  case first =>
    refine wp_region_held_drew (S := fun w' => SureS W b (.int .u8 17) (.int .u8 ((w : Nat) : Int)) (.int .u64 ((n : Nat) : Int)) (.int .u8 ((l : Nat) : Int)) k0 k1 k2 w0 z0 o0 w1 z1 o1 w2 z2 o2 w') (by kernel_rfl) HS.out.drew (fun hHeld => ?_)
    refine wpAnyH_take (i := 0) (v := .map (some b)) (by simp only [List.getElem?_toArray, List.getElem?_cons_zero]; rfl) (by kernel_rfl) (by kernel_rfl) (by kernel_rfl) (by exact fun _ _ _ h => h) (Or.inl ⟨by rfl, ?_⟩) hHeld ?_
    · intro w' hSw
      go_simp
    simp only [Act.put, List.setIfInBounds_toArray, List.set_cons_zero, List.set_cons_succ]
    refine wpAnyH_take (i := 1) (v := .pointer (some ⟨W.heap.size, 2, none⟩)) (by simp only [List.getElem?_toArray, List.getElem?_cons_zero, List.getElem?_cons_succ]; rfl) (by kernel_rfl) (by kernel_rfl) (by kernel_rfl) (by exact fun _ _ _ h => h) (Or.inl ⟨by rfl, ?_⟩) hHeld ?_
    · intro w' hSw
      go_simp
    simp only [Act.put, List.setIfInBounds_toArray, List.set_cons_zero, List.set_cons_succ]
    refine wpAnyH_take (i := 2) (v := .pointer (some ⟨W.heap.size, 2, none⟩)) (by simp only [List.getElem?_toArray, List.getElem?_cons_zero, List.getElem?_cons_succ]; rfl) (by kernel_rfl) (by kernel_rfl) (by kernel_rfl) (by exact fun _ _ _ h => h) (Or.inl ⟨by rfl, ?_⟩) hHeld ?_
    · intro w' hSw
      go_simp
    simp only [Act.put, List.setIfInBounds_toArray, List.set_cons_zero, List.set_cons_succ]
    refine wpAnyH_take (i := 3) (v := .int .i64 k0) (by simp only [List.getElem?_toArray, List.getElem?_cons_zero, List.getElem?_cons_succ]; rfl) (by kernel_rfl) (by kernel_rfl) (by kernel_rfl) (by exact fun _ _ _ h => h) (Or.inl ⟨by rfl, ?_⟩) hHeld ?_
    · intro w' hSw
      obtain ⟨f0, f1, f2, f3, f4, f5, f6, f7, f8, f9⟩ := hSw.facts; have lW := hSw.box.lt; go_simp
    simp only [Act.put, List.setIfInBounds_toArray, List.set_cons_zero, List.set_cons_succ]
    refine wpAnyH_take (i := 4) (v := .agg #[.int .u8 ((w0 : Nat) : Int), .int .u64 ((z0 : Nat) : Int), .int .u64 ((o0 : Nat) : Int)]) (by simp only [List.getElem?_toArray, List.getElem?_cons_zero, List.getElem?_cons_succ]; rfl) (by kernel_rfl) (by kernel_rfl) (by kernel_rfl) (by exact fun _ _ _ h => h) (Or.inl ⟨by rfl, ?_⟩) hHeld ?_
    · intro w' hSw
      obtain ⟨f0, f1, f2, f3, f4, f5, f6, f7, f8, f9⟩ := hSw.facts; have lW := hSw.box.lt; go_simp
    simp only [Act.put, List.setIfInBounds_toArray, List.set_cons_zero, List.set_cons_succ]
    refine wpAnyH_take (i := 5) (v := .map (some b)) (by simp only [List.getElem?_toArray, List.getElem?_cons_zero, List.getElem?_cons_succ]; rfl) (by kernel_rfl) (by kernel_rfl) (by kernel_rfl) (by exact fun _ _ _ h => h) (Or.inl ⟨by rfl, ?_⟩) hHeld ?_
    · intro w' hSw
      go_simp
    simp only [Act.put, List.setIfInBounds_toArray, List.set_cons_zero, List.set_cons_succ]
    refine wpAnyH_take (i := 6) (v := .pointer (some ⟨W.heap.size, 2, none⟩)) (by simp only [List.getElem?_toArray, List.getElem?_cons_zero, List.getElem?_cons_succ]; rfl) (by kernel_rfl) (by kernel_rfl) (by kernel_rfl) (by exact fun _ _ _ h => h) (Or.inl ⟨by rfl, ?_⟩) hHeld ?_
    · intro w' hSw
      go_simp
    simp only [Act.put, List.setIfInBounds_toArray, List.set_cons_zero, List.set_cons_succ]
    refine wpAnyH_take (i := 7) (v := .pointer (some ⟨W.heap.size, 3, none⟩)) (by simp only [List.getElem?_toArray, List.getElem?_cons_zero, List.getElem?_cons_succ]; rfl) (by kernel_rfl) (by kernel_rfl) (by kernel_rfl) (by exact fun _ _ _ h => h) (Or.inl ⟨by rfl, ?_⟩) hHeld ?_
    · intro w' hSw
      go_simp
    simp only [Act.put, List.setIfInBounds_toArray, List.set_cons_zero, List.set_cons_succ]
    refine wpAnyH_take (i := 8) (v := .int .i64 k1) (by simp only [List.getElem?_toArray, List.getElem?_cons_zero, List.getElem?_cons_succ]; rfl) (by kernel_rfl) (by kernel_rfl) (by kernel_rfl) (by exact fun _ _ _ h => h) (Or.inl ⟨by rfl, ?_⟩) hHeld ?_
    · intro w' hSw
      obtain ⟨f0, f1, f2, f3, f4, f5, f6, f7, f8, f9⟩ := hSw.facts; have lW := hSw.box.lt; go_simp
    simp only [Act.put, List.setIfInBounds_toArray, List.set_cons_zero, List.set_cons_succ]
    refine wpAnyH_take (i := 9) (v := .agg #[.int .u8 ((w1 : Nat) : Int), .int .u64 ((z1 : Nat) : Int), .int .u64 ((o1 : Nat) : Int)]) (by simp only [List.getElem?_toArray, List.getElem?_cons_zero, List.getElem?_cons_succ]; rfl) (by kernel_rfl) (by kernel_rfl) (by kernel_rfl) (by exact fun _ _ _ h => h) (Or.inl ⟨by rfl, ?_⟩) hHeld ?_
    · intro w' hSw
      obtain ⟨f0, f1, f2, f3, f4, f5, f6, f7, f8, f9⟩ := hSw.facts; have lW := hSw.box.lt; go_simp
    simp only [Act.put, List.setIfInBounds_toArray, List.set_cons_zero, List.set_cons_succ]
    refine wpAnyH_take (i := 10) (v := .map (some b)) (by simp only [List.getElem?_toArray, List.getElem?_cons_zero, List.getElem?_cons_succ]; rfl) (by kernel_rfl) (by kernel_rfl) (by kernel_rfl) (by exact fun _ _ _ h => h) (Or.inl ⟨by rfl, ?_⟩) hHeld ?_
    · intro w' hSw
      go_simp
    simp only [Act.put, List.setIfInBounds_toArray, List.set_cons_zero, List.set_cons_succ]
    refine wpAnyH_take (i := 11) (v := .pointer (some ⟨W.heap.size, 2, none⟩)) (by simp only [List.getElem?_toArray, List.getElem?_cons_zero, List.getElem?_cons_succ]; rfl) (by kernel_rfl) (by kernel_rfl) (by kernel_rfl) (by exact fun _ _ _ h => h) (Or.inl ⟨by rfl, ?_⟩) hHeld ?_
    · intro w' hSw
      go_simp
    simp only [Act.put, List.setIfInBounds_toArray, List.set_cons_zero, List.set_cons_succ]
    refine wpAnyH_take (i := 12) (v := .pointer (some ⟨W.heap.size, 4, none⟩)) (by simp only [List.getElem?_toArray, List.getElem?_cons_zero, List.getElem?_cons_succ]; rfl) (by kernel_rfl) (by kernel_rfl) (by kernel_rfl) (by exact fun _ _ _ h => h) (Or.inl ⟨by rfl, ?_⟩) hHeld ?_
    · intro w' hSw
      go_simp
    simp only [Act.put, List.setIfInBounds_toArray, List.set_cons_zero, List.set_cons_succ]
    refine wpAnyH_take (i := 13) (v := .int .i64 k2) (by simp only [List.getElem?_toArray, List.getElem?_cons_zero, List.getElem?_cons_succ]; rfl) (by kernel_rfl) (by kernel_rfl) (by kernel_rfl) (by exact fun _ _ _ h => h) (Or.inl ⟨by rfl, ?_⟩) hHeld ?_
    · intro w' hSw
      obtain ⟨f0, f1, f2, f3, f4, f5, f6, f7, f8, f9⟩ := hSw.facts; have lW := hSw.box.lt; go_simp
    simp only [Act.put, List.setIfInBounds_toArray, List.set_cons_zero, List.set_cons_succ]
    refine wpAnyH_take (i := 14) (v := .agg #[.int .u8 ((w2 : Nat) : Int), .int .u64 ((z2 : Nat) : Int), .int .u64 ((o2 : Nat) : Int)]) (by simp only [List.getElem?_toArray, List.getElem?_cons_zero, List.getElem?_cons_succ]; rfl) (by kernel_rfl) (by kernel_rfl) (by kernel_rfl) (by exact fun _ _ _ h => h) (Or.inl ⟨by rfl, ?_⟩) hHeld ?_
    · intro w' hSw
      obtain ⟨f0, f1, f2, f3, f4, f5, f6, f7, f8, f9⟩ := hSw.facts; have lW := hSw.box.lt; go_simp
    simp only [Act.put, List.setIfInBounds_toArray, List.set_cons_zero, List.set_cons_succ]
    refine wpAnyH_ready (rs := [15, 16, 17]) (by kernel_rfl) (by simp) ?_
    refine AllReadyH.cons (by simp only [List.getElem?_toArray, List.getElem?_cons_zero, List.getElem?_cons_succ]; rfl) (fun K hK => ?_) ?_
    · go_simp
      refine hK.out _ _ ?_ (fun hHeld => ?_)
      · repeat (first | exact hHeld | exact HS.out | (refine SureS.alloc ?_ _) | (refine SureS.drew ?_) | (refine SureS.setCell ?_ _ _ (by show W.heap.size < _; simp; try omega)))
      clear hK K
      try simp only [Act.put, List.setIfInBounds_toArray, List.set_cons_zero, List.set_cons_succ]
      refine wpAnyH_ready (rs := [16, 17]) (by kernel_rfl) (by simp) ?_
      refine AllReadyH.cons (by simp only [List.getElem?_toArray, List.getElem?_cons_zero, List.getElem?_cons_succ]; rfl) (fun K hK => ?_) ?_
      · go_simp
        refine hK.out _ _ ?_ (fun hHeld => ?_)
        · repeat (first | exact hHeld | exact HS.out | (refine SureS.alloc ?_ _) | (refine SureS.drew ?_) | (refine SureS.setCell ?_ _ _ (by show W.heap.size < _; simp; try omega)))
        clear hK K
        try simp only [Act.put, List.setIfInBounds_toArray, List.set_cons_zero, List.set_cons_succ]
        refine wpAnyH_ready (rs := [17]) (by kernel_rfl) (by simp) ?_
        refine AllReadyH.cons (by simp only [List.getElem?_toArray, List.getElem?_cons_zero, List.getElem?_cons_succ]; rfl) (fun K hK => ?_) ?_
        · go_simp
          refine hK.out _ _ ?_ (fun hHeld => ?_)
          · repeat (first | exact hHeld | exact HS.out | (refine SureS.alloc ?_ _) | (refine SureS.drew ?_) | (refine SureS.setCell ?_ _ _ (by show W.heap.size < _; simp; try omega)))
          clear hK K
          try simp only [Act.put, List.setIfInBounds_toArray, List.set_cons_zero, List.set_cons_succ]
          refine wpAnyH_ready (rs := [18]) (by kernel_rfl) (by simp) ?_
          refine AllReadyH.cons (by simp only [List.getElem?_toArray, List.getElem?_cons_zero, List.getElem?_cons_succ]; rfl) (fun K hK => ?_) ?_
          · go_simp
            refine hK.out _ _ ?_ (fun hHeld => ?_)
            · repeat (first | exact hHeld | exact HS.out | (refine SureS.alloc ?_ _) | (refine SureS.drew ?_) | (refine SureS.setCell ?_ _ _ (by show W.heap.size < _; simp; try omega)))
            clear hK K
            try simp only [Act.put, List.setIfInBounds_toArray, List.set_cons_zero, List.set_cons_succ]
            refine wpAnyH_ready (rs := [19]) (by kernel_rfl) (by simp) ?_
            refine AllReadyH.cons (by simp only [List.getElem?_toArray, List.getElem?_cons_zero, List.getElem?_cons_succ]; rfl) (fun K hK => ?_) ?_
            · go_simp
              refine hK.out _ _ ?_ (fun hHeld => ?_)
              · repeat (first | exact hHeld | exact HS.out | (refine SureS.alloc ?_ _) | (refine SureS.drew ?_) | (refine SureS.setCell ?_ _ _ (by show W.heap.size < _; simp; try omega)))
              clear hK K
              try simp only [Act.put, List.setIfInBounds_toArray, List.set_cons_zero, List.set_cons_succ]
              refine wpAnyH_ready (rs := [20]) (by kernel_rfl) (by simp) ?_
              refine AllReadyH.cons (by simp only [List.getElem?_toArray, List.getElem?_cons_zero, List.getElem?_cons_succ]; rfl) (fun K hK => ?_) ?_
              · go_simp
                refine hK.out _ _ ?_ (fun hHeld => ?_)
                · repeat (first | exact hHeld | exact HS.out | (refine SureS.alloc ?_ _) | (refine SureS.drew ?_) | (refine SureS.setCell ?_ _ _ (by show W.heap.size < _; simp; try omega)))
                clear hK K
                try simp only [Act.put, List.setIfInBounds_toArray, List.set_cons_zero, List.set_cons_succ]
                refine wpAnyH_done (by kernel_rfl) ?_ _
                go_wp2_with fail
                go_meet
                refine ⟨_, _, _, rfl, rfl, rfl, by omega, by omega, by omega, ⟨?_, ?_, ?_, ?_⟩, ⟨?_, ?_, ?_, ?_⟩, ⟨?_, ?_, ?_, ?_⟩, hHeld.box, ⟨?_, ?_, ?_, ?_⟩, fun o => ?_, hHeld.bel⟩
                all_goals first | (simp [go_sem]; done) | (simp [go_sem]; omega) | skip
              exact AllReadyH.nil
            exact AllReadyH.nil
          exact AllReadyH.nil
        exact AllReadyH.nil
      refine AllReadyH.cons (by simp only [List.getElem?_toArray, List.getElem?_cons_zero, List.getElem?_cons_succ]; rfl) (fun K hK => ?_) ?_
      · go_simp
        refine hK.out _ _ ?_ (fun hHeld => ?_)
        · repeat (first | exact hHeld | exact HS.out | (refine SureS.alloc ?_ _) | (refine SureS.drew ?_) | (refine SureS.setCell ?_ _ _ (by show W.heap.size < _; simp; try omega)))
        clear hK K
        try simp only [Act.put, List.setIfInBounds_toArray, List.set_cons_zero, List.set_cons_succ]
        refine wpAnyH_ready (rs := [16]) (by kernel_rfl) (by simp) ?_
        refine AllReadyH.cons (by simp only [List.getElem?_toArray, List.getElem?_cons_zero, List.getElem?_cons_succ]; rfl) (fun K hK => ?_) ?_
        · go_simp
          refine hK.out _ _ ?_ (fun hHeld => ?_)
          · repeat (first | exact hHeld | exact HS.out | (refine SureS.alloc ?_ _) | (refine SureS.drew ?_) | (refine SureS.setCell ?_ _ _ (by show W.heap.size < _; simp; try omega)))
          clear hK K
          try simp only [Act.put, List.setIfInBounds_toArray, List.set_cons_zero, List.set_cons_succ]
          refine wpAnyH_ready (rs := [18]) (by kernel_rfl) (by simp) ?_
          refine AllReadyH.cons (by simp only [List.getElem?_toArray, List.getElem?_cons_zero, List.getElem?_cons_succ]; rfl) (fun K hK => ?_) ?_
          · go_simp
            refine hK.out _ _ ?_ (fun hHeld => ?_)
            · repeat (first | exact hHeld | exact HS.out | (refine SureS.alloc ?_ _) | (refine SureS.drew ?_) | (refine SureS.setCell ?_ _ _ (by show W.heap.size < _; simp; try omega)))
            clear hK K
            try simp only [Act.put, List.setIfInBounds_toArray, List.set_cons_zero, List.set_cons_succ]
            refine wpAnyH_ready (rs := [19]) (by kernel_rfl) (by simp) ?_
            refine AllReadyH.cons (by simp only [List.getElem?_toArray, List.getElem?_cons_zero, List.getElem?_cons_succ]; rfl) (fun K hK => ?_) ?_
            · go_simp
              refine hK.out _ _ ?_ (fun hHeld => ?_)
              · repeat (first | exact hHeld | exact HS.out | (refine SureS.alloc ?_ _) | (refine SureS.drew ?_) | (refine SureS.setCell ?_ _ _ (by show W.heap.size < _; simp; try omega)))
              clear hK K
              try simp only [Act.put, List.setIfInBounds_toArray, List.set_cons_zero, List.set_cons_succ]
              refine wpAnyH_ready (rs := [20]) (by kernel_rfl) (by simp) ?_
              refine AllReadyH.cons (by simp only [List.getElem?_toArray, List.getElem?_cons_zero, List.getElem?_cons_succ]; rfl) (fun K hK => ?_) ?_
              · go_simp
                refine hK.out _ _ ?_ (fun hHeld => ?_)
                · repeat (first | exact hHeld | exact HS.out | (refine SureS.alloc ?_ _) | (refine SureS.drew ?_) | (refine SureS.setCell ?_ _ _ (by show W.heap.size < _; simp; try omega)))
                clear hK K
                try simp only [Act.put, List.setIfInBounds_toArray, List.set_cons_zero, List.set_cons_succ]
                refine wpAnyH_done (by kernel_rfl) ?_ _
                go_wp2_with fail
                go_meet
                refine ⟨_, _, _, rfl, rfl, rfl, by omega, by omega, by omega, ⟨?_, ?_, ?_, ?_⟩, ⟨?_, ?_, ?_, ?_⟩, ⟨?_, ?_, ?_, ?_⟩, hHeld.box, ⟨?_, ?_, ?_, ?_⟩, fun o => ?_, hHeld.bel⟩
                all_goals first | (simp [go_sem]; done) | (simp [go_sem]; omega) | skip
              exact AllReadyH.nil
            exact AllReadyH.nil
          exact AllReadyH.nil
        exact AllReadyH.nil
      exact AllReadyH.nil
    refine AllReadyH.cons (by simp only [List.getElem?_toArray, List.getElem?_cons_zero, List.getElem?_cons_succ]; rfl) (fun K hK => ?_) ?_
    · go_simp
      refine hK.out _ _ ?_ (fun hHeld => ?_)
      · repeat (first | exact hHeld | exact HS.out | (refine SureS.alloc ?_ _) | (refine SureS.drew ?_) | (refine SureS.setCell ?_ _ _ (by show W.heap.size < _; simp; try omega)))
      clear hK K
      try simp only [Act.put, List.setIfInBounds_toArray, List.set_cons_zero, List.set_cons_succ]
      refine wpAnyH_ready (rs := [15, 17]) (by kernel_rfl) (by simp) ?_
      refine AllReadyH.cons (by simp only [List.getElem?_toArray, List.getElem?_cons_zero, List.getElem?_cons_succ]; rfl) (fun K hK => ?_) ?_
      · go_simp
        refine hK.out _ _ ?_ (fun hHeld => ?_)
        · repeat (first | exact hHeld | exact HS.out | (refine SureS.alloc ?_ _) | (refine SureS.drew ?_) | (refine SureS.setCell ?_ _ _ (by show W.heap.size < _; simp; try omega)))
        clear hK K
        try simp only [Act.put, List.setIfInBounds_toArray, List.set_cons_zero, List.set_cons_succ]
        refine wpAnyH_ready (rs := [17]) (by kernel_rfl) (by simp) ?_
        refine AllReadyH.cons (by simp only [List.getElem?_toArray, List.getElem?_cons_zero, List.getElem?_cons_succ]; rfl) (fun K hK => ?_) ?_
        · go_simp
          refine hK.out _ _ ?_ (fun hHeld => ?_)
          · repeat (first | exact hHeld | exact HS.out | (refine SureS.alloc ?_ _) | (refine SureS.drew ?_) | (refine SureS.setCell ?_ _ _ (by show W.heap.size < _; simp; try omega)))
          clear hK K
          try simp only [Act.put, List.setIfInBounds_toArray, List.set_cons_zero, List.set_cons_succ]
          refine wpAnyH_ready (rs := [18]) (by kernel_rfl) (by simp) ?_
          refine AllReadyH.cons (by simp only [List.getElem?_toArray, List.getElem?_cons_zero, List.getElem?_cons_succ]; rfl) (fun K hK => ?_) ?_
          · go_simp
            refine hK.out _ _ ?_ (fun hHeld => ?_)
            · repeat (first | exact hHeld | exact HS.out | (refine SureS.alloc ?_ _) | (refine SureS.drew ?_) | (refine SureS.setCell ?_ _ _ (by show W.heap.size < _; simp; try omega)))
            clear hK K
            try simp only [Act.put, List.setIfInBounds_toArray, List.set_cons_zero, List.set_cons_succ]
            refine wpAnyH_ready (rs := [19]) (by kernel_rfl) (by simp) ?_
            refine AllReadyH.cons (by simp only [List.getElem?_toArray, List.getElem?_cons_zero, List.getElem?_cons_succ]; rfl) (fun K hK => ?_) ?_
            · go_simp
              refine hK.out _ _ ?_ (fun hHeld => ?_)
              · repeat (first | exact hHeld | exact HS.out | (refine SureS.alloc ?_ _) | (refine SureS.drew ?_) | (refine SureS.setCell ?_ _ _ (by show W.heap.size < _; simp; try omega)))
              clear hK K
              try simp only [Act.put, List.setIfInBounds_toArray, List.set_cons_zero, List.set_cons_succ]
              refine wpAnyH_ready (rs := [20]) (by kernel_rfl) (by simp) ?_
              refine AllReadyH.cons (by simp only [List.getElem?_toArray, List.getElem?_cons_zero, List.getElem?_cons_succ]; rfl) (fun K hK => ?_) ?_
              · go_simp
                refine hK.out _ _ ?_ (fun hHeld => ?_)
                · repeat (first | exact hHeld | exact HS.out | (refine SureS.alloc ?_ _) | (refine SureS.drew ?_) | (refine SureS.setCell ?_ _ _ (by show W.heap.size < _; simp; try omega)))
                clear hK K
                try simp only [Act.put, List.setIfInBounds_toArray, List.set_cons_zero, List.set_cons_succ]
                refine wpAnyH_done (by kernel_rfl) ?_ _
                go_wp2_with fail
                go_meet
                refine ⟨_, _, _, rfl, rfl, rfl, by omega, by omega, by omega, ⟨?_, ?_, ?_, ?_⟩, ⟨?_, ?_, ?_, ?_⟩, ⟨?_, ?_, ?_, ?_⟩, hHeld.box, ⟨?_, ?_, ?_, ?_⟩, fun o => ?_, hHeld.bel⟩
                all_goals first | (simp [go_sem]; done) | (simp [go_sem]; omega) | skip
              exact AllReadyH.nil
            exact AllReadyH.nil
          exact AllReadyH.nil
        exact AllReadyH.nil
      refine AllReadyH.cons (by simp only [List.getElem?_toArray, List.getElem?_cons_zero, List.getElem?_cons_succ]; rfl) (fun K hK => ?_) ?_
      · go_simp
        refine hK.out _ _ ?_ (fun hHeld => ?_)
        · repeat (first | exact hHeld | exact HS.out | (refine SureS.alloc ?_ _) | (refine SureS.drew ?_) | (refine SureS.setCell ?_ _ _ (by show W.heap.size < _; simp; try omega)))
        clear hK K
        try simp only [Act.put, List.setIfInBounds_toArray, List.set_cons_zero, List.set_cons_succ]
        refine wpAnyH_ready (rs := [15]) (by kernel_rfl) (by simp) ?_
        refine AllReadyH.cons (by simp only [List.getElem?_toArray, List.getElem?_cons_zero, List.getElem?_cons_succ]; rfl) (fun K hK => ?_) ?_
        · go_simp
          refine hK.out _ _ ?_ (fun hHeld => ?_)
          · repeat (first | exact hHeld | exact HS.out | (refine SureS.alloc ?_ _) | (refine SureS.drew ?_) | (refine SureS.setCell ?_ _ _ (by show W.heap.size < _; simp; try omega)))
          clear hK K
          try simp only [Act.put, List.setIfInBounds_toArray, List.set_cons_zero, List.set_cons_succ]
          refine wpAnyH_ready (rs := [18]) (by kernel_rfl) (by simp) ?_
          refine AllReadyH.cons (by simp only [List.getElem?_toArray, List.getElem?_cons_zero, List.getElem?_cons_succ]; rfl) (fun K hK => ?_) ?_
          · go_simp
            refine hK.out _ _ ?_ (fun hHeld => ?_)
            · repeat (first | exact hHeld | exact HS.out | (refine SureS.alloc ?_ _) | (refine SureS.drew ?_) | (refine SureS.setCell ?_ _ _ (by show W.heap.size < _; simp; try omega)))
            clear hK K
            try simp only [Act.put, List.setIfInBounds_toArray, List.set_cons_zero, List.set_cons_succ]
            refine wpAnyH_ready (rs := [19]) (by kernel_rfl) (by simp) ?_
            refine AllReadyH.cons (by simp only [List.getElem?_toArray, List.getElem?_cons_zero, List.getElem?_cons_succ]; rfl) (fun K hK => ?_) ?_
            · go_simp
              refine hK.out _ _ ?_ (fun hHeld => ?_)
              · repeat (first | exact hHeld | exact HS.out | (refine SureS.alloc ?_ _) | (refine SureS.drew ?_) | (refine SureS.setCell ?_ _ _ (by show W.heap.size < _; simp; try omega)))
              clear hK K
              try simp only [Act.put, List.setIfInBounds_toArray, List.set_cons_zero, List.set_cons_succ]
              refine wpAnyH_ready (rs := [20]) (by kernel_rfl) (by simp) ?_
              refine AllReadyH.cons (by simp only [List.getElem?_toArray, List.getElem?_cons_zero, List.getElem?_cons_succ]; rfl) (fun K hK => ?_) ?_
              · go_simp
                refine hK.out _ _ ?_ (fun hHeld => ?_)
                · repeat (first | exact hHeld | exact HS.out | (refine SureS.alloc ?_ _) | (refine SureS.drew ?_) | (refine SureS.setCell ?_ _ _ (by show W.heap.size < _; simp; try omega)))
                clear hK K
                try simp only [Act.put, List.setIfInBounds_toArray, List.set_cons_zero, List.set_cons_succ]
                refine wpAnyH_done (by kernel_rfl) ?_ _
                go_wp2_with fail
                go_meet
                refine ⟨_, _, _, rfl, rfl, rfl, by omega, by omega, by omega, ⟨?_, ?_, ?_, ?_⟩, ⟨?_, ?_, ?_, ?_⟩, ⟨?_, ?_, ?_, ?_⟩, hHeld.box, ⟨?_, ?_, ?_, ?_⟩, fun o => ?_, hHeld.bel⟩
                all_goals first | (simp [go_sem]; done) | (simp [go_sem]; omega) | skip
              exact AllReadyH.nil
            exact AllReadyH.nil
          exact AllReadyH.nil
        exact AllReadyH.nil
      exact AllReadyH.nil
    refine AllReadyH.cons (by simp only [List.getElem?_toArray, List.getElem?_cons_zero, List.getElem?_cons_succ]; rfl) (fun K hK => ?_) ?_
    · go_simp
      refine hK.out _ _ ?_ (fun hHeld => ?_)
      · repeat (first | exact hHeld | exact HS.out | (refine SureS.alloc ?_ _) | (refine SureS.drew ?_) | (refine SureS.setCell ?_ _ _ (by show W.heap.size < _; simp; try omega)))
      clear hK K
      try simp only [Act.put, List.setIfInBounds_toArray, List.set_cons_zero, List.set_cons_succ]
      refine wpAnyH_ready (rs := [15, 16]) (by kernel_rfl) (by simp) ?_
      refine AllReadyH.cons (by simp only [List.getElem?_toArray, List.getElem?_cons_zero, List.getElem?_cons_succ]; rfl) (fun K hK => ?_) ?_
      · go_simp
        refine hK.out _ _ ?_ (fun hHeld => ?_)
        · repeat (first | exact hHeld | exact HS.out | (refine SureS.alloc ?_ _) | (refine SureS.drew ?_) | (refine SureS.setCell ?_ _ _ (by show W.heap.size < _; simp; try omega)))
        clear hK K
        try simp only [Act.put, List.setIfInBounds_toArray, List.set_cons_zero, List.set_cons_succ]
        refine wpAnyH_ready (rs := [16]) (by kernel_rfl) (by simp) ?_
        refine AllReadyH.cons (by simp only [List.getElem?_toArray, List.getElem?_cons_zero, List.getElem?_cons_succ]; rfl) (fun K hK => ?_) ?_
        · go_simp
          refine hK.out _ _ ?_ (fun hHeld => ?_)
          · repeat (first | exact hHeld | exact HS.out | (refine SureS.alloc ?_ _) | (refine SureS.drew ?_) | (refine SureS.setCell ?_ _ _ (by show W.heap.size < _; simp; try omega)))
          clear hK K
          try simp only [Act.put, List.setIfInBounds_toArray, List.set_cons_zero, List.set_cons_succ]
          refine wpAnyH_ready (rs := [18]) (by kernel_rfl) (by simp) ?_
          refine AllReadyH.cons (by simp only [List.getElem?_toArray, List.getElem?_cons_zero, List.getElem?_cons_succ]; rfl) (fun K hK => ?_) ?_
          · go_simp
            refine hK.out _ _ ?_ (fun hHeld => ?_)
            · repeat (first | exact hHeld | exact HS.out | (refine SureS.alloc ?_ _) | (refine SureS.drew ?_) | (refine SureS.setCell ?_ _ _ (by show W.heap.size < _; simp; try omega)))
            clear hK K
            try simp only [Act.put, List.setIfInBounds_toArray, List.set_cons_zero, List.set_cons_succ]
            refine wpAnyH_ready (rs := [19]) (by kernel_rfl) (by simp) ?_
            refine AllReadyH.cons (by simp only [List.getElem?_toArray, List.getElem?_cons_zero, List.getElem?_cons_succ]; rfl) (fun K hK => ?_) ?_
            · go_simp
              refine hK.out _ _ ?_ (fun hHeld => ?_)
              · repeat (first | exact hHeld | exact HS.out | (refine SureS.alloc ?_ _) | (refine SureS.drew ?_) | (refine SureS.setCell ?_ _ _ (by show W.heap.size < _; simp; try omega)))
              clear hK K
              try simp only [Act.put, List.setIfInBounds_toArray, List.set_cons_zero, List.set_cons_succ]
              refine wpAnyH_ready (rs := [20]) (by kernel_rfl) (by simp) ?_
              refine AllReadyH.cons (by simp only [List.getElem?_toArray, List.getElem?_cons_zero, List.getElem?_cons_succ]; rfl) (fun K hK => ?_) ?_
              · go_simp
                refine hK.out _ _ ?_ (fun hHeld => ?_)
                · repeat (first | exact hHeld | exact HS.out | (refine SureS.alloc ?_ _) | (refine SureS.drew ?_) | (refine SureS.setCell ?_ _ _ (by show W.heap.size < _; simp; try omega)))
                clear hK K
                try simp only [Act.put, List.setIfInBounds_toArray, List.set_cons_zero, List.set_cons_succ]
                refine wpAnyH_done (by kernel_rfl) ?_ _
                go_wp2_with fail
                go_meet
                refine ⟨_, _, _, rfl, rfl, rfl, by omega, by omega, by omega, ⟨?_, ?_, ?_, ?_⟩, ⟨?_, ?_, ?_, ?_⟩, ⟨?_, ?_, ?_, ?_⟩, hHeld.box, ⟨?_, ?_, ?_, ?_⟩, fun o => ?_, hHeld.bel⟩
                all_goals first | (simp [go_sem]; done) | (simp [go_sem]; omega) | skip
              exact AllReadyH.nil
            exact AllReadyH.nil
          exact AllReadyH.nil
        exact AllReadyH.nil
      refine AllReadyH.cons (by simp only [List.getElem?_toArray, List.getElem?_cons_zero, List.getElem?_cons_succ]; rfl) (fun K hK => ?_) ?_
      · go_simp
        refine hK.out _ _ ?_ (fun hHeld => ?_)
        · repeat (first | exact hHeld | exact HS.out | (refine SureS.alloc ?_ _) | (refine SureS.drew ?_) | (refine SureS.setCell ?_ _ _ (by show W.heap.size < _; simp; try omega)))
        clear hK K
        try simp only [Act.put, List.setIfInBounds_toArray, List.set_cons_zero, List.set_cons_succ]
        refine wpAnyH_ready (rs := [15]) (by kernel_rfl) (by simp) ?_
        refine AllReadyH.cons (by simp only [List.getElem?_toArray, List.getElem?_cons_zero, List.getElem?_cons_succ]; rfl) (fun K hK => ?_) ?_
        · go_simp
          refine hK.out _ _ ?_ (fun hHeld => ?_)
          · repeat (first | exact hHeld | exact HS.out | (refine SureS.alloc ?_ _) | (refine SureS.drew ?_) | (refine SureS.setCell ?_ _ _ (by show W.heap.size < _; simp; try omega)))
          clear hK K
          try simp only [Act.put, List.setIfInBounds_toArray, List.set_cons_zero, List.set_cons_succ]
          refine wpAnyH_ready (rs := [18]) (by kernel_rfl) (by simp) ?_
          refine AllReadyH.cons (by simp only [List.getElem?_toArray, List.getElem?_cons_zero, List.getElem?_cons_succ]; rfl) (fun K hK => ?_) ?_
          · go_simp
            refine hK.out _ _ ?_ (fun hHeld => ?_)
            · repeat (first | exact hHeld | exact HS.out | (refine SureS.alloc ?_ _) | (refine SureS.drew ?_) | (refine SureS.setCell ?_ _ _ (by show W.heap.size < _; simp; try omega)))
            clear hK K
            try simp only [Act.put, List.setIfInBounds_toArray, List.set_cons_zero, List.set_cons_succ]
            refine wpAnyH_ready (rs := [19]) (by kernel_rfl) (by simp) ?_
            refine AllReadyH.cons (by simp only [List.getElem?_toArray, List.getElem?_cons_zero, List.getElem?_cons_succ]; rfl) (fun K hK => ?_) ?_
            · go_simp
              refine hK.out _ _ ?_ (fun hHeld => ?_)
              · repeat (first | exact hHeld | exact HS.out | (refine SureS.alloc ?_ _) | (refine SureS.drew ?_) | (refine SureS.setCell ?_ _ _ (by show W.heap.size < _; simp; try omega)))
              clear hK K
              try simp only [Act.put, List.setIfInBounds_toArray, List.set_cons_zero, List.set_cons_succ]
              refine wpAnyH_ready (rs := [20]) (by kernel_rfl) (by simp) ?_
              refine AllReadyH.cons (by simp only [List.getElem?_toArray, List.getElem?_cons_zero, List.getElem?_cons_succ]; rfl) (fun K hK => ?_) ?_
              · go_simp
                refine hK.out _ _ ?_ (fun hHeld => ?_)
                · repeat (first | exact hHeld | exact HS.out | (refine SureS.alloc ?_ _) | (refine SureS.drew ?_) | (refine SureS.setCell ?_ _ _ (by show W.heap.size < _; simp; try omega)))
                clear hK K
                try simp only [Act.put, List.setIfInBounds_toArray, List.set_cons_zero, List.set_cons_succ]
                refine wpAnyH_done (by kernel_rfl) ?_ _
                go_wp2_with fail
                go_meet
                refine ⟨_, _, _, rfl, rfl, rfl, by omega, by omega, by omega, ⟨?_, ?_, ?_, ?_⟩, ⟨?_, ?_, ?_, ?_⟩, ⟨?_, ?_, ?_, ?_⟩, hHeld.box, ⟨?_, ?_, ?_, ?_⟩, fun o => ?_, hHeld.bel⟩
                all_goals first | (simp [go_sem]; done) | (simp [go_sem]; omega) | skip
              exact AllReadyH.nil
            exact AllReadyH.nil
          exact AllReadyH.nil
        exact AllReadyH.nil
      exact AllReadyH.nil
    exact AllReadyH.nil

  case rest =>
    obtain ⟨g, h, i, rfl, rfl, rfl, lg, lh, li, ⟨pg, pg0, pg1, pg2⟩, ⟨ph, ph0, ph1, ph2⟩, ⟨pi, pi0, pi1, pi2⟩, bx, ⟨pr, pr0, pr1, pr2⟩, fr, hbel⟩ := hcut
    have HR := Lib.hid (⟨bx, pr0, pr1, pr2, fr, pr, hbel⟩ : SureR W _ _ _ _ _ _ _ wc)
    have f0 := fr 0
    have f1 := fr 1
    have f2 := fr 2
    unfold At7 at bx
    go_wp2_with fail
    refine (HN.out _ hbel).mono ?_
    rintro e w4 ⟨rfl, hb4⟩
    have HR4 := Lib.hid (HR.out.call hb4)
    have hx4 : At3 w4 g (.int .u8 ((w0 : Nat) : Int)) (.int .u64 ((z0 : Nat) : Int)) (.int .u64 ((o0 : Nat) : Int)) := ⟨Nat.lt_of_lt_of_le pg hb4.size, (hb4.cell (p := ⟨g, 0, none⟩) pg).trans pg0, (hb4.cell (p := ⟨g, 1, none⟩) pg).trans pg1, (hb4.cell (p := ⟨g, 2, none⟩) pg).trans pg2⟩
    obtain ⟨lg4, g40, g41, g42⟩ := hx4
    obtain ⟨bx4, q0, q1, q2, fr4, l4, bel4⟩ := HR4.out
    have f40 := fr4 0
    have f41 := fr4 1
    have f42 := fr4 2
    have l40 : W.heap.size < w4.heap.size := by omega
    unfold At7 at bx4
    clear hb4
    go_wp2_with fail
    refine (HC.out _).mono ?_
    rintro e w5 ⟨rfl, hb5⟩
    have hb : Below w4.heap.size w4 w5 := (bel_alloc (Below.refl _ _) _).trans (hb5.mono (by simp))
    clear hb5
    have HR5 := Lib.hid (HR4.out.call hb)
    obtain ⟨b5, p50, p51, p52, f5, l5, bel5⟩ := HR5.out
    have f50 := f5 0
    have f51 := f5 1
    have f52 := f5 2
    clear hb
    go_wp2_with fail
    exact bodyPost_ret (v := .agg #[.int .u8 ((w0 : Nat) : Int), .int .u64 (((shK 17 w0 (z0, o0) yn).1 : Nat) : Int), .int .u64 (((shK 17 w0 (z0, o0) yn).2 : Nat) : Int)]) (by simp [results, Try.results17, go_sem, p50, p51, p52]) rfl ⟨rfl, ((bel5.setCell (by simp) _).setCell (by simp) _).setCell (by simp) _⟩

end Kn
end Go.Proofs.Ytbemkaninedonaa
