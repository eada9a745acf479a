/-
  The program's Units, as a fact on one call.
-/
import Derived.Test.YtmgkgbhkaoflhaaB6
import Derived.Laws.MakeOwn
import Derived.Deep.RegionHeld3
import Derived.Deep.DeepCutAuto
namespace Go.Proofs.Ytmgkgbhkaoflhaa
open Go.RowKit Go.Maps Go.Sort
namespace Cf
set_option maxHeartbeats 4000000
set_option maxRecDepth 100000

theorem uflat_take {C : Cl} {k : Nat} (hk : k < C.length) : (C.take (k + 1)).flatten.length = (C.take k).flatten.length + (C.getD k []).length := by
  rw [List.take_add_one, List.getElem?_eq_getElem hk, List.flatten_append, List.length_append, List.getD_eq_getElem?_getD, List.getElem?_eq_getElem hk]
  simp
theorem uflat_le {C : Cl} (k : Nat) : (C.take k).flatten.length ≤ C.flatten.length := by
  have h : C.flatten = (C.take k).flatten ++ (C.drop k).flatten := by rw [← List.flatten_append, List.take_append_drop]
  rw [h, List.length_append]
  omega
theorem cnt2_le (lf : List Int) : cnt2 lf ≤ lf.length := List.length_filter_le _ _
theorem laid_zero {C : Cl} {T : List Int} {v : Nat} : Laid C T v 0 [] (List.replicate C.length 0) [] (List.replicate (2 * v + 1) 0) := by
  refine ⟨fun k hk => by omega, fun h => ?_, fun k hk hkn => by simp [hkn], fun i hi => ⟨0, by simp [hi], ?_⟩⟩
  · simp [h, cnt]
  · simp only [List.elem_nil, Bool.false_and, Bool.false_eq_true, if_false, List.nil_append]
    rfl
theorem queued_zero {C : Cl} {T : List Int} : Queued C T 0 [] false := ⟨heap_nil, by simp, by simp, fun y hy => by simp at hy, fun k hk => by omega⟩
/-- What the making of the struct reads. -/
structure US (W w1 : World) (al : Option Addr) (n c vn : Nat) (w : World) : Prop where
  c0 : w.cell? ⟨W.heap.size, 0, none⟩ = some (.int .i64 vn)
  c1 : w.cell? ⟨W.heap.size, 1, none⟩ = some (.slice al n c)
  bel : Below w1.heap.size w1 w
theorem US.alloc {W w1 w : World} {al : Option Addr} {n c vn : Nat} (h : US W w1 al n c vn w) (o : Obj) : US W w1 al n c vn (w.alloc o) := by
  have hlt := (Array.getElem?_eq_some_iff.1 (cells_of_cell? h.c0).choose_spec.choose_spec.choose_spec.1).1
  have hk := (Below.refl w.heap.size w).alloc (Nat.le_refl _) o
  exact ⟨(hk.cell (p := ⟨W.heap.size, 0, none⟩) hlt).trans h.c0, (hk.cell (p := ⟨W.heap.size, 1, none⟩) hlt).trans h.c1, h.bel.alloc h.bel.size o⟩
theorem US.drew {W w1 w : World} {al : Option Addr} {n c vn : Nat} (h : US W w1 al n c vn w) : US W w1 al n c vn w.drew := ⟨h.c0, h.c1, h.bel.drew⟩
theorem US.of {W w1 w : World} {al : Option Addr} {n c vn : Nat} (h : US W w1 al n c vn w1) (hlt : W.heap.size < w1.heap.size) (hb : Below w1.heap.size w1 w) : US W w1 al n c vn w :=
  ⟨(hb.cell (p := ⟨W.heap.size, 0, none⟩) hlt).trans h.c0, (hb.cell (p := ⟨W.heap.size, 1, none⟩) hlt).trans h.c1, hb⟩
theorem cunits_no {W : World} {al gl : Option Addr} {C : Cl} {v : Int} {c gc gn : Nat} (h : ClsAt W al C) (hok : OkC C) (hm : mayC v C = false) :
    Calls Try.prog 23 #[.agg #[.int .i64 v, .slice al C.length c], .slice gl gn gc] W fun e w => e = .returned (.tuple #[.slice none 0 0, .bool false]) ∧ Below W.heap.size W w := by
  have HM := Lib.hid (fun (w : World) (hb : Below W.heap.size W w) => cmay_any (W := w) (v := v) (c := c) (h.keep hb) hok)
  rw [hm] at HM
  clear h hok hm
  go_enter Try.func23, Try.ntmps23
  go_wp2_with fail
  refine (HM.out _ (bel_alloc (Below.refl _ _) _)).mono ?_
  rintro e w1 ⟨rfl, hb1⟩
  go_wp2_with fail
  go_ret2
  exact ⟨rfl, bel_call (bel_alloc (Below.refl _ _) _) hb1⟩
theorem cunits_yes {W : World} {al gl : Option Addr} {C : Cl} {g : List Int} {vn c gc : Nat} (h : ClsAt W al C) (hok : OkC C) (hg : IntsAt W gl g) (hm : mayC ((vn : Nat) : Int) C = true) (hsz : C.length + g.length + C.flatten.length ≤ 1000000) :
    Calls Try.prog 23 #[.agg #[.int .i64 ((vn : Nat) : Int), .slice al C.length c], .slice gl g.length gc] W fun e w => ∃ a c, e = .returned (.tuple #[.slice a (unitsC ((vn : Nat) : Int) C g).1.length c, .bool (unitsC ((vn : Nat) : Int) C g).2]) ∧ IntsAt w a (unitsC ((vn : Nat) : Int) C g).1 ∧ Below W.heap.size W w := by
  have HM := Lib.hid (fun (w : World) (hb : Below W.heap.size W w) => cmay_any (W := w) (v := vn) (c := c) (h.keep hb) hok)
  rw [hm] at HM
  obtain ⟨hmv, hlit⟩ := mayC_parts hm
  have hv : 0 ≤ ((vn : Nat) : Int) ∧ ((vn : Nat) : Int) ≤ 1000000 := by unfold mayV at hmv; simpa using hmv
  have hvn : vn ≤ 1000000 := by omega
  have hnn : C.length ≤ 1000000 := by omega
  have hgl : g.length ≤ 1000000 := by omega
  have HCL := Lib.hid h
  have HG := Lib.hid hg
  have HOK := Lib.hid hok
  have HLIT := Lib.hid hlit
  have HSZ := Lib.hid hsz
  rw [units_left hm]
  obtain ⟨R, hR⟩ : ∃ R, R = leftU ((vn : Nat) : Int) C [] g := ⟨_, rfl⟩
  rw [← hR]
  have HRR := Lib.hid hR
  clear hR
  have hmm := @run_makeMap Try.prog
  have mk1 := make_ints C.length (by omega)
  have mk2 := make_ints (2 * vn + 1) (by omega)
  have e2 : (((2 * vn + 1 : Nat) : Nat) : Int) = 2 * ((vn : Nat) : Int) + 1 := by omega
  rw [e2] at mk2
  clear h hok hg hm hmv hlit hsz e2
  go_enter Try.func23, Try.ntmps23
  go_wp2_with fail
  refine (HM.out _ (bel_alloc (Below.refl _ _) _)).mono ?_
  rintro e w1 ⟨rfl, hb1⟩
  have hc0 : w1.cell? ⟨W.heap.size, 0, none⟩ = some (.int .i64 vn) := (hb1.cell (p := ⟨W.heap.size, 0, none⟩) (by simp)).trans (new_cell _ _ _ _)
  have hc1 : w1.cell? ⟨W.heap.size, 1, none⟩ = some (.slice al C.length c) := (hb1.cell (p := ⟨W.heap.size, 1, none⟩) (by simp)).trans (new_cell _ _ _ _)
  have hBW : Below W.heap.size W w1 := bel_call (bel_alloc (Below.refl _ _) _) hb1
  have hlt : W.heap.size < w1.heap.size := by have := hb1.size; simp at this; omega
  have HBW := Lib.hid hBW
  have HC0 := Lib.hid hc0
  have HC1 := Lib.hid hc1
  have HLT := Lib.hid hlt
  clear hb1 hBW HM
  have hl1 : W.heap.size < w1.heap.size + 1 := by omega
  have hl2 : W.heap.size < w1.heap.size + 1 + 1 := by omega
  have hl3 : W.heap.size < w1.heap.size + 1 + 1 + 1 := by omega
  have hl4 : W.heap.size < w1.heap.size + 1 + 1 + 1 + 1 := by omega
  have hw1 : IntKind.i64.wrap (2 * ((vn : Nat) : Int)) = 2 * ((vn : Nat) : Int) := by rw [IntKind.wrap_i64]; omega
  have hw2 : IntKind.i64.wrap (2 * ((vn : Nat) : Int) + 1) = 2 * ((vn : Nat) : Int) + 1 := by rw [IntKind.wrap_i64]; omega
  have hbuild : ∀ (w : World) (m lb nb : Nat), (Instr.build 65 #[(0, .slice al C.length c), (1, .int .i64 vn), (3, .map (some m)), (4, .slice (some ⟨lb, 0, none⟩) C.length C.length), (6, .slice (some ⟨nb, 0, none⟩) (2 * vn + 1) (2 * vn + 1))]).run Try.prog w = .ok (.agg (cellsU al C.length c vn ⟨m, lb, nb, .slice none 0 0, .slice none 0 0, .slice none 0 0⟩ false)) w := fun w m lb nb => run_build w _ _ _ (by kernel_rfl)
  have HS : Hid (US W w1 al C.length c vn w1) := ⟨HC0.out, HC1.out, Below.refl _ _⟩
  go_upto_region 3 with fail
  go_cut [6] (fun s6 wx => ∃ (u : Nat) (L : Lay), s6 = .pointer (some ⟨u, 0, none⟩) ∧ UAt w1.heap.size wx u al C.length c vn L ⟨[], List.replicate C.length 0, [], List.replicate (2 * vn + 1) 0, [], false⟩ ∧ Below w1.heap.size w1 wx)
  case first =>
    refine wp_region_held_drew (S := US W w1 al C.length c vn) (by kernel_rfl) HS.out.drew (fun hHeld => ?_)
    refine wpAnyH_take (i := 0) (v := .pointer (some ⟨W.heap.size, 1, none⟩)) (by simp only [List.getElem?_toArray, List.getElem?_cons_zero]; rfl) (by kernel_rfl) (by kernel_rfl) (by kernel_rfl) (by exact fun _ _ _ h => h) (Or.inl ⟨by rfl, ?_⟩) hHeld ?_
    · intro w' hSw
      go_simp
    simp only [Act.put, List.setIfInBounds_toArray, List.set_cons_zero, List.set_cons_succ]
    refine wpAnyH_take (i := 1) (v := .slice al C.length c) (by simp only [List.getElem?_toArray, List.getElem?_cons_zero, List.getElem?_cons_succ]; rfl) (by kernel_rfl) (by kernel_rfl) (by kernel_rfl) (by exact fun _ _ _ h => h) (Or.inl ⟨by rfl, ?_⟩) hHeld ?_
    · intro w' hSw
      obtain ⟨f0, f1, f2⟩ := hSw; go_simp
    simp only [Act.put, List.setIfInBounds_toArray, List.set_cons_zero, List.set_cons_succ]
    refine wpAnyH_take (i := 2) (v := .pointer (some ⟨W.heap.size, 0, none⟩)) (by simp only [List.getElem?_toArray, List.getElem?_cons_zero, List.getElem?_cons_succ]; rfl) (by kernel_rfl) (by kernel_rfl) (by kernel_rfl) (by exact fun _ _ _ h => h) (Or.inl ⟨by rfl, ?_⟩) hHeld ?_
    · intro w' hSw
      go_simp
    simp only [Act.put, List.setIfInBounds_toArray, List.set_cons_zero, List.set_cons_succ]
    refine wpAnyH_take (i := 3) (v := .int .i64 vn) (by simp only [List.getElem?_toArray, List.getElem?_cons_zero, List.getElem?_cons_succ]; rfl) (by kernel_rfl) (by kernel_rfl) (by kernel_rfl) (by exact fun _ _ _ h => h) (Or.inl ⟨by rfl, ?_⟩) hHeld ?_
    · intro w' hSw
      obtain ⟨f0, f1, f2⟩ := hSw; go_simp
    simp only [Act.put, List.setIfInBounds_toArray, List.set_cons_zero, List.set_cons_succ]
    refine wpAnyH_take (i := 5) (v := .pointer (some ⟨W.heap.size, 1, none⟩)) (by simp only [List.getElem?_toArray, List.getElem?_cons_zero, List.getElem?_cons_succ]; rfl) (by kernel_rfl) (by kernel_rfl) (by kernel_rfl) (by exact fun _ _ _ h => h) (Or.inl ⟨by rfl, ?_⟩) hHeld ?_
    · intro w' hSw
      go_simp
    simp only [Act.put, List.setIfInBounds_toArray, List.set_cons_zero, List.set_cons_succ]
    refine wpAnyH_take (i := 6) (v := .slice al C.length c) (by simp only [List.getElem?_toArray, List.getElem?_cons_zero, List.getElem?_cons_succ]; rfl) (by kernel_rfl) (by kernel_rfl) (by kernel_rfl) (by exact fun _ _ _ h => h) (Or.inl ⟨by rfl, ?_⟩) hHeld ?_
    · intro w' hSw
      obtain ⟨f0, f1, f2⟩ := hSw; go_simp
    simp only [Act.put, List.setIfInBounds_toArray, List.set_cons_zero, List.set_cons_succ]
    refine wpAnyH_take (i := 7) (v := .int .i64 C.length) (by simp only [List.getElem?_toArray, List.getElem?_cons_zero, List.getElem?_cons_succ]; rfl) (by kernel_rfl) (by kernel_rfl) (by kernel_rfl) (by exact fun _ _ _ h => h) (Or.inl ⟨by rfl, ?_⟩) hHeld ?_
    · intro w' hSw
      go_simp
    simp only [Act.put, List.setIfInBounds_toArray, List.set_cons_zero, List.set_cons_succ]
    refine wpAnyH_take (i := 9) (v := .pointer (some ⟨W.heap.size, 0, none⟩)) (by simp only [List.getElem?_toArray, List.getElem?_cons_zero, List.getElem?_cons_succ]; rfl) (by kernel_rfl) (by kernel_rfl) (by kernel_rfl) (by exact fun _ _ _ h => h) (Or.inl ⟨by rfl, ?_⟩) hHeld ?_
    · intro w' hSw
      go_simp
    simp only [Act.put, List.setIfInBounds_toArray, List.set_cons_zero, List.set_cons_succ]
    refine wpAnyH_take (i := 10) (v := .int .i64 vn) (by simp only [List.getElem?_toArray, List.getElem?_cons_zero, List.getElem?_cons_succ]; rfl) (by kernel_rfl) (by kernel_rfl) (by kernel_rfl) (by exact fun _ _ _ h => h) (Or.inl ⟨by rfl, ?_⟩) hHeld ?_
    · intro w' hSw
      obtain ⟨f0, f1, f2⟩ := hSw; go_simp
    simp only [Act.put, List.setIfInBounds_toArray, List.set_cons_zero, List.set_cons_succ]
    refine wpAnyH_take (i := 11) (v := .int .i64 (2 * vn)) (by simp only [List.getElem?_toArray, List.getElem?_cons_zero, List.getElem?_cons_succ]; rfl) (by kernel_rfl) (by kernel_rfl) (by kernel_rfl) (by exact fun _ _ _ h => h) (Or.inl ⟨by rfl, ?_⟩) hHeld ?_
    · intro w' hSw
      go_simp
    simp only [Act.put, List.setIfInBounds_toArray, List.set_cons_zero, List.set_cons_succ]
    refine wpAnyH_take (i := 12) (v := .int .i64 (2 * vn + 1)) (by simp only [List.getElem?_toArray, List.getElem?_cons_zero, List.getElem?_cons_succ]; rfl) (by kernel_rfl) (by kernel_rfl) (by kernel_rfl) (by exact fun _ _ _ h => h) (Or.inl ⟨by rfl, ?_⟩) hHeld ?_
    · intro w' hSw
      go_simp
    simp only [Act.put, List.setIfInBounds_toArray, List.set_cons_zero, List.set_cons_succ]
    refine wpAnyH_ready (rs := [4, 8, 13, 15]) (by kernel_rfl) (by simp) ?_
    refine AllReadyH.cons (by simp only [List.getElem?_toArray, List.getElem?_cons_zero, List.getElem?_cons_succ]; rfl) (fun K hK => ?_) ?_
    · go_simp
      refine hK.out _ _ ?_ (fun hHeld => ?_)
      · first | exact US.alloc hHeld _ | exact US.alloc HS.out.drew _ | fail
      clear hK K
      try simp only [Act.put, List.setIfInBounds_toArray, List.set_cons_zero, List.set_cons_succ]
      refine wpAnyH_ready (rs := [8, 13, 15]) (by kernel_rfl) (by simp) ?_
      refine AllReadyH.cons (by simp only [List.getElem?_toArray, List.getElem?_cons_zero, List.getElem?_cons_succ]; rfl) (fun K hK => ?_) ?_
      · go_simp
        refine hK.out _ _ ?_ (fun hHeld => ?_)
        · first | exact US.alloc hHeld _ | exact US.alloc HS.out.drew _ | fail
        clear hK K
        try simp only [Act.put, List.setIfInBounds_toArray, List.set_cons_zero, List.set_cons_succ]
        refine wpAnyH_ready (rs := [13, 15]) (by kernel_rfl) (by simp) ?_
        refine AllReadyH.cons (by simp only [List.getElem?_toArray, List.getElem?_cons_zero, List.getElem?_cons_succ]; rfl) (fun K hK => ?_) ?_
        · go_simp
          refine hK.out _ _ ?_ (fun hHeld => ?_)
          · first | exact US.alloc hHeld _ | exact US.alloc HS.out.drew _ | fail
          clear hK K
          try simp only [Act.put, List.setIfInBounds_toArray, List.set_cons_zero, List.set_cons_succ]
          refine wpAnyH_take (i := 14) (v := .agg (cellsU al C.length c vn ⟨w1.heap.size, w1.heap.size + 1, w1.heap.size + 1 + 1, .slice none 0 0, .slice none 0 0, .slice none 0 0⟩ false)) (by simp only [List.getElem?_toArray, List.getElem?_cons_zero, List.getElem?_cons_succ]; rfl) (by kernel_rfl) (by kernel_rfl) (by kernel_rfl) (by exact fun _ _ _ h => h) (Or.inl ⟨by rfl, ?_⟩) hHeld ?_
          · intro w' hSw
            go_simp; rfl
          simp only [Act.put, List.setIfInBounds_toArray, List.set_cons_zero, List.set_cons_succ]
          refine wpAnyH_ready (rs := [15]) (by kernel_rfl) (by simp) ?_
          refine AllReadyH.cons (by simp only [List.getElem?_toArray, List.getElem?_cons_zero, List.getElem?_cons_succ]; rfl) (fun K hK => ?_) ?_
          · go_simp
            refine hK.out _ _ ?_ (fun hHeld => ?_)
            · first | exact US.alloc hHeld _ | exact US.alloc HS.out.drew _ | fail
            clear hK K
            try simp only [Act.put, List.setIfInBounds_toArray, List.set_cons_zero, List.set_cons_succ]
            refine wpAnyH_ready (rs := [16]) (by kernel_rfl) (by simp) ?_
            refine AllReadyH.cons (by simp only [List.getElem?_toArray, List.getElem?_cons_zero, List.getElem?_cons_succ]; rfl) (fun K hK => ?_) ?_
            · obtain ⟨hf0, hf1, hf2, hf3, hfz, hfb⟩ := four w1 (.map #[] 0) (.cells (rowI (List.replicate C.length 0)).toArray 3) (.cells (rowI (List.replicate (2 * vn + 1) 0)).toArray 3) (.cells zero9 65)
              have hst : (storeCells ⟨w1.heap.size + 1 + 1 + 1, 0, none⟩ (cellsU al C.length c vn ⟨w1.heap.size, w1.heap.size + 1, w1.heap.size + 1 + 1, .slice none 0 0, .slice none 0 0, .slice none 0 0⟩ false).toList).run Try.prog ((((w1.alloc (.map #[] 0)).alloc (.cells (rowI (List.replicate C.length 0)).toArray 3)).alloc (.cells (rowI (List.replicate (2 * vn + 1) 0)).toArray 3)).alloc (.cells #[.slice none 0 0, .int .i64 0, .slice none 0 0, .map none, .slice none 0 0, .slice none 0 0, .slice none 0 0, .slice none 0 0, .bool false] 65)).drew = .ok () _ := store_row (cs := cellsU al C.length c vn ⟨w1.heap.size, w1.heap.size + 1, w1.heap.size + 1 + 1, .slice none 0 0, .slice none 0 0, .slice none 0 0⟩ false) hf3 rfl (by simp [cellsU, Value.oneCell'])
              have HU := Lib.hid (uat_made (al := al) (c := c) hf0 hf1 hf2 hf3 (B := w1.heap.size) (by omega) (by omega) (by omega) (by omega) (by omega) (by omega) (by omega) (by omega) (by omega) (by omega))
              have HBB := Lib.hid (bel_setRow (cs := cellsU al C.length c vn ⟨w1.heap.size, w1.heap.size + 1, w1.heap.size + 1 + 1, .slice none 0 0, .slice none 0 0, .slice none 0 0⟩ false) (u := w1.heap.size + 1 + 1 + 1) hfb (by omega))
              clear hf0 hf1 hf2 hf3 hfz hfb
              have hs9 : (cellsU al C.length c vn ⟨w1.heap.size, w1.heap.size + 1, w1.heap.size + 1 + 1, .slice none 0 0, .slice none 0 0, .slice none 0 0⟩ false).size = 9 := rfl
              go_simp
              refine hK.out _ _ (US.of HS.out hlt HBB.out) (fun hHeld => ?_)
              clear hK K
              refine wpAnyH_done (by kernel_rfl) ?_ _
              go_wp2_with fail
              go_meet
              exact ⟨_, _, rfl, HU.out, HBB.out⟩

            exact AllReadyH.nil
          exact AllReadyH.nil
        refine AllReadyH.cons (by simp only [List.getElem?_toArray, List.getElem?_cons_zero, List.getElem?_cons_succ]; rfl) (fun K hK => ?_) ?_
        · go_simp
          refine hK.out _ _ ?_ (fun hHeld => ?_)
          · first | exact US.alloc hHeld _ | exact US.alloc HS.out.drew _ | fail
          clear hK K
          try simp only [Act.put, List.setIfInBounds_toArray, List.set_cons_zero, List.set_cons_succ]
          refine wpAnyH_ready (rs := [13]) (by kernel_rfl) (by simp) ?_
          refine AllReadyH.cons (by simp only [List.getElem?_toArray, List.getElem?_cons_zero, List.getElem?_cons_succ]; rfl) (fun K hK => ?_) ?_
          · go_simp
            refine hK.out _ _ ?_ (fun hHeld => ?_)
            · first | exact US.alloc hHeld _ | exact US.alloc HS.out.drew _ | fail
            clear hK K
            try simp only [Act.put, List.setIfInBounds_toArray, List.set_cons_zero, List.set_cons_succ]
            refine wpAnyH_take (i := 14) (v := .agg (cellsU al C.length c vn ⟨w1.heap.size, w1.heap.size + 1, w1.heap.size + 1 + 1 + 1, .slice none 0 0, .slice none 0 0, .slice none 0 0⟩ false)) (by simp only [List.getElem?_toArray, List.getElem?_cons_zero, List.getElem?_cons_succ]; rfl) (by kernel_rfl) (by kernel_rfl) (by kernel_rfl) (by exact fun _ _ _ h => h) (Or.inl ⟨by rfl, ?_⟩) hHeld ?_
            · intro w' hSw
              go_simp; rfl
            simp only [Act.put, List.setIfInBounds_toArray, List.set_cons_zero, List.set_cons_succ]
            refine wpAnyH_ready (rs := [16]) (by kernel_rfl) (by simp) ?_
            refine AllReadyH.cons (by simp only [List.getElem?_toArray, List.getElem?_cons_zero, List.getElem?_cons_succ]; rfl) (fun K hK => ?_) ?_
            · obtain ⟨hf0, hf1, hf2, hf3, hfz, hfb⟩ := four w1 (.map #[] 0) (.cells (rowI (List.replicate C.length 0)).toArray 3) (.cells zero9 65) (.cells (rowI (List.replicate (2 * vn + 1) 0)).toArray 3)
              have hst : (storeCells ⟨w1.heap.size + 1 + 1, 0, none⟩ (cellsU al C.length c vn ⟨w1.heap.size, w1.heap.size + 1, w1.heap.size + 1 + 1 + 1, .slice none 0 0, .slice none 0 0, .slice none 0 0⟩ false).toList).run Try.prog ((((w1.alloc (.map #[] 0)).alloc (.cells (rowI (List.replicate C.length 0)).toArray 3)).alloc (.cells #[.slice none 0 0, .int .i64 0, .slice none 0 0, .map none, .slice none 0 0, .slice none 0 0, .slice none 0 0, .slice none 0 0, .bool false] 65)).alloc (.cells (rowI (List.replicate (2 * vn + 1) 0)).toArray 3)).drew = .ok () _ := store_row (cs := cellsU al C.length c vn ⟨w1.heap.size, w1.heap.size + 1, w1.heap.size + 1 + 1 + 1, .slice none 0 0, .slice none 0 0, .slice none 0 0⟩ false) hf2 rfl (by simp [cellsU, Value.oneCell'])
              have HU := Lib.hid (uat_made (al := al) (c := c) hf0 hf1 hf3 hf2 (B := w1.heap.size) (by omega) (by omega) (by omega) (by omega) (by omega) (by omega) (by omega) (by omega) (by omega) (by omega))
              have HBB := Lib.hid (bel_setRow (cs := cellsU al C.length c vn ⟨w1.heap.size, w1.heap.size + 1, w1.heap.size + 1 + 1 + 1, .slice none 0 0, .slice none 0 0, .slice none 0 0⟩ false) (u := w1.heap.size + 1 + 1) hfb (by omega))
              clear hf0 hf1 hf2 hf3 hfz hfb
              have hs9 : (cellsU al C.length c vn ⟨w1.heap.size, w1.heap.size + 1, w1.heap.size + 1 + 1 + 1, .slice none 0 0, .slice none 0 0, .slice none 0 0⟩ false).size = 9 := rfl
              go_simp
              refine hK.out _ _ (US.of HS.out hlt HBB.out) (fun hHeld => ?_)
              clear hK K
              refine wpAnyH_done (by kernel_rfl) ?_ _
              go_wp2_with fail
              go_meet
              exact ⟨_, _, rfl, HU.out, HBB.out⟩

            exact AllReadyH.nil
          exact AllReadyH.nil
        exact AllReadyH.nil
      refine AllReadyH.cons (by simp only [List.getElem?_toArray, List.getElem?_cons_zero, List.getElem?_cons_succ]; rfl) (fun K hK => ?_) ?_
      · go_simp
        refine hK.out _ _ ?_ (fun hHeld => ?_)
        · first | exact US.alloc hHeld _ | exact US.alloc HS.out.drew _ | fail
        clear hK K
        try simp only [Act.put, List.setIfInBounds_toArray, List.set_cons_zero, List.set_cons_succ]
        refine wpAnyH_ready (rs := [8, 15]) (by kernel_rfl) (by simp) ?_
        refine AllReadyH.cons (by simp only [List.getElem?_toArray, List.getElem?_cons_zero, List.getElem?_cons_succ]; rfl) (fun K hK => ?_) ?_
        · go_simp
          refine hK.out _ _ ?_ (fun hHeld => ?_)
          · first | exact US.alloc hHeld _ | exact US.alloc HS.out.drew _ | fail
          clear hK K
          try simp only [Act.put, List.setIfInBounds_toArray, List.set_cons_zero, List.set_cons_succ]
          refine wpAnyH_take (i := 14) (v := .agg (cellsU al C.length c vn ⟨w1.heap.size, w1.heap.size + 1 + 1, w1.heap.size + 1, .slice none 0 0, .slice none 0 0, .slice none 0 0⟩ false)) (by simp only [List.getElem?_toArray, List.getElem?_cons_zero, List.getElem?_cons_succ]; rfl) (by kernel_rfl) (by kernel_rfl) (by kernel_rfl) (by exact fun _ _ _ h => h) (Or.inl ⟨by rfl, ?_⟩) hHeld ?_
          · intro w' hSw
            go_simp; rfl
          simp only [Act.put, List.setIfInBounds_toArray, List.set_cons_zero, List.set_cons_succ]
          refine wpAnyH_ready (rs := [15]) (by kernel_rfl) (by simp) ?_
          refine AllReadyH.cons (by simp only [List.getElem?_toArray, List.getElem?_cons_zero, List.getElem?_cons_succ]; rfl) (fun K hK => ?_) ?_
          · go_simp
            refine hK.out _ _ ?_ (fun hHeld => ?_)
            · first | exact US.alloc hHeld _ | exact US.alloc HS.out.drew _ | fail
            clear hK K
            try simp only [Act.put, List.setIfInBounds_toArray, List.set_cons_zero, List.set_cons_succ]
            refine wpAnyH_ready (rs := [16]) (by kernel_rfl) (by simp) ?_
            refine AllReadyH.cons (by simp only [List.getElem?_toArray, List.getElem?_cons_zero, List.getElem?_cons_succ]; rfl) (fun K hK => ?_) ?_
            · obtain ⟨hf0, hf1, hf2, hf3, hfz, hfb⟩ := four w1 (.map #[] 0) (.cells (rowI (List.replicate (2 * vn + 1) 0)).toArray 3) (.cells (rowI (List.replicate C.length 0)).toArray 3) (.cells zero9 65)
              have hst : (storeCells ⟨w1.heap.size + 1 + 1 + 1, 0, none⟩ (cellsU al C.length c vn ⟨w1.heap.size, w1.heap.size + 1 + 1, w1.heap.size + 1, .slice none 0 0, .slice none 0 0, .slice none 0 0⟩ false).toList).run Try.prog ((((w1.alloc (.map #[] 0)).alloc (.cells (rowI (List.replicate (2 * vn + 1) 0)).toArray 3)).alloc (.cells (rowI (List.replicate C.length 0)).toArray 3)).alloc (.cells #[.slice none 0 0, .int .i64 0, .slice none 0 0, .map none, .slice none 0 0, .slice none 0 0, .slice none 0 0, .slice none 0 0, .bool false] 65)).drew = .ok () _ := store_row (cs := cellsU al C.length c vn ⟨w1.heap.size, w1.heap.size + 1 + 1, w1.heap.size + 1, .slice none 0 0, .slice none 0 0, .slice none 0 0⟩ false) hf3 rfl (by simp [cellsU, Value.oneCell'])
              have HU := Lib.hid (uat_made (al := al) (c := c) hf0 hf2 hf1 hf3 (B := w1.heap.size) (by omega) (by omega) (by omega) (by omega) (by omega) (by omega) (by omega) (by omega) (by omega) (by omega))
              have HBB := Lib.hid (bel_setRow (cs := cellsU al C.length c vn ⟨w1.heap.size, w1.heap.size + 1 + 1, w1.heap.size + 1, .slice none 0 0, .slice none 0 0, .slice none 0 0⟩ false) (u := w1.heap.size + 1 + 1 + 1) hfb (by omega))
              clear hf0 hf1 hf2 hf3 hfz hfb
              have hs9 : (cellsU al C.length c vn ⟨w1.heap.size, w1.heap.size + 1 + 1, w1.heap.size + 1, .slice none 0 0, .slice none 0 0, .slice none 0 0⟩ false).size = 9 := rfl
              go_simp
              refine hK.out _ _ (US.of HS.out hlt HBB.out) (fun hHeld => ?_)
              clear hK K
              refine wpAnyH_done (by kernel_rfl) ?_ _
              go_wp2_with fail
              go_meet
              exact ⟨_, _, rfl, HU.out, HBB.out⟩

            exact AllReadyH.nil
          exact AllReadyH.nil
        refine AllReadyH.cons (by simp only [List.getElem?_toArray, List.getElem?_cons_zero, List.getElem?_cons_succ]; rfl) (fun K hK => ?_) ?_
        · go_simp
          refine hK.out _ _ ?_ (fun hHeld => ?_)
          · first | exact US.alloc hHeld _ | exact US.alloc HS.out.drew _ | fail
          clear hK K
          try simp only [Act.put, List.setIfInBounds_toArray, List.set_cons_zero, List.set_cons_succ]
          refine wpAnyH_ready (rs := [8]) (by kernel_rfl) (by simp) ?_
          refine AllReadyH.cons (by simp only [List.getElem?_toArray, List.getElem?_cons_zero, List.getElem?_cons_succ]; rfl) (fun K hK => ?_) ?_
          · go_simp
            refine hK.out _ _ ?_ (fun hHeld => ?_)
            · first | exact US.alloc hHeld _ | exact US.alloc HS.out.drew _ | fail
            clear hK K
            try simp only [Act.put, List.setIfInBounds_toArray, List.set_cons_zero, List.set_cons_succ]
            refine wpAnyH_take (i := 14) (v := .agg (cellsU al C.length c vn ⟨w1.heap.size, w1.heap.size + 1 + 1 + 1, w1.heap.size + 1, .slice none 0 0, .slice none 0 0, .slice none 0 0⟩ false)) (by simp only [List.getElem?_toArray, List.getElem?_cons_zero, List.getElem?_cons_succ]; rfl) (by kernel_rfl) (by kernel_rfl) (by kernel_rfl) (by exact fun _ _ _ h => h) (Or.inl ⟨by rfl, ?_⟩) hHeld ?_
            · intro w' hSw
              go_simp; rfl
            simp only [Act.put, List.setIfInBounds_toArray, List.set_cons_zero, List.set_cons_succ]
            refine wpAnyH_ready (rs := [16]) (by kernel_rfl) (by simp) ?_
            refine AllReadyH.cons (by simp only [List.getElem?_toArray, List.getElem?_cons_zero, List.getElem?_cons_succ]; rfl) (fun K hK => ?_) ?_
            · obtain ⟨hf0, hf1, hf2, hf3, hfz, hfb⟩ := four w1 (.map #[] 0) (.cells (rowI (List.replicate (2 * vn + 1) 0)).toArray 3) (.cells zero9 65) (.cells (rowI (List.replicate C.length 0)).toArray 3)
              have hst : (storeCells ⟨w1.heap.size + 1 + 1, 0, none⟩ (cellsU al C.length c vn ⟨w1.heap.size, w1.heap.size + 1 + 1 + 1, w1.heap.size + 1, .slice none 0 0, .slice none 0 0, .slice none 0 0⟩ false).toList).run Try.prog ((((w1.alloc (.map #[] 0)).alloc (.cells (rowI (List.replicate (2 * vn + 1) 0)).toArray 3)).alloc (.cells #[.slice none 0 0, .int .i64 0, .slice none 0 0, .map none, .slice none 0 0, .slice none 0 0, .slice none 0 0, .slice none 0 0, .bool false] 65)).alloc (.cells (rowI (List.replicate C.length 0)).toArray 3)).drew = .ok () _ := store_row (cs := cellsU al C.length c vn ⟨w1.heap.size, w1.heap.size + 1 + 1 + 1, w1.heap.size + 1, .slice none 0 0, .slice none 0 0, .slice none 0 0⟩ false) hf2 rfl (by simp [cellsU, Value.oneCell'])
              have HU := Lib.hid (uat_made (al := al) (c := c) hf0 hf3 hf1 hf2 (B := w1.heap.size) (by omega) (by omega) (by omega) (by omega) (by omega) (by omega) (by omega) (by omega) (by omega) (by omega))
              have HBB := Lib.hid (bel_setRow (cs := cellsU al C.length c vn ⟨w1.heap.size, w1.heap.size + 1 + 1 + 1, w1.heap.size + 1, .slice none 0 0, .slice none 0 0, .slice none 0 0⟩ false) (u := w1.heap.size + 1 + 1) hfb (by omega))
              clear hf0 hf1 hf2 hf3 hfz hfb
              have hs9 : (cellsU al C.length c vn ⟨w1.heap.size, w1.heap.size + 1 + 1 + 1, w1.heap.size + 1, .slice none 0 0, .slice none 0 0, .slice none 0 0⟩ false).size = 9 := rfl
              go_simp
              refine hK.out _ _ (US.of HS.out hlt HBB.out) (fun hHeld => ?_)
              clear hK K
              refine wpAnyH_done (by kernel_rfl) ?_ _
              go_wp2_with fail
              go_meet
              exact ⟨_, _, rfl, HU.out, HBB.out⟩

            exact AllReadyH.nil
          exact AllReadyH.nil
        exact AllReadyH.nil
      refine AllReadyH.cons (by simp only [List.getElem?_toArray, List.getElem?_cons_zero, List.getElem?_cons_succ]; rfl) (fun K hK => ?_) ?_
      · go_simp
        refine hK.out _ _ ?_ (fun hHeld => ?_)
        · first | exact US.alloc hHeld _ | exact US.alloc HS.out.drew _ | fail
        clear hK K
        try simp only [Act.put, List.setIfInBounds_toArray, List.set_cons_zero, List.set_cons_succ]
        refine wpAnyH_ready (rs := [8, 13]) (by kernel_rfl) (by simp) ?_
        refine AllReadyH.cons (by simp only [List.getElem?_toArray, List.getElem?_cons_zero, List.getElem?_cons_succ]; rfl) (fun K hK => ?_) ?_
        · go_simp
          refine hK.out _ _ ?_ (fun hHeld => ?_)
          · first | exact US.alloc hHeld _ | exact US.alloc HS.out.drew _ | fail
          clear hK K
          try simp only [Act.put, List.setIfInBounds_toArray, List.set_cons_zero, List.set_cons_succ]
          refine wpAnyH_ready (rs := [13]) (by kernel_rfl) (by simp) ?_
          refine AllReadyH.cons (by simp only [List.getElem?_toArray, List.getElem?_cons_zero, List.getElem?_cons_succ]; rfl) (fun K hK => ?_) ?_
          · go_simp
            refine hK.out _ _ ?_ (fun hHeld => ?_)
            · first | exact US.alloc hHeld _ | exact US.alloc HS.out.drew _ | fail
            clear hK K
            try simp only [Act.put, List.setIfInBounds_toArray, List.set_cons_zero, List.set_cons_succ]
            refine wpAnyH_take (i := 14) (v := .agg (cellsU al C.length c vn ⟨w1.heap.size, w1.heap.size + 1 + 1, w1.heap.size + 1 + 1 + 1, .slice none 0 0, .slice none 0 0, .slice none 0 0⟩ false)) (by simp only [List.getElem?_toArray, List.getElem?_cons_zero, List.getElem?_cons_succ]; rfl) (by kernel_rfl) (by kernel_rfl) (by kernel_rfl) (by exact fun _ _ _ h => h) (Or.inl ⟨by rfl, ?_⟩) hHeld ?_
            · intro w' hSw
              go_simp; rfl
            simp only [Act.put, List.setIfInBounds_toArray, List.set_cons_zero, List.set_cons_succ]
            refine wpAnyH_ready (rs := [16]) (by kernel_rfl) (by simp) ?_
            refine AllReadyH.cons (by simp only [List.getElem?_toArray, List.getElem?_cons_zero, List.getElem?_cons_succ]; rfl) (fun K hK => ?_) ?_
            · obtain ⟨hf0, hf1, hf2, hf3, hfz, hfb⟩ := four w1 (.map #[] 0) (.cells zero9 65) (.cells (rowI (List.replicate C.length 0)).toArray 3) (.cells (rowI (List.replicate (2 * vn + 1) 0)).toArray 3)
              have hst : (storeCells ⟨w1.heap.size + 1, 0, none⟩ (cellsU al C.length c vn ⟨w1.heap.size, w1.heap.size + 1 + 1, w1.heap.size + 1 + 1 + 1, .slice none 0 0, .slice none 0 0, .slice none 0 0⟩ false).toList).run Try.prog ((((w1.alloc (.map #[] 0)).alloc (.cells #[.slice none 0 0, .int .i64 0, .slice none 0 0, .map none, .slice none 0 0, .slice none 0 0, .slice none 0 0, .slice none 0 0, .bool false] 65)).alloc (.cells (rowI (List.replicate C.length 0)).toArray 3)).alloc (.cells (rowI (List.replicate (2 * vn + 1) 0)).toArray 3)).drew = .ok () _ := store_row (cs := cellsU al C.length c vn ⟨w1.heap.size, w1.heap.size + 1 + 1, w1.heap.size + 1 + 1 + 1, .slice none 0 0, .slice none 0 0, .slice none 0 0⟩ false) hf1 rfl (by simp [cellsU, Value.oneCell'])
              have HU := Lib.hid (uat_made (al := al) (c := c) hf0 hf2 hf3 hf1 (B := w1.heap.size) (by omega) (by omega) (by omega) (by omega) (by omega) (by omega) (by omega) (by omega) (by omega) (by omega))
              have HBB := Lib.hid (bel_setRow (cs := cellsU al C.length c vn ⟨w1.heap.size, w1.heap.size + 1 + 1, w1.heap.size + 1 + 1 + 1, .slice none 0 0, .slice none 0 0, .slice none 0 0⟩ false) (u := w1.heap.size + 1) hfb (by omega))
              clear hf0 hf1 hf2 hf3 hfz hfb
              have hs9 : (cellsU al C.length c vn ⟨w1.heap.size, w1.heap.size + 1 + 1, w1.heap.size + 1 + 1 + 1, .slice none 0 0, .slice none 0 0, .slice none 0 0⟩ false).size = 9 := rfl
              go_simp
              refine hK.out _ _ (US.of HS.out hlt HBB.out) (fun hHeld => ?_)
              clear hK K
              refine wpAnyH_done (by kernel_rfl) ?_ _
              go_wp2_with fail
              go_meet
              exact ⟨_, _, rfl, HU.out, HBB.out⟩

            exact AllReadyH.nil
          exact AllReadyH.nil
        refine AllReadyH.cons (by simp only [List.getElem?_toArray, List.getElem?_cons_zero, List.getElem?_cons_succ]; rfl) (fun K hK => ?_) ?_
        · go_simp
          refine hK.out _ _ ?_ (fun hHeld => ?_)
          · first | exact US.alloc hHeld _ | exact US.alloc HS.out.drew _ | fail
          clear hK K
          try simp only [Act.put, List.setIfInBounds_toArray, List.set_cons_zero, List.set_cons_succ]
          refine wpAnyH_ready (rs := [8]) (by kernel_rfl) (by simp) ?_
          refine AllReadyH.cons (by simp only [List.getElem?_toArray, List.getElem?_cons_zero, List.getElem?_cons_succ]; rfl) (fun K hK => ?_) ?_
          · go_simp
            refine hK.out _ _ ?_ (fun hHeld => ?_)
            · first | exact US.alloc hHeld _ | exact US.alloc HS.out.drew _ | fail
            clear hK K
            try simp only [Act.put, List.setIfInBounds_toArray, List.set_cons_zero, List.set_cons_succ]
            refine wpAnyH_take (i := 14) (v := .agg (cellsU al C.length c vn ⟨w1.heap.size, w1.heap.size + 1 + 1 + 1, w1.heap.size + 1 + 1, .slice none 0 0, .slice none 0 0, .slice none 0 0⟩ false)) (by simp only [List.getElem?_toArray, List.getElem?_cons_zero, List.getElem?_cons_succ]; rfl) (by kernel_rfl) (by kernel_rfl) (by kernel_rfl) (by exact fun _ _ _ h => h) (Or.inl ⟨by rfl, ?_⟩) hHeld ?_
            · intro w' hSw
              go_simp; rfl
            simp only [Act.put, List.setIfInBounds_toArray, List.set_cons_zero, List.set_cons_succ]
            refine wpAnyH_ready (rs := [16]) (by kernel_rfl) (by simp) ?_
            refine AllReadyH.cons (by simp only [List.getElem?_toArray, List.getElem?_cons_zero, List.getElem?_cons_succ]; rfl) (fun K hK => ?_) ?_
            · obtain ⟨hf0, hf1, hf2, hf3, hfz, hfb⟩ := four w1 (.map #[] 0) (.cells zero9 65) (.cells (rowI (List.replicate (2 * vn + 1) 0)).toArray 3) (.cells (rowI (List.replicate C.length 0)).toArray 3)
              have hst : (storeCells ⟨w1.heap.size + 1, 0, none⟩ (cellsU al C.length c vn ⟨w1.heap.size, w1.heap.size + 1 + 1 + 1, w1.heap.size + 1 + 1, .slice none 0 0, .slice none 0 0, .slice none 0 0⟩ false).toList).run Try.prog ((((w1.alloc (.map #[] 0)).alloc (.cells #[.slice none 0 0, .int .i64 0, .slice none 0 0, .map none, .slice none 0 0, .slice none 0 0, .slice none 0 0, .slice none 0 0, .bool false] 65)).alloc (.cells (rowI (List.replicate (2 * vn + 1) 0)).toArray 3)).alloc (.cells (rowI (List.replicate C.length 0)).toArray 3)).drew = .ok () _ := store_row (cs := cellsU al C.length c vn ⟨w1.heap.size, w1.heap.size + 1 + 1 + 1, w1.heap.size + 1 + 1, .slice none 0 0, .slice none 0 0, .slice none 0 0⟩ false) hf1 rfl (by simp [cellsU, Value.oneCell'])
              have HU := Lib.hid (uat_made (al := al) (c := c) hf0 hf3 hf2 hf1 (B := w1.heap.size) (by omega) (by omega) (by omega) (by omega) (by omega) (by omega) (by omega) (by omega) (by omega) (by omega))
              have HBB := Lib.hid (bel_setRow (cs := cellsU al C.length c vn ⟨w1.heap.size, w1.heap.size + 1 + 1 + 1, w1.heap.size + 1 + 1, .slice none 0 0, .slice none 0 0, .slice none 0 0⟩ false) (u := w1.heap.size + 1) hfb (by omega))
              clear hf0 hf1 hf2 hf3 hfz hfb
              have hs9 : (cellsU al C.length c vn ⟨w1.heap.size, w1.heap.size + 1 + 1 + 1, w1.heap.size + 1 + 1, .slice none 0 0, .slice none 0 0, .slice none 0 0⟩ false).size = 9 := rfl
              go_simp
              refine hK.out _ _ (US.of HS.out hlt HBB.out) (fun hHeld => ?_)
              clear hK K
              refine wpAnyH_done (by kernel_rfl) ?_ _
              go_wp2_with fail
              go_meet
              exact ⟨_, _, rfl, HU.out, HBB.out⟩

            exact AllReadyH.nil
          exact AllReadyH.nil
        exact AllReadyH.nil
      exact AllReadyH.nil
    refine AllReadyH.cons (by simp only [List.getElem?_toArray, List.getElem?_cons_zero, List.getElem?_cons_succ]; rfl) (fun K hK => ?_) ?_
    · go_simp
      refine hK.out _ _ ?_ (fun hHeld => ?_)
      · first | exact US.alloc hHeld _ | exact US.alloc HS.out.drew _ | fail
      clear hK K
      try simp only [Act.put, List.setIfInBounds_toArray, List.set_cons_zero, List.set_cons_succ]
      refine wpAnyH_ready (rs := [4, 13, 15]) (by kernel_rfl) (by simp) ?_
      refine AllReadyH.cons (by simp only [List.getElem?_toArray, List.getElem?_cons_zero, List.getElem?_cons_succ]; rfl) (fun K hK => ?_) ?_
      · go_simp
        refine hK.out _ _ ?_ (fun hHeld => ?_)
        · first | exact US.alloc hHeld _ | exact US.alloc HS.out.drew _ | fail
        clear hK K
        try simp only [Act.put, List.setIfInBounds_toArray, List.set_cons_zero, List.set_cons_succ]
        refine wpAnyH_ready (rs := [13, 15]) (by kernel_rfl) (by simp) ?_
        refine AllReadyH.cons (by simp only [List.getElem?_toArray, List.getElem?_cons_zero, List.getElem?_cons_succ]; rfl) (fun K hK => ?_) ?_
        · go_simp
          refine hK.out _ _ ?_ (fun hHeld => ?_)
          · first | exact US.alloc hHeld _ | exact US.alloc HS.out.drew _ | fail
          clear hK K
          try simp only [Act.put, List.setIfInBounds_toArray, List.set_cons_zero, List.set_cons_succ]
          refine wpAnyH_take (i := 14) (v := .agg (cellsU al C.length c vn ⟨w1.heap.size + 1, w1.heap.size, w1.heap.size + 1 + 1, .slice none 0 0, .slice none 0 0, .slice none 0 0⟩ false)) (by simp only [List.getElem?_toArray, List.getElem?_cons_zero, List.getElem?_cons_succ]; rfl) (by kernel_rfl) (by kernel_rfl) (by kernel_rfl) (by exact fun _ _ _ h => h) (Or.inl ⟨by rfl, ?_⟩) hHeld ?_
          · intro w' hSw
            go_simp; rfl
          simp only [Act.put, List.setIfInBounds_toArray, List.set_cons_zero, List.set_cons_succ]
          refine wpAnyH_ready (rs := [15]) (by kernel_rfl) (by simp) ?_
          refine AllReadyH.cons (by simp only [List.getElem?_toArray, List.getElem?_cons_zero, List.getElem?_cons_succ]; rfl) (fun K hK => ?_) ?_
          · go_simp
            refine hK.out _ _ ?_ (fun hHeld => ?_)
            · first | exact US.alloc hHeld _ | exact US.alloc HS.out.drew _ | fail
            clear hK K
            try simp only [Act.put, List.setIfInBounds_toArray, List.set_cons_zero, List.set_cons_succ]
            refine wpAnyH_ready (rs := [16]) (by kernel_rfl) (by simp) ?_
            refine AllReadyH.cons (by simp only [List.getElem?_toArray, List.getElem?_cons_zero, List.getElem?_cons_succ]; rfl) (fun K hK => ?_) ?_
            · obtain ⟨hf0, hf1, hf2, hf3, hfz, hfb⟩ := four w1 (.cells (rowI (List.replicate C.length 0)).toArray 3) (.map #[] 0) (.cells (rowI (List.replicate (2 * vn + 1) 0)).toArray 3) (.cells zero9 65)
              have hst : (storeCells ⟨w1.heap.size + 1 + 1 + 1, 0, none⟩ (cellsU al C.length c vn ⟨w1.heap.size + 1, w1.heap.size, w1.heap.size + 1 + 1, .slice none 0 0, .slice none 0 0, .slice none 0 0⟩ false).toList).run Try.prog ((((w1.alloc (.cells (rowI (List.replicate C.length 0)).toArray 3)).alloc (.map #[] 0)).alloc (.cells (rowI (List.replicate (2 * vn + 1) 0)).toArray 3)).alloc (.cells #[.slice none 0 0, .int .i64 0, .slice none 0 0, .map none, .slice none 0 0, .slice none 0 0, .slice none 0 0, .slice none 0 0, .bool false] 65)).drew = .ok () _ := store_row (cs := cellsU al C.length c vn ⟨w1.heap.size + 1, w1.heap.size, w1.heap.size + 1 + 1, .slice none 0 0, .slice none 0 0, .slice none 0 0⟩ false) hf3 rfl (by simp [cellsU, Value.oneCell'])
              have HU := Lib.hid (uat_made (al := al) (c := c) hf1 hf0 hf2 hf3 (B := w1.heap.size) (by omega) (by omega) (by omega) (by omega) (by omega) (by omega) (by omega) (by omega) (by omega) (by omega))
              have HBB := Lib.hid (bel_setRow (cs := cellsU al C.length c vn ⟨w1.heap.size + 1, w1.heap.size, w1.heap.size + 1 + 1, .slice none 0 0, .slice none 0 0, .slice none 0 0⟩ false) (u := w1.heap.size + 1 + 1 + 1) hfb (by omega))
              clear hf0 hf1 hf2 hf3 hfz hfb
              have hs9 : (cellsU al C.length c vn ⟨w1.heap.size + 1, w1.heap.size, w1.heap.size + 1 + 1, .slice none 0 0, .slice none 0 0, .slice none 0 0⟩ false).size = 9 := rfl
              go_simp
              refine hK.out _ _ (US.of HS.out hlt HBB.out) (fun hHeld => ?_)
              clear hK K
              refine wpAnyH_done (by kernel_rfl) ?_ _
              go_wp2_with fail
              go_meet
              exact ⟨_, _, rfl, HU.out, HBB.out⟩

            exact AllReadyH.nil
          exact AllReadyH.nil
        refine AllReadyH.cons (by simp only [List.getElem?_toArray, List.getElem?_cons_zero, List.getElem?_cons_succ]; rfl) (fun K hK => ?_) ?_
        · go_simp
          refine hK.out _ _ ?_ (fun hHeld => ?_)
          · first | exact US.alloc hHeld _ | exact US.alloc HS.out.drew _ | fail
          clear hK K
          try simp only [Act.put, List.setIfInBounds_toArray, List.set_cons_zero, List.set_cons_succ]
          refine wpAnyH_ready (rs := [13]) (by kernel_rfl) (by simp) ?_
          refine AllReadyH.cons (by simp only [List.getElem?_toArray, List.getElem?_cons_zero, List.getElem?_cons_succ]; rfl) (fun K hK => ?_) ?_
          · go_simp
            refine hK.out _ _ ?_ (fun hHeld => ?_)
            · first | exact US.alloc hHeld _ | exact US.alloc HS.out.drew _ | fail
            clear hK K
            try simp only [Act.put, List.setIfInBounds_toArray, List.set_cons_zero, List.set_cons_succ]
            refine wpAnyH_take (i := 14) (v := .agg (cellsU al C.length c vn ⟨w1.heap.size + 1, w1.heap.size, w1.heap.size + 1 + 1 + 1, .slice none 0 0, .slice none 0 0, .slice none 0 0⟩ false)) (by simp only [List.getElem?_toArray, List.getElem?_cons_zero, List.getElem?_cons_succ]; rfl) (by kernel_rfl) (by kernel_rfl) (by kernel_rfl) (by exact fun _ _ _ h => h) (Or.inl ⟨by rfl, ?_⟩) hHeld ?_
            · intro w' hSw
              go_simp; rfl
            simp only [Act.put, List.setIfInBounds_toArray, List.set_cons_zero, List.set_cons_succ]
            refine wpAnyH_ready (rs := [16]) (by kernel_rfl) (by simp) ?_
            refine AllReadyH.cons (by simp only [List.getElem?_toArray, List.getElem?_cons_zero, List.getElem?_cons_succ]; rfl) (fun K hK => ?_) ?_
            · obtain ⟨hf0, hf1, hf2, hf3, hfz, hfb⟩ := four w1 (.cells (rowI (List.replicate C.length 0)).toArray 3) (.map #[] 0) (.cells zero9 65) (.cells (rowI (List.replicate (2 * vn + 1) 0)).toArray 3)
              have hst : (storeCells ⟨w1.heap.size + 1 + 1, 0, none⟩ (cellsU al C.length c vn ⟨w1.heap.size + 1, w1.heap.size, w1.heap.size + 1 + 1 + 1, .slice none 0 0, .slice none 0 0, .slice none 0 0⟩ false).toList).run Try.prog ((((w1.alloc (.cells (rowI (List.replicate C.length 0)).toArray 3)).alloc (.map #[] 0)).alloc (.cells #[.slice none 0 0, .int .i64 0, .slice none 0 0, .map none, .slice none 0 0, .slice none 0 0, .slice none 0 0, .slice none 0 0, .bool false] 65)).alloc (.cells (rowI (List.replicate (2 * vn + 1) 0)).toArray 3)).drew = .ok () _ := store_row (cs := cellsU al C.length c vn ⟨w1.heap.size + 1, w1.heap.size, w1.heap.size + 1 + 1 + 1, .slice none 0 0, .slice none 0 0, .slice none 0 0⟩ false) hf2 rfl (by simp [cellsU, Value.oneCell'])
              have HU := Lib.hid (uat_made (al := al) (c := c) hf1 hf0 hf3 hf2 (B := w1.heap.size) (by omega) (by omega) (by omega) (by omega) (by omega) (by omega) (by omega) (by omega) (by omega) (by omega))
              have HBB := Lib.hid (bel_setRow (cs := cellsU al C.length c vn ⟨w1.heap.size + 1, w1.heap.size, w1.heap.size + 1 + 1 + 1, .slice none 0 0, .slice none 0 0, .slice none 0 0⟩ false) (u := w1.heap.size + 1 + 1) hfb (by omega))
              clear hf0 hf1 hf2 hf3 hfz hfb
              have hs9 : (cellsU al C.length c vn ⟨w1.heap.size + 1, w1.heap.size, w1.heap.size + 1 + 1 + 1, .slice none 0 0, .slice none 0 0, .slice none 0 0⟩ false).size = 9 := rfl
              go_simp
              refine hK.out _ _ (US.of HS.out hlt HBB.out) (fun hHeld => ?_)
              clear hK K
              refine wpAnyH_done (by kernel_rfl) ?_ _
              go_wp2_with fail
              go_meet
              exact ⟨_, _, rfl, HU.out, HBB.out⟩

            exact AllReadyH.nil
          exact AllReadyH.nil
        exact AllReadyH.nil
      refine AllReadyH.cons (by simp only [List.getElem?_toArray, List.getElem?_cons_zero, List.getElem?_cons_succ]; rfl) (fun K hK => ?_) ?_
      · go_simp
        refine hK.out _ _ ?_ (fun hHeld => ?_)
        · first | exact US.alloc hHeld _ | exact US.alloc HS.out.drew _ | fail
        clear hK K
        try simp only [Act.put, List.setIfInBounds_toArray, List.set_cons_zero, List.set_cons_succ]
        refine wpAnyH_ready (rs := [4, 15]) (by kernel_rfl) (by simp) ?_
        refine AllReadyH.cons (by simp only [List.getElem?_toArray, List.getElem?_cons_zero, List.getElem?_cons_succ]; rfl) (fun K hK => ?_) ?_
        · go_simp
          refine hK.out _ _ ?_ (fun hHeld => ?_)
          · first | exact US.alloc hHeld _ | exact US.alloc HS.out.drew _ | fail
          clear hK K
          try simp only [Act.put, List.setIfInBounds_toArray, List.set_cons_zero, List.set_cons_succ]
          refine wpAnyH_take (i := 14) (v := .agg (cellsU al C.length c vn ⟨w1.heap.size + 1 + 1, w1.heap.size, w1.heap.size + 1, .slice none 0 0, .slice none 0 0, .slice none 0 0⟩ false)) (by simp only [List.getElem?_toArray, List.getElem?_cons_zero, List.getElem?_cons_succ]; rfl) (by kernel_rfl) (by kernel_rfl) (by kernel_rfl) (by exact fun _ _ _ h => h) (Or.inl ⟨by rfl, ?_⟩) hHeld ?_
          · intro w' hSw
            go_simp; rfl
          simp only [Act.put, List.setIfInBounds_toArray, List.set_cons_zero, List.set_cons_succ]
          refine wpAnyH_ready (rs := [15]) (by kernel_rfl) (by simp) ?_
          refine AllReadyH.cons (by simp only [List.getElem?_toArray, List.getElem?_cons_zero, List.getElem?_cons_succ]; rfl) (fun K hK => ?_) ?_
          · go_simp
            refine hK.out _ _ ?_ (fun hHeld => ?_)
            · first | exact US.alloc hHeld _ | exact US.alloc HS.out.drew _ | fail
            clear hK K
            try simp only [Act.put, List.setIfInBounds_toArray, List.set_cons_zero, List.set_cons_succ]
            refine wpAnyH_ready (rs := [16]) (by kernel_rfl) (by simp) ?_
            refine AllReadyH.cons (by simp only [List.getElem?_toArray, List.getElem?_cons_zero, List.getElem?_cons_succ]; rfl) (fun K hK => ?_) ?_
            · obtain ⟨hf0, hf1, hf2, hf3, hfz, hfb⟩ := four w1 (.cells (rowI (List.replicate C.length 0)).toArray 3) (.cells (rowI (List.replicate (2 * vn + 1) 0)).toArray 3) (.map #[] 0) (.cells zero9 65)
              have hst : (storeCells ⟨w1.heap.size + 1 + 1 + 1, 0, none⟩ (cellsU al C.length c vn ⟨w1.heap.size + 1 + 1, w1.heap.size, w1.heap.size + 1, .slice none 0 0, .slice none 0 0, .slice none 0 0⟩ false).toList).run Try.prog ((((w1.alloc (.cells (rowI (List.replicate C.length 0)).toArray 3)).alloc (.cells (rowI (List.replicate (2 * vn + 1) 0)).toArray 3)).alloc (.map #[] 0)).alloc (.cells #[.slice none 0 0, .int .i64 0, .slice none 0 0, .map none, .slice none 0 0, .slice none 0 0, .slice none 0 0, .slice none 0 0, .bool false] 65)).drew = .ok () _ := store_row (cs := cellsU al C.length c vn ⟨w1.heap.size + 1 + 1, w1.heap.size, w1.heap.size + 1, .slice none 0 0, .slice none 0 0, .slice none 0 0⟩ false) hf3 rfl (by simp [cellsU, Value.oneCell'])
              have HU := Lib.hid (uat_made (al := al) (c := c) hf2 hf0 hf1 hf3 (B := w1.heap.size) (by omega) (by omega) (by omega) (by omega) (by omega) (by omega) (by omega) (by omega) (by omega) (by omega))
              have HBB := Lib.hid (bel_setRow (cs := cellsU al C.length c vn ⟨w1.heap.size + 1 + 1, w1.heap.size, w1.heap.size + 1, .slice none 0 0, .slice none 0 0, .slice none 0 0⟩ false) (u := w1.heap.size + 1 + 1 + 1) hfb (by omega))
              clear hf0 hf1 hf2 hf3 hfz hfb
              have hs9 : (cellsU al C.length c vn ⟨w1.heap.size + 1 + 1, w1.heap.size, w1.heap.size + 1, .slice none 0 0, .slice none 0 0, .slice none 0 0⟩ false).size = 9 := rfl
              go_simp
              refine hK.out _ _ (US.of HS.out hlt HBB.out) (fun hHeld => ?_)
              clear hK K
              refine wpAnyH_done (by kernel_rfl) ?_ _
              go_wp2_with fail
              go_meet
              exact ⟨_, _, rfl, HU.out, HBB.out⟩

            exact AllReadyH.nil
          exact AllReadyH.nil
        refine AllReadyH.cons (by simp only [List.getElem?_toArray, List.getElem?_cons_zero, List.getElem?_cons_succ]; rfl) (fun K hK => ?_) ?_
        · go_simp
          refine hK.out _ _ ?_ (fun hHeld => ?_)
          · first | exact US.alloc hHeld _ | exact US.alloc HS.out.drew _ | fail
          clear hK K
          try simp only [Act.put, List.setIfInBounds_toArray, List.set_cons_zero, List.set_cons_succ]
          refine wpAnyH_ready (rs := [4]) (by kernel_rfl) (by simp) ?_
          refine AllReadyH.cons (by simp only [List.getElem?_toArray, List.getElem?_cons_zero, List.getElem?_cons_succ]; rfl) (fun K hK => ?_) ?_
          · go_simp
            refine hK.out _ _ ?_ (fun hHeld => ?_)
            · first | exact US.alloc hHeld _ | exact US.alloc HS.out.drew _ | fail
            clear hK K
            try simp only [Act.put, List.setIfInBounds_toArray, List.set_cons_zero, List.set_cons_succ]
            refine wpAnyH_take (i := 14) (v := .agg (cellsU al C.length c vn ⟨w1.heap.size + 1 + 1 + 1, w1.heap.size, w1.heap.size + 1, .slice none 0 0, .slice none 0 0, .slice none 0 0⟩ false)) (by simp only [List.getElem?_toArray, List.getElem?_cons_zero, List.getElem?_cons_succ]; rfl) (by kernel_rfl) (by kernel_rfl) (by kernel_rfl) (by exact fun _ _ _ h => h) (Or.inl ⟨by rfl, ?_⟩) hHeld ?_
            · intro w' hSw
              go_simp; rfl
            simp only [Act.put, List.setIfInBounds_toArray, List.set_cons_zero, List.set_cons_succ]
            refine wpAnyH_ready (rs := [16]) (by kernel_rfl) (by simp) ?_
            refine AllReadyH.cons (by simp only [List.getElem?_toArray, List.getElem?_cons_zero, List.getElem?_cons_succ]; rfl) (fun K hK => ?_) ?_
            · obtain ⟨hf0, hf1, hf2, hf3, hfz, hfb⟩ := four w1 (.cells (rowI (List.replicate C.length 0)).toArray 3) (.cells (rowI (List.replicate (2 * vn + 1) 0)).toArray 3) (.cells zero9 65) (.map #[] 0)
              have hst : (storeCells ⟨w1.heap.size + 1 + 1, 0, none⟩ (cellsU al C.length c vn ⟨w1.heap.size + 1 + 1 + 1, w1.heap.size, w1.heap.size + 1, .slice none 0 0, .slice none 0 0, .slice none 0 0⟩ false).toList).run Try.prog ((((w1.alloc (.cells (rowI (List.replicate C.length 0)).toArray 3)).alloc (.cells (rowI (List.replicate (2 * vn + 1) 0)).toArray 3)).alloc (.cells #[.slice none 0 0, .int .i64 0, .slice none 0 0, .map none, .slice none 0 0, .slice none 0 0, .slice none 0 0, .slice none 0 0, .bool false] 65)).alloc (.map #[] 0)).drew = .ok () _ := store_row (cs := cellsU al C.length c vn ⟨w1.heap.size + 1 + 1 + 1, w1.heap.size, w1.heap.size + 1, .slice none 0 0, .slice none 0 0, .slice none 0 0⟩ false) hf2 rfl (by simp [cellsU, Value.oneCell'])
              have HU := Lib.hid (uat_made (al := al) (c := c) hf3 hf0 hf1 hf2 (B := w1.heap.size) (by omega) (by omega) (by omega) (by omega) (by omega) (by omega) (by omega) (by omega) (by omega) (by omega))
              have HBB := Lib.hid (bel_setRow (cs := cellsU al C.length c vn ⟨w1.heap.size + 1 + 1 + 1, w1.heap.size, w1.heap.size + 1, .slice none 0 0, .slice none 0 0, .slice none 0 0⟩ false) (u := w1.heap.size + 1 + 1) hfb (by omega))
              clear hf0 hf1 hf2 hf3 hfz hfb
              have hs9 : (cellsU al C.length c vn ⟨w1.heap.size + 1 + 1 + 1, w1.heap.size, w1.heap.size + 1, .slice none 0 0, .slice none 0 0, .slice none 0 0⟩ false).size = 9 := rfl
              go_simp
              refine hK.out _ _ (US.of HS.out hlt HBB.out) (fun hHeld => ?_)
              clear hK K
              refine wpAnyH_done (by kernel_rfl) ?_ _
              go_wp2_with fail
              go_meet
              exact ⟨_, _, rfl, HU.out, HBB.out⟩

            exact AllReadyH.nil
          exact AllReadyH.nil
        exact AllReadyH.nil
      refine AllReadyH.cons (by simp only [List.getElem?_toArray, List.getElem?_cons_zero, List.getElem?_cons_succ]; rfl) (fun K hK => ?_) ?_
      · go_simp
        refine hK.out _ _ ?_ (fun hHeld => ?_)
        · first | exact US.alloc hHeld _ | exact US.alloc HS.out.drew _ | fail
        clear hK K
        try simp only [Act.put, List.setIfInBounds_toArray, List.set_cons_zero, List.set_cons_succ]
        refine wpAnyH_ready (rs := [4, 13]) (by kernel_rfl) (by simp) ?_
        refine AllReadyH.cons (by simp only [List.getElem?_toArray, List.getElem?_cons_zero, List.getElem?_cons_succ]; rfl) (fun K hK => ?_) ?_
        · go_simp
          refine hK.out _ _ ?_ (fun hHeld => ?_)
          · first | exact US.alloc hHeld _ | exact US.alloc HS.out.drew _ | fail
          clear hK K
          try simp only [Act.put, List.setIfInBounds_toArray, List.set_cons_zero, List.set_cons_succ]
          refine wpAnyH_ready (rs := [13]) (by kernel_rfl) (by simp) ?_
          refine AllReadyH.cons (by simp only [List.getElem?_toArray, List.getElem?_cons_zero, List.getElem?_cons_succ]; rfl) (fun K hK => ?_) ?_
          · go_simp
            refine hK.out _ _ ?_ (fun hHeld => ?_)
            · first | exact US.alloc hHeld _ | exact US.alloc HS.out.drew _ | fail
            clear hK K
            try simp only [Act.put, List.setIfInBounds_toArray, List.set_cons_zero, List.set_cons_succ]
            refine wpAnyH_take (i := 14) (v := .agg (cellsU al C.length c vn ⟨w1.heap.size + 1 + 1, w1.heap.size, w1.heap.size + 1 + 1 + 1, .slice none 0 0, .slice none 0 0, .slice none 0 0⟩ false)) (by simp only [List.getElem?_toArray, List.getElem?_cons_zero, List.getElem?_cons_succ]; rfl) (by kernel_rfl) (by kernel_rfl) (by kernel_rfl) (by exact fun _ _ _ h => h) (Or.inl ⟨by rfl, ?_⟩) hHeld ?_
            · intro w' hSw
              go_simp; rfl
            simp only [Act.put, List.setIfInBounds_toArray, List.set_cons_zero, List.set_cons_succ]
            refine wpAnyH_ready (rs := [16]) (by kernel_rfl) (by simp) ?_
            refine AllReadyH.cons (by simp only [List.getElem?_toArray, List.getElem?_cons_zero, List.getElem?_cons_succ]; rfl) (fun K hK => ?_) ?_
            · obtain ⟨hf0, hf1, hf2, hf3, hfz, hfb⟩ := four w1 (.cells (rowI (List.replicate C.length 0)).toArray 3) (.cells zero9 65) (.map #[] 0) (.cells (rowI (List.replicate (2 * vn + 1) 0)).toArray 3)
              have hst : (storeCells ⟨w1.heap.size + 1, 0, none⟩ (cellsU al C.length c vn ⟨w1.heap.size + 1 + 1, w1.heap.size, w1.heap.size + 1 + 1 + 1, .slice none 0 0, .slice none 0 0, .slice none 0 0⟩ false).toList).run Try.prog ((((w1.alloc (.cells (rowI (List.replicate C.length 0)).toArray 3)).alloc (.cells #[.slice none 0 0, .int .i64 0, .slice none 0 0, .map none, .slice none 0 0, .slice none 0 0, .slice none 0 0, .slice none 0 0, .bool false] 65)).alloc (.map #[] 0)).alloc (.cells (rowI (List.replicate (2 * vn + 1) 0)).toArray 3)).drew = .ok () _ := store_row (cs := cellsU al C.length c vn ⟨w1.heap.size + 1 + 1, w1.heap.size, w1.heap.size + 1 + 1 + 1, .slice none 0 0, .slice none 0 0, .slice none 0 0⟩ false) hf1 rfl (by simp [cellsU, Value.oneCell'])
              have HU := Lib.hid (uat_made (al := al) (c := c) hf2 hf0 hf3 hf1 (B := w1.heap.size) (by omega) (by omega) (by omega) (by omega) (by omega) (by omega) (by omega) (by omega) (by omega) (by omega))
              have HBB := Lib.hid (bel_setRow (cs := cellsU al C.length c vn ⟨w1.heap.size + 1 + 1, w1.heap.size, w1.heap.size + 1 + 1 + 1, .slice none 0 0, .slice none 0 0, .slice none 0 0⟩ false) (u := w1.heap.size + 1) hfb (by omega))
              clear hf0 hf1 hf2 hf3 hfz hfb
              have hs9 : (cellsU al C.length c vn ⟨w1.heap.size + 1 + 1, w1.heap.size, w1.heap.size + 1 + 1 + 1, .slice none 0 0, .slice none 0 0, .slice none 0 0⟩ false).size = 9 := rfl
              go_simp
              refine hK.out _ _ (US.of HS.out hlt HBB.out) (fun hHeld => ?_)
              clear hK K
              refine wpAnyH_done (by kernel_rfl) ?_ _
              go_wp2_with fail
              go_meet
              exact ⟨_, _, rfl, HU.out, HBB.out⟩

            exact AllReadyH.nil
          exact AllReadyH.nil
        refine AllReadyH.cons (by simp only [List.getElem?_toArray, List.getElem?_cons_zero, List.getElem?_cons_succ]; rfl) (fun K hK => ?_) ?_
        · go_simp
          refine hK.out _ _ ?_ (fun hHeld => ?_)
          · first | exact US.alloc hHeld _ | exact US.alloc HS.out.drew _ | fail
          clear hK K
          try simp only [Act.put, List.setIfInBounds_toArray, List.set_cons_zero, List.set_cons_succ]
          refine wpAnyH_ready (rs := [4]) (by kernel_rfl) (by simp) ?_
          refine AllReadyH.cons (by simp only [List.getElem?_toArray, List.getElem?_cons_zero, List.getElem?_cons_succ]; rfl) (fun K hK => ?_) ?_
          · go_simp
            refine hK.out _ _ ?_ (fun hHeld => ?_)
            · first | exact US.alloc hHeld _ | exact US.alloc HS.out.drew _ | fail
            clear hK K
            try simp only [Act.put, List.setIfInBounds_toArray, List.set_cons_zero, List.set_cons_succ]
            refine wpAnyH_take (i := 14) (v := .agg (cellsU al C.length c vn ⟨w1.heap.size + 1 + 1 + 1, w1.heap.size, w1.heap.size + 1 + 1, .slice none 0 0, .slice none 0 0, .slice none 0 0⟩ false)) (by simp only [List.getElem?_toArray, List.getElem?_cons_zero, List.getElem?_cons_succ]; rfl) (by kernel_rfl) (by kernel_rfl) (by kernel_rfl) (by exact fun _ _ _ h => h) (Or.inl ⟨by rfl, ?_⟩) hHeld ?_
            · intro w' hSw
              go_simp; rfl
            simp only [Act.put, List.setIfInBounds_toArray, List.set_cons_zero, List.set_cons_succ]
            refine wpAnyH_ready (rs := [16]) (by kernel_rfl) (by simp) ?_
            refine AllReadyH.cons (by simp only [List.getElem?_toArray, List.getElem?_cons_zero, List.getElem?_cons_succ]; rfl) (fun K hK => ?_) ?_
            · obtain ⟨hf0, hf1, hf2, hf3, hfz, hfb⟩ := four w1 (.cells (rowI (List.replicate C.length 0)).toArray 3) (.cells zero9 65) (.cells (rowI (List.replicate (2 * vn + 1) 0)).toArray 3) (.map #[] 0)
              have hst : (storeCells ⟨w1.heap.size + 1, 0, none⟩ (cellsU al C.length c vn ⟨w1.heap.size + 1 + 1 + 1, w1.heap.size, w1.heap.size + 1 + 1, .slice none 0 0, .slice none 0 0, .slice none 0 0⟩ false).toList).run Try.prog ((((w1.alloc (.cells (rowI (List.replicate C.length 0)).toArray 3)).alloc (.cells #[.slice none 0 0, .int .i64 0, .slice none 0 0, .map none, .slice none 0 0, .slice none 0 0, .slice none 0 0, .slice none 0 0, .bool false] 65)).alloc (.cells (rowI (List.replicate (2 * vn + 1) 0)).toArray 3)).alloc (.map #[] 0)).drew = .ok () _ := store_row (cs := cellsU al C.length c vn ⟨w1.heap.size + 1 + 1 + 1, w1.heap.size, w1.heap.size + 1 + 1, .slice none 0 0, .slice none 0 0, .slice none 0 0⟩ false) hf1 rfl (by simp [cellsU, Value.oneCell'])
              have HU := Lib.hid (uat_made (al := al) (c := c) hf3 hf0 hf2 hf1 (B := w1.heap.size) (by omega) (by omega) (by omega) (by omega) (by omega) (by omega) (by omega) (by omega) (by omega) (by omega))
              have HBB := Lib.hid (bel_setRow (cs := cellsU al C.length c vn ⟨w1.heap.size + 1 + 1 + 1, w1.heap.size, w1.heap.size + 1 + 1, .slice none 0 0, .slice none 0 0, .slice none 0 0⟩ false) (u := w1.heap.size + 1) hfb (by omega))
              clear hf0 hf1 hf2 hf3 hfz hfb
              have hs9 : (cellsU al C.length c vn ⟨w1.heap.size + 1 + 1 + 1, w1.heap.size, w1.heap.size + 1 + 1, .slice none 0 0, .slice none 0 0, .slice none 0 0⟩ false).size = 9 := rfl
              go_simp
              refine hK.out _ _ (US.of HS.out hlt HBB.out) (fun hHeld => ?_)
              clear hK K
              refine wpAnyH_done (by kernel_rfl) ?_ _
              go_wp2_with fail
              go_meet
              exact ⟨_, _, rfl, HU.out, HBB.out⟩

            exact AllReadyH.nil
          exact AllReadyH.nil
        exact AllReadyH.nil
      exact AllReadyH.nil
    refine AllReadyH.cons (by simp only [List.getElem?_toArray, List.getElem?_cons_zero, List.getElem?_cons_succ]; rfl) (fun K hK => ?_) ?_
    · go_simp
      refine hK.out _ _ ?_ (fun hHeld => ?_)
      · first | exact US.alloc hHeld _ | exact US.alloc HS.out.drew _ | fail
      clear hK K
      try simp only [Act.put, List.setIfInBounds_toArray, List.set_cons_zero, List.set_cons_succ]
      refine wpAnyH_ready (rs := [4, 8, 15]) (by kernel_rfl) (by simp) ?_
      refine AllReadyH.cons (by simp only [List.getElem?_toArray, List.getElem?_cons_zero, List.getElem?_cons_succ]; rfl) (fun K hK => ?_) ?_
      · go_simp
        refine hK.out _ _ ?_ (fun hHeld => ?_)
        · first | exact US.alloc hHeld _ | exact US.alloc HS.out.drew _ | fail
        clear hK K
        try simp only [Act.put, List.setIfInBounds_toArray, List.set_cons_zero, List.set_cons_succ]
        refine wpAnyH_ready (rs := [8, 15]) (by kernel_rfl) (by simp) ?_
        refine AllReadyH.cons (by simp only [List.getElem?_toArray, List.getElem?_cons_zero, List.getElem?_cons_succ]; rfl) (fun K hK => ?_) ?_
        · go_simp
          refine hK.out _ _ ?_ (fun hHeld => ?_)
          · first | exact US.alloc hHeld _ | exact US.alloc HS.out.drew _ | fail
          clear hK K
          try simp only [Act.put, List.setIfInBounds_toArray, List.set_cons_zero, List.set_cons_succ]
          refine wpAnyH_take (i := 14) (v := .agg (cellsU al C.length c vn ⟨w1.heap.size + 1, w1.heap.size + 1 + 1, w1.heap.size, .slice none 0 0, .slice none 0 0, .slice none 0 0⟩ false)) (by simp only [List.getElem?_toArray, List.getElem?_cons_zero, List.getElem?_cons_succ]; rfl) (by kernel_rfl) (by kernel_rfl) (by kernel_rfl) (by exact fun _ _ _ h => h) (Or.inl ⟨by rfl, ?_⟩) hHeld ?_
          · intro w' hSw
            go_simp; rfl
          simp only [Act.put, List.setIfInBounds_toArray, List.set_cons_zero, List.set_cons_succ]
          refine wpAnyH_ready (rs := [15]) (by kernel_rfl) (by simp) ?_
          refine AllReadyH.cons (by simp only [List.getElem?_toArray, List.getElem?_cons_zero, List.getElem?_cons_succ]; rfl) (fun K hK => ?_) ?_
          · go_simp
            refine hK.out _ _ ?_ (fun hHeld => ?_)
            · first | exact US.alloc hHeld _ | exact US.alloc HS.out.drew _ | fail
            clear hK K
            try simp only [Act.put, List.setIfInBounds_toArray, List.set_cons_zero, List.set_cons_succ]
            refine wpAnyH_ready (rs := [16]) (by kernel_rfl) (by simp) ?_
            refine AllReadyH.cons (by simp only [List.getElem?_toArray, List.getElem?_cons_zero, List.getElem?_cons_succ]; rfl) (fun K hK => ?_) ?_
            · obtain ⟨hf0, hf1, hf2, hf3, hfz, hfb⟩ := four w1 (.cells (rowI (List.replicate (2 * vn + 1) 0)).toArray 3) (.map #[] 0) (.cells (rowI (List.replicate C.length 0)).toArray 3) (.cells zero9 65)
              have hst : (storeCells ⟨w1.heap.size + 1 + 1 + 1, 0, none⟩ (cellsU al C.length c vn ⟨w1.heap.size + 1, w1.heap.size + 1 + 1, w1.heap.size, .slice none 0 0, .slice none 0 0, .slice none 0 0⟩ false).toList).run Try.prog ((((w1.alloc (.cells (rowI (List.replicate (2 * vn + 1) 0)).toArray 3)).alloc (.map #[] 0)).alloc (.cells (rowI (List.replicate C.length 0)).toArray 3)).alloc (.cells #[.slice none 0 0, .int .i64 0, .slice none 0 0, .map none, .slice none 0 0, .slice none 0 0, .slice none 0 0, .slice none 0 0, .bool false] 65)).drew = .ok () _ := store_row (cs := cellsU al C.length c vn ⟨w1.heap.size + 1, w1.heap.size + 1 + 1, w1.heap.size, .slice none 0 0, .slice none 0 0, .slice none 0 0⟩ false) hf3 rfl (by simp [cellsU, Value.oneCell'])
              have HU := Lib.hid (uat_made (al := al) (c := c) hf1 hf2 hf0 hf3 (B := w1.heap.size) (by omega) (by omega) (by omega) (by omega) (by omega) (by omega) (by omega) (by omega) (by omega) (by omega))
              have HBB := Lib.hid (bel_setRow (cs := cellsU al C.length c vn ⟨w1.heap.size + 1, w1.heap.size + 1 + 1, w1.heap.size, .slice none 0 0, .slice none 0 0, .slice none 0 0⟩ false) (u := w1.heap.size + 1 + 1 + 1) hfb (by omega))
              clear hf0 hf1 hf2 hf3 hfz hfb
              have hs9 : (cellsU al C.length c vn ⟨w1.heap.size + 1, w1.heap.size + 1 + 1, w1.heap.size, .slice none 0 0, .slice none 0 0, .slice none 0 0⟩ false).size = 9 := rfl
              go_simp
              refine hK.out _ _ (US.of HS.out hlt HBB.out) (fun hHeld => ?_)
              clear hK K
              refine wpAnyH_done (by kernel_rfl) ?_ _
              go_wp2_with fail
              go_meet
              exact ⟨_, _, rfl, HU.out, HBB.out⟩

            exact AllReadyH.nil
          exact AllReadyH.nil
        refine AllReadyH.cons (by simp only [List.getElem?_toArray, List.getElem?_cons_zero, List.getElem?_cons_succ]; rfl) (fun K hK => ?_) ?_
        · go_simp
          refine hK.out _ _ ?_ (fun hHeld => ?_)
          · first | exact US.alloc hHeld _ | exact US.alloc HS.out.drew _ | fail
          clear hK K
          try simp only [Act.put, List.setIfInBounds_toArray, List.set_cons_zero, List.set_cons_succ]
          refine wpAnyH_ready (rs := [8]) (by kernel_rfl) (by simp) ?_
          refine AllReadyH.cons (by simp only [List.getElem?_toArray, List.getElem?_cons_zero, List.getElem?_cons_succ]; rfl) (fun K hK => ?_) ?_
          · go_simp
            refine hK.out _ _ ?_ (fun hHeld => ?_)
            · first | exact US.alloc hHeld _ | exact US.alloc HS.out.drew _ | fail
            clear hK K
            try simp only [Act.put, List.setIfInBounds_toArray, List.set_cons_zero, List.set_cons_succ]
            refine wpAnyH_take (i := 14) (v := .agg (cellsU al C.length c vn ⟨w1.heap.size + 1, w1.heap.size + 1 + 1 + 1, w1.heap.size, .slice none 0 0, .slice none 0 0, .slice none 0 0⟩ false)) (by simp only [List.getElem?_toArray, List.getElem?_cons_zero, List.getElem?_cons_succ]; rfl) (by kernel_rfl) (by kernel_rfl) (by kernel_rfl) (by exact fun _ _ _ h => h) (Or.inl ⟨by rfl, ?_⟩) hHeld ?_
            · intro w' hSw
              go_simp; rfl
            simp only [Act.put, List.setIfInBounds_toArray, List.set_cons_zero, List.set_cons_succ]
            refine wpAnyH_ready (rs := [16]) (by kernel_rfl) (by simp) ?_
            refine AllReadyH.cons (by simp only [List.getElem?_toArray, List.getElem?_cons_zero, List.getElem?_cons_succ]; rfl) (fun K hK => ?_) ?_
            · obtain ⟨hf0, hf1, hf2, hf3, hfz, hfb⟩ := four w1 (.cells (rowI (List.replicate (2 * vn + 1) 0)).toArray 3) (.map #[] 0) (.cells zero9 65) (.cells (rowI (List.replicate C.length 0)).toArray 3)
              have hst : (storeCells ⟨w1.heap.size + 1 + 1, 0, none⟩ (cellsU al C.length c vn ⟨w1.heap.size + 1, w1.heap.size + 1 + 1 + 1, w1.heap.size, .slice none 0 0, .slice none 0 0, .slice none 0 0⟩ false).toList).run Try.prog ((((w1.alloc (.cells (rowI (List.replicate (2 * vn + 1) 0)).toArray 3)).alloc (.map #[] 0)).alloc (.cells #[.slice none 0 0, .int .i64 0, .slice none 0 0, .map none, .slice none 0 0, .slice none 0 0, .slice none 0 0, .slice none 0 0, .bool false] 65)).alloc (.cells (rowI (List.replicate C.length 0)).toArray 3)).drew = .ok () _ := store_row (cs := cellsU al C.length c vn ⟨w1.heap.size + 1, w1.heap.size + 1 + 1 + 1, w1.heap.size, .slice none 0 0, .slice none 0 0, .slice none 0 0⟩ false) hf2 rfl (by simp [cellsU, Value.oneCell'])
              have HU := Lib.hid (uat_made (al := al) (c := c) hf1 hf3 hf0 hf2 (B := w1.heap.size) (by omega) (by omega) (by omega) (by omega) (by omega) (by omega) (by omega) (by omega) (by omega) (by omega))
              have HBB := Lib.hid (bel_setRow (cs := cellsU al C.length c vn ⟨w1.heap.size + 1, w1.heap.size + 1 + 1 + 1, w1.heap.size, .slice none 0 0, .slice none 0 0, .slice none 0 0⟩ false) (u := w1.heap.size + 1 + 1) hfb (by omega))
              clear hf0 hf1 hf2 hf3 hfz hfb
              have hs9 : (cellsU al C.length c vn ⟨w1.heap.size + 1, w1.heap.size + 1 + 1 + 1, w1.heap.size, .slice none 0 0, .slice none 0 0, .slice none 0 0⟩ false).size = 9 := rfl
              go_simp
              refine hK.out _ _ (US.of HS.out hlt HBB.out) (fun hHeld => ?_)
              clear hK K
              refine wpAnyH_done (by kernel_rfl) ?_ _
              go_wp2_with fail
              go_meet
              exact ⟨_, _, rfl, HU.out, HBB.out⟩

            exact AllReadyH.nil
          exact AllReadyH.nil
        exact AllReadyH.nil
      refine AllReadyH.cons (by simp only [List.getElem?_toArray, List.getElem?_cons_zero, List.getElem?_cons_succ]; rfl) (fun K hK => ?_) ?_
      · go_simp
        refine hK.out _ _ ?_ (fun hHeld => ?_)
        · first | exact US.alloc hHeld _ | exact US.alloc HS.out.drew _ | fail
        clear hK K
        try simp only [Act.put, List.setIfInBounds_toArray, List.set_cons_zero, List.set_cons_succ]
        refine wpAnyH_ready (rs := [4, 15]) (by kernel_rfl) (by simp) ?_
        refine AllReadyH.cons (by simp only [List.getElem?_toArray, List.getElem?_cons_zero, List.getElem?_cons_succ]; rfl) (fun K hK => ?_) ?_
        · go_simp
          refine hK.out _ _ ?_ (fun hHeld => ?_)
          · first | exact US.alloc hHeld _ | exact US.alloc HS.out.drew _ | fail
          clear hK K
          try simp only [Act.put, List.setIfInBounds_toArray, List.set_cons_zero, List.set_cons_succ]
          refine wpAnyH_take (i := 14) (v := .agg (cellsU al C.length c vn ⟨w1.heap.size + 1 + 1, w1.heap.size + 1, w1.heap.size, .slice none 0 0, .slice none 0 0, .slice none 0 0⟩ false)) (by simp only [List.getElem?_toArray, List.getElem?_cons_zero, List.getElem?_cons_succ]; rfl) (by kernel_rfl) (by kernel_rfl) (by kernel_rfl) (by exact fun _ _ _ h => h) (Or.inl ⟨by rfl, ?_⟩) hHeld ?_
          · intro w' hSw
            go_simp; rfl
          simp only [Act.put, List.setIfInBounds_toArray, List.set_cons_zero, List.set_cons_succ]
          refine wpAnyH_ready (rs := [15]) (by kernel_rfl) (by simp) ?_
          refine AllReadyH.cons (by simp only [List.getElem?_toArray, List.getElem?_cons_zero, List.getElem?_cons_succ]; rfl) (fun K hK => ?_) ?_
          · go_simp
            refine hK.out _ _ ?_ (fun hHeld => ?_)
            · first | exact US.alloc hHeld _ | exact US.alloc HS.out.drew _ | fail
            clear hK K
            try simp only [Act.put, List.setIfInBounds_toArray, List.set_cons_zero, List.set_cons_succ]
            refine wpAnyH_ready (rs := [16]) (by kernel_rfl) (by simp) ?_
            refine AllReadyH.cons (by simp only [List.getElem?_toArray, List.getElem?_cons_zero, List.getElem?_cons_succ]; rfl) (fun K hK => ?_) ?_
            · obtain ⟨hf0, hf1, hf2, hf3, hfz, hfb⟩ := four w1 (.cells (rowI (List.replicate (2 * vn + 1) 0)).toArray 3) (.cells (rowI (List.replicate C.length 0)).toArray 3) (.map #[] 0) (.cells zero9 65)
              have hst : (storeCells ⟨w1.heap.size + 1 + 1 + 1, 0, none⟩ (cellsU al C.length c vn ⟨w1.heap.size + 1 + 1, w1.heap.size + 1, w1.heap.size, .slice none 0 0, .slice none 0 0, .slice none 0 0⟩ false).toList).run Try.prog ((((w1.alloc (.cells (rowI (List.replicate (2 * vn + 1) 0)).toArray 3)).alloc (.cells (rowI (List.replicate C.length 0)).toArray 3)).alloc (.map #[] 0)).alloc (.cells #[.slice none 0 0, .int .i64 0, .slice none 0 0, .map none, .slice none 0 0, .slice none 0 0, .slice none 0 0, .slice none 0 0, .bool false] 65)).drew = .ok () _ := store_row (cs := cellsU al C.length c vn ⟨w1.heap.size + 1 + 1, w1.heap.size + 1, w1.heap.size, .slice none 0 0, .slice none 0 0, .slice none 0 0⟩ false) hf3 rfl (by simp [cellsU, Value.oneCell'])
              have HU := Lib.hid (uat_made (al := al) (c := c) hf2 hf1 hf0 hf3 (B := w1.heap.size) (by omega) (by omega) (by omega) (by omega) (by omega) (by omega) (by omega) (by omega) (by omega) (by omega))
              have HBB := Lib.hid (bel_setRow (cs := cellsU al C.length c vn ⟨w1.heap.size + 1 + 1, w1.heap.size + 1, w1.heap.size, .slice none 0 0, .slice none 0 0, .slice none 0 0⟩ false) (u := w1.heap.size + 1 + 1 + 1) hfb (by omega))
              clear hf0 hf1 hf2 hf3 hfz hfb
              have hs9 : (cellsU al C.length c vn ⟨w1.heap.size + 1 + 1, w1.heap.size + 1, w1.heap.size, .slice none 0 0, .slice none 0 0, .slice none 0 0⟩ false).size = 9 := rfl
              go_simp
              refine hK.out _ _ (US.of HS.out hlt HBB.out) (fun hHeld => ?_)
              clear hK K
              refine wpAnyH_done (by kernel_rfl) ?_ _
              go_wp2_with fail
              go_meet
              exact ⟨_, _, rfl, HU.out, HBB.out⟩

            exact AllReadyH.nil
          exact AllReadyH.nil
        refine AllReadyH.cons (by simp only [List.getElem?_toArray, List.getElem?_cons_zero, List.getElem?_cons_succ]; rfl) (fun K hK => ?_) ?_
        · go_simp
          refine hK.out _ _ ?_ (fun hHeld => ?_)
          · first | exact US.alloc hHeld _ | exact US.alloc HS.out.drew _ | fail
          clear hK K
          try simp only [Act.put, List.setIfInBounds_toArray, List.set_cons_zero, List.set_cons_succ]
          refine wpAnyH_ready (rs := [4]) (by kernel_rfl) (by simp) ?_
          refine AllReadyH.cons (by simp only [List.getElem?_toArray, List.getElem?_cons_zero, List.getElem?_cons_succ]; rfl) (fun K hK => ?_) ?_
          · go_simp
            refine hK.out _ _ ?_ (fun hHeld => ?_)
            · first | exact US.alloc hHeld _ | exact US.alloc HS.out.drew _ | fail
            clear hK K
            try simp only [Act.put, List.setIfInBounds_toArray, List.set_cons_zero, List.set_cons_succ]
            refine wpAnyH_take (i := 14) (v := .agg (cellsU al C.length c vn ⟨w1.heap.size + 1 + 1 + 1, w1.heap.size + 1, w1.heap.size, .slice none 0 0, .slice none 0 0, .slice none 0 0⟩ false)) (by simp only [List.getElem?_toArray, List.getElem?_cons_zero, List.getElem?_cons_succ]; rfl) (by kernel_rfl) (by kernel_rfl) (by kernel_rfl) (by exact fun _ _ _ h => h) (Or.inl ⟨by rfl, ?_⟩) hHeld ?_
            · intro w' hSw
              go_simp; rfl
            simp only [Act.put, List.setIfInBounds_toArray, List.set_cons_zero, List.set_cons_succ]
            refine wpAnyH_ready (rs := [16]) (by kernel_rfl) (by simp) ?_
            refine AllReadyH.cons (by simp only [List.getElem?_toArray, List.getElem?_cons_zero, List.getElem?_cons_succ]; rfl) (fun K hK => ?_) ?_
            · obtain ⟨hf0, hf1, hf2, hf3, hfz, hfb⟩ := four w1 (.cells (rowI (List.replicate (2 * vn + 1) 0)).toArray 3) (.cells (rowI (List.replicate C.length 0)).toArray 3) (.cells zero9 65) (.map #[] 0)
              have hst : (storeCells ⟨w1.heap.size + 1 + 1, 0, none⟩ (cellsU al C.length c vn ⟨w1.heap.size + 1 + 1 + 1, w1.heap.size + 1, w1.heap.size, .slice none 0 0, .slice none 0 0, .slice none 0 0⟩ false).toList).run Try.prog ((((w1.alloc (.cells (rowI (List.replicate (2 * vn + 1) 0)).toArray 3)).alloc (.cells (rowI (List.replicate C.length 0)).toArray 3)).alloc (.cells #[.slice none 0 0, .int .i64 0, .slice none 0 0, .map none, .slice none 0 0, .slice none 0 0, .slice none 0 0, .slice none 0 0, .bool false] 65)).alloc (.map #[] 0)).drew = .ok () _ := store_row (cs := cellsU al C.length c vn ⟨w1.heap.size + 1 + 1 + 1, w1.heap.size + 1, w1.heap.size, .slice none 0 0, .slice none 0 0, .slice none 0 0⟩ false) hf2 rfl (by simp [cellsU, Value.oneCell'])
              have HU := Lib.hid (uat_made (al := al) (c := c) hf3 hf1 hf0 hf2 (B := w1.heap.size) (by omega) (by omega) (by omega) (by omega) (by omega) (by omega) (by omega) (by omega) (by omega) (by omega))
              have HBB := Lib.hid (bel_setRow (cs := cellsU al C.length c vn ⟨w1.heap.size + 1 + 1 + 1, w1.heap.size + 1, w1.heap.size, .slice none 0 0, .slice none 0 0, .slice none 0 0⟩ false) (u := w1.heap.size + 1 + 1) hfb (by omega))
              clear hf0 hf1 hf2 hf3 hfz hfb
              have hs9 : (cellsU al C.length c vn ⟨w1.heap.size + 1 + 1 + 1, w1.heap.size + 1, w1.heap.size, .slice none 0 0, .slice none 0 0, .slice none 0 0⟩ false).size = 9 := rfl
              go_simp
              refine hK.out _ _ (US.of HS.out hlt HBB.out) (fun hHeld => ?_)
              clear hK K
              refine wpAnyH_done (by kernel_rfl) ?_ _
              go_wp2_with fail
              go_meet
              exact ⟨_, _, rfl, HU.out, HBB.out⟩

            exact AllReadyH.nil
          exact AllReadyH.nil
        exact AllReadyH.nil
      refine AllReadyH.cons (by simp only [List.getElem?_toArray, List.getElem?_cons_zero, List.getElem?_cons_succ]; rfl) (fun K hK => ?_) ?_
      · go_simp
        refine hK.out _ _ ?_ (fun hHeld => ?_)
        · first | exact US.alloc hHeld _ | exact US.alloc HS.out.drew _ | fail
        clear hK K
        try simp only [Act.put, List.setIfInBounds_toArray, List.set_cons_zero, List.set_cons_succ]
        refine wpAnyH_ready (rs := [4, 8]) (by kernel_rfl) (by simp) ?_
        refine AllReadyH.cons (by simp only [List.getElem?_toArray, List.getElem?_cons_zero, List.getElem?_cons_succ]; rfl) (fun K hK => ?_) ?_
        · go_simp
          refine hK.out _ _ ?_ (fun hHeld => ?_)
          · first | exact US.alloc hHeld _ | exact US.alloc HS.out.drew _ | fail
          clear hK K
          try simp only [Act.put, List.setIfInBounds_toArray, List.set_cons_zero, List.set_cons_succ]
          refine wpAnyH_ready (rs := [8]) (by kernel_rfl) (by simp) ?_
          refine AllReadyH.cons (by simp only [List.getElem?_toArray, List.getElem?_cons_zero, List.getElem?_cons_succ]; rfl) (fun K hK => ?_) ?_
          · go_simp
            refine hK.out _ _ ?_ (fun hHeld => ?_)
            · first | exact US.alloc hHeld _ | exact US.alloc HS.out.drew _ | fail
            clear hK K
            try simp only [Act.put, List.setIfInBounds_toArray, List.set_cons_zero, List.set_cons_succ]
            refine wpAnyH_take (i := 14) (v := .agg (cellsU al C.length c vn ⟨w1.heap.size + 1 + 1, w1.heap.size + 1 + 1 + 1, w1.heap.size, .slice none 0 0, .slice none 0 0, .slice none 0 0⟩ false)) (by simp only [List.getElem?_toArray, List.getElem?_cons_zero, List.getElem?_cons_succ]; rfl) (by kernel_rfl) (by kernel_rfl) (by kernel_rfl) (by exact fun _ _ _ h => h) (Or.inl ⟨by rfl, ?_⟩) hHeld ?_
            · intro w' hSw
              go_simp; rfl
            simp only [Act.put, List.setIfInBounds_toArray, List.set_cons_zero, List.set_cons_succ]
            refine wpAnyH_ready (rs := [16]) (by kernel_rfl) (by simp) ?_
            refine AllReadyH.cons (by simp only [List.getElem?_toArray, List.getElem?_cons_zero, List.getElem?_cons_succ]; rfl) (fun K hK => ?_) ?_
            · obtain ⟨hf0, hf1, hf2, hf3, hfz, hfb⟩ := four w1 (.cells (rowI (List.replicate (2 * vn + 1) 0)).toArray 3) (.cells zero9 65) (.map #[] 0) (.cells (rowI (List.replicate C.length 0)).toArray 3)
              have hst : (storeCells ⟨w1.heap.size + 1, 0, none⟩ (cellsU al C.length c vn ⟨w1.heap.size + 1 + 1, w1.heap.size + 1 + 1 + 1, w1.heap.size, .slice none 0 0, .slice none 0 0, .slice none 0 0⟩ false).toList).run Try.prog ((((w1.alloc (.cells (rowI (List.replicate (2 * vn + 1) 0)).toArray 3)).alloc (.cells #[.slice none 0 0, .int .i64 0, .slice none 0 0, .map none, .slice none 0 0, .slice none 0 0, .slice none 0 0, .slice none 0 0, .bool false] 65)).alloc (.map #[] 0)).alloc (.cells (rowI (List.replicate C.length 0)).toArray 3)).drew = .ok () _ := store_row (cs := cellsU al C.length c vn ⟨w1.heap.size + 1 + 1, w1.heap.size + 1 + 1 + 1, w1.heap.size, .slice none 0 0, .slice none 0 0, .slice none 0 0⟩ false) hf1 rfl (by simp [cellsU, Value.oneCell'])
              have HU := Lib.hid (uat_made (al := al) (c := c) hf2 hf3 hf0 hf1 (B := w1.heap.size) (by omega) (by omega) (by omega) (by omega) (by omega) (by omega) (by omega) (by omega) (by omega) (by omega))
              have HBB := Lib.hid (bel_setRow (cs := cellsU al C.length c vn ⟨w1.heap.size + 1 + 1, w1.heap.size + 1 + 1 + 1, w1.heap.size, .slice none 0 0, .slice none 0 0, .slice none 0 0⟩ false) (u := w1.heap.size + 1) hfb (by omega))
              clear hf0 hf1 hf2 hf3 hfz hfb
              have hs9 : (cellsU al C.length c vn ⟨w1.heap.size + 1 + 1, w1.heap.size + 1 + 1 + 1, w1.heap.size, .slice none 0 0, .slice none 0 0, .slice none 0 0⟩ false).size = 9 := rfl
              go_simp
              refine hK.out _ _ (US.of HS.out hlt HBB.out) (fun hHeld => ?_)
              clear hK K
              refine wpAnyH_done (by kernel_rfl) ?_ _
              go_wp2_with fail
              go_meet
              exact ⟨_, _, rfl, HU.out, HBB.out⟩

            exact AllReadyH.nil
          exact AllReadyH.nil
        refine AllReadyH.cons (by simp only [List.getElem?_toArray, List.getElem?_cons_zero, List.getElem?_cons_succ]; rfl) (fun K hK => ?_) ?_
        · go_simp
          refine hK.out _ _ ?_ (fun hHeld => ?_)
          · first | exact US.alloc hHeld _ | exact US.alloc HS.out.drew _ | fail
          clear hK K
          try simp only [Act.put, List.setIfInBounds_toArray, List.set_cons_zero, List.set_cons_succ]
          refine wpAnyH_ready (rs := [4]) (by kernel_rfl) (by simp) ?_
          refine AllReadyH.cons (by simp only [List.getElem?_toArray, List.getElem?_cons_zero, List.getElem?_cons_succ]; rfl) (fun K hK => ?_) ?_
          · go_simp
            refine hK.out _ _ ?_ (fun hHeld => ?_)
            · first | exact US.alloc hHeld _ | exact US.alloc HS.out.drew _ | fail
            clear hK K
            try simp only [Act.put, List.setIfInBounds_toArray, List.set_cons_zero, List.set_cons_succ]
            refine wpAnyH_take (i := 14) (v := .agg (cellsU al C.length c vn ⟨w1.heap.size + 1 + 1 + 1, w1.heap.size + 1 + 1, w1.heap.size, .slice none 0 0, .slice none 0 0, .slice none 0 0⟩ false)) (by simp only [List.getElem?_toArray, List.getElem?_cons_zero, List.getElem?_cons_succ]; rfl) (by kernel_rfl) (by kernel_rfl) (by kernel_rfl) (by exact fun _ _ _ h => h) (Or.inl ⟨by rfl, ?_⟩) hHeld ?_
            · intro w' hSw
              go_simp; rfl
            simp only [Act.put, List.setIfInBounds_toArray, List.set_cons_zero, List.set_cons_succ]
            refine wpAnyH_ready (rs := [16]) (by kernel_rfl) (by simp) ?_
            refine AllReadyH.cons (by simp only [List.getElem?_toArray, List.getElem?_cons_zero, List.getElem?_cons_succ]; rfl) (fun K hK => ?_) ?_
            · obtain ⟨hf0, hf1, hf2, hf3, hfz, hfb⟩ := four w1 (.cells (rowI (List.replicate (2 * vn + 1) 0)).toArray 3) (.cells zero9 65) (.cells (rowI (List.replicate C.length 0)).toArray 3) (.map #[] 0)
              have hst : (storeCells ⟨w1.heap.size + 1, 0, none⟩ (cellsU al C.length c vn ⟨w1.heap.size + 1 + 1 + 1, w1.heap.size + 1 + 1, w1.heap.size, .slice none 0 0, .slice none 0 0, .slice none 0 0⟩ false).toList).run Try.prog ((((w1.alloc (.cells (rowI (List.replicate (2 * vn + 1) 0)).toArray 3)).alloc (.cells #[.slice none 0 0, .int .i64 0, .slice none 0 0, .map none, .slice none 0 0, .slice none 0 0, .slice none 0 0, .slice none 0 0, .bool false] 65)).alloc (.cells (rowI (List.replicate C.length 0)).toArray 3)).alloc (.map #[] 0)).drew = .ok () _ := store_row (cs := cellsU al C.length c vn ⟨w1.heap.size + 1 + 1 + 1, w1.heap.size + 1 + 1, w1.heap.size, .slice none 0 0, .slice none 0 0, .slice none 0 0⟩ false) hf1 rfl (by simp [cellsU, Value.oneCell'])
              have HU := Lib.hid (uat_made (al := al) (c := c) hf3 hf2 hf0 hf1 (B := w1.heap.size) (by omega) (by omega) (by omega) (by omega) (by omega) (by omega) (by omega) (by omega) (by omega) (by omega))
              have HBB := Lib.hid (bel_setRow (cs := cellsU al C.length c vn ⟨w1.heap.size + 1 + 1 + 1, w1.heap.size + 1 + 1, w1.heap.size, .slice none 0 0, .slice none 0 0, .slice none 0 0⟩ false) (u := w1.heap.size + 1) hfb (by omega))
              clear hf0 hf1 hf2 hf3 hfz hfb
              have hs9 : (cellsU al C.length c vn ⟨w1.heap.size + 1 + 1 + 1, w1.heap.size + 1 + 1, w1.heap.size, .slice none 0 0, .slice none 0 0, .slice none 0 0⟩ false).size = 9 := rfl
              go_simp
              refine hK.out _ _ (US.of HS.out hlt HBB.out) (fun hHeld => ?_)
              clear hK K
              refine wpAnyH_done (by kernel_rfl) ?_ _
              go_wp2_with fail
              go_meet
              exact ⟨_, _, rfl, HU.out, HBB.out⟩

            exact AllReadyH.nil
          exact AllReadyH.nil
        exact AllReadyH.nil
      exact AllReadyH.nil
    refine AllReadyH.cons (by simp only [List.getElem?_toArray, List.getElem?_cons_zero, List.getElem?_cons_succ]; rfl) (fun K hK => ?_) ?_
    · go_simp
      refine hK.out _ _ ?_ (fun hHeld => ?_)
      · first | exact US.alloc hHeld _ | exact US.alloc HS.out.drew _ | fail
      clear hK K
      try simp only [Act.put, List.setIfInBounds_toArray, List.set_cons_zero, List.set_cons_succ]
      refine wpAnyH_ready (rs := [4, 8, 13]) (by kernel_rfl) (by simp) ?_
      refine AllReadyH.cons (by simp only [List.getElem?_toArray, List.getElem?_cons_zero, List.getElem?_cons_succ]; rfl) (fun K hK => ?_) ?_
      · go_simp
        refine hK.out _ _ ?_ (fun hHeld => ?_)
        · first | exact US.alloc hHeld _ | exact US.alloc HS.out.drew _ | fail
        clear hK K
        try simp only [Act.put, List.setIfInBounds_toArray, List.set_cons_zero, List.set_cons_succ]
        refine wpAnyH_ready (rs := [8, 13]) (by kernel_rfl) (by simp) ?_
        refine AllReadyH.cons (by simp only [List.getElem?_toArray, List.getElem?_cons_zero, List.getElem?_cons_succ]; rfl) (fun K hK => ?_) ?_
        · go_simp
          refine hK.out _ _ ?_ (fun hHeld => ?_)
          · first | exact US.alloc hHeld _ | exact US.alloc HS.out.drew _ | fail
          clear hK K
          try simp only [Act.put, List.setIfInBounds_toArray, List.set_cons_zero, List.set_cons_succ]
          refine wpAnyH_ready (rs := [13]) (by kernel_rfl) (by simp) ?_
          refine AllReadyH.cons (by simp only [List.getElem?_toArray, List.getElem?_cons_zero, List.getElem?_cons_succ]; rfl) (fun K hK => ?_) ?_
          · go_simp
            refine hK.out _ _ ?_ (fun hHeld => ?_)
            · first | exact US.alloc hHeld _ | exact US.alloc HS.out.drew _ | fail
            clear hK K
            try simp only [Act.put, List.setIfInBounds_toArray, List.set_cons_zero, List.set_cons_succ]
            refine wpAnyH_take (i := 14) (v := .agg (cellsU al C.length c vn ⟨w1.heap.size + 1, w1.heap.size + 1 + 1, w1.heap.size + 1 + 1 + 1, .slice none 0 0, .slice none 0 0, .slice none 0 0⟩ false)) (by simp only [List.getElem?_toArray, List.getElem?_cons_zero, List.getElem?_cons_succ]; rfl) (by kernel_rfl) (by kernel_rfl) (by kernel_rfl) (by exact fun _ _ _ h => h) (Or.inl ⟨by rfl, ?_⟩) hHeld ?_
            · intro w' hSw
              go_simp; rfl
            simp only [Act.put, List.setIfInBounds_toArray, List.set_cons_zero, List.set_cons_succ]
            refine wpAnyH_ready (rs := [16]) (by kernel_rfl) (by simp) ?_
            refine AllReadyH.cons (by simp only [List.getElem?_toArray, List.getElem?_cons_zero, List.getElem?_cons_succ]; rfl) (fun K hK => ?_) ?_
            · obtain ⟨hf0, hf1, hf2, hf3, hfz, hfb⟩ := four w1 (.cells zero9 65) (.map #[] 0) (.cells (rowI (List.replicate C.length 0)).toArray 3) (.cells (rowI (List.replicate (2 * vn + 1) 0)).toArray 3)
              have hst : (storeCells ⟨w1.heap.size, 0, none⟩ (cellsU al C.length c vn ⟨w1.heap.size + 1, w1.heap.size + 1 + 1, w1.heap.size + 1 + 1 + 1, .slice none 0 0, .slice none 0 0, .slice none 0 0⟩ false).toList).run Try.prog ((((w1.alloc (.cells #[.slice none 0 0, .int .i64 0, .slice none 0 0, .map none, .slice none 0 0, .slice none 0 0, .slice none 0 0, .slice none 0 0, .bool false] 65)).alloc (.map #[] 0)).alloc (.cells (rowI (List.replicate C.length 0)).toArray 3)).alloc (.cells (rowI (List.replicate (2 * vn + 1) 0)).toArray 3)).drew = .ok () _ := store_row (cs := cellsU al C.length c vn ⟨w1.heap.size + 1, w1.heap.size + 1 + 1, w1.heap.size + 1 + 1 + 1, .slice none 0 0, .slice none 0 0, .slice none 0 0⟩ false) hf0 rfl (by simp [cellsU, Value.oneCell'])
              have HU := Lib.hid (uat_made (al := al) (c := c) hf1 hf2 hf3 hf0 (B := w1.heap.size) (by omega) (by omega) (by omega) (by omega) (by omega) (by omega) (by omega) (by omega) (by omega) (by omega))
              have HBB := Lib.hid (bel_setRow (cs := cellsU al C.length c vn ⟨w1.heap.size + 1, w1.heap.size + 1 + 1, w1.heap.size + 1 + 1 + 1, .slice none 0 0, .slice none 0 0, .slice none 0 0⟩ false) (u := w1.heap.size) hfb (by omega))
              clear hf0 hf1 hf2 hf3 hfz hfb
              have hs9 : (cellsU al C.length c vn ⟨w1.heap.size + 1, w1.heap.size + 1 + 1, w1.heap.size + 1 + 1 + 1, .slice none 0 0, .slice none 0 0, .slice none 0 0⟩ false).size = 9 := rfl
              go_simp
              refine hK.out _ _ (US.of HS.out hlt HBB.out) (fun hHeld => ?_)
              clear hK K
              refine wpAnyH_done (by kernel_rfl) ?_ _
              go_wp2_with fail
              go_meet
              exact ⟨_, _, rfl, HU.out, HBB.out⟩

            exact AllReadyH.nil
          exact AllReadyH.nil
        refine AllReadyH.cons (by simp only [List.getElem?_toArray, List.getElem?_cons_zero, List.getElem?_cons_succ]; rfl) (fun K hK => ?_) ?_
        · go_simp
          refine hK.out _ _ ?_ (fun hHeld => ?_)
          · first | exact US.alloc hHeld _ | exact US.alloc HS.out.drew _ | fail
          clear hK K
          try simp only [Act.put, List.setIfInBounds_toArray, List.set_cons_zero, List.set_cons_succ]
          refine wpAnyH_ready (rs := [8]) (by kernel_rfl) (by simp) ?_
          refine AllReadyH.cons (by simp only [List.getElem?_toArray, List.getElem?_cons_zero, List.getElem?_cons_succ]; rfl) (fun K hK => ?_) ?_
          · go_simp
            refine hK.out _ _ ?_ (fun hHeld => ?_)
            · first | exact US.alloc hHeld _ | exact US.alloc HS.out.drew _ | fail
            clear hK K
            try simp only [Act.put, List.setIfInBounds_toArray, List.set_cons_zero, List.set_cons_succ]
            refine wpAnyH_take (i := 14) (v := .agg (cellsU al C.length c vn ⟨w1.heap.size + 1, w1.heap.size + 1 + 1 + 1, w1.heap.size + 1 + 1, .slice none 0 0, .slice none 0 0, .slice none 0 0⟩ false)) (by simp only [List.getElem?_toArray, List.getElem?_cons_zero, List.getElem?_cons_succ]; rfl) (by kernel_rfl) (by kernel_rfl) (by kernel_rfl) (by exact fun _ _ _ h => h) (Or.inl ⟨by rfl, ?_⟩) hHeld ?_
            · intro w' hSw
              go_simp; rfl
            simp only [Act.put, List.setIfInBounds_toArray, List.set_cons_zero, List.set_cons_succ]
            refine wpAnyH_ready (rs := [16]) (by kernel_rfl) (by simp) ?_
            refine AllReadyH.cons (by simp only [List.getElem?_toArray, List.getElem?_cons_zero, List.getElem?_cons_succ]; rfl) (fun K hK => ?_) ?_
            · obtain ⟨hf0, hf1, hf2, hf3, hfz, hfb⟩ := four w1 (.cells zero9 65) (.map #[] 0) (.cells (rowI (List.replicate (2 * vn + 1) 0)).toArray 3) (.cells (rowI (List.replicate C.length 0)).toArray 3)
              have hst : (storeCells ⟨w1.heap.size, 0, none⟩ (cellsU al C.length c vn ⟨w1.heap.size + 1, w1.heap.size + 1 + 1 + 1, w1.heap.size + 1 + 1, .slice none 0 0, .slice none 0 0, .slice none 0 0⟩ false).toList).run Try.prog ((((w1.alloc (.cells #[.slice none 0 0, .int .i64 0, .slice none 0 0, .map none, .slice none 0 0, .slice none 0 0, .slice none 0 0, .slice none 0 0, .bool false] 65)).alloc (.map #[] 0)).alloc (.cells (rowI (List.replicate (2 * vn + 1) 0)).toArray 3)).alloc (.cells (rowI (List.replicate C.length 0)).toArray 3)).drew = .ok () _ := store_row (cs := cellsU al C.length c vn ⟨w1.heap.size + 1, w1.heap.size + 1 + 1 + 1, w1.heap.size + 1 + 1, .slice none 0 0, .slice none 0 0, .slice none 0 0⟩ false) hf0 rfl (by simp [cellsU, Value.oneCell'])
              have HU := Lib.hid (uat_made (al := al) (c := c) hf1 hf3 hf2 hf0 (B := w1.heap.size) (by omega) (by omega) (by omega) (by omega) (by omega) (by omega) (by omega) (by omega) (by omega) (by omega))
              have HBB := Lib.hid (bel_setRow (cs := cellsU al C.length c vn ⟨w1.heap.size + 1, w1.heap.size + 1 + 1 + 1, w1.heap.size + 1 + 1, .slice none 0 0, .slice none 0 0, .slice none 0 0⟩ false) (u := w1.heap.size) hfb (by omega))
              clear hf0 hf1 hf2 hf3 hfz hfb
              have hs9 : (cellsU al C.length c vn ⟨w1.heap.size + 1, w1.heap.size + 1 + 1 + 1, w1.heap.size + 1 + 1, .slice none 0 0, .slice none 0 0, .slice none 0 0⟩ false).size = 9 := rfl
              go_simp
              refine hK.out _ _ (US.of HS.out hlt HBB.out) (fun hHeld => ?_)
              clear hK K
              refine wpAnyH_done (by kernel_rfl) ?_ _
              go_wp2_with fail
              go_meet
              exact ⟨_, _, rfl, HU.out, HBB.out⟩

            exact AllReadyH.nil
          exact AllReadyH.nil
        exact AllReadyH.nil
      refine AllReadyH.cons (by simp only [List.getElem?_toArray, List.getElem?_cons_zero, List.getElem?_cons_succ]; rfl) (fun K hK => ?_) ?_
      · go_simp
        refine hK.out _ _ ?_ (fun hHeld => ?_)
        · first | exact US.alloc hHeld _ | exact US.alloc HS.out.drew _ | fail
        clear hK K
        try simp only [Act.put, List.setIfInBounds_toArray, List.set_cons_zero, List.set_cons_succ]
        refine wpAnyH_ready (rs := [4, 13]) (by kernel_rfl) (by simp) ?_
        refine AllReadyH.cons (by simp only [List.getElem?_toArray, List.getElem?_cons_zero, List.getElem?_cons_succ]; rfl) (fun K hK => ?_) ?_
        · go_simp
          refine hK.out _ _ ?_ (fun hHeld => ?_)
          · first | exact US.alloc hHeld _ | exact US.alloc HS.out.drew _ | fail
          clear hK K
          try simp only [Act.put, List.setIfInBounds_toArray, List.set_cons_zero, List.set_cons_succ]
          refine wpAnyH_ready (rs := [13]) (by kernel_rfl) (by simp) ?_
          refine AllReadyH.cons (by simp only [List.getElem?_toArray, List.getElem?_cons_zero, List.getElem?_cons_succ]; rfl) (fun K hK => ?_) ?_
          · go_simp
            refine hK.out _ _ ?_ (fun hHeld => ?_)
            · first | exact US.alloc hHeld _ | exact US.alloc HS.out.drew _ | fail
            clear hK K
            try simp only [Act.put, List.setIfInBounds_toArray, List.set_cons_zero, List.set_cons_succ]
            refine wpAnyH_take (i := 14) (v := .agg (cellsU al C.length c vn ⟨w1.heap.size + 1 + 1, w1.heap.size + 1, w1.heap.size + 1 + 1 + 1, .slice none 0 0, .slice none 0 0, .slice none 0 0⟩ false)) (by simp only [List.getElem?_toArray, List.getElem?_cons_zero, List.getElem?_cons_succ]; rfl) (by kernel_rfl) (by kernel_rfl) (by kernel_rfl) (by exact fun _ _ _ h => h) (Or.inl ⟨by rfl, ?_⟩) hHeld ?_
            · intro w' hSw
              go_simp; rfl
            simp only [Act.put, List.setIfInBounds_toArray, List.set_cons_zero, List.set_cons_succ]
            refine wpAnyH_ready (rs := [16]) (by kernel_rfl) (by simp) ?_
            refine AllReadyH.cons (by simp only [List.getElem?_toArray, List.getElem?_cons_zero, List.getElem?_cons_succ]; rfl) (fun K hK => ?_) ?_
            · obtain ⟨hf0, hf1, hf2, hf3, hfz, hfb⟩ := four w1 (.cells zero9 65) (.cells (rowI (List.replicate C.length 0)).toArray 3) (.map #[] 0) (.cells (rowI (List.replicate (2 * vn + 1) 0)).toArray 3)
              have hst : (storeCells ⟨w1.heap.size, 0, none⟩ (cellsU al C.length c vn ⟨w1.heap.size + 1 + 1, w1.heap.size + 1, w1.heap.size + 1 + 1 + 1, .slice none 0 0, .slice none 0 0, .slice none 0 0⟩ false).toList).run Try.prog ((((w1.alloc (.cells #[.slice none 0 0, .int .i64 0, .slice none 0 0, .map none, .slice none 0 0, .slice none 0 0, .slice none 0 0, .slice none 0 0, .bool false] 65)).alloc (.cells (rowI (List.replicate C.length 0)).toArray 3)).alloc (.map #[] 0)).alloc (.cells (rowI (List.replicate (2 * vn + 1) 0)).toArray 3)).drew = .ok () _ := store_row (cs := cellsU al C.length c vn ⟨w1.heap.size + 1 + 1, w1.heap.size + 1, w1.heap.size + 1 + 1 + 1, .slice none 0 0, .slice none 0 0, .slice none 0 0⟩ false) hf0 rfl (by simp [cellsU, Value.oneCell'])
              have HU := Lib.hid (uat_made (al := al) (c := c) hf2 hf1 hf3 hf0 (B := w1.heap.size) (by omega) (by omega) (by omega) (by omega) (by omega) (by omega) (by omega) (by omega) (by omega) (by omega))
              have HBB := Lib.hid (bel_setRow (cs := cellsU al C.length c vn ⟨w1.heap.size + 1 + 1, w1.heap.size + 1, w1.heap.size + 1 + 1 + 1, .slice none 0 0, .slice none 0 0, .slice none 0 0⟩ false) (u := w1.heap.size) hfb (by omega))
              clear hf0 hf1 hf2 hf3 hfz hfb
              have hs9 : (cellsU al C.length c vn ⟨w1.heap.size + 1 + 1, w1.heap.size + 1, w1.heap.size + 1 + 1 + 1, .slice none 0 0, .slice none 0 0, .slice none 0 0⟩ false).size = 9 := rfl
              go_simp
              refine hK.out _ _ (US.of HS.out hlt HBB.out) (fun hHeld => ?_)
              clear hK K
              refine wpAnyH_done (by kernel_rfl) ?_ _
              go_wp2_with fail
              go_meet
              exact ⟨_, _, rfl, HU.out, HBB.out⟩

            exact AllReadyH.nil
          exact AllReadyH.nil
        refine AllReadyH.cons (by simp only [List.getElem?_toArray, List.getElem?_cons_zero, List.getElem?_cons_succ]; rfl) (fun K hK => ?_) ?_
        · go_simp
          refine hK.out _ _ ?_ (fun hHeld => ?_)
          · first | exact US.alloc hHeld _ | exact US.alloc HS.out.drew _ | fail
          clear hK K
          try simp only [Act.put, List.setIfInBounds_toArray, List.set_cons_zero, List.set_cons_succ]
          refine wpAnyH_ready (rs := [4]) (by kernel_rfl) (by simp) ?_
          refine AllReadyH.cons (by simp only [List.getElem?_toArray, List.getElem?_cons_zero, List.getElem?_cons_succ]; rfl) (fun K hK => ?_) ?_
          · go_simp
            refine hK.out _ _ ?_ (fun hHeld => ?_)
            · first | exact US.alloc hHeld _ | exact US.alloc HS.out.drew _ | fail
            clear hK K
            try simp only [Act.put, List.setIfInBounds_toArray, List.set_cons_zero, List.set_cons_succ]
            refine wpAnyH_take (i := 14) (v := .agg (cellsU al C.length c vn ⟨w1.heap.size + 1 + 1 + 1, w1.heap.size + 1, w1.heap.size + 1 + 1, .slice none 0 0, .slice none 0 0, .slice none 0 0⟩ false)) (by simp only [List.getElem?_toArray, List.getElem?_cons_zero, List.getElem?_cons_succ]; rfl) (by kernel_rfl) (by kernel_rfl) (by kernel_rfl) (by exact fun _ _ _ h => h) (Or.inl ⟨by rfl, ?_⟩) hHeld ?_
            · intro w' hSw
              go_simp; rfl
            simp only [Act.put, List.setIfInBounds_toArray, List.set_cons_zero, List.set_cons_succ]
            refine wpAnyH_ready (rs := [16]) (by kernel_rfl) (by simp) ?_
            refine AllReadyH.cons (by simp only [List.getElem?_toArray, List.getElem?_cons_zero, List.getElem?_cons_succ]; rfl) (fun K hK => ?_) ?_
            · obtain ⟨hf0, hf1, hf2, hf3, hfz, hfb⟩ := four w1 (.cells zero9 65) (.cells (rowI (List.replicate C.length 0)).toArray 3) (.cells (rowI (List.replicate (2 * vn + 1) 0)).toArray 3) (.map #[] 0)
              have hst : (storeCells ⟨w1.heap.size, 0, none⟩ (cellsU al C.length c vn ⟨w1.heap.size + 1 + 1 + 1, w1.heap.size + 1, w1.heap.size + 1 + 1, .slice none 0 0, .slice none 0 0, .slice none 0 0⟩ false).toList).run Try.prog ((((w1.alloc (.cells #[.slice none 0 0, .int .i64 0, .slice none 0 0, .map none, .slice none 0 0, .slice none 0 0, .slice none 0 0, .slice none 0 0, .bool false] 65)).alloc (.cells (rowI (List.replicate C.length 0)).toArray 3)).alloc (.cells (rowI (List.replicate (2 * vn + 1) 0)).toArray 3)).alloc (.map #[] 0)).drew = .ok () _ := store_row (cs := cellsU al C.length c vn ⟨w1.heap.size + 1 + 1 + 1, w1.heap.size + 1, w1.heap.size + 1 + 1, .slice none 0 0, .slice none 0 0, .slice none 0 0⟩ false) hf0 rfl (by simp [cellsU, Value.oneCell'])
              have HU := Lib.hid (uat_made (al := al) (c := c) hf3 hf1 hf2 hf0 (B := w1.heap.size) (by omega) (by omega) (by omega) (by omega) (by omega) (by omega) (by omega) (by omega) (by omega) (by omega))
              have HBB := Lib.hid (bel_setRow (cs := cellsU al C.length c vn ⟨w1.heap.size + 1 + 1 + 1, w1.heap.size + 1, w1.heap.size + 1 + 1, .slice none 0 0, .slice none 0 0, .slice none 0 0⟩ false) (u := w1.heap.size) hfb (by omega))
              clear hf0 hf1 hf2 hf3 hfz hfb
              have hs9 : (cellsU al C.length c vn ⟨w1.heap.size + 1 + 1 + 1, w1.heap.size + 1, w1.heap.size + 1 + 1, .slice none 0 0, .slice none 0 0, .slice none 0 0⟩ false).size = 9 := rfl
              go_simp
              refine hK.out _ _ (US.of HS.out hlt HBB.out) (fun hHeld => ?_)
              clear hK K
              refine wpAnyH_done (by kernel_rfl) ?_ _
              go_wp2_with fail
              go_meet
              exact ⟨_, _, rfl, HU.out, HBB.out⟩

            exact AllReadyH.nil
          exact AllReadyH.nil
        exact AllReadyH.nil
      refine AllReadyH.cons (by simp only [List.getElem?_toArray, List.getElem?_cons_zero, List.getElem?_cons_succ]; rfl) (fun K hK => ?_) ?_
      · go_simp
        refine hK.out _ _ ?_ (fun hHeld => ?_)
        · first | exact US.alloc hHeld _ | exact US.alloc HS.out.drew _ | fail
        clear hK K
        try simp only [Act.put, List.setIfInBounds_toArray, List.set_cons_zero, List.set_cons_succ]
        refine wpAnyH_ready (rs := [4, 8]) (by kernel_rfl) (by simp) ?_
        refine AllReadyH.cons (by simp only [List.getElem?_toArray, List.getElem?_cons_zero, List.getElem?_cons_succ]; rfl) (fun K hK => ?_) ?_
        · go_simp
          refine hK.out _ _ ?_ (fun hHeld => ?_)
          · first | exact US.alloc hHeld _ | exact US.alloc HS.out.drew _ | fail
          clear hK K
          try simp only [Act.put, List.setIfInBounds_toArray, List.set_cons_zero, List.set_cons_succ]
          refine wpAnyH_ready (rs := [8]) (by kernel_rfl) (by simp) ?_
          refine AllReadyH.cons (by simp only [List.getElem?_toArray, List.getElem?_cons_zero, List.getElem?_cons_succ]; rfl) (fun K hK => ?_) ?_
          · go_simp
            refine hK.out _ _ ?_ (fun hHeld => ?_)
            · first | exact US.alloc hHeld _ | exact US.alloc HS.out.drew _ | fail
            clear hK K
            try simp only [Act.put, List.setIfInBounds_toArray, List.set_cons_zero, List.set_cons_succ]
            refine wpAnyH_take (i := 14) (v := .agg (cellsU al C.length c vn ⟨w1.heap.size + 1 + 1, w1.heap.size + 1 + 1 + 1, w1.heap.size + 1, .slice none 0 0, .slice none 0 0, .slice none 0 0⟩ false)) (by simp only [List.getElem?_toArray, List.getElem?_cons_zero, List.getElem?_cons_succ]; rfl) (by kernel_rfl) (by kernel_rfl) (by kernel_rfl) (by exact fun _ _ _ h => h) (Or.inl ⟨by rfl, ?_⟩) hHeld ?_
            · intro w' hSw
              go_simp; rfl
            simp only [Act.put, List.setIfInBounds_toArray, List.set_cons_zero, List.set_cons_succ]
            refine wpAnyH_ready (rs := [16]) (by kernel_rfl) (by simp) ?_
            refine AllReadyH.cons (by simp only [List.getElem?_toArray, List.getElem?_cons_zero, List.getElem?_cons_succ]; rfl) (fun K hK => ?_) ?_
            · obtain ⟨hf0, hf1, hf2, hf3, hfz, hfb⟩ := four w1 (.cells zero9 65) (.cells (rowI (List.replicate (2 * vn + 1) 0)).toArray 3) (.map #[] 0) (.cells (rowI (List.replicate C.length 0)).toArray 3)
              have hst : (storeCells ⟨w1.heap.size, 0, none⟩ (cellsU al C.length c vn ⟨w1.heap.size + 1 + 1, w1.heap.size + 1 + 1 + 1, w1.heap.size + 1, .slice none 0 0, .slice none 0 0, .slice none 0 0⟩ false).toList).run Try.prog ((((w1.alloc (.cells #[.slice none 0 0, .int .i64 0, .slice none 0 0, .map none, .slice none 0 0, .slice none 0 0, .slice none 0 0, .slice none 0 0, .bool false] 65)).alloc (.cells (rowI (List.replicate (2 * vn + 1) 0)).toArray 3)).alloc (.map #[] 0)).alloc (.cells (rowI (List.replicate C.length 0)).toArray 3)).drew = .ok () _ := store_row (cs := cellsU al C.length c vn ⟨w1.heap.size + 1 + 1, w1.heap.size + 1 + 1 + 1, w1.heap.size + 1, .slice none 0 0, .slice none 0 0, .slice none 0 0⟩ false) hf0 rfl (by simp [cellsU, Value.oneCell'])
              have HU := Lib.hid (uat_made (al := al) (c := c) hf2 hf3 hf1 hf0 (B := w1.heap.size) (by omega) (by omega) (by omega) (by omega) (by omega) (by omega) (by omega) (by omega) (by omega) (by omega))
              have HBB := Lib.hid (bel_setRow (cs := cellsU al C.length c vn ⟨w1.heap.size + 1 + 1, w1.heap.size + 1 + 1 + 1, w1.heap.size + 1, .slice none 0 0, .slice none 0 0, .slice none 0 0⟩ false) (u := w1.heap.size) hfb (by omega))
              clear hf0 hf1 hf2 hf3 hfz hfb
              have hs9 : (cellsU al C.length c vn ⟨w1.heap.size + 1 + 1, w1.heap.size + 1 + 1 + 1, w1.heap.size + 1, .slice none 0 0, .slice none 0 0, .slice none 0 0⟩ false).size = 9 := rfl
              go_simp
              refine hK.out _ _ (US.of HS.out hlt HBB.out) (fun hHeld => ?_)
              clear hK K
              refine wpAnyH_done (by kernel_rfl) ?_ _
              go_wp2_with fail
              go_meet
              exact ⟨_, _, rfl, HU.out, HBB.out⟩

            exact AllReadyH.nil
          exact AllReadyH.nil
        refine AllReadyH.cons (by simp only [List.getElem?_toArray, List.getElem?_cons_zero, List.getElem?_cons_succ]; rfl) (fun K hK => ?_) ?_
        · go_simp
          refine hK.out _ _ ?_ (fun hHeld => ?_)
          · first | exact US.alloc hHeld _ | exact US.alloc HS.out.drew _ | fail
          clear hK K
          try simp only [Act.put, List.setIfInBounds_toArray, List.set_cons_zero, List.set_cons_succ]
          refine wpAnyH_ready (rs := [4]) (by kernel_rfl) (by simp) ?_
          refine AllReadyH.cons (by simp only [List.getElem?_toArray, List.getElem?_cons_zero, List.getElem?_cons_succ]; rfl) (fun K hK => ?_) ?_
          · go_simp
            refine hK.out _ _ ?_ (fun hHeld => ?_)
            · first | exact US.alloc hHeld _ | exact US.alloc HS.out.drew _ | fail
            clear hK K
            try simp only [Act.put, List.setIfInBounds_toArray, List.set_cons_zero, List.set_cons_succ]
            refine wpAnyH_take (i := 14) (v := .agg (cellsU al C.length c vn ⟨w1.heap.size + 1 + 1 + 1, w1.heap.size + 1 + 1, w1.heap.size + 1, .slice none 0 0, .slice none 0 0, .slice none 0 0⟩ false)) (by simp only [List.getElem?_toArray, List.getElem?_cons_zero, List.getElem?_cons_succ]; rfl) (by kernel_rfl) (by kernel_rfl) (by kernel_rfl) (by exact fun _ _ _ h => h) (Or.inl ⟨by rfl, ?_⟩) hHeld ?_
            · intro w' hSw
              go_simp; rfl
            simp only [Act.put, List.setIfInBounds_toArray, List.set_cons_zero, List.set_cons_succ]
            refine wpAnyH_ready (rs := [16]) (by kernel_rfl) (by simp) ?_
            refine AllReadyH.cons (by simp only [List.getElem?_toArray, List.getElem?_cons_zero, List.getElem?_cons_succ]; rfl) (fun K hK => ?_) ?_
            · obtain ⟨hf0, hf1, hf2, hf3, hfz, hfb⟩ := four w1 (.cells zero9 65) (.cells (rowI (List.replicate (2 * vn + 1) 0)).toArray 3) (.cells (rowI (List.replicate C.length 0)).toArray 3) (.map #[] 0)
              have hst : (storeCells ⟨w1.heap.size, 0, none⟩ (cellsU al C.length c vn ⟨w1.heap.size + 1 + 1 + 1, w1.heap.size + 1 + 1, w1.heap.size + 1, .slice none 0 0, .slice none 0 0, .slice none 0 0⟩ false).toList).run Try.prog ((((w1.alloc (.cells #[.slice none 0 0, .int .i64 0, .slice none 0 0, .map none, .slice none 0 0, .slice none 0 0, .slice none 0 0, .slice none 0 0, .bool false] 65)).alloc (.cells (rowI (List.replicate (2 * vn + 1) 0)).toArray 3)).alloc (.cells (rowI (List.replicate C.length 0)).toArray 3)).alloc (.map #[] 0)).drew = .ok () _ := store_row (cs := cellsU al C.length c vn ⟨w1.heap.size + 1 + 1 + 1, w1.heap.size + 1 + 1, w1.heap.size + 1, .slice none 0 0, .slice none 0 0, .slice none 0 0⟩ false) hf0 rfl (by simp [cellsU, Value.oneCell'])
              have HU := Lib.hid (uat_made (al := al) (c := c) hf3 hf2 hf1 hf0 (B := w1.heap.size) (by omega) (by omega) (by omega) (by omega) (by omega) (by omega) (by omega) (by omega) (by omega) (by omega))
              have HBB := Lib.hid (bel_setRow (cs := cellsU al C.length c vn ⟨w1.heap.size + 1 + 1 + 1, w1.heap.size + 1 + 1, w1.heap.size + 1, .slice none 0 0, .slice none 0 0, .slice none 0 0⟩ false) (u := w1.heap.size) hfb (by omega))
              clear hf0 hf1 hf2 hf3 hfz hfb
              have hs9 : (cellsU al C.length c vn ⟨w1.heap.size + 1 + 1 + 1, w1.heap.size + 1 + 1, w1.heap.size + 1, .slice none 0 0, .slice none 0 0, .slice none 0 0⟩ false).size = 9 := rfl
              go_simp
              refine hK.out _ _ (US.of HS.out hlt HBB.out) (fun hHeld => ?_)
              clear hK K
              refine wpAnyH_done (by kernel_rfl) ?_ _
              go_wp2_with fail
              go_meet
              exact ⟨_, _, rfl, HU.out, HBB.out⟩

            exact AllReadyH.nil
          exact AllReadyH.nil
        exact AllReadyH.nil
      exact AllReadyH.nil
    exact AllReadyH.nil
  case rest =>
    obtain ⟨u, L, rfl, hu, hbu⟩ := hcut
    have HHC : Hid (Held w1.heap.size wc al C) := ⟨W, by omega, HBW.out.trans (hbu.mono (by omega)), HCL.out⟩
    have HHG : Hid (HeldI w1.heap.size wc gl g) := ⟨W, by omega, HBW.out.trans (hbu.mono (by omega)), HG.out⟩
    have HGV := Lib.hid (give_any (gc := gc) hu hbu.size hvn HHG.out (fun i hi => by simp [hi]) hgl hnn)
    have HBU := Lib.hid hbu
    clear hu hbu mk1 mk2 hmm hl1 hl2 hl3 hl4 hw1 hw2 hbuild hc0 hc1
    go_wp2_with fail
    refine HGV.out.mono ?_
    rintro e w2 ⟨rfl, ⟨L2, hu2⟩, hA2, hlen2, hb2⟩
    have hlv : leftU ((vn : Nat) : Int) C [] g = match givenG ((vn : Nat) : Int) [] g with | (came, true) => restU C came | (came, false) => (came, false) := rfl
    obtain ⟨T, b, hTb⟩ : ∃ T b, givenG ((vn : Nat) : Int) [] g = (T, b) := ⟨_, _, rfl⟩
    rw [hTb] at hlv hu2 hA2 hlen2
    rw [hTb]
    simp only at hlv hu2 hA2 hlen2
    rw [← HRR.out] at hlv
    have HHC2 := Lib.hid (HHC.out.keep hb2)
    have HB2 := Lib.hid (HBU.out.trans hb2)
    have HU2 := Lib.hid hu2
    have HA2 := Lib.hid hA2
    have HLV := Lib.hid hlv
    obtain ⟨ca, cc, hcv⟩ := row_shape hu2.came
    have c2 : w2.cell? ⟨u, 2, none⟩ = some (.slice ca T.length cc) := by rw [hu2.cells.1 2]; show some L2.cv = _; rw [hcv]
    have HI2 : Hid (IntsAt w2 ca T) := (show GrowI w1 (.slice ca T.length cc) T w2 from ⟨by rw [← hcv]; exact hu2.came, HBU.out.trans hb2⟩).ints
    have hc1' : w2.cell? ⟨W.heap.size, 1, none⟩ = some (.slice al C.length c) := (HB2.out.cell (p := ⟨W.heap.size, 1, none⟩) hlt).trans HC1.out
    clear hu2 hA2 hlv hTb hb2 HGV HHG HHC HBU hcv
    cases b with
    | false =>
      have HL2 : Hid (R = (T, false)) := HLV.out
      go_wp2_with fail
      go_ret2
      rw [show R = (T, false) from HL2.out]
      exact ⟨_, _, rfl, HI2.out, HBW.out.trans (HB2.out.mono (by omega))⟩
    | true =>
      have HR : Hid (R = restU C T) := HLV.out
      clear HLV c2 HI2
      go_wp2_with fail
      go_loopg [34] C.length (fun gk v34 wr => ∃ (k : Nat) (lf : List Int) (P : List (Int × Int)) (nw q : List Int) (br : Bool), v34 = .int .i64 ((k : Nat) : Int) ∧ k + gk = C.length ∧ (∃ L', UAt w1.heap.size wr u al C.length c vn L' ⟨T, lf, P, nw, q, br⟩) ∧ Below w1.heap.size w2 wr ∧ Hid (Laid C T vn k [] lf P nw) ∧ Hid (Queued C T k q br) ∧ P.length ≤ (C.take k).flatten.length)
      case atStart => exact ⟨0, _, _, _, _, _, rfl, by omega, ⟨L2, HU2.out⟩, Below.refl _ _, laid_zero, queued_zero, by simp⟩
      case round =>
        obtain ⟨k, lf, P, nw, q, br, rfl, hj, ⟨Lc, hu⟩, hbw, HLd, HQd, hPl⟩ := hrel
        have HJ := Lib.hid hj
        have HS := Lib.hid (step_i (j := k) (by omega))
        by_cases hk : k < C.length
        · have hlt2 : ((k : Nat) : Int) < ((C.length : Nat) : Int) := by omega
          have hft := uflat_take hk
          have hfl := uflat_le (C := C) (k + 1)
          have hlits : ∀ kk ∈ C, ∀ l ∈ kk, l ≠ 0 ∧ -((vn : Nat) : Int) ≤ l ∧ l ≤ ((vn : Nat) : Int) := fun kk hkk l hl => by
            have := HLIT.out kk hkk l hl
            unfold isL at this
            simpa using this
          have HLY := Lib.hid (lay_any hu (Nat.le_trans HB2.out.size hbw.size) hvn rfl (HHC2.out.keep hbw) HOK.out hlits HA2.out hk HLd.out HQd.out (by have := HSZ.out; simp only; omega) hnn)
          have HPP : Hid (P.length + (C.getD k []).length ≤ (C.take (k + 1)).flatten.length) := by show _ ≤ _; omega
          have HBW2 := Lib.hid hbw
          clear hu hbw hj hft hfl hlits
          go_wp2_with fail
          refine HLY.out.mono ?_
          rintro e w5 ⟨rfl, lf', P', nw', q', br', ⟨L5, hu5⟩, hl5, hq5, hp5, hb5⟩
          have HU5 := Lib.hid hu5
          have HL5 := Lib.hid hl5
          have HQ5 := Lib.hid hq5
          have HP5 := Lib.hid hp5
          have HB5 := Lib.hid (HBW2.out.trans hb5)
          clear hu5 hl5 hq5 hp5 hb5 HLY
          go_wp2_with fail
          go_roundg (gk - 1)
          case measure => have := HJ.out; omega
          case rel => exact ⟨k + 1, lf', P', nw', q', br', by first | rfl | (rw [HS.out.1]) | (congr 1; exact HS.out.1), by have := HJ.out; omega, ⟨L5, HU5.out⟩, HB5.out, HL5.out, HQ5.out, by have := HPP.out; have := HP5.out; omega⟩
        · have hlt2 : ¬ ((k : Nat) : Int) < ((C.length : Nat) : Int) := by omega
          obtain rfl : k = C.length := by omega
          have HINV := Lib.hid (inv_of HLd.out HQd.out HA2.out)
          have hHQ := HQd.out.heap
          have hql := HQd.out.len
          have hc2 := cnt2_le lf
          rw [hu.ln] at hc2
          have hPl2 := Nat.le_trans hPl (uflat_le C.length)
          have HUU := Lib.hid hu
          have HBW2 := Lib.hid hbw
          clear hu hbw hj HLd HQd
          have hTl : T.length ≤ 1000000 := by omega
          go_wp2_with fail
          go_loopg [49] (q.length + cnt2 lf) (fun gk v49 wr2 => v49 = v49 ∧ ∃ (T' : List Int) (lf' q' : List Int) (br' : Bool), (∃ L', UAt w1.heap.size wr2 u al C.length c vn L' ⟨T', lf', P, nw, q', br'⟩) ∧ Below w1.heap.size w2 wr2 ∧ Hid (Inv C vn T T' lf' P nw q' br' Never) ∧ HeapL q' ∧ q'.length + cnt2 lf' = gk ∧ gk ≤ 2000000 ∧ T'.length + gk ≤ 10000000 ∧ Hid (R = restU C T'))
          case atStart => exact ⟨rfl, T, lf, q, br, ⟨Lc, HUU.out⟩, HBW2.out, HINV.out, hHQ, rfl, by omega, by omega, HR.out⟩
          case round =>
            obtain ⟨_, T2, lf2, q2, br2, ⟨L3, hu3⟩, hbw3, HI3, hh3, hgk, hgk2, hTg, HR3⟩ := hrel
            clear HUU HBW2 HINV
            obtain ⟨qa, qc, hqv⟩ := row_shape hu3.qu
            have c7 : wr.cell? ⟨u, 7, none⟩ = some (.slice qa q2.length qc) := by rw [hu3.cells.1 7]; show some L3.qv = _; rw [hqv]
            have c8 : wr.cell? ⟨u, 8, none⟩ = some (.bool br2) := hu3.cells.1 8
            obtain ⟨ca, cc, hcv⟩ := row_shape hu3.came
            have c2 : wr.cell? ⟨u, 2, none⟩ = some (.slice ca T2.length cc) := by rw [hu3.cells.1 2]; show some L3.cv = _; rw [hcv]
            have HI4 : Hid (IntsAt wr ca T2) := (show GrowI w1 (.slice ca T2.length cc) T2 wr from ⟨by rw [← hcv]; exact hu3.came, HB2.out.trans hbw3⟩).ints
            have HU3 := Lib.hid hu3
            have HB3 := Lib.hid hbw3
            have HZ : Hid (∀ k ∈ C, ∀ l ∈ k, l ≠ 0) := fun kk hkk l hl => by
              have := HLIT.out kk hkk l hl
              unfold isL at this
              simp at this
              exact this.1
            clear hu3 hbw3 hqv hcv
            cases br2 with
            | true =>
              have HE : Hid (R = (T2, false)) := by show _ = _; rw [HR3.out, HI3.out.broken HZ.out]
              clear c7
              go_wp2_with fail
              go_quiet (fail)
              go_wp2_with fail
              go_ret2
              rw [show R = (T2, false) from HE.out]
              exact ⟨_, _, rfl, HI4.out.keep (bel_drewN (Below.refl _ _) _), bel_drewN2 (HBW.out.trans ((HB2.out.trans HB3.out).mono (by omega))) _⟩
            | false =>
              by_cases hq0 : q2 = []
              · subst hq0
                have HE : Hid (R = (T2, true)) := by show _ = _; rw [HR3.out, HI3.out.empty HZ.out]
                simp only [List.length_nil] at c7
                go_wp2_with (go_at_call 36; refine (slen_any _ _ _ _).mono ?_; rintro e w' ⟨rfl, rfl⟩)
                go_quiet (fail)
                go_wp2_with fail
                go_ret2
                rw [show R = (T2, true) from HE.out]
                exact ⟨_, _, rfl, HI4.out.keep (bel_drewN (Below.refl _ _) _), bel_drewN2 (HBW.out.trans ((HB2.out.trans HB3.out).mono (by omega))) _⟩
              · have hqp : 0 < q2.length := List.length_pos_iff.2 hq0
                have hqp2 : (0 : Int) < ((q2.length : Nat) : Int) := by omega
                have HPOP := Lib.hid (hpop_any HU3.out (by simp only; omega) hh3 hq0)
                have hta : ∀ (k : Int) (W : World), (Instr.typeAssert (.iface 3 (.int .i64 k)) 20 3 false).run Try.prog W = .ok (.int .i64 k) W := fun k W => by kernel_rfl
                clear c2 hh3
                go_wp2_with (first | (go_at_call 36; refine (slen_any _ _ _ _).mono ?_; rintro e w' ⟨rfl, rfl⟩))
                refine HPOP.out.mono ?_
                rintro e w5 ⟨kx, rfl, L5, q5, hu5, hR5, hb5⟩
                have hin : kx ∈ q2 := (hR5.2.2.1 kx).2 (.inr rfl)
                obtain ⟨x, hxn, rfl, _⟩ := HI3.out.qin kx hin
                have hlits : ∀ kk ∈ C, ∀ l ∈ kk, l ≠ 0 ∧ -((vn : Nat) : Int) ≤ l ∧ l ≤ ((vn : Nat) : Int) := fun kk hkk l hl => by
                  have := HLIT.out kk hkk l hl
                  unfold isL at this
                  simpa using this
                have hkls : ∀ kk ∈ C, kk.length ≤ 1000000 := fun kk hkk => by
                  obtain ⟨i, hi, rfl⟩ := mem_getD hkk
                  have e1 := uflat_take hi
                  have e2 := uflat_le (C := C) (i + 1)
                  have := HSZ.out
                  omega
                have hHld : Held w1.heap.size w5 al C := HHC2.out.keep (HB3.out.trans hb5)
                have hBs : w1.heap.size ≤ w5.heap.size := Nat.le_trans HB2.out.size (HB3.out.trans hb5).size
                have HFO := Lib.hid (follow_any hu5 hBs hvn hHld hlits hkls hxn (HI3.out.pop hR5.2.2.1) rfl hR5.2.1 (by have := hR5.1; simp only; omega) (by have := HSZ.out; simp only; omega) (by simp only; omega) hnn (fun l hl h1 h2 => HI3.out.next HZ.out hxn hR5.2.2.2 hin hl h1 h2))
                have HB5 := Lib.hid (HB3.out.trans hb5)
                have HL5 := Lib.hid hR5.1
                clear hu5 hR5 hb5 hin hlits hkls hHld hBs HPOP
                go_wp2_with fail
                refine HFO.out.mono ?_
                rintro e w6 ⟨rfl, T6, lf6, q6, br6, ⟨L6, hu6⟩, hI6, hh6, hm6, hr6, hl6, hb6⟩
                have HU6 := Lib.hid hu6
                have HI6 := Lib.hid hI6
                have HB6 := Lib.hid (HB5.out.trans hb6)
                have HR6 : Hid (R = restU C T6) := by show _ = _; rw [HR3.out]; exact hr6
                have HM6 := Lib.hid hm6
                have HL6 := Lib.hid hl6
                clear hu6 hI6 hb6 hr6 hm6 hl6 HFO
                go_wp2_with fail
                go_roundg (gk - 1)
                case measure => have := HM6.out; have := HL5.out; omega
                case rel => exact ⟨trivial, T6, lf6, q6, br6, ⟨L6, HU6.out⟩, HB6.out, HI6.out, hh6, by have := HM6.out; have := HL5.out; omega, by omega, by have := HL6.out; omega, HR6.out⟩
end Cf
end Go.Proofs.Ytmgkgbhkaoflhaa
