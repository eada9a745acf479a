/-
The document's own put of layer text, of a leaf, as a fact on one call.
The reader of layer text: what it has in memory; has, need, run, number, short as facts on one call.
The reader of layer text: run, number, short as facts on one call.
-/
import Derived.Test.YtjinjddcnjcffaaGreatDoorPt10
import Derived.Test.YtjinjddcnjcffaaGreatDoorTmRefC
import Derived.Test.YtjinjddcnjcffaaGreatDoorTxNodeC
import Derived.Lib.Walk
import Derived.BigGuard
import Derived.BigCall
namespace Go.Proofs.YtjinjddcnjcffaaGreatDoor
open Go.RowKit Go.Maps Bv Tm
namespace Tx
set_option maxHeartbeats 3200000
set_option maxRecDepth 100000

/-- What a call of put has done. -/
def RPut (tot : By) (W : World) (e : Ending) (u : World) : Prop :=
  Below W.heap.size W u ∧ ((tot.length ≤ 10000 ∧ e = .returned (.tuple #[.string ⟨tot.toArray⟩, .bool true])) ∨ (10000 < tot.length ∧ ∃ s, e = .returned (.tuple #[.string s, .bool false])))

theorem str_app (a b : By) : ((⟨a.toArray⟩ : ByteArray) ++ ⟨b.toArray⟩) = ⟨(a ++ b).toArray⟩ := by
  apply ByteArray.ext
  simp

theorem itoa_nat (n : Nat) (h : n ≤ 1000000) (w : World) (htab : Lib.TabIs Tryz.prog w "internal/strconv.uint64pow10" .u64 Lib.pow10Tab) :
    Calls Tryz.prog 32 #[.int .i64 ((n : Nat) : Int)] w fun e w' => e = .returned (.string ⟨(dec n).toArray⟩) ∧ Below w.heap.size w w' := by
  have := itoa_any ((n : Nat) : Int) (by omega) (by omega) w htab
  rwa [show Lib.itoa ((n : Nat) : Int) = dec n by unfold Lib.itoa dec; simp] at this

theorem rput_const {B p k w n l : Nat} {rv : Value} {L : List Nd} {k0 k1 k2 : Int} {acc : By} {W : World} (S : RefAt B W p rv L) (hE : EnvAt (fun i => W.heap.size ≤ i) W) (hx : L[k]? = some ⟨1, w, k0, k1, k2, n, l⟩) (hl : acc.length ≤ 10000000) :
    Calls Tryz.prog 19 #[.pointer (some ⟨p, 0, none⟩), .int .i64 ((k : Nat) : Int), .string ⟨acc.toArray⟩] W (RPut (acc ++ txt L k) W) := by
  have hw := S.good.w _ (List.mem_of_getElem? hx)
  have hok := S.good.ok _ (List.mem_of_getElem? hx)
  have hnlt : n < 18446744073709551616 := hok.n
  have hwle : w ≤ 64 := hw.2

  have htx : acc ++ txt L k = acc ++ [35] ++ dec w ++ [58] ++ dec n := by
    rw [txt_is S.good hx]
    unfold bodyT
    simp
  have hkl : k < L.length := (List.getElem?_eq_some_iff.1 hx).1
  obtain ⟨g, gc, rfl, hcg⟩ := row_nd_at S.row hx
  obtain ⟨m0, m1, m2, m3, m4, m5, m6⟩ := cells_near (fun j u hj => hcg k _ hx j u hj)
  have lg : g < W.heap.size := World.block_lt_of_cell? W _ m0
  have s0 := S.c0
  have lpr := S.lt
  have q0 : (0 : Int) ≤ ((k : Nat) : Int) := by omega
  have q1 : ((k : Nat) : Int) < ((L.length : Nat) : Int) := by omega
  have HE := Lib.hid hE
  have HT := Lib.hid htx
  have HDN := Lib.hid (show (dec n).length ≤ 20 ∧ (Lib.decDigits n).length ≤ 20 from ⟨dec_len hnlt, dec_len hnlt⟩)
  have HDW := Lib.hid (show (dec w).length ≤ 20 ∧ (Lib.decDigits w).length ≤ 20 from ⟨dec_len (by omega), dec_len (by omega)⟩)
  have HL := Lib.hid hl
  have HWL := Lib.hid (show w ≤ 1000000 by omega)
  have HNL := Lib.hid hnlt
  have cw : IntKind.i64.wrap ((w : Nat) : Int) = ((w : Nat) : Int) := by rw [IntKind.wrap_i64]; omega

  have HB0 := Lib.hid (bel_alloc (Below.refl W.heap.size W) (.cells #[.int .u8 1, .int .u8 ((w : Nat) : Int), .int .i64 k0, .int .i64 k1, .int .i64 k2, .int .u64 ((n : Nat) : Int), .int .u8 ((l : Nat) : Int)] 48))
  have HT0 : Hid (Two15 W.heap.size w n (W.alloc (.cells #[.int .u8 1, .int .u8 ((w : Nat) : Int), .int .i64 k0, .int .i64 k1, .int .i64 k2, .int .u64 ((n : Nat) : Int), .int .u8 ((l : Nat) : Int)] 48))) := Lib.hid Two15.new
  rw [HT.out]
  obtain ⟨tot, htot⟩ : ∃ tot : By, tot = acc ++ [35] ++ dec w ++ [58] ++ dec n := ⟨_, rfl⟩
  have HTOT := Lib.hid htot
  rw [← htot]
  clear S hE hw hok hx hcg htx hl htot HT
  go_enter Tryz.func19, Tryz.ntmps19
  go_wp2_with fail
  · refine wp_region_held_drew (S := fun w' => Two15 W.heap.size w n w') (by kernel_rfl) (HT0.out.heap rfl) (fun hHeld => ?_)
    refine wpAnyH_take (i := 0) (v := .string ⟨(acc).toArray⟩) (by simp only [List.getElem?_toArray, List.getElem?_cons_zero, List.getElem?_cons_succ]; rfl) (by kernel_rfl) (by kernel_rfl) (by kernel_rfl) (by exact fun _ _ _ h => h) (Or.inl ⟨by rfl, ?_⟩) hHeld ?_
    · intro w' hSw
      go_simp
    simp only [Act.put, List.setIfInBounds_toArray, List.set_cons_zero, List.set_cons_succ]
    refine wpAnyH_take (i := 1) (v := .string ⟨(acc ++ [35]).toArray⟩) (by simp only [List.getElem?_toArray, List.getElem?_cons_zero, List.getElem?_cons_succ]; rfl) (by kernel_rfl) (by kernel_rfl) (by kernel_rfl) (by exact fun _ _ _ h => h) (Or.inl ⟨by rfl, ?_⟩) hHeld ?_
    · intro w' hSw
      go_simp; rw [str_app, if_neg (by have := HL.out; have := HDN.out; have := HDW.out; omega)]; first | done | simp [dec] | simp
    simp only [Act.put, List.setIfInBounds_toArray, List.set_cons_zero, List.set_cons_succ]
    refine wpAnyH_take (i := 2) (v := .pointer (some ⟨W.heap.size, 1, none⟩)) (by simp only [List.getElem?_toArray, List.getElem?_cons_zero, List.getElem?_cons_succ]; rfl) (by kernel_rfl) (by kernel_rfl) (by kernel_rfl) (by exact fun _ _ _ h => h) (Or.inl ⟨by rfl, ?_⟩) hHeld ?_
    · intro w' hSw
      go_simp
    simp only [Act.put, List.setIfInBounds_toArray, List.set_cons_zero, List.set_cons_succ]
    refine wpAnyH_take (i := 3) (v := .int .u8 ((w : Nat) : Int)) (by simp only [List.getElem?_toArray, List.getElem?_cons_zero, List.getElem?_cons_succ]; rfl) (by kernel_rfl) (by kernel_rfl) (by kernel_rfl) (by exact fun _ _ _ h => h) (Or.inl ⟨by rfl, ?_⟩) hHeld ?_
    · intro w' hSw
      obtain ⟨f1, f5⟩ := hSw; go_simp
    simp only [Act.put, List.setIfInBounds_toArray, List.set_cons_zero, List.set_cons_succ]
    refine wpAnyH_take (i := 4) (v := .int .i64 ((w : Nat) : Int)) (by simp only [List.getElem?_toArray, List.getElem?_cons_zero, List.getElem?_cons_succ]; rfl) (by kernel_rfl) (by kernel_rfl) (by kernel_rfl) (by exact fun _ _ _ h => h) (Or.inl ⟨by rfl, ?_⟩) hHeld ?_
    · intro w' hSw
      go_simp
    simp only [Act.put, List.setIfInBounds_toArray, List.set_cons_zero, List.set_cons_succ]
    refine wpAnyH_take (i := 8) (v := .pointer (some ⟨W.heap.size, 5, none⟩)) (by simp only [List.getElem?_toArray, List.getElem?_cons_zero, List.getElem?_cons_succ]; rfl) (by kernel_rfl) (by kernel_rfl) (by kernel_rfl) (by exact fun _ _ _ h => h) (Or.inl ⟨by rfl, ?_⟩) hHeld ?_
    · intro w' hSw
      go_simp
    simp only [Act.put, List.setIfInBounds_toArray, List.set_cons_zero, List.set_cons_succ]
    refine wpAnyH_take (i := 9) (v := .int .u64 ((n : Nat) : Int)) (by simp only [List.getElem?_toArray, List.getElem?_cons_zero, List.getElem?_cons_succ]; rfl) (by kernel_rfl) (by kernel_rfl) (by kernel_rfl) (by exact fun _ _ _ h => h) (Or.inl ⟨by rfl, ?_⟩) hHeld ?_
    · intro w' hSw
      obtain ⟨f1, f5⟩ := hSw; go_simp
    simp only [Act.put, List.setIfInBounds_toArray, List.set_cons_zero, List.set_cons_succ]
    refine wpAnyH_ready (rs := [5]) (by kernel_rfl) (by simp) ?_
    refine AllReadyH.cons (by simp only [List.getElem?_toArray, List.getElem?_cons_zero, List.getElem?_cons_succ]; rfl) (fun K hK => ?_) AllReadyH.nil
    go_simp
    refine (itoa_nat w HWL.out _ (by exact tab_heap (HE.out.call HB0.out).pw _ rfl)).mono ?_
    rintro e w5 ⟨rfl, hb5⟩
    have HB5 : Hid (Below W.heap.size W w5) := Lib.hid (bel_call HB0.out ⟨hb5.os, hb5.tape, hb5.output, hb5.size, hb5.block⟩)
    have HT5 : Hid (Two15 W.heap.size w n w5) := Lib.hid (HT0.out.call ⟨hb5.os, hb5.tape, hb5.output, hb5.size, hb5.block⟩)
    refine hK.out _ _ HT5.out (fun hHeld => ?_)
    clear hb5
    clear hK K
    try simp only [Act.put, List.setIfInBounds_toArray, List.set_cons_zero, List.set_cons_succ]
    refine wpAnyH_take (i := 6) (v := .string ⟨(acc ++ [35] ++ dec w).toArray⟩) (by simp only [List.getElem?_toArray, List.getElem?_cons_zero, List.getElem?_cons_succ]; rfl) (by kernel_rfl) (by kernel_rfl) (by kernel_rfl) (by exact fun _ _ _ h => h) (Or.inl ⟨by rfl, ?_⟩) hHeld ?_
    · intro w' hSw
      go_simp; rw [str_app, if_neg (by have := HL.out; have := HDN.out; have := HDW.out; omega)]; first | done | simp [dec] | simp
    simp only [Act.put, List.setIfInBounds_toArray, List.set_cons_zero, List.set_cons_succ]
    refine wpAnyH_take (i := 7) (v := .string ⟨(acc ++ [35] ++ dec w ++ [58]).toArray⟩) (by simp only [List.getElem?_toArray, List.getElem?_cons_zero, List.getElem?_cons_succ]; rfl) (by kernel_rfl) (by kernel_rfl) (by kernel_rfl) (by exact fun _ _ _ h => h) (Or.inl ⟨by rfl, ?_⟩) hHeld ?_
    · intro w' hSw
      go_simp; rw [str_app, if_neg (by have := HL.out; have := HDN.out; have := HDW.out; omega)]; first | done | simp [dec] | simp
    simp only [Act.put, List.setIfInBounds_toArray, List.set_cons_zero, List.set_cons_succ]
    refine wpAnyH_ready (rs := [10]) (by kernel_rfl) (by simp) ?_
    refine AllReadyH.cons (by simp only [List.getElem?_toArray, List.getElem?_cons_zero, List.getElem?_cons_succ]; rfl) (fun K hK => ?_) AllReadyH.nil
    go_simp
    refine (formatUint_any n HNL.out _ (by exact tab_heap (HE.out.call HB5.out).pw _ rfl)).mono ?_
    rintro e w6 ⟨rfl, hb6⟩
    have HB6 : Hid (Below W.heap.size W w6) := Lib.hid (bel_call HB5.out ⟨hb6.os, hb6.tape, hb6.output, hb6.size, hb6.block⟩)
    have HT6 : Hid (Two15 W.heap.size w n w6) := Lib.hid (HT5.out.call ⟨hb6.os, hb6.tape, hb6.output, hb6.size, hb6.block⟩)
    refine hK.out _ _ HT6.out (fun hHeld => ?_)
    clear hb6
    clear hK K
    try simp only [Act.put, List.setIfInBounds_toArray, List.set_cons_zero, List.set_cons_succ]
    refine wpAnyH_take (i := 11) (v := .string ⟨(acc ++ [35] ++ dec w ++ [58] ++ dec n).toArray⟩) (by simp only [List.getElem?_toArray, List.getElem?_cons_zero, List.getElem?_cons_succ]; rfl) (by kernel_rfl) (by kernel_rfl) (by kernel_rfl) (by exact fun _ _ _ h => h) (Or.inl ⟨by rfl, ?_⟩) hHeld ?_
    · intro w' hSw
      go_simp; rw [str_app, if_neg (by have := HL.out; have := HDN.out; have := HDW.out; omega)]; first | done | simp [dec] | simp
    simp only [Act.put, List.setIfInBounds_toArray, List.set_cons_zero, List.set_cons_succ]
    refine wpAnyH_take (i := 12) (v := .string ⟨(acc ++ [35] ++ dec w ++ [58] ++ dec n).toArray⟩) (by simp only [List.getElem?_toArray, List.getElem?_cons_zero, List.getElem?_cons_succ]; rfl) (by kernel_rfl) (by kernel_rfl) (by kernel_rfl) (by exact fun _ _ _ h => h) (Or.inl ⟨by rfl, ?_⟩) hHeld ?_
    · intro w' hSw
      go_simp
    simp only [Act.put, List.setIfInBounds_toArray, List.set_cons_zero, List.set_cons_succ]
    refine wpAnyH_done (by kernel_rfl) ?_ _
    clear HDN HDW HL hHeld
    rw [← HTOT.out]
    by_cases hf : tot.length ≤ 10000
    · have q5 : ((tot.length : Nat) : Int) ≤ 10000 := by omega
      have HF := Lib.hid hf
      clear hf
      go_wp2_with fail
      exact bodyPost_ret (v := .tuple #[.string ⟨tot.toArray⟩, .bool true]) (by simp [results, Tryz.results19, go_sem]) rfl ⟨HB6.out, .inl ⟨HF.out, rfl⟩⟩
    · have q5 : ¬ ((tot.length : Nat) : Int) ≤ 10000 := by omega
      have HF := Lib.hid (show 10000 < tot.length by omega)
      clear hf
      go_wp2_with fail
      exact bodyPost_ret (v := .tuple #[.string ⟨tot.toArray⟩, .bool false]) (by simp [results, Tryz.results19, go_sem]) rfl ⟨HB6.out, .inr ⟨HF.out, _, rfl⟩⟩
theorem rput_var {B p k w n l : Nat} {rv : Value} {L : List Nd} {k0 k1 k2 : Int} {acc : By} {W : World} (S : RefAt B W p rv L) (hE : EnvAt (fun i => W.heap.size ≤ i) W) (hx : L[k]? = some ⟨2, w, k0, k1, k2, n, l⟩) (hl : acc.length ≤ 10000000) :
    Calls Tryz.prog 19 #[.pointer (some ⟨p, 0, none⟩), .int .i64 ((k : Nat) : Int), .string ⟨acc.toArray⟩] W (RPut (acc ++ txt L k) W) := by
  have hw := S.good.w _ (List.mem_of_getElem? hx)
  have hok := S.good.ok _ (List.mem_of_getElem? hx)
  have hnlt : n < 18446744073709551616 := hok.n
  have hwle : w ≤ 64 := hw.2
  have hn8 : n < 256 := by have := S.good.var _ (List.mem_of_getElem? hx) rfl; simpa using this
  have htx : acc ++ txt L k = acc ++ [118] ++ dec n ++ [58] ++ dec w := by
    rw [txt_is S.good hx]
    unfold bodyT
    simp
  have hkl : k < L.length := (List.getElem?_eq_some_iff.1 hx).1
  obtain ⟨g, gc, rfl, hcg⟩ := row_nd_at S.row hx
  obtain ⟨m0, m1, m2, m3, m4, m5, m6⟩ := cells_near (fun j u hj => hcg k _ hx j u hj)
  have lg : g < W.heap.size := World.block_lt_of_cell? W _ m0
  have s0 := S.c0
  have lpr := S.lt
  have q0 : (0 : Int) ≤ ((k : Nat) : Int) := by omega
  have q1 : ((k : Nat) : Int) < ((L.length : Nat) : Int) := by omega
  have HE := Lib.hid hE
  have HT := Lib.hid htx
  have HDN := Lib.hid (show (dec n).length ≤ 20 ∧ (Lib.decDigits n).length ≤ 20 from ⟨dec_len hnlt, dec_len hnlt⟩)
  have HDW := Lib.hid (show (dec w).length ≤ 20 ∧ (Lib.decDigits w).length ≤ 20 from ⟨dec_len (by omega), dec_len (by omega)⟩)
  have HL := Lib.hid hl
  have HWL := Lib.hid (show w ≤ 1000000 by omega)
  have HNL := Lib.hid (show n ≤ 1000000 by omega)
  have cw : IntKind.i64.wrap ((w : Nat) : Int) = ((w : Nat) : Int) := by rw [IntKind.wrap_i64]; omega
  have cn : IntKind.i64.wrap ((n : Nat) : Int) = ((n : Nat) : Int) := by rw [IntKind.wrap_i64]; omega
  have HB0 := Lib.hid (bel_alloc (Below.refl W.heap.size W) (.cells #[.int .u8 2, .int .u8 ((w : Nat) : Int), .int .i64 k0, .int .i64 k1, .int .i64 k2, .int .u64 ((n : Nat) : Int), .int .u8 ((l : Nat) : Int)] 48))
  have HT0 : Hid (Two15 W.heap.size w n (W.alloc (.cells #[.int .u8 2, .int .u8 ((w : Nat) : Int), .int .i64 k0, .int .i64 k1, .int .i64 k2, .int .u64 ((n : Nat) : Int), .int .u8 ((l : Nat) : Int)] 48))) := Lib.hid Two15.new
  rw [HT.out]
  obtain ⟨tot, htot⟩ : ∃ tot : By, tot = acc ++ [118] ++ dec n ++ [58] ++ dec w := ⟨_, rfl⟩
  have HTOT := Lib.hid htot
  rw [← htot]
  clear S hE hw hok hx hcg htx hl htot HT
  go_enter Tryz.func19, Tryz.ntmps19
  go_wp2_with fail
  · refine wp_region_held_drew (S := fun w' => Two15 W.heap.size w n w') (by kernel_rfl) (HT0.out.heap rfl) (fun hHeld => ?_)
    refine wpAnyH_take (i := 0) (v := .string ⟨(acc).toArray⟩) (by simp only [List.getElem?_toArray, List.getElem?_cons_zero, List.getElem?_cons_succ]; rfl) (by kernel_rfl) (by kernel_rfl) (by kernel_rfl) (by exact fun _ _ _ h => h) (Or.inl ⟨by rfl, ?_⟩) hHeld ?_
    · intro w' hSw
      go_simp
    simp only [Act.put, List.setIfInBounds_toArray, List.set_cons_zero, List.set_cons_succ]
    refine wpAnyH_take (i := 1) (v := .string ⟨(acc ++ [118]).toArray⟩) (by simp only [List.getElem?_toArray, List.getElem?_cons_zero, List.getElem?_cons_succ]; rfl) (by kernel_rfl) (by kernel_rfl) (by kernel_rfl) (by exact fun _ _ _ h => h) (Or.inl ⟨by rfl, ?_⟩) hHeld ?_
    · intro w' hSw
      go_simp; rw [str_app, if_neg (by have := HL.out; have := HDN.out; have := HDW.out; omega)]; first | done | simp [dec] | simp
    simp only [Act.put, List.setIfInBounds_toArray, List.set_cons_zero, List.set_cons_succ]
    refine wpAnyH_take (i := 2) (v := .pointer (some ⟨W.heap.size, 5, none⟩)) (by simp only [List.getElem?_toArray, List.getElem?_cons_zero, List.getElem?_cons_succ]; rfl) (by kernel_rfl) (by kernel_rfl) (by kernel_rfl) (by exact fun _ _ _ h => h) (Or.inl ⟨by rfl, ?_⟩) hHeld ?_
    · intro w' hSw
      go_simp
    simp only [Act.put, List.setIfInBounds_toArray, List.set_cons_zero, List.set_cons_succ]
    refine wpAnyH_take (i := 3) (v := .int .u64 ((n : Nat) : Int)) (by simp only [List.getElem?_toArray, List.getElem?_cons_zero, List.getElem?_cons_succ]; rfl) (by kernel_rfl) (by kernel_rfl) (by kernel_rfl) (by exact fun _ _ _ h => h) (Or.inl ⟨by rfl, ?_⟩) hHeld ?_
    · intro w' hSw
      obtain ⟨f1, f5⟩ := hSw; go_simp
    simp only [Act.put, List.setIfInBounds_toArray, List.set_cons_zero, List.set_cons_succ]
    refine wpAnyH_take (i := 4) (v := .int .i64 ((n : Nat) : Int)) (by simp only [List.getElem?_toArray, List.getElem?_cons_zero, List.getElem?_cons_succ]; rfl) (by kernel_rfl) (by kernel_rfl) (by kernel_rfl) (by exact fun _ _ _ h => h) (Or.inl ⟨by rfl, ?_⟩) hHeld ?_
    · intro w' hSw
      go_simp
    simp only [Act.put, List.setIfInBounds_toArray, List.set_cons_zero, List.set_cons_succ]
    refine wpAnyH_take (i := 8) (v := .pointer (some ⟨W.heap.size, 1, none⟩)) (by simp only [List.getElem?_toArray, List.getElem?_cons_zero, List.getElem?_cons_succ]; rfl) (by kernel_rfl) (by kernel_rfl) (by kernel_rfl) (by exact fun _ _ _ h => h) (Or.inl ⟨by rfl, ?_⟩) hHeld ?_
    · intro w' hSw
      go_simp
    simp only [Act.put, List.setIfInBounds_toArray, List.set_cons_zero, List.set_cons_succ]
    refine wpAnyH_take (i := 9) (v := .int .u8 ((w : Nat) : Int)) (by simp only [List.getElem?_toArray, List.getElem?_cons_zero, List.getElem?_cons_succ]; rfl) (by kernel_rfl) (by kernel_rfl) (by kernel_rfl) (by exact fun _ _ _ h => h) (Or.inl ⟨by rfl, ?_⟩) hHeld ?_
    · intro w' hSw
      obtain ⟨f1, f5⟩ := hSw; go_simp
    simp only [Act.put, List.setIfInBounds_toArray, List.set_cons_zero, List.set_cons_succ]
    refine wpAnyH_take (i := 10) (v := .int .i64 ((w : Nat) : Int)) (by simp only [List.getElem?_toArray, List.getElem?_cons_zero, List.getElem?_cons_succ]; rfl) (by kernel_rfl) (by kernel_rfl) (by kernel_rfl) (by exact fun _ _ _ h => h) (Or.inl ⟨by rfl, ?_⟩) hHeld ?_
    · intro w' hSw
      go_simp
    simp only [Act.put, List.setIfInBounds_toArray, List.set_cons_zero, List.set_cons_succ]
    refine wpAnyH_ready (rs := [5]) (by kernel_rfl) (by simp) ?_
    refine AllReadyH.cons (by simp only [List.getElem?_toArray, List.getElem?_cons_zero, List.getElem?_cons_succ]; rfl) (fun K hK => ?_) AllReadyH.nil
    go_simp
    refine (itoa_nat n HNL.out _ (by exact tab_heap (HE.out.call HB0.out).pw _ rfl)).mono ?_
    rintro e w5 ⟨rfl, hb5⟩
    have HB5 : Hid (Below W.heap.size W w5) := Lib.hid (bel_call HB0.out ⟨hb5.os, hb5.tape, hb5.output, hb5.size, hb5.block⟩)
    have HT5 : Hid (Two15 W.heap.size w n w5) := Lib.hid (HT0.out.call ⟨hb5.os, hb5.tape, hb5.output, hb5.size, hb5.block⟩)
    refine hK.out _ _ HT5.out (fun hHeld => ?_)
    clear hb5
    clear hK K
    try simp only [Act.put, List.setIfInBounds_toArray, List.set_cons_zero, List.set_cons_succ]
    refine wpAnyH_take (i := 6) (v := .string ⟨(acc ++ [118] ++ dec n).toArray⟩) (by simp only [List.getElem?_toArray, List.getElem?_cons_zero, List.getElem?_cons_succ]; rfl) (by kernel_rfl) (by kernel_rfl) (by kernel_rfl) (by exact fun _ _ _ h => h) (Or.inl ⟨by rfl, ?_⟩) hHeld ?_
    · intro w' hSw
      go_simp; rw [str_app, if_neg (by have := HL.out; have := HDN.out; have := HDW.out; omega)]; first | done | simp [dec] | simp
    simp only [Act.put, List.setIfInBounds_toArray, List.set_cons_zero, List.set_cons_succ]
    refine wpAnyH_take (i := 7) (v := .string ⟨(acc ++ [118] ++ dec n ++ [58]).toArray⟩) (by simp only [List.getElem?_toArray, List.getElem?_cons_zero, List.getElem?_cons_succ]; rfl) (by kernel_rfl) (by kernel_rfl) (by kernel_rfl) (by exact fun _ _ _ h => h) (Or.inl ⟨by rfl, ?_⟩) hHeld ?_
    · intro w' hSw
      go_simp; rw [str_app, if_neg (by have := HL.out; have := HDN.out; have := HDW.out; omega)]; first | done | simp [dec] | simp
    simp only [Act.put, List.setIfInBounds_toArray, List.set_cons_zero, List.set_cons_succ]
    refine wpAnyH_ready (rs := [11]) (by kernel_rfl) (by simp) ?_
    refine AllReadyH.cons (by simp only [List.getElem?_toArray, List.getElem?_cons_zero, List.getElem?_cons_succ]; rfl) (fun K hK => ?_) AllReadyH.nil
    go_simp
    refine (itoa_nat w HWL.out _ (by exact tab_heap (HE.out.call HB5.out).pw _ rfl)).mono ?_
    rintro e w6 ⟨rfl, hb6⟩
    have HB6 : Hid (Below W.heap.size W w6) := Lib.hid (bel_call HB5.out ⟨hb6.os, hb6.tape, hb6.output, hb6.size, hb6.block⟩)
    have HT6 : Hid (Two15 W.heap.size w n w6) := Lib.hid (HT5.out.call ⟨hb6.os, hb6.tape, hb6.output, hb6.size, hb6.block⟩)
    refine hK.out _ _ HT6.out (fun hHeld => ?_)
    clear hb6
    clear hK K
    try simp only [Act.put, List.setIfInBounds_toArray, List.set_cons_zero, List.set_cons_succ]
    refine wpAnyH_take (i := 12) (v := .string ⟨(acc ++ [118] ++ dec n ++ [58] ++ dec w).toArray⟩) (by simp only [List.getElem?_toArray, List.getElem?_cons_zero, List.getElem?_cons_succ]; rfl) (by kernel_rfl) (by kernel_rfl) (by kernel_rfl) (by exact fun _ _ _ h => h) (Or.inl ⟨by rfl, ?_⟩) hHeld ?_
    · intro w' hSw
      go_simp; rw [str_app, if_neg (by have := HL.out; have := HDN.out; have := HDW.out; omega)]; first | done | simp [dec] | simp
    simp only [Act.put, List.setIfInBounds_toArray, List.set_cons_zero, List.set_cons_succ]
    refine wpAnyH_take (i := 13) (v := .string ⟨(acc ++ [118] ++ dec n ++ [58] ++ dec w).toArray⟩) (by simp only [List.getElem?_toArray, List.getElem?_cons_zero, List.getElem?_cons_succ]; rfl) (by kernel_rfl) (by kernel_rfl) (by kernel_rfl) (by exact fun _ _ _ h => h) (Or.inl ⟨by rfl, ?_⟩) hHeld ?_
    · intro w' hSw
      go_simp
    simp only [Act.put, List.setIfInBounds_toArray, List.set_cons_zero, List.set_cons_succ]
    refine wpAnyH_done (by kernel_rfl) ?_ _
    clear HDN HDW HL hHeld
    rw [← HTOT.out]
    by_cases hf : tot.length ≤ 10000
    · have q5 : ((tot.length : Nat) : Int) ≤ 10000 := by omega
      have HF := Lib.hid hf
      clear hf
      go_wp2_with fail
      exact bodyPost_ret (v := .tuple #[.string ⟨tot.toArray⟩, .bool true]) (by simp [results, Tryz.results19, go_sem]) rfl ⟨HB6.out, .inl ⟨HF.out, rfl⟩⟩
    · have q5 : ¬ ((tot.length : Nat) : Int) ≤ 10000 := by omega
      have HF := Lib.hid (show 10000 < tot.length by omega)
      clear hf
      go_wp2_with fail
      exact bodyPost_ret (v := .tuple #[.string ⟨tot.toArray⟩, .bool false]) (by simp [results, Tryz.results19, go_sem]) rfl ⟨HB6.out, .inr ⟨HF.out, _, rfl⟩⟩
end Tx
end Go.Proofs.YtjinjddcnjcffaaGreatDoor

namespace Go.Proofs.YtjinjddcnjcffaaGreatDoor
open Go.RowKit Go.Maps Bv Tm
namespace Tx
set_option maxHeartbeats 1600000
set_option maxRecDepth 100000

/-- The block r of w is a reader that has the text s still to read, and has read the nodes ns; F: the blocks that may change. -/
structure RdAt (F : Nat → Prop) (r : Nat) (tx : ByteArray) (v : Value) (s : By) (ns : List Nd) (w : World) : Prop where
  c0 : w.cell? ⟨r, 0, none⟩ = some (.string tx)
  tx : tx.data.toList = s
  c1 : w.cell? ⟨r, 1, none⟩ = some v
  fr : ∀ o, w.frozen? ⟨r, o, none⟩ = false
  row : w.ownsRow 0 48 7 v ns.length (rowOf ns)
  gp : v.ownBlock ≠ some r
  fb : F r
  fo : ∀ g, v.ownBlock = some g → F g
  fn : ∀ i, w.heap.size ≤ i → F i
def RdE (F : Nat → Prop) (r : Nat) (s : By) (ns : List Nd) (w : World) : Prop := ∃ tx v, RdAt F r tx v s ns w

theorem RdAt.lt {F : Nat → Prop} {r : Nat} {tx : ByteArray} {v : Value} {s : By} {ns : List Nd} {w : World} (h : RdAt F r tx v s ns w) : r < w.heap.size := World.block_lt_of_cell? w _ h.c0
/-- Another text is laid. -/
theorem RdAt.put {F : Nat → Prop} {r : Nat} {tx : ByteArray} {v : Value} {s : By} {ns : List Nd} {w : World} (h : RdAt F r tx v s ns w) (tx' : ByteArray) : RdAt F r tx' v tx'.data.toList ns (w.setCell ⟨r, 0, none⟩ (.string tx')) ∧ Kept F w (w.setCell ⟨r, 0, none⟩ (.string tx')) := by
  refine ⟨⟨World.cell?_setCell_same _ _ _ h.c0, rfl, ?_, fun o => ?_, row_setCell h.row (a := ⟨r, 0, none⟩) _ h.gp, h.gp, h.fb, h.fo, fun i hi => h.fn i (by simpa using hi)⟩, (Kept.refl F w).setCell _ _ (fun _ => h.fb)⟩
  · rw [World.cell?_setCell_other _ _ _ _ (by simp)]; exact h.c1
  · rw [World.frozen?_setCell]; exact h.fr o
theorem RdAt.keep {F G : Nat → Prop} {r : Nat} {tx : ByteArray} {v : Value} {s : By} {ns : List Nd} {w w' : World} (h : RdAt F r tx v s ns w) (k : Kept G w w') (hG : ∀ i, i < w.heap.size → G i → i ≠ r ∧ v.ownBlock ≠ some i) : RdAt F r tx v s ns w' := by
  have lb := h.lt
  have nb : ¬ G r := fun c => (hG r lb c).1 rfl
  refine ⟨(k.cell (x := ⟨r, 0, none⟩) lb nb).trans h.c0, h.tx, (k.cell (x := ⟨r, 1, none⟩) lb nb).trans h.c1, fun o => (k.frozen (x := ⟨r, o, none⟩) lb nb).trans (h.fr o), ?_, h.gp, h.fb, h.fo, fun i hi => h.fn i (Nat.le_trans k.size hi)⟩
  exact row_kept h.row k (fun g e c => (hG g (own_lt h.row e) c).2 e)
theorem RdE.call {F : Nat → Prop} {r : Nat} {s : By} {ns : List Nd} {w w' : World} (h : RdE F r s ns w) (k : Below w.heap.size w w') : RdE F r s ns w' := by
  obtain ⟨tx, v, h⟩ := h
  exact ⟨tx, v, h.keep (Kept.ofBelow k (fun _ => False)) (fun _ _ c => c.elim)⟩
theorem RdE.mono {F G : Nat → Prop} {r : Nat} {s : By} {ns : List Nd} {w : World} (h : RdE F r s ns w) (hG : ∀ i, F i → G i) : RdE G r s ns w := by
  obtain ⟨tx, v, h⟩ := h
  exact ⟨tx, v, h.c0, h.tx, h.c1, h.fr, h.row, h.gp, hG _ h.fb, fun g e => hG _ (h.fo g e), fun i hi => hG _ (h.fn i hi)⟩
theorem RdE.apart {F : Nat → Prop} {r : Nat} {s : By} {ns : List Nd} {w w3 : World} (h : RdE F r s ns w) (hb : Below w.heap.size w w3) {pb : Nat} (h1 : w.heap.size ≤ pb) (h2 : pb < w3.heap.size) : RdE (fun i => F i ∧ i ≠ pb) r s ns w3 := by
  obtain ⟨tx, v, h⟩ := h
  have k := h.keep (Kept.ofBelow hb (fun _ => False)) (fun _ _ c => c.elim)
  have lb := h.lt
  refine ⟨tx, v, k.c0, k.tx, k.c1, k.fr, k.row, k.gp, ⟨h.fb, by omega⟩, fun g e => ⟨h.fo g e, ?_⟩, fun i hi => ⟨h.fn i (Nat.le_trans hb.size hi), by omega⟩⟩
  have := own_lt h.row e
  omega

/-- What is left behind the byte c, if it comes next. -/
def aft (c : UInt8) (s : By) : By := match s with | [] => [] | d :: r => if d = c then r else d :: r
def has1 (c : UInt8) (s : By) : Bool := match s with | [] => false | d :: _ => decide (d = c)
theorem trim_one (c : UInt8) (s : By) : Lib.trimPrefix s [c] = aft c s := by
  unfold Lib.trimPrefix Lib.hasPrefix aft
  cases s with
  | nil => simp
  | cons d r =>
    by_cases h : d = c
    · subst h; simp
    · have h' : ¬ c = d := fun e => h e.symm
      simp [h, h']
theorem has_one (c : UInt8) (s : By) : Lib.hasPrefix s [c] = has1 c s := by
  unfold Lib.hasPrefix has1
  cases s with
  | nil => simp
  | cons d r =>
    by_cases h : d = c
    · subst h; simp
    · have h' : ¬ c = d := fun e => h e.symm
      simp [h, h', List.isPrefixOf]
theorem need_yes {c : UInt8} {s : By} (h : has1 c s = true) : need c s = some (aft c s) := by
  unfold has1 at h
  unfold need aft
  cases s with
  | nil => simp at h
  | cons d r => simp at h; simp [h]
theorem need_not {c : UInt8} {s : By} (h : has1 c s = false) : need c s = none := by
  unfold has1 at h
  unfold need
  cases s with
  | nil => rfl
  | cons d r => simp at h; simp [h]

theorem rhas_any {F : Nat → Prop} {r : Nat} {s : By} {ns : List Nd} {w : World} (h : RdE F r s ns w) (c : UInt8) :
    Calls Tryz.prog 50 #[.pointer (some ⟨r, 0, none⟩), .string ⟨#[c]⟩] w fun e w' => e = .returned (.bool (has1 c s)) ∧ RdE F r (aft c s) ns w' ∧ Kept F w w' := by
  obtain ⟨tx, v, h⟩ := h
  have c0 := h.c0
  have f0 := h.fr 0
  have H := Lib.hid h
  have hcp := cutPrefix_any tx ⟨#[c]⟩ w
  have htx := h.tx
  rw [show (⟨#[c]⟩ : ByteArray).data.toList = [c] from rfl, htx, trim_one, has_one] at hcp
  have HCP := Lib.hid hcp
  clear h htx hcp
  go_enter Tryz.func50, Tryz.ntmps50
  go_wp2_with (go_at_call 76; refine HCP.out.mono ?_; rintro e w' ⟨rfl, hw'⟩; subst hw')
  go_ret
  have hp := H.out.put ⟨(aft c s).toArray⟩
  exact ⟨rfl, ⟨_, v, hp.1⟩, hp.2⟩

theorem rneed_yes {F : Nat → Prop} {r : Nat} {s s' : By} {ns : List Nd} {w : World} {c : UInt8} (h : RdE F r s ns w) (hn : need c s = some s') :
    Calls Tryz.prog 52 #[.pointer (some ⟨r, 0, none⟩), .string ⟨#[c]⟩] w fun e w' => e = .returned (.tuple #[]) ∧ RdE F r s' ns w' ∧ Kept F w w' := by
  have hh : has1 c s = true := by
    cases e : has1 c s with
    | true => rfl
    | false => rw [need_not e] at hn; cases hn
  have he : aft c s = s' := by rw [need_yes hh] at hn; exact Option.some.inj hn
  have H := rhas_any h c
  rw [hh, he] at H
  have H := Lib.hid H
  clear h hn hh he
  go_enter Tryz.func52, Tryz.ntmps52
  go_wp2_with (go_at_call 50; refine H.out.mono ?_; rintro e w' ⟨rfl, h1, k1⟩; have H1 := Lib.hid h1; have K1 := Lib.hid k1; clear h1 k1)
  exact ⟨rfl, .tuple #[], by simp [results, Tryz.results52, go_sem], rfl, H1.out, K1.out⟩
theorem rneed_no {F : Nat → Prop} {r : Nat} {s : By} {ns : List Nd} {w : World} {c : UInt8} (h : RdE F r s ns w) (hn : need c s = none) :
    Calls Tryz.prog 52 #[.pointer (some ⟨r, 0, none⟩), .string ⟨#[c]⟩] w fun e w' => e = boom 5 ∧ Kept F w w' := by
  have hh : has1 c s = false := by
    cases e : has1 c s with
    | false => rfl
    | true => rw [need_yes e] at hn; cases hn
  have H := rhas_any h c
  rw [hh] at H
  have H := Lib.hid H
  clear h hn hh
  go_enter Tryz.func52, Tryz.ntmps52
  go_wp2_with (go_at_call 50; refine H.out.mono ?_; rintro e w' ⟨rfl, h1, k1⟩; have H1 := Lib.hid h1; have K1 := Lib.hid k1; clear h1 k1)
  exact ⟨rfl, rfl, K1.out⟩
end Tx
end Go.Proofs.YtjinjddcnjcffaaGreatDoor

namespace Go.Proofs.YtjinjddcnjcffaaGreatDoor
open Go.RowKit Go.Maps Bv Tm
namespace Tx
set_option maxHeartbeats 1600000
set_option maxRecDepth 100000

theorem tw_lt {p : UInt8 → Bool} : ∀ {s : By} {k : Nat}, k < (s.takeWhile p).length → ∃ c, s[k]? = some c ∧ p c = true
  | [], k, h => by simp at h
  | c :: r, k, h => by
    by_cases hc : p c = true
    · rw [List.takeWhile_cons_of_pos hc] at h
      cases k with
      | zero => exact ⟨c, rfl, hc⟩
      | succ k => simpa using tw_lt (s := r) (k := k) (by simpa using h)
    · rw [List.takeWhile_cons_of_neg hc] at h; simp at h
theorem tw_at {p : UInt8 → Bool} : ∀ {s : By}, (s.takeWhile p).length = s.length ∨ ∃ c, s[(s.takeWhile p).length]? = some c ∧ p c = false
  | [] => .inl rfl
  | c :: r => by
    by_cases hc : p c = true
    · rw [List.takeWhile_cons_of_pos hc]
      rcases tw_at (p := p) (s := r) with h | ⟨d, h1, h2⟩
      · left; simpa using h
      · right; exact ⟨d, by simpa using h1, h2⟩
    · rw [List.takeWhile_cons_of_neg hc]
      right; exact ⟨c, rfl, by simpa using hc⟩
theorem tw_take {p : UInt8 → Bool} (s : By) : s.take (s.takeWhile p).length = s.takeWhile p := by
  have e := List.take_left (l₁ := s.takeWhile p) (l₂ := s.dropWhile p)
  rw [List.takeWhile_append_dropWhile] at e
  exact e
theorem tw_drop {p : UInt8 → Bool} (s : By) : s.drop (s.takeWhile p).length = s.dropWhile p := by
  have e := List.drop_left (l₁ := s.takeWhile p) (l₂ := s.dropWhile p)
  rw [List.takeWhile_append_dropWhile] at e
  exact e
theorem tw_le {p : UInt8 → Bool} (s : By) : (s.takeWhile p).length ≤ s.length := by
  have h := congrArg List.length (List.takeWhile_append_dropWhile (p := p) (l := s))
  rw [List.length_append] at h
  omega

theorem at_byte {tx : ByteArray} {k : Nat} {c : UInt8} (h : tx.data.toList[k]? = some c) : ∃ hk : k < tx.size, tx[k]'hk = c := by
  obtain ⟨hk, h2⟩ := List.getElem?_eq_some_iff.1 h
  have hk' : k < tx.size := by rw [size_len]; exact hk
  have h3 : tx.data[k]'hk' = c := by simpa using h2
  exact ⟨hk', h3⟩

theorem rrun_any {F : Nat → Prop} {r : Nat} {s : By} {ns : List Nd} {w : World} (a b : Int) (h : RdE F r s ns w) (hs : s.length ≤ 1000000) :
    Calls Tryz.prog 77 #[.pointer (some ⟨r, 0, none⟩), .int .u8 a, .int .u8 b] w fun e w' => e = .returned (.string ⟨(s.takeWhile (inR a b)).toArray⟩) ∧ RdE F r (s.dropWhile (inR a b)) ns w' ∧ Kept F w w' := by
  obtain ⟨tx, v, h⟩ := h
  have c0 := h.c0
  have f0 := h.fr 0
  have htx := h.tx
  have H := Lib.hid h
  obtain ⟨m, hm⟩ : ∃ m, m = (s.takeWhile (inR a b)).length := ⟨_, rfl⟩
  have hsz : tx.size = s.length := by rw [size_len, htx]
  have hml : m ≤ tx.size := by rw [hm, hsz]; exact tw_le s
  have HIN : Hid (∀ k, k < m → ∃ hk : k < tx.size, a ≤ ((tx[k]'hk).toNat : Int) ∧ ((tx[k]'hk).toNat : Int) ≤ b) := by
    show ∀ k, _ → _
    intro k hk
    rw [hm] at hk
    obtain ⟨c, hc, hp⟩ := tw_lt hk
    obtain ⟨hk2, e⟩ := at_byte (tx := tx) (by rw [htx]; exact hc)
    exact ⟨hk2, by rw [e]; simpa [inR] using hp⟩
  have HAT : Hid (m = tx.size ∨ ∃ hk : m < tx.size, ((tx[m]'hk).toNat : Int) < a ∨ (a ≤ ((tx[m]'hk).toNat : Int) ∧ b < ((tx[m]'hk).toNat : Int))) := by
    show _ ∨ _
    rcases tw_at (p := inR a b) (s := s) with h1 | ⟨c, hc, hp⟩
    · left; omega
    · right
      rw [← hm] at hc
      obtain ⟨hk2, e⟩ := at_byte (tx := tx) (by rw [htx]; exact hc)
      refine ⟨hk2, ?_⟩
      rw [e]
      simp only [inR, Bool.and_eq_false_iff, decide_eq_false_iff_not] at hp
      omega
  have HEND : Hid (∀ w' : World, w' = w.setCell ⟨r, 0, none⟩ (.string (tx.extract m tx.size)) → RdE F r (s.dropWhile (inR a b)) ns w' ∧ Kept F w w') := by
    show ∀ w', _ → _
    rintro w' rfl
    have hp := h.put (tx.extract m tx.size)
    have e : (tx.extract m tx.size).data.toList = s.dropWhile (inR a b) := by
      rw [← tw_drop, ← hm, ← htx, ByteArray.data_extract]
      simp only [Array.toList_extract, List.extract_eq_take_drop]
      exact List.take_of_length_le (by rw [List.length_drop, ← size_len]; exact Nat.le_refl _)
    rw [e] at hp
    exact ⟨⟨_, v, hp.1⟩, hp.2⟩
  have HVAL : Hid (Value.string (tx.extract 0 m) = .string ⟨(s.takeWhile (inR a b)).toArray⟩) := by
    show _ = _
    congr 1
    apply ByteArray.ext
    apply Array.ext'
    rw [ByteArray.data_extract, ← tw_take s, ← hm, ← htx]
    simp
  have HSZ := Lib.hid (show tx.size ≤ 1000000 by omega)
  have HM := Lib.hid hm
  have HML := Lib.hid hml
  clear h htx hm hsz hml hs
  go_enter Tryz.func77, Tryz.ntmps77
  go_wp2_with fail
  go_loopg [7] m (fun gk u7 wr => ∃ k : Nat, u7 = .int .i64 ((k : Nat) : Int) ∧ k + gk = m ∧ w = wr)
  case atStart => exact ⟨0, rfl, by omega, rfl⟩
  case round =>
    obtain ⟨k, rfl, hk, rfl⟩ := hrel
    by_cases hlt : k < m
    · obtain ⟨hk2, g1, g2⟩ := HIN.out k hlt
      have q1 : decide (((k : Nat) : Int) < ((tx.size : Nat) : Int)) = true := decide_eq_true (by omega)
      have q2 : decide (a ≤ ((tx[k]'hk2).toNat : Int)) = true := decide_eq_true g1
      have q3 : decide (((tx[k]'hk2).toNat : Int) ≤ b) = true := decide_eq_true g2
      have r1 : IntKind.i64.wrap (((k : Nat) : Int) + 1) = (((k + 1 : Nat) : Nat) : Int) := by have := HSZ.out; rw [IntKind.wrap_i64]; omega
      have r2 : wrap64 (((k : Nat) : Int) + 1) = (((k + 1 : Nat) : Nat) : Int) := by unfold wrap64; rw [← IntKind.wrap_i64]; exact r1
      have HR2 := Lib.hid r2
      have HK := Lib.hid (And.intro hk hlt)
      clear r1 r2 hk hlt g1 g2
      go_wp2_with fail
      go_roundg (gk - 1)
      case measure => have := HK.out; omega
      case rel => exact ⟨k + 1, by first | rfl | (rw [HR2.out]) | (congr 1; exact HR2.out), by have := HK.out; omega, rfl⟩
    · obtain rfl : k = m := by omega
      clear hlt hk
      have q0 : (0 : Int) ≤ ((k : Nat) : Int) := by omega
      rcases HAT.out with hz | ⟨hk2, h1 | ⟨h1, h2⟩⟩
      · have q1 : decide (((k : Nat) : Int) < ((tx.size : Nat) : Int)) = false := decide_eq_false (by omega)
        have q5 : decide (k < tx.size) = false := decide_eq_false (by omega)
        have q2 : ((k : Nat) : Int) ≤ ((tx.size : Nat) : Int) := by omega
        have HZ := Lib.hid hz
        clear hz
        go_wp2_with fail
        exact bodyPost_ret (v := .string ⟨(s.takeWhile (inR a b)).toArray⟩) (by rw [← HVAL.out]; simp [results, Tryz.results77, go_sem]) rfl ⟨rfl, HEND.out _ rfl⟩
      · have q1 : decide (((k : Nat) : Int) < ((tx.size : Nat) : Int)) = true := decide_eq_true (by omega)
        have q2 : ((k : Nat) : Int) ≤ ((tx.size : Nat) : Int) := by omega
        have q3 : decide (a ≤ ((tx[k]'hk2).toNat : Int)) = false := decide_eq_false (by omega)
        clear h1
        go_wp2_with fail
        exact bodyPost_ret (v := .string ⟨(s.takeWhile (inR a b)).toArray⟩) (by rw [← HVAL.out]; simp [results, Tryz.results77, go_sem]) rfl ⟨rfl, HEND.out _ rfl⟩
      · have q1 : decide (((k : Nat) : Int) < ((tx.size : Nat) : Int)) = true := decide_eq_true (by omega)
        have q2 : ((k : Nat) : Int) ≤ ((tx.size : Nat) : Int) := by omega
        have q3 : decide (a ≤ ((tx[k]'hk2).toNat : Int)) = true := decide_eq_true (by omega)
        have q4 : decide (((tx[k]'hk2).toNat : Int) ≤ b) = false := decide_eq_false (by omega)
        clear h1 h2
        go_wp2_with fail
        exact bodyPost_ret (v := .string ⟨(s.takeWhile (inR a b)).toArray⟩) (by rw [← HVAL.out]; simp [results, Tryz.results77, go_sem]) rfl ⟨rfl, HEND.out _ rfl⟩
end Tx
end Go.Proofs.YtjinjddcnjcffaaGreatDoor
