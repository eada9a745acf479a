/-
  The program's Put, as a fact on one call.
-/
import Derived.Test.YtcpehdeddgfpmaaDoorCuMay
import Derived.Test.YtcpehdeddgfpmaaDoorCuBuild
import Derived.Test.YtcpehdeddgfpmaaDoorCfPut
import Derived.Lib.AppendIntMem
import Derived.Deep.Cut
namespace Go.Proofs.YtcpehdeddgfpmaaDoor
open Go.RowKit Go.Shelf Go.Sort
namespace Cf
set_option maxHeartbeats 3200000
set_option maxRecDepth 100000

abbrev Tens (w : World) : Prop := Lib.TabIs Tryd.prog w "internal/strconv.uint64pow10" .u64 Lib.pow10Tab
theorem Tens.keep {w w' : World} (h : Tens w) (k : Below w.heap.size w w') : Tens w' := Lib.tabBelow_of_tabIs h w' k
theorem itoa_is (z : Int) : Lib.itoa z = decI z := by
  unfold Lib.itoa decI dec
  split
  · congr 2; omega
  · rfl
theorem bel_grow (w : World) (k : Nat) (os : Array Obj) : Below w.heap.size w (grow (w.drewN k) os) := by
  refine ⟨rfl, rfl, rfl, ?_, fun i hi => ?_⟩
  · rw [Go.Sort.size_grow]; exact Nat.le_add_right _ _
  · exact Go.Sort.heap_grow_old (w.drewN k) os hi
theorem citoa_any {z : Int} {w : World} (h : Tens w) (h0 : -9223372036854775808 ≤ z) (h1 : z < 9223372036854775808) : Calls Tryd.prog 24 #[.int .i64 z] w fun e w' => e = .returned (.string ⟨(decI z).toArray⟩) ∧ Below w.heap.size w w' := by
  refine (Tryd.strconv_Itoa z h0 (by omega) w h).mono ?_
  rintro e w' ⟨rfl, k, os, rfl⟩
  exact ⟨by rw [itoa_is], bel_grow w k os⟩
structure PS (W : World) (B b : Nat) (v : Int) (s : Value) (bs : By) (w : World) : Prop where
  c0 : w.cell? ⟨W.heap.size, 0, none⟩ = some (.int .i64 v)
  c1 : w.cell? ⟨W.heap.size, 1, none⟩ = some s
  lt : W.heap.size < B
  hB : B ≤ w.heap.size
  bel : Below W.heap.size W w
  bld : Lib.IsBuilder 56 5 B b (Lib.byteCells bs) w
theorem isB_same {B b : Nat} {bs : List Value} {w w' : World} (h : Lib.IsBuilder 56 5 B b bs w) (k : Below w.heap.size w w') : Lib.IsBuilder 56 5 B b bs w' := by
  refine h.imp ?_ ?_
  all_goals
    rintro ⟨h1, v, h2, h3, h4⟩
    exact ⟨h1, v, (k.block b (Array.getElem?_eq_some_iff.1 h2).1).trans h2, same_row h3 fun g e => k.block g (h3.lt g e).2, h4⟩
theorem PS.call {W : World} {B b : Nat} {v : Int} {s : Value} {bs : By} {w w' : World} (h : PS W B b v s bs w) (k : Below w.heap.size w w') : PS W B b v s bs w' := by
  have hl := h.lt
  have hb := h.hB
  exact ⟨(k.cell (p := ⟨W.heap.size, 0, none⟩) (by simp; omega)).trans h.c0, (k.cell (p := ⟨W.heap.size, 1, none⟩) (by simp; omega)).trans h.c1, hl, Nat.le_trans hb k.size, bel_call h.bel k, isB_same h.bld k⟩
theorem PS.wrote {W : World} {B b : Nat} {v : Int} {s : Value} {bs bs' : By} {w w' : World} (h : PS W B b v s bs w) (k : Below B w w') (hb : Lib.IsBuilder 56 5 B b (Lib.byteCells bs') w') : PS W B b v s bs' w' := by
  have hl := h.lt
  exact ⟨(k.cell (p := ⟨W.heap.size, 0, none⟩) hl).trans h.c0, (k.cell (p := ⟨W.heap.size, 1, none⟩) hl).trans h.c1, hl, Nat.le_trans h.hB k.size, h.bel.trans (k.mono (by omega)), hb⟩
theorem PS.heap {W : World} {B b : Nat} {v : Int} {s : Value} {bs : By} {w : World} (h : PS W B b v s bs w) : PS W B b v s bs w.drew := h.call ⟨rfl, rfl, rfl, Nat.le_refl _, fun _ _ => rfl⟩
theorem bytes_app (a b : By) : Lib.byteCells a ++ Lib.strCells ⟨b.toArray⟩ = Lib.byteCells (a ++ b) := by simp [Lib.byteCells, Lib.strCells]
/-- A text is written. -/
theorem PS.wstr {W : World} {B b : Nat} {v : Int} {s : Value} {bs : By} {w : World} (h : PS W B b v s bs w) (t : By) (hl : bs.length + t.length ≤ 1000000000) :
    Calls Tryd.prog 23 #[.pointer (some ⟨b, 0, none⟩), .string ⟨t.toArray⟩] w fun e w' => (∃ n : Int, e = .returned (.tuple #[.int .i64 n, .nilIface])) ∧ PS W B b v s (bs ++ t) w' := by
  refine (wstr_any B b _ ⟨t.toArray⟩ w h.bld (by simpa [Lib.byteCells, ByteArray.size] using hl) h.hB).mono ?_
  rintro e w' ⟨rfl, hb, k⟩
  exact ⟨⟨_, rfl⟩, h.wrote k (by rw [← bytes_app]; exact hb)⟩
theorem PS.wbyte {W : World} {B b : Nat} {v : Int} {s : Value} {bs : By} {w : World} (h : PS W B b v s bs w) (x : UInt8) (hl : bs.length + 1 ≤ 1000000000) :
    Calls Tryd.prog 25 #[.pointer (some ⟨b, 0, none⟩), .int .u8 (x.toNat : Int)] w fun e w' => e = .returned .nilIface ∧ PS W B b v s (bs ++ [x]) w' := by
  refine (wbyte_any B b _ x w h.bld (by simpa [Lib.byteCells] using hl) h.hB).mono ?_
  rintro e w' ⟨rfl, hb, k⟩
  exact ⟨rfl, h.wrote k (by simpa [Lib.byteCells] using hb)⟩

theorem cput_no {W : World} {al : Option Addr} {C : Cl} {v : Int} {c : Nat} (h : ClsAt W al C) (hok : OkC C) (hm : mayC v C = false) :
    Calls Tryd.prog 10 #[.agg #[.int .i64 v, .slice al C.length c]] W fun e w => e = .returned (.tuple #[.string ⟨#[]⟩, .int .i64 2]) ∧ Below W.heap.size W w := by
  have HM := Lib.hid (fun (w : World) (hb : Below W.heap.size W w) => cmay_any (W := w) (v := v) (c := c) (h.keep hb) hok)
  rw [hm] at HM
  clear h hok hm
  go_enter Tryd.func10, Tryd.ntmps10
  go_wp2_with fail
  refine (HM.out _ (bel_alloc (Below.refl _ _) _)).mono ?_
  rintro e w1 ⟨rfl, hb1⟩
  go_wp2_with fail
  go_ret2
  exact ⟨rfl, bel_call (bel_alloc (Below.refl _ _) _) hb1⟩
theorem cput_yes {W : World} {al : Option Addr} {C : Cl} {v : Int} {c : Nat} (hT : Tens W) (h : ClsAt W al C) (hok : OkC C) (hm : mayC v C = true) (hsz : C.length + C.flatten.length ≤ 1000000) :
    Calls Tryd.prog 10 #[.agg #[.int .i64 v, .slice al C.length c]] W fun e w => e = .returned (.tuple #[.string ⟨(putB v C).toArray⟩, .int .i64 0]) ∧ Below W.heap.size W w := by
  have HM := Lib.hid (fun (w : World) (hb : Below W.heap.size W w) => cmay_any (W := w) (v := v) (c := c) (h.keep hb) hok)
  rw [hm] at HM
  obtain ⟨hmv, hlit⟩ := mayC_parts hm
  have hv : 0 ≤ v ∧ v ≤ 1000000 := by unfold mayV at hmv; simpa using hmv
  have HV0 := Lib.hid hv.1
  have HV1 := Lib.hid hv.2
  have HOK := Lib.hid hok
  have HCL := Lib.hid h
  have HT := Lib.hid hT
  have hlen : (putB v C).length ≤ 100000000 := by
    rw [putB_is]
    have := restB_len hok.l
    have a := decI_len (z := v) (by omega) (by omega)
    have b := decI_len (z := ((C.length : Nat) : Int)) (by omega) (by omega)
    simp only [List.length_append, List.length_cons, List.length_nil]
    omega
  obtain ⟨P, hP⟩ : ∃ P, P = putB v C := ⟨_, rfl⟩
  have HPB := Lib.hid (hP.trans (putB_is v C))
  have HLP : Hid (P.length ≤ 100000000) := by show _ ≤ _; rw [hP]; exact hlen
  obtain ⟨n, hn⟩ : ∃ n, n = C.length := ⟨_, rfl⟩
  have HN := Lib.hid hn
  have hnb : n ≤ 1000000 := by omega
  have HNB := Lib.hid hnb
  have HL1 := Lib.hid (decI_len (z := v) (by omega) (by omega))
  have HL2 := Lib.hid (decI_len (z := ((n : Nat) : Int)) (by omega) (by omega))
  rw [← hP]
  rw [← hn] at HM HPB ⊢
  clear h hok hm hmv hlit hv hlen hP hn hT
  go_enter Tryd.func10, Tryd.ntmps10
  go_wp2_with fail
  refine (HM.out _ (bel_alloc (Below.refl _ _) _)).mono ?_
  rintro e w1 ⟨rfl, hb1⟩
  have HB1 := Lib.hid (bel_call (bel_alloc (Below.refl W.heap.size W) (.cells #[.int .i64 v, .slice al n c] 25)) hb1)
  have HT1 := Lib.hid ((BoxAt.new (W := W) (v := v) (s := .slice al n c)).call hb1)
  have HS0 : Hid (PS W w1.heap.size w1.heap.size v (.slice al n c) [] (w1.alloc (.cells #[.pointer none, .slice none 0 0] 56))) := by
    have k := bel_alloc (Below.refl w1.heap.size w1) (.cells #[.pointer none, .slice none 0 0] 56)
    have t := HT1.out.call k
    refine ⟨t.c0, t.c1, HT1.out.lt, k.size, bel_call HB1.out k, .inl ⟨Nat.le_refl _, .slice none 0 0, ?_, World.ownsRow_nil _ _ _ _, by simp [Value.ownBlock]⟩⟩
    show (w1.heap.push _)[w1.heap.size]? = _
    simp
  clear hb1 HM HT1 HB1
  go_wp2_with fail
  refine wp_region_held_drew (S := fun w' => ∃ bs, PS W w1.heap.size w1.heap.size v (.slice al n c) bs w') (by kernel_rfl) ⟨_, HS0.out.heap⟩ (fun hHeld => ?_)
  refine wpAnyH_take (i := 0) (v := .pointer (some ⟨W.heap.size, 0, none⟩)) (by simp only [List.getElem?_toArray, List.getElem?_cons_zero]; rfl) (by kernel_rfl) (by kernel_rfl) (by kernel_rfl) (by exact fun _ _ _ h => h) (Or.inl ⟨by rfl, ?_⟩) hHeld ?_
  · intro w' hSw
    go_simp
  simp only [Act.put, List.setIfInBounds_toArray, List.set_cons_zero, List.set_cons_succ]
  refine wpAnyH_take (i := 1) (v := .int .i64 v) (by simp only [List.getElem?_toArray, List.getElem?_cons_zero, List.getElem?_cons_succ]; rfl) (by kernel_rfl) (by kernel_rfl) (by kernel_rfl) (by exact fun _ _ _ h => h) (Or.inl ⟨by rfl, ?_⟩) hHeld ?_
  · intro w' hSw
    obtain ⟨_, f0, f1, _, _, _, _⟩ := hSw; go_simp
  simp only [Act.put, List.setIfInBounds_toArray, List.set_cons_zero, List.set_cons_succ]
  refine wpAnyH_take (i := 5) (v := .pointer (some ⟨W.heap.size, 1, none⟩)) (by simp only [List.getElem?_toArray, List.getElem?_cons_zero, List.getElem?_cons_succ]; rfl) (by kernel_rfl) (by kernel_rfl) (by kernel_rfl) (by exact fun _ _ _ h => h) (Or.inl ⟨by rfl, ?_⟩) hHeld ?_
  · intro w' hSw
    go_simp
  simp only [Act.put, List.setIfInBounds_toArray, List.set_cons_zero, List.set_cons_succ]
  refine wpAnyH_take (i := 6) (v := .slice al n c) (by simp only [List.getElem?_toArray, List.getElem?_cons_zero, List.getElem?_cons_succ]; rfl) (by kernel_rfl) (by kernel_rfl) (by kernel_rfl) (by exact fun _ _ _ h => h) (Or.inl ⟨by rfl, ?_⟩) hHeld ?_
  · intro w' hSw
    obtain ⟨_, f0, f1, _, _, _, _⟩ := hSw; go_simp
  simp only [Act.put, List.setIfInBounds_toArray, List.set_cons_zero, List.set_cons_succ]
  refine wpAnyH_take (i := 7) (v := .int .i64 ((n : Nat) : Int)) (by simp only [List.getElem?_toArray, List.getElem?_cons_zero, List.getElem?_cons_succ]; rfl) (by kernel_rfl) (by kernel_rfl) (by kernel_rfl) (by exact fun _ _ _ h => h) (Or.inl ⟨by rfl, ?_⟩) hHeld ?_
  · intro w' hSw
    go_simp
  simp only [Act.put, List.setIfInBounds_toArray, List.set_cons_zero, List.set_cons_succ]
  refine wpAnyH_ready (rs := [2]) (by kernel_rfl) (by simp) ?_
  refine AllReadyH.cons (by simp only [List.getElem?_toArray, List.getElem?_cons_zero, List.getElem?_cons_succ]; rfl) (fun K hK => ?_) AllReadyH.nil
  go_simp
  refine (citoa_any (z := v) (HT.out.keep HS0.out.heap.bel) (by have := HV0.out; omega) (by have := HV1.out; omega)).mono ?_
  rintro e w5 ⟨rfl, hb⟩
  have HSw5 := Lib.hid (HS0.out.heap.call hb)
  refine hK.out _ _ ⟨_, HSw5.out⟩ (fun hHeld => ?_)
  clear hb hK K
  try simp only [Act.put, List.setIfInBounds_toArray, List.set_cons_zero, List.set_cons_succ]
  refine wpAnyH_take (i := 3) (v := .string ⟨([112, 32, 99, 110, 102, 32] ++ decI v).toArray⟩) (by simp only [List.getElem?_toArray, List.getElem?_cons_zero, List.getElem?_cons_succ]; rfl) (by kernel_rfl) (by kernel_rfl) (by kernel_rfl) (by exact fun _ _ _ h => h) (Or.inl ⟨by rfl, ?_⟩) hHeld ?_
  · intro w' hSw
    go_simp; rw [str_app, if_neg (by have := HL1.out; have := HL2.out; simp; omega)]; first | done | simp | rfl
  simp only [Act.put, List.setIfInBounds_toArray, List.set_cons_zero, List.set_cons_succ]
  refine wpAnyH_take (i := 4) (v := .string ⟨([112, 32, 99, 110, 102, 32] ++ decI v ++ [32]).toArray⟩) (by simp only [List.getElem?_toArray, List.getElem?_cons_zero, List.getElem?_cons_succ]; rfl) (by kernel_rfl) (by kernel_rfl) (by kernel_rfl) (by exact fun _ _ _ h => h) (Or.inl ⟨by rfl, ?_⟩) hHeld ?_
  · intro w' hSw
    go_simp; rw [str_app, if_neg (by have := HL1.out; have := HL2.out; simp; omega)]; first | done | simp | rfl
  simp only [Act.put, List.setIfInBounds_toArray, List.set_cons_zero, List.set_cons_succ]
  refine wpAnyH_ready (rs := [8]) (by kernel_rfl) (by simp) ?_
  refine AllReadyH.cons (by simp only [List.getElem?_toArray, List.getElem?_cons_zero, List.getElem?_cons_succ]; rfl) (fun K hK => ?_) AllReadyH.nil
  go_simp
  refine (citoa_any (z := ((n : Nat) : Int)) (HT.out.keep HSw5.out.bel) (by omega) (by have := HNB.out; omega)).mono ?_
  rintro e w6 ⟨rfl, hb⟩
  have HSw6 := Lib.hid (HSw5.out.call hb)
  refine hK.out _ _ ⟨_, HSw6.out⟩ (fun hHeld => ?_)
  clear hb hK K
  try simp only [Act.put, List.setIfInBounds_toArray, List.set_cons_zero, List.set_cons_succ]
  refine wpAnyH_take (i := 9) (v := .string ⟨([112, 32, 99, 110, 102, 32] ++ decI v ++ [32] ++ decI ((n : Nat) : Int)).toArray⟩) (by simp only [List.getElem?_toArray, List.getElem?_cons_zero, List.getElem?_cons_succ]; rfl) (by kernel_rfl) (by kernel_rfl) (by kernel_rfl) (by exact fun _ _ _ h => h) (Or.inl ⟨by rfl, ?_⟩) hHeld ?_
  · intro w' hSw
    go_simp; rw [str_app, if_neg (by have := HL1.out; have := HL2.out; simp; omega)]; first | done | simp | rfl
  simp only [Act.put, List.setIfInBounds_toArray, List.set_cons_zero, List.set_cons_succ]
  obtain ⟨hd, hhd⟩ : ∃ x, x = [112, 32, 99, 110, 102, 32] ++ decI v ++ [32] ++ decI ((n : Nat) : Int) ++ [10] := ⟨_, rfl⟩
  have HHD := Lib.hid hhd
  have HHL : Hid (hd.length ≤ 100) := by
    show _ ≤ _
    have := HL1.out
    have := HL2.out
    rw [hhd]; simp only [List.length_append, List.length_cons, List.length_nil]; omega
  clear hhd
  refine wpAnyH_take (i := 10) (v := .string ⟨hd.toArray⟩) (by simp only [List.getElem?_toArray, List.getElem?_cons_zero, List.getElem?_cons_succ]; rfl) (by kernel_rfl) (by kernel_rfl) (by kernel_rfl) (by exact fun _ _ _ h => h) (Or.inl ⟨by rfl, ?_⟩) hHeld ?_
  · intro w' hSw
    go_simp; rw [str_app, if_neg (by have := HL1.out; have := HL2.out; simp; omega)]; rw [HHD.out]; first | done | simp | rfl
  simp only [Act.put, List.setIfInBounds_toArray, List.set_cons_zero, List.set_cons_succ]
  refine wpAnyH_ready (rs := [11]) (by kernel_rfl) (by simp) ?_
  refine AllReadyH.cons (by simp only [List.getElem?_toArray, List.getElem?_cons_zero, List.getElem?_cons_succ]; rfl) (fun K hK => ?_) AllReadyH.nil
  go_simp
  refine (HSw6.out.wstr hd (by have := HHL.out; simp only [List.length_nil]; omega)).mono ?_
  rintro e w7 ⟨⟨nw, rfl⟩, hs⟩
  have HS7 := Lib.hid hs
  refine hK.out _ _ ⟨_, HS7.out⟩ (fun hHeld => ?_)
  clear hs hK K hHeld
  try simp only [Act.put, List.setIfInBounds_toArray, List.set_cons_zero, List.set_cons_succ]
  refine wpAnyH_done (by kernel_rfl) ?_ _
  have HP0 : Hid (P = hd ++ restB C) := by
    show _ = _
    rw [HPB.out, HHD.out]
  replace HS7 : Hid (PS W w1.heap.size w1.heap.size v (.slice al n c) hd w7) := HS7
  clear HS0 HSw5 HSw6 HHD HHL HPB HL1 HL2
  obtain ⟨B, hBB⟩ : ∃ B, B = w1.heap.size := ⟨_, rfl⟩
  rw [← hBB] at HS7 ⊢
  clear hBB
  have c1 := HS7.out.c1
  have lb := HS7.out.lt
  have hbs := HS7.out.hB
  go_wp2_with fail
  clear c1 lb hbs
  go_loopg [27] n (fun gk v27 wr => ∃ (j : Nat) (s : By), v27 = .int .i64 ((j : Nat) : Int) ∧ j + gk = n ∧ PS W B B v (.slice al n c) s wr ∧ P = s ++ restB (C.drop j))
  case atStart => exact ⟨0, hd, rfl, by omega, HS7.out, HP0.out⟩
  case round =>
    obtain ⟨j, s, rfl, hj, hs, hp⟩ := hrel
    obtain ⟨gO, hgO⟩ : ∃ gO, gO = gk := ⟨_, rfl⟩
    subst hgO
    have HJ := Lib.hid hj
    have HS := Lib.hid hs
    have HP := Lib.hid hp
    have q0 : (0 : Int) ≤ ((j : Nat) : Int) := by omega
    have hsl : s.length ≤ 100000000 := by
      have := HLP.out
      rw [hp, List.length_append] at this
      omega
    by_cases hlt : j < n
    · obtain ⟨k, hk⟩ : ∃ k, C[j]? = some k := ⟨_, List.getElem?_eq_getElem (by rw [← HN.out]; exact hlt)⟩
      obtain ⟨bl, ol, kal, kc, rfl, hbl, hcellW, hI⟩ := cls_at HCL.out hk
      have hcell := (hs.bel.cell (p := ⟨bl, ol + j, none⟩) hbl).trans hcellW
      have HIK := Lib.hid hI
      have q1 : ((j : Nat) : Int) < ((n : Nat) : Int) := by omega
      have HST := Lib.hid (step_i (j := j) (by omega))
      have HD := Lib.hid (drop_cl hk)
      have HK := Lib.hid hk
      have hkl := HOK.out.k k (List.mem_of_getElem? hk)
      obtain ⟨m, hm⟩ : ∃ m, m = k.length := ⟨_, rfl⟩
      have HMM := Lib.hid hm
      rw [← hm] at hcell hkl
      clear hj hs hp hk hI hm hcellW
      go_wp2_with fail
      go_loopg [33] m (fun gk v33 w3 => ∃ (i : Nat) (s : By), v33 = .int .i64 ((i : Nat) : Int) ∧ i + gk = m ∧ PS W B B v (.slice (some ⟨bl, ol, none⟩) n c) s w3 ∧ P = s ++ (litsB (k.drop i) ++ [48] ++ [10] ++ restB (C.drop (j + 1))))
      case atStart => exact ⟨0, s, rfl, by omega, HS.out, by rw [HP.out, HD.out, restB_cons]; rfl⟩
      clear hsl hbl hcell HS HP
      case round =>
        obtain ⟨i, s, rfl, hi, hs, hp⟩ := hrel
        have HI := Lib.hid hi
        have HS := Lib.hid hs
        have HP := Lib.hid hp
        have p0 : (0 : Int) ≤ ((i : Nat) : Int) := by omega
        have hsl : s.length ≤ 100000000 := by
          have := HLP.out
          rw [hp, List.length_append] at this
          omega
        have HSL := Lib.hid hsl
        have hI := HIK.out.keep hs.bel
        by_cases hlt2 : i < m
        · obtain ⟨l, hl⟩ : ∃ l, k[i]? = some l := ⟨_, List.getElem?_eq_getElem (by rw [← HMM.out]; exact hlt2)⟩
          obtain ⟨kb, ko, rfl, hkb, hlc⟩ := ints_at hI hl
          have p1 : ((i : Nat) : Int) < ((m : Nat) : Int) := by omega
          have HD2 := Lib.hid (drop_at hl)
          have HS2 := Lib.hid (step_i (j := i) (by omega))
          have h6 := HOK.out.l k (List.mem_of_getElem? HK.out) l (List.mem_of_getElem? hl)
          have HNU := Lib.hid (fun (w : World) (hT : Tens w) => citoa_any (z := l) hT h6.1 (by have := h6.2; omega))
          have HDL := Lib.hid (decI_len h6.1 h6.2)
          obtain ⟨t, ht⟩ : ∃ t, t = decI l := ⟨_, rfl⟩
          have HTT := Lib.hid ht
          rw [← ht] at HNU HDL
          clear hi hs hp hI hl h6 ht hsl
          go_wp2_with fail
          refine (HNU.out _ (HT.out.keep HS.out.bel)).mono ?_
          rintro e w4 ⟨rfl, hb4⟩
          have HS4 := Lib.hid (HS.out.call hb4)
          clear hb4 hlc
          go_wp2_with fail
          refine (HS4.out.wstr t (by have := HSL.out; have := HDL.out; omega)).mono ?_
          rintro e w5 ⟨⟨nw5, rfl⟩, hs⟩
          have HS5 := Lib.hid hs
          clear hs
          go_wp2_with fail
          refine (HS5.out.wbyte 32 (by have := HSL.out; have := HDL.out; rw [List.length_append]; omega)).mono ?_
          rintro e w6 ⟨rfl, hs⟩
          have HS6 := Lib.hid hs
          clear hs
          go_wp2_with fail
          go_roundg (gk - 1)
          case measure => have := HI.out; omega
          case rel => exact ⟨i + 1, s ++ t ++ [32], by first | rfl | (rw [HS2.out.1]) | (congr 1; exact HS2.out.1), by have := HI.out; omega, HS6.out, by rw [HP.out, HD2.out, litsB_cons, HTT.out]; simp⟩
        · have p1 : decide (((i : Nat) : Int) < ((m : Nat) : Int)) = false := decide_eq_false (by omega)
          obtain rfl : i = m := by omega
          have HE : Hid (P = s ++ [48, 10] ++ restB (C.drop (j + 1))) := by
            show _ = _
            rw [HP.out, List.drop_eq_nil_of_le (by rw [← HMM.out]; exact Nat.le_refl _)]
            simp [litsB]
          clear hi hs hp hI
          go_wp2_with fail
          refine (HS.out.wstr [48, 10] (by have := HSL.out; simp only [List.length_cons, List.length_nil]; omega)).mono ?_
          rintro e w5 ⟨⟨nw5, rfl⟩, hs⟩
          have HS5 := Lib.hid hs
          clear hs
          go_wp2_with fail
          go_roundg (gO - 1)
          case measure => have := HJ.out; omega
          case rel => exact ⟨j + 1, s ++ [48, 10], by first | rfl | (rw [HST.out.1]) | (congr 1; exact HST.out.1), by have := HJ.out; omega, HS5.out, HE.out⟩
    · have q1 : decide (((j : Nat) : Int) < ((n : Nat) : Int)) = false := decide_eq_false (by omega)
      obtain rfl : j = n := by omega
      have HE : Hid (P = s) := by
        show _ = _
        rw [hp, List.drop_eq_nil_of_le (by rw [← HN.out]; exact Nat.le_refl _)]
        simp [restB]
      clear hj hs hp
      go_wp2_with fail
      refine (Tryd.Builder_String_any B B s _ HS.out.bld HS.out.hB).mono ?_
      rintro e w5 ⟨rfl, hb5⟩
      have HB5 := Lib.hid hb5
      clear hb5
      go_wp2_with fail
      exact bodyPost_ret (v := .tuple #[.string ⟨s.toArray⟩, .int .i64 0]) (by simp [results, Tryd.results10, go_sem]) rfl ⟨by rw [HE.out], HS.out.bel.trans (HB5.out.mono (by have := HS.out.lt; omega))⟩
end Cf
end Go.Proofs.YtcpehdeddgfpmaaDoor
