/-
  The document's Put, as a fact on one call.
-/
import Derived.Test.YtmegadjeficfjaaDoorCfUnits
import Derived.Test.YtmegadjeficfjaaDoorCfNum
import Derived.Deep.RegionHeld3
namespace Go.Proofs.YtmegadjeficfjaaDoor
open Go.RowKit
namespace Cf
set_option maxHeartbeats 3200000
set_option maxRecDepth 100000

/-- The box of clauses handed in by value. -/
structure BoxAt (b : Nat) (v : Int) (s : Value) (w : World) : Prop where
  lt : b < w.heap.size
  c0 : w.cell? ⟨b, 0, none⟩ = some (.int .i64 v)
  c1 : w.cell? ⟨b, 1, none⟩ = some s
theorem BoxAt.heap {b : Nat} {v : Int} {s : Value} {w w' : World} (h : BoxAt b v s w) (e : w'.heap = w.heap) : BoxAt b v s w' := by
  refine ⟨by rw [e]; exact h.lt, ?_, ?_⟩
  · rw [← h.c0]; unfold World.cell?; rw [e]
  · rw [← h.c1]; unfold World.cell?; rw [e]
theorem BoxAt.call {b : Nat} {v : Int} {s : Value} {w w' : World} (h : BoxAt b v s w) (k : Below w.heap.size w w') : BoxAt b v s w' :=
  ⟨Nat.lt_of_lt_of_le h.lt k.size, (k.cell (p := ⟨b, 0, none⟩) h.lt).trans h.c0, (k.cell (p := ⟨b, 1, none⟩) h.lt).trans h.c1⟩
theorem BoxAt.new {v : Int} {s : Value} {W : World} : BoxAt W.heap.size v s (W.alloc (.cells #[.int .i64 v, s] 24)) := ⟨by simp, new_cell _ _ _ _, new_cell _ _ _ _⟩

def litsB (k : List Int) : By := k.flatMap fun l => decI l ++ [32]
def restB (C : Cl) : By := C.flatMap fun k => clauseB k ++ [10]
theorem restB_cons (k : List Int) (r : Cl) : restB (k :: r) = litsB k ++ [48] ++ [10] ++ restB r := by simp [restB, clauseB, litsB]
theorem litsB_cons (l : Int) (r : List Int) : litsB (l :: r) = decI l ++ [32] ++ litsB r := by simp [litsB]
theorem decI_len {z : Int} (h1 : -9223372036854775808 ≤ z) (h2 : z < 9223372036854775808) : (decI z).length ≤ 21 := by
  rw [decI_sign, List.length_append]
  have := dec_len20 (u := z.natAbs) (by omega)
  have : (signB z).length ≤ 1 := by unfold signB; split <;> simp
  omega
theorem litsB_len : ∀ {k : List Int}, (∀ l ∈ k, I64 l) → (litsB k).length ≤ 22 * k.length
  | [], _ => by simp [litsB]
  | l :: r, h => by
    have ih := litsB_len (k := r) (fun x hx => h x (by simp [hx]))
    have := decI_len (h l (by simp)).1 (h l (by simp)).2
    rw [litsB_cons]
    simp only [List.length_append, List.length_cons, List.length_nil]
    omega
theorem restB_len : ∀ {C : Cl}, (∀ k ∈ C, ∀ l ∈ k, I64 l) → (restB C).length ≤ 2 * C.length + 22 * C.flatten.length
  | [], _ => by simp [restB]
  | k :: r, h => by
    have ih := restB_len (C := r) (fun x hx => h x (by simp [hx]))
    have := litsB_len (h k (by simp))
    rw [restB_cons]
    simp only [List.length_append, List.length_cons, List.length_nil, List.flatten_cons]
    omega
theorem putB_is (v : Int) (C : Cl) : putB v C = [112, 32, 99, 110, 102, 32] ++ decI v ++ [32] ++ decI ((C.length : Nat) : Int) ++ [10] ++ restB C := by simp [putB, headB, restB]

theorem rput_no {W : World} {al : Option Addr} {C : Cl} {v : Int} {c : Nat} (h : ClsAt W al C) (hok : OkC C) (hm : mayC v C = false) :
    Calls Tryd.prog 11 #[.agg #[.int .i64 v, .slice al C.length c]] W fun e w => e = .returned (.tuple #[.string ⟨#[]⟩, .int .i64 2]) ∧ Below W.heap.size W w := by
  have HM := Lib.hid (fun (w : World) (hb : Below W.heap.size W w) => rmay_any (W := w) (v := v) (c := c) (h.keep hb) hok)
  rw [hm] at HM
  clear h hok hm
  go_enter Tryd.func11, Tryd.ntmps11
  go_wp2_with fail
  refine (HM.out _ (bel_alloc (Below.refl _ _) _)).mono ?_
  rintro e w1 ⟨rfl, hb1⟩
  go_wp2_with fail
  go_ret2
  exact ⟨rfl, bel_call (bel_alloc (Below.refl _ _) _) hb1⟩

theorem rput_yes {W : World} {al : Option Addr} {C : Cl} {v : Int} {c : Nat} (h : ClsAt W al C) (hok : OkC C) (hm : mayC v C = true) (hsz : C.length + C.flatten.length ≤ 1000000) :
    Calls Tryd.prog 11 #[.agg #[.int .i64 v, .slice al C.length c]] W fun e w => e = .returned (.tuple #[.string ⟨(putB v C).toArray⟩, .int .i64 0]) ∧ Below W.heap.size W w := by
  have HM := Lib.hid (fun (w : World) (hb : Below W.heap.size W w) => rmay_any (W := w) (v := v) (c := c) (h.keep hb) hok)
  rw [hm] at HM
  obtain ⟨hmv, hlit⟩ := mayC_parts hm
  have hv : 0 ≤ v ∧ v ≤ 1000000 := by unfold mayV at hmv; simpa using hmv
  have HV0 := Lib.hid hv.1
  have HV1 := Lib.hid hv.2
  have HOK := Lib.hid hok
  have HCL := Lib.hid h
  have hlen : (putB v C).length ≤ 100000000 := by
    rw [putB_is]
    have := restB_len hok.l
    have a := decI_len (z := v) (by omega) (by omega)
    have b := decI_len (z := ((C.length : Nat) : Int)) (by omega) (by omega)
    simp only [List.length_append, List.length_cons, List.length_nil]
    omega
  obtain ⟨P, hP⟩ : ∃ P, P = putB v C := ⟨_, rfl⟩
  have HPB := Lib.hid (hP.trans (putB_is v C))
  have HLP : Hid (P.length ≤ 100000000) := by show _ ≤ _; rw [hP]; exact hlen
  have HPS := Lib.hid hP
  obtain ⟨n, hn⟩ : ∃ n, n = C.length := ⟨_, rfl⟩
  have HN := Lib.hid hn
  have hnb : n ≤ 1000000 := by omega
  have HNB := Lib.hid hnb
  have HL1 := Lib.hid (decI_len (z := v) (by omega) (by omega))
  have HL2 := Lib.hid (decI_len (z := ((n : Nat) : Int)) (by omega) (by omega))
  rw [← hP]
  rw [← hn] at HM HPB ⊢
  clear h hok hm hmv hlit hv hlen hP hn
  go_enter Tryd.func11, Tryd.ntmps11
  go_wp2_with fail
  refine (HM.out _ (bel_alloc (Below.refl _ _) _)).mono ?_
  rintro e w1 ⟨rfl, hb1⟩
  have HB1 := Lib.hid (bel_call (bel_alloc (Below.refl W.heap.size W) (.cells #[.int .i64 v, .slice al n c] 24)) hb1)
  have HT1 := Lib.hid ((BoxAt.new (W := W) (v := v) (s := .slice al n c)).call hb1)
  have hcv := conv_one (W := w1) (x := 10) (by decide) (by decide)
  have HBw0 := Lib.hid (bel_alloc HB1.out (.cells #[.int .u8 10] 5))
  have HTw0 := Lib.hid (HT1.out.call (bel_alloc (Below.refl w1.heap.size w1) (.cells #[.int .u8 10] 5)))
  clear hb1 HM
  go_wp2_with fail
  clear hcv
  refine wp_region_held_drew (S := fun w' => BoxAt W.heap.size v (.slice al n c) w') (by kernel_rfl) (HTw0.out.heap rfl) (fun hHeld => ?_)
  refine wpAnyH_take (i := 0) (v := .pointer (some ⟨W.heap.size, 0, none⟩)) (by simp only [List.getElem?_toArray, List.getElem?_cons_zero]; rfl) (by kernel_rfl) (by kernel_rfl) (by kernel_rfl) (by exact fun _ _ _ h => h) (Or.inl ⟨by rfl, ?_⟩) hHeld ?_
  · intro w' hSw
    go_simp
  simp only [Act.put, List.setIfInBounds_toArray, List.set_cons_zero, List.set_cons_succ]
  refine wpAnyH_take (i := 1) (v := .int .i64 v) (by simp only [List.getElem?_toArray, List.getElem?_cons_zero, List.getElem?_cons_succ]; rfl) (by kernel_rfl) (by kernel_rfl) (by kernel_rfl) (by exact fun _ _ _ h => h) (Or.inl ⟨by rfl, ?_⟩) hHeld ?_
  · intro w' hSw
    obtain ⟨_, f0, f1⟩ := hSw; go_simp
  simp only [Act.put, List.setIfInBounds_toArray, List.set_cons_zero, List.set_cons_succ]
  refine wpAnyH_take (i := 5) (v := .pointer (some ⟨W.heap.size, 1, none⟩)) (by simp only [List.getElem?_toArray, List.getElem?_cons_zero, List.getElem?_cons_succ]; rfl) (by kernel_rfl) (by kernel_rfl) (by kernel_rfl) (by exact fun _ _ _ h => h) (Or.inl ⟨by rfl, ?_⟩) hHeld ?_
  · intro w' hSw
    go_simp
  simp only [Act.put, List.setIfInBounds_toArray, List.set_cons_zero, List.set_cons_succ]
  refine wpAnyH_take (i := 6) (v := .slice al n c) (by simp only [List.getElem?_toArray, List.getElem?_cons_zero, List.getElem?_cons_succ]; rfl) (by kernel_rfl) (by kernel_rfl) (by kernel_rfl) (by exact fun _ _ _ h => h) (Or.inl ⟨by rfl, ?_⟩) hHeld ?_
  · intro w' hSw
    obtain ⟨_, f0, f1⟩ := hSw; go_simp
  simp only [Act.put, List.setIfInBounds_toArray, List.set_cons_zero, List.set_cons_succ]
  refine wpAnyH_take (i := 7) (v := .int .i64 ((n : Nat) : Int)) (by simp only [List.getElem?_toArray, List.getElem?_cons_zero, List.getElem?_cons_succ]; rfl) (by kernel_rfl) (by kernel_rfl) (by kernel_rfl) (by exact fun _ _ _ h => h) (Or.inl ⟨by rfl, ?_⟩) hHeld ?_
  · intro w' hSw
    go_simp
  simp only [Act.put, List.setIfInBounds_toArray, List.set_cons_zero, List.set_cons_succ]
  refine wpAnyH_take (i := 10) (v := .string ⟨[10].toArray⟩) (by simp only [List.getElem?_toArray, List.getElem?_cons_zero, List.getElem?_cons_succ]; rfl) (by kernel_rfl) (by kernel_rfl) (by kernel_rfl) (by exact fun _ _ _ h => h) (Or.inl ⟨by rfl, ?_⟩) hHeld ?_
  · intro w' hSw
    go_simp
  simp only [Act.put, List.setIfInBounds_toArray, List.set_cons_zero, List.set_cons_succ]
  refine wpAnyH_ready (rs := [2]) (by kernel_rfl) (by simp) ?_
  refine AllReadyH.cons (by simp only [List.getElem?_toArray, List.getElem?_cons_zero, List.getElem?_cons_succ]; rfl) (fun K hK => ?_) AllReadyH.nil
  go_simp
  refine (rnumber_any (z := v) (by have := HV0.out; omega) (by have := HV1.out; omega)).mono ?_
  rintro e w5 ⟨rfl, hb⟩
  have HBw5 : Hid (Below W.heap.size W w5) := Lib.hid (bel_call HBw0.out ⟨hb.os, hb.tape, hb.output, hb.size, hb.block⟩)
  have HTw5 : Hid (BoxAt W.heap.size v (.slice al n c) w5) := Lib.hid (HTw0.out.call ⟨hb.os, hb.tape, hb.output, hb.size, hb.block⟩)
  refine hK.out _ _ HTw5.out (fun hHeld => ?_)
  clear hb hK K
  try simp only [Act.put, List.setIfInBounds_toArray, List.set_cons_zero, List.set_cons_succ]
  refine wpAnyH_take (i := 3) (v := .string ⟨([112, 32, 99, 110, 102, 32] ++ decI v).toArray⟩) (by simp only [List.getElem?_toArray, List.getElem?_cons_zero, List.getElem?_cons_succ]; rfl) (by kernel_rfl) (by kernel_rfl) (by kernel_rfl) (by exact fun _ _ _ h => h) (Or.inl ⟨by rfl, ?_⟩) hHeld ?_
  · intro w' hSw
    go_simp; rw [str_app, if_neg (by have := HL1.out; have := HL2.out; simp; omega)]; first | done | simp | rfl
  simp only [Act.put, List.setIfInBounds_toArray, List.set_cons_zero, List.set_cons_succ]
  refine wpAnyH_take (i := 4) (v := .string ⟨([112, 32, 99, 110, 102, 32] ++ decI v ++ [32]).toArray⟩) (by simp only [List.getElem?_toArray, List.getElem?_cons_zero, List.getElem?_cons_succ]; rfl) (by kernel_rfl) (by kernel_rfl) (by kernel_rfl) (by exact fun _ _ _ h => h) (Or.inl ⟨by rfl, ?_⟩) hHeld ?_
  · intro w' hSw
    go_simp; rw [str_app, if_neg (by have := HL1.out; have := HL2.out; simp; omega)]; first | done | simp | rfl
  simp only [Act.put, List.setIfInBounds_toArray, List.set_cons_zero, List.set_cons_succ]
  refine wpAnyH_ready (rs := [8]) (by kernel_rfl) (by simp) ?_
  refine AllReadyH.cons (by simp only [List.getElem?_toArray, List.getElem?_cons_zero, List.getElem?_cons_succ]; rfl) (fun K hK => ?_) AllReadyH.nil
  go_simp
  refine (rnumber_any (z := ((n : Nat) : Int)) (by omega) (by have := HNB.out; omega)).mono ?_
  rintro e w6 ⟨rfl, hb⟩
  have HBw6 : Hid (Below W.heap.size W w6) := Lib.hid (bel_call HBw5.out ⟨hb.os, hb.tape, hb.output, hb.size, hb.block⟩)
  have HTw6 : Hid (BoxAt W.heap.size v (.slice al n c) w6) := Lib.hid (HTw5.out.call ⟨hb.os, hb.tape, hb.output, hb.size, hb.block⟩)
  refine hK.out _ _ HTw6.out (fun hHeld => ?_)
  clear hb hK K
  try simp only [Act.put, List.setIfInBounds_toArray, List.set_cons_zero, List.set_cons_succ]
  refine wpAnyH_take (i := 9) (v := .string ⟨([112, 32, 99, 110, 102, 32] ++ decI v ++ [32] ++ decI ((n : Nat) : Int)).toArray⟩) (by simp only [List.getElem?_toArray, List.getElem?_cons_zero, List.getElem?_cons_succ]; rfl) (by kernel_rfl) (by kernel_rfl) (by kernel_rfl) (by exact fun _ _ _ h => h) (Or.inl ⟨by rfl, ?_⟩) hHeld ?_
  · intro w' hSw
    go_simp; rw [str_app, if_neg (by have := HL1.out; have := HL2.out; simp; omega)]; first | done | simp | rfl
  simp only [Act.put, List.setIfInBounds_toArray, List.set_cons_zero, List.set_cons_succ]
  refine wpAnyH_take (i := 11) (v := .string ⟨([112, 32, 99, 110, 102, 32] ++ decI v ++ [32] ++ decI ((n : Nat) : Int) ++ [10]).toArray⟩) (by simp only [List.getElem?_toArray, List.getElem?_cons_zero, List.getElem?_cons_succ]; rfl) (by kernel_rfl) (by kernel_rfl) (by kernel_rfl) (by exact fun _ _ _ h => h) (Or.inl ⟨by rfl, ?_⟩) hHeld ?_
  · intro w' hSw
    go_simp; rw [str_app, if_neg (by have := HL1.out; have := HL2.out; simp; omega)]; first | done | simp | rfl
  simp only [Act.put, List.setIfInBounds_toArray, List.set_cons_zero, List.set_cons_succ]
  refine wpAnyH_take (i := 12) (v := .string ⟨([112, 32, 99, 110, 102, 32] ++ decI v ++ [32] ++ decI ((n : Nat) : Int) ++ [10]).toArray⟩) (by simp only [List.getElem?_toArray, List.getElem?_cons_zero, List.getElem?_cons_succ]; rfl) (by kernel_rfl) (by kernel_rfl) (by kernel_rfl) (by exact fun _ _ _ h => h) (Or.inl ⟨by rfl, ?_⟩) hHeld ?_
  · intro w' hSw
    go_simp
  simp only [Act.put, List.setIfInBounds_toArray, List.set_cons_zero, List.set_cons_succ]
  refine wpAnyH_done (by kernel_rfl) ?_ _
  clear hHeld
  have HS0 : Hid (P = [112, 32, 99, 110, 102, 32] ++ decI v ++ [32] ++ decI ((n : Nat) : Int) ++ [10] ++ restB C) := HPB
  obtain ⟨s0, hs0⟩ : ∃ s0, s0 = [112, 32, 99, 110, 102, 32] ++ decI v ++ [32] ++ decI ((n : Nat) : Int) ++ [10] := ⟨_, rfl⟩
  rw [← hs0] at HS0 ⊢
  simp only [List.cons_append, List.nil_append, List.append_assoc]
  clear hs0 HPB HL1 HL2 HTw5 HTw0 HBw5 HBw0 HB1 HT1
  go_wp2_with fail
  go_loopg [5, 6] n (fun gk v5 v6 wr => ∃ (j : Nat) (s : By), v5 = .string ⟨s.toArray⟩ ∧ v6 = .int .i64 ((j : Nat) : Int) ∧ j + gk = n ∧ Below W.heap.size W wr ∧ BoxAt W.heap.size v (.slice al n c) wr ∧ P = s ++ restB (C.drop j))
  case atStart => exact ⟨0, s0, rfl, rfl, by omega, HBw6.out, HTw6.out, HS0.out⟩
  case round =>
    obtain ⟨j, s, rfl, rfl, hj, hb, ht, hp⟩ := hrel
    obtain ⟨gO, hgO⟩ : ∃ gO, gO = gk := ⟨_, rfl⟩
    subst hgO
    have HJ := Lib.hid hj
    have HB := Lib.hid hb
    have HT := Lib.hid ht
    have HP := Lib.hid hp
    have q0 : (0 : Int) ≤ ((j : Nat) : Int) := by omega
    have c0 := ht.c0
    have c1 := ht.c1
    have lb := ht.lt
    have hsl : s.length ≤ 100000000 := by
      have := HLP.out
      rw [hp, List.length_append] at this
      omega
    by_cases hlt : j < n
    · obtain ⟨k, hk⟩ : ∃ k, C[j]? = some k := ⟨_, List.getElem?_eq_getElem (by rw [← HN.out]; exact hlt)⟩
      obtain ⟨bl, ol, kal, kc, rfl, hbl, hcell, hI⟩ := cls_at (HCL.out.keep hb) hk
      have q1 : ((j : Nat) : Int) < ((n : Nat) : Int) := by omega
      have HS := Lib.hid (step_i (j := j) (by omega))
      have HD := Lib.hid (drop_cl hk)
      have HK := Lib.hid hk
      have hkl := HOK.out.k k (List.mem_of_getElem? hk)
      obtain ⟨m, hm⟩ : ∃ m, m = k.length := ⟨_, rfl⟩
      have HMM := Lib.hid hm
      rw [← hm] at hcell hkl
      clear hj hb ht hp hk hI hm
      go_wp2_with fail
      go_loopg [5, 7] m (fun gk v5 v7 w3 => ∃ (i : Nat) (s : By), v5 = .string ⟨s.toArray⟩ ∧ v7 = .int .i64 ((i : Nat) : Int) ∧ i + gk = m ∧ Below W.heap.size W w3 ∧ BoxAt W.heap.size v (.slice (some ⟨bl, ol, none⟩) n c) w3 ∧ P = s ++ (litsB (k.drop i) ++ [48] ++ [10] ++ restB (C.drop (j + 1))))
      case atStart => exact ⟨0, s, rfl, rfl, by omega, HB.out, HT.out, by rw [HP.out, HD.out, restB_cons]; rfl⟩
      clear hsl c0 c1 lb hbl hcell HB HT HP
      case round =>
        obtain ⟨i, s, rfl, rfl, hi, hb, ht, hp⟩ := hrel
        have HI := Lib.hid hi
        have HB := Lib.hid hb
        have HT := Lib.hid ht
        have HP := Lib.hid hp
        have p0 : (0 : Int) ≤ ((i : Nat) : Int) := by omega
        have c0 := ht.c0
        have c1 := ht.c1
        have lb := ht.lt
        have hsl : s.length ≤ 100000000 := by
          have := HLP.out
          rw [hp, List.length_append] at this
          omega
        obtain ⟨bl', ol', kal', kc', he, hbl, hcell, hI⟩ := cls_at (HCL.out.keep hb) HK.out
        obtain ⟨rfl, rfl⟩ : bl' = bl ∧ ol' = ol := by injection he with he; injection he with h1 h2; exact ⟨h1.symm, h2.symm⟩
        rw [← HMM.out] at hcell
        by_cases hlt2 : i < m
        · obtain ⟨l, hl⟩ : ∃ l, k[i]? = some l := ⟨_, List.getElem?_eq_getElem (by rw [← HMM.out]; exact hlt2)⟩
          obtain ⟨kb, ko, rfl, hkb, hlc⟩ := ints_at hI hl
          have p1 : ((i : Nat) : Int) < ((m : Nat) : Int) := by omega
          have HD2 := Lib.hid (drop_at hl)
          have HS2 := Lib.hid (step_i (j := i) (by omega))
          have h6 := HOK.out.l k (List.mem_of_getElem? HK.out) l (List.mem_of_getElem? hl)
          have HNU := Lib.hid (fun (w : World) => rnumber_any (z := l) (W := w) h6.1 h6.2)
          have hdl := decI_len h6.1 h6.2
          clear hi hb ht hp hI hl h6 he
          go_wp2_with fail
          refine (HNU.out _).mono ?_
          rintro e w4 ⟨rfl, hb4⟩
          have HB4 := Lib.hid hb4
          clear hb4 hcell hlc c0 c1
          go_wp2_with fail
          go_roundg (gk - 1)
          case measure => have := HI.out; omega
          case rel => exact ⟨i + 1, s ++ decI l ++ [32], by first | rfl | (congr 1; rw [str_app]; exact str_app _ [32]), by first | rfl | (rw [HS2.out.1]) | (congr 1; exact HS2.out.1), by have := HI.out; omega, bel_call HB.out HB4.out, HT.out.call HB4.out, by rw [HP.out, HD2.out, litsB_cons]; simp⟩
        · have p1 : decide (((i : Nat) : Int) < ((m : Nat) : Int)) = false := decide_eq_false (by omega)
          obtain rfl : i = m := by omega
          have HE : Hid (P = s ++ [48] ++ [10] ++ restB (C.drop (j + 1))) := by
            show _ = _
            rw [HP.out, List.drop_eq_nil_of_le (by rw [← HMM.out]; exact Nat.le_refl _)]
            simp [litsB]
          clear hi hb ht hp hI he
          go_wp2_with fail
          go_roundg (gO - 1)
          case measure => have := HJ.out; omega
          case rel => exact ⟨j + 1, s ++ [48] ++ [10], by first | rfl | (congr 1; simp [← str_app]), by first | rfl | (rw [HS.out.1]) | (congr 1; exact HS.out.1), by have := HJ.out; omega, HB.out, HT.out, HE.out⟩
    · have q1 : decide (((j : Nat) : Int) < ((n : Nat) : Int)) = false := decide_eq_false (by omega)
      obtain rfl : j = n := by omega
      have HE : Hid (P = s) := by
        show _ = _
        rw [hp, List.drop_eq_nil_of_le (by rw [← HN.out]; exact Nat.le_refl _)]
        simp [restB]
      clear hj hb ht hp
      go_wp2_with fail
      exact bodyPost_ret (v := .tuple #[.string ⟨s.toArray⟩, .int .i64 0]) (by simp [results, Tryd.results11, go_sem]) rfl ⟨by rw [HE.out], HB.out⟩
end Cf
end Go.Proofs.YtmegadjeficfjaaDoor
