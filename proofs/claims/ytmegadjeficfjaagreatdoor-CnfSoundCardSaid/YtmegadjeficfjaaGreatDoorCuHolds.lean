/-
  The program's Holds, as a fact on one call.
-/
import Derived.Test.YtmegadjeficfjaaGreatDoorCfMay
import Derived.Test.YtmegadjeficfjaaGreatDoorCfHas
import Derived.Test.YtmegadjeficfjaaGreatDoorCuLeaf
import Derived.Test.YtmegadjeficfjaaGreatDoorCuMem
import Derived.Conc.PipeWords
import Derived.RangeFuncOwn
import Derived.Deep.Cut
import Derived.Laws.EntriesVeiled
namespace Go.Proofs.YtmegadjeficfjaaGreatDoor
open Go.RowKit
namespace Cf
set_option maxHeartbeats 3200000
set_option maxRecDepth 100000

/-- A list of yes and no. -/
def BoolsAt (W : World) (al : Option Addr) (m : List Bool) : Prop :=
  m = [] ∨ ∃ bl ol, al = some ⟨bl, ol, none⟩ ∧ bl < W.heap.size ∧ ∀ (j : Nat) (b : Bool), m[j]? = some b → W.cell? ⟨bl, ol + j, none⟩ = some (.bool b)
theorem BoolsAt.keep {W w : World} {al : Option Addr} {m : List Bool} (h : BoolsAt W al m) (hb : Below W.heap.size W w) : BoolsAt w al m := by
  refine h.imp id ?_
  rintro ⟨ab, ao, h1, h2, h3⟩
  exact ⟨ab, ao, h1, Nat.lt_of_lt_of_le h2 hb.size, fun j v hj => (hb.cell (p := ⟨ab, ao + j, none⟩) h2).trans (h3 j v hj)⟩
theorem oneM_psv {m : List Bool} {l : Int} {u : Nat} (h : 0 < l) (hu : l = (u : Int)) : oneM m l = (if u < m.length then m.getD u false else false) := by
  subst hu
  unfold oneM
  rw [if_pos h]
  simp
theorem oneM_ngv {m : List Bool} {l : Int} {u : Nat} (h : ¬ 0 < l) (h0 : l ≠ 0) (hu : -l = (u : Int)) : oneM m l = (if u < m.length then !m.getD u false else true) := by
  unfold oneM
  rw [if_neg h, if_pos (by omega), hu]
  simp
theorem bools_at {W : World} {al : Option Addr} {m : List Bool} (h : BoolsAt W al m) {i : Nat} {b : Bool} (hk : m[i]? = some b) : ∃ bl ol, al = some ⟨bl, ol, none⟩ ∧ bl < W.heap.size ∧ W.cell? ⟨bl, ol + i, none⟩ = some (.bool b) := by
  rcases h with h | ⟨bl, ol, h1, h2, h3⟩
  · subst h; simp at hk
  · exact ⟨bl, ol, h1, h2, h3 i b hk⟩
theorem so_any {W : World} {ml : Option Addr} {m : List Bool} {mc b : Nat} {l : Int} (hm : BoolsAt W ml m) (_hml : m.length ≤ 1000000) (hc : W.cell? ⟨b, 0, none⟩ = some (.slice ml m.length mc)) (h1 : -1000000 ≤ l) (h2 : l ≤ 1000000) (h0 : l ≠ 0) :
    Calls Tryz.prog 14 #[.int .i64 l, .pointer (some ⟨b, 0, none⟩)] W fun e w => e = .returned (.bool (oneM m l)) ∧ w = W := by
  have HV := Lib.hid (fun w => var_any (W := w) h1 h2)
  obtain ⟨u, hu⟩ : ∃ u : Nat, vr l = (u : Int) := ⟨(vr l).toNat, by unfold vr; split <;> omega⟩
  have hcl : W.cell? ⟨b, 0, none⟩ = some (.slice ml m.length mc) := hc
  rw [hu] at HV
  obtain ⟨n, hn⟩ : ∃ n, n = m.length := ⟨_, rfl⟩
  have q0 : (0 : Int) ≤ ((u : Nat) : Int) := by omega
  by_cases hl : 0 < l
  · have hlu : l = (u : Int) := by rw [← hu]; unfold vr; rw [if_pos hl]
    have HO := Lib.hid (oneM_psv (m := m) hl hlu)
    by_cases hlt : u < n
    · obtain ⟨y, hy⟩ : ∃ y, m[u]? = some y := ⟨_, List.getElem?_eq_getElem (by rw [← hn]; exact hlt)⟩
      obtain ⟨bl, ol, rfl, hbl, hbc⟩ := bools_at hm hy
      have HR : Hid (oneM m l = y) := by
        show _ = _
        rw [HO.out, if_pos (by rw [← hn]; exact hlt), List.getD_eq_getElem?_getD, hy]; rfl
      have q1 : ((u : Nat) : Int) < ((n : Nat) : Int) := by omega
      have q2 : 0 < l := hl
      rw [← hn] at hcl
      clear hc hm hy hu hn HO hlu
      rw [HR.out]
      go_enter Tryz.func14, Tryz.ntmps14
      go_wp2_with fail
      refine (HV.out _).mono ?_
      rintro e w ⟨rfl, rfl⟩
      go_wp2_with fail
      go_ret
      exact ⟨by simp, rfl⟩
    · have HR : Hid (oneM m l = false) := by
        show _ = _
        rw [HO.out, if_neg (by rw [← hn]; exact hlt)]
      have q1 : decide (((u : Nat) : Int) < ((n : Nat) : Int)) = false := decide_eq_false (by omega)
      have q2 : 0 < l := hl
      rw [← hn] at hcl
      clear hc hm hu hn HO hlu
      rw [HR.out]
      go_enter Tryz.func14, Tryz.ntmps14
      go_wp2_with fail
      refine (HV.out _).mono ?_
      rintro e w ⟨rfl, rfl⟩
      go_wp2_with fail
      go_ret
      exact ⟨by simp, rfl⟩
  · have hlu : -l = (u : Int) := by rw [← hu]; unfold vr; rw [if_neg hl]
    have HO := Lib.hid (oneM_ngv (m := m) hl h0 hlu)
    by_cases hlt : u < n
    · obtain ⟨y, hy⟩ : ∃ y, m[u]? = some y := ⟨_, List.getElem?_eq_getElem (by rw [← hn]; exact hlt)⟩
      obtain ⟨bl, ol, rfl, hbl, hbc⟩ := bools_at hm hy
      have HR : Hid (oneM m l = !y) := by
        show _ = _
        rw [HO.out, if_pos (by rw [← hn]; exact hlt), List.getD_eq_getElem?_getD, hy]; rfl
      have q1 : ((u : Nat) : Int) < ((n : Nat) : Int) := by omega
      have q2 : decide (0 < l) = false := decide_eq_false hl
      rw [← hn] at hcl
      clear hc hm hy hu hn HO hlu
      rw [HR.out]
      go_enter Tryz.func14, Tryz.ntmps14
      go_wp2_with fail
      refine (HV.out _).mono ?_
      rintro e w ⟨rfl, rfl⟩
      go_wp2_with fail
      go_ret
      exact ⟨by simp, rfl⟩
    · have HR : Hid (oneM m l = true) := by
        show _ = _
        rw [HO.out, if_neg (by rw [← hn]; exact hlt)]
      have q1 : decide (((u : Nat) : Int) < ((n : Nat) : Int)) = false := decide_eq_false (by omega)
      have q2 : decide (0 < l) = false := decide_eq_false hl
      rw [← hn] at hcl
      clear hc hm hu hn HO hlu
      rw [HR.out]
      go_enter Tryz.func14, Tryz.ntmps14
      go_wp2_with fail
      refine (HV.out _).mono ?_
      rintro e w ⟨rfl, rfl⟩
      go_wp2_with fail
      go_ret
      exact ⟨by simp, rfl⟩
/-- The two closures of Holds. -/
structure SoAt (b b2 : Nat) (ml : Option Addr) (m : List Bool) (mc : Nat) (w : World) : Prop where
  l1 : b < w.heap.size
  l2 : b2 < w.heap.size
  c1 : w.cell? ⟨b, 0, none⟩ = some (.slice ml m.length mc)
  c2 : w.cell? ⟨b2, 0, none⟩ = some (.func (.func 14) #[] #[.pointer (some ⟨b, 0, none⟩)])
  hm : BoolsAt w ml m
theorem SoAt.call {b b2 : Nat} {ml : Option Addr} {m : List Bool} {mc : Nat} {w w' : World} (h : SoAt b b2 ml m mc w) (k : Below w.heap.size w w') : SoAt b b2 ml m mc w' :=
  ⟨Nat.lt_of_lt_of_le h.l1 k.size, Nat.lt_of_lt_of_le h.l2 k.size, (k.cell (p := ⟨b, 0, none⟩) h.l1).trans h.c1, (k.cell (p := ⟨b2, 0, none⟩) h.l2).trans h.c2, h.hm.keep k⟩
def satP (m : List Bool) (l : Int) : Bool := isL l 1000000 && oneM m l
theorem sat_any {W : World} {ml : Option Addr} {m : List Bool} {mc b b2 : Nat} {l : Int} (hml : m.length ≤ 1000000) (h : SoAt b b2 ml m mc W) :
    Calls Tryz.prog 17 #[.int .i64 l, .pointer (some ⟨b2, 0, none⟩)] W fun e w => e = .returned (.bool (satP m l)) ∧ w = W := by
  have HL := Lib.hid (fun w => lit_any (l := l) (v := 1000000) (W := w) (by decide) (by decide))
  have c2 := h.c2
  cases hi : isL l 1000000 with
  | false =>
    have HR : Hid (satP m l = false) := by show _ = _; unfold satP; rw [hi]; rfl
    rw [hi] at HL
    clear h hi
    rw [HR.out]
    go_enter Tryz.func17, Tryz.ntmps17
    go_wp2_with fail
    refine (HL.out _).mono ?_
    rintro e w ⟨rfl, rfl⟩
    go_wp2_with fail
    go_ret
    exact ⟨by simp, rfl⟩
  | true =>
    have HR : Hid (satP m l = oneM m l) := by show _ = _; unfold satP; rw [hi]; simp
    have hb : l ≠ 0 ∧ -1000000 ≤ l ∧ l ≤ 1000000 := by unfold isL at hi; simpa using hi
    have HS := Lib.hid (so_any h.hm hml h.c1 hb.2.1 hb.2.2 hb.1)
    rw [hi] at HL
    clear h hi hb
    rw [HR.out]
    go_enter Tryz.func17, Tryz.ntmps17
    go_wp2_with fail
    refine (HL.out _).mono ?_
    rintro e w ⟨rfl, rfl⟩
    go_wp2_with fail
    refine HS.out.mono ?_
    rintro e w ⟨rfl, rfl⟩
    go_wp2_with fail
    go_ret
    exact ⟨by simp, rfl⟩
theorem idx_any {W : World} {al ml : Option Addr} {k : List Int} {m : List Bool} {c mc b b2 : Nat} (hml : m.length ≤ 1000000) (h : SoAt b b2 ml m mc W) (hI : IntsAt W al k) (hk : k.length < 4611686018427387904) :
    Calls Tryz.prog 33 #[.slice al k.length c, .func (.func 17) #[] #[.pointer (some ⟨b2, 0, none⟩)]] W fun e w => ∃ z : Int, e = .returned (.int .i64 z) ∧ decide (0 ≤ z) = k.any (satP m) ∧ w = W := by
  have HSA := Lib.hid (fun l => sat_any (l := l) hml h)
  obtain ⟨n, hn⟩ : ∃ n, n = k.length := ⟨_, rfl⟩
  have HN := Lib.hid hn
  have hnb : n < 4611686018427387904 := by omega
  have HNB := Lib.hid hnb
  have HI := Lib.hid hI
  rw [← hn]
  clear h hml hk hn hI hnb
  go_enter Tryz.func33, Tryz.ntmps33
  go_wp2_with fail
  go_loopg [8] n (fun gk v8 wr => ∃ i : Nat, v8 = .int .i64 ((i : Nat) : Int) ∧ i + gk = n ∧ wr = W ∧ (k.take i).any (satP m) = false)
  case atStart => exact ⟨0, rfl, by omega, rfl, by simp⟩
  case round =>
    obtain ⟨i, rfl, hi, rfl, hno⟩ := hrel
    have HIN := Lib.hid hi
    have HNO := Lib.hid hno
    have p0 : (0 : Int) ≤ ((i : Nat) : Int) := by omega
    by_cases hlt : i < n
    · obtain ⟨x, hx⟩ : ∃ x, k[i]? = some x := ⟨_, List.getElem?_eq_getElem (by rw [← HN.out]; exact hlt)⟩
      obtain ⟨kb, ko, rfl, hkb, hkc⟩ := ints_at HI.out hx
      have p1 : ((i : Nat) : Int) < ((n : Nat) : Int) := by omega
      have HST := Lib.hid (step_i (j := i) (by have := HNB.out; omega))
      have HX := Lib.hid hx
      clear hi hx hno
      go_wp2_with fail
      refine (HSA.out x).mono ?_
      rintro e w ⟨rfl, rfl⟩
      obtain ⟨s, hs⟩ : ∃ s, satP m x = s := ⟨_, rfl⟩
      have HSX := Lib.hid hs
      rw [hs]
      clear hs
      cases s with
      | true =>
        go_wp2_with fail
        go_ret
        refine ⟨((i : Nat) : Int), by simp, ?_, rfl⟩
        rw [decide_eq_true (by omega), eq_comm, List.any_eq_true]
        exact ⟨x, List.mem_of_getElem? HX.out, HSX.out⟩
      | false =>
        go_wp2_with fail
        go_roundg (gk - 1)
        case measure => have := HIN.out; omega
        case rel => exact ⟨i + 1, by first | rfl | (rw [HST.out.1]) | (congr 1; exact HST.out.1), by have := HIN.out; omega, rfl, by rw [List.take_add_one, HX.out]; simp only [List.any_append, HNO.out, Option.toList_some, List.any_cons, List.any_nil, HSX.out]; rfl⟩
    · have p1 : decide (((i : Nat) : Int) < ((n : Nat) : Int)) = false := decide_eq_false (by omega)
      obtain rfl : i = n := by omega
      have HE : Hid (k.any (satP m) = false) := by
        show _ = _
        rw [← hno, List.take_of_length_le (by rw [← HN.out]; exact Nat.le_refl _)]
      clear hi hno
      go_wp2_with fail
      go_ret
      exact ⟨-1, by simp, by rw [HE.out]; decide, rfl⟩
theorem contains_any {W : World} {al ml : Option Addr} {k : List Int} {m : List Bool} {c mc b b2 : Nat} (hml : m.length ≤ 1000000) (h : SoAt b b2 ml m mc W) (hI : IntsAt W al k) (hk : k.length < 4611686018427387904) :
    Calls Tryz.prog 16 #[.slice al k.length c, .func (.func 17) #[] #[.pointer (some ⟨b2, 0, none⟩)]] W fun e w => e = .returned (.bool (k.any (satP m))) ∧ w = W := by
  have HI := Lib.hid (idx_any (c := c) hml h hI hk)
  clear h hml hI hk
  go_enter Tryz.func16, Tryz.ntmps16
  go_wp2_with fail
  refine HI.out.mono ?_
  rintro e w ⟨z, rfl, hz, rfl⟩
  have HZ := Lib.hid hz
  clear hz
  go_wp2_with fail
  go_ret
  exact ⟨by simp [HZ.out], rfl⟩
theorem cnewH (W : World) (v : Value) (t : TypeId) : (W.alloc (.cells #[v] t)).cell? ⟨W.heap.size, 0, none⟩ = some v ∧ (W.alloc (.cells #[v] t)).frozen? ⟨W.heap.size, 0, none⟩ = false := by
  have h : (W.alloc (.cells #[v] t)).heap[W.heap.size]? = some (.cells #[v] t (0, 0)) := World.alloc_heap_new W _
  generalize W.alloc (.cells #[v] t) = V at h ⊢
  constructor <;> simp [World.cell?, World.frozen?, h]
theorem callocH {W : World} {a : Addr} {v : Value} (o : Obj) (h : W.cell? a = some v) : (W.alloc o).cell? a = some v := cell_kept h (World.grownBy_alloc W o none) (fun r e => by cases e)
theorem three_cells (W : World) (v : Int) (al ml : Option Addr) (n c mc : Nat) (m : List Bool) :
    (((W.alloc (.cells #[.int .i64 v, .slice al n c] 24)).alloc (.cells #[.slice ml m.length mc] 26)).alloc (.cells #[.func (.func 14) #[] #[.pointer (some ⟨W.heap.size + 1, 0, none⟩)]] 41)).cell? ⟨W.heap.size + 1 + 1, 0, none⟩ = some (.func (.func 14) #[] #[.pointer (some ⟨W.heap.size + 1, 0, none⟩)]) ∧ (((W.alloc (.cells #[.int .i64 v, .slice al n c] 24)).alloc (.cells #[.slice ml m.length mc] 26)).alloc (.cells #[.func (.func 14) #[] #[.pointer (some ⟨W.heap.size + 1, 0, none⟩)]] 41)).cell? ⟨W.heap.size + 1, 0, none⟩ = some (.slice ml m.length mc) ∧ (((W.alloc (.cells #[.int .i64 v, .slice al n c] 24)).alloc (.cells #[.slice ml m.length mc] 26)).alloc (.cells #[.func (.func 14) #[] #[.pointer (some ⟨W.heap.size + 1, 0, none⟩)]] 41)).cell? ⟨W.heap.size, 1, none⟩ = some (.slice al n c) ∧ (((W.alloc (.cells #[.int .i64 v, .slice al n c] 24)).alloc (.cells #[.slice ml m.length mc] 26)).alloc (.cells #[.func (.func 14) #[] #[.pointer (some ⟨W.heap.size + 1, 0, none⟩)]] 41)).heap.size = W.heap.size + 1 + 1 + 1 ∧ Below W.heap.size W (((W.alloc (.cells #[.int .i64 v, .slice al n c] 24)).alloc (.cells #[.slice ml m.length mc] 26)).alloc (.cells #[.func (.func 14) #[] #[.pointer (some ⟨W.heap.size + 1, 0, none⟩)]] 41)) := by
  have hb := bel_alloc (bel_alloc (bel_alloc (Below.refl W.heap.size W) (.cells #[.int .i64 v, .slice al n c] 24)) (.cells #[.slice ml m.length mc] 26)) (.cells #[.func (.func 14) #[] #[.pointer (some ⟨W.heap.size + 1, 0, none⟩)]] 41)
  have a0 := new_cell W #[.int .i64 v, .slice al n c] 24 1
  have a1 := cnewH (W.alloc (.cells #[.int .i64 v, .slice al n c] 24)) (.slice ml m.length mc) 26
  have a2 := cnewH ((W.alloc (.cells #[.int .i64 v, .slice al n c] 24)).alloc (.cells #[.slice ml m.length mc] 26)) (.func (.func 14) #[] #[.pointer (some ⟨W.heap.size + 1, 0, none⟩)]) 41
  simp only [World.size_alloc] at a1 a2
  exact ⟨a2.1, callocH _ a1.1, callocH _ (callocH _ a0), by simp, hb⟩
theorem holdsP_any {W : World} {al ml : Option Addr} {C : Cl} {m : List Bool} {v : Int} {c mc : Nat} (h : ClsAt W al C) (hok : OkC C) (hm : BoolsAt W ml m) (hml : m.length ≤ 1000000) :
    Calls Tryz.prog 8 #[.agg #[.int .i64 v, .slice al C.length c], .slice ml m.length mc] W fun e w => e = .returned (.bool (C.all fun k => k.any (satP m))) ∧ Below W.heap.size W w := by
  have hmf : ∀ (fn : Fn) (first cap : Array Value) (w : World), (Instr.makeFunc fn first cap).run Tryz.prog w = .ok (.func fn first cap) w := fun _ _ _ _ => rfl
  obtain ⟨n, hn⟩ : ∃ n, n = C.length := ⟨_, rfl⟩
  have HN := Lib.hid hn
  have HOK := Lib.hid hok
  have HCL := Lib.hid h
  have HM := Lib.hid hm
  have hnb : n < 4611686018427387904 := by rw [hn]; exact hok.n
  have HNB := Lib.hid hnb
  have HML := Lib.hid hml
  rw [← hn]
  have H3 := Lib.hid (three_cells W v al ml n c mc m)
  clear hn h hok hm hnb hml
  go_enter Tryz.func8, Tryz.ntmps8
  go_upto_region 2 with fail
  generalize (((W.alloc (.cells #[.int .i64 v, .slice al n c] 24)).alloc (.cells #[.slice ml m.length mc] 26)).alloc (.cells #[.func (.func 14) #[] #[.pointer (some ⟨W.heap.size + 1, 0, none⟩)]] 41)) = w1 at H3 ⊢
  obtain ⟨k1, k2, k3, k4, k5⟩ := H3.out
  have HSO := Lib.hid (⟨by omega, by omega, k2, k1, HM.out.keep k5⟩ : SoAt (W.heap.size + 1) (W.heap.size + 1 + 1) ml m mc w1)
  have HB := Lib.hid k5
  have lb : W.heap.size < w1.heap.size := by omega
  clear H3 k1 k2 k4 k5
  go_wp2_with fail
  clear k3 lb
  go_loopg [12] n (fun gk v12 wr => ∃ j : Nat, v12 = .int .i64 ((j : Nat) : Int) ∧ j + gk = n ∧ wr = w1 ∧ (C.take j).all (fun k => k.any (satP m)) = true)
  case atStart => exact ⟨0, rfl, by omega, rfl, by simp⟩
  case round =>
    obtain ⟨j, rfl, hj, rfl, hall⟩ := hrel
    have HJ := Lib.hid hj
    have HA := Lib.hid hall
    have q0 : (0 : Int) ≤ ((j : Nat) : Int) := by omega
    by_cases hlt : j < n
    · obtain ⟨k, hk⟩ : ∃ k, C[j]? = some k := ⟨_, List.getElem?_eq_getElem (by rw [← HN.out]; exact hlt)⟩
      obtain ⟨bl, ol, kal, kc, rfl, hbl, hcell, hI⟩ := cls_at (HCL.out.keep HB.out) hk
      have q1 : ((j : Nat) : Int) < ((n : Nat) : Int) := by omega
      have HST := Lib.hid (step_i (j := j) (by have := HNB.out; omega))
      have HK := Lib.hid hk
      have HCO := Lib.hid (contains_any (c := kc) HML.out HSO.out hI (HOK.out.k k (List.mem_of_getElem? hk)))
      clear hj hk hI hall
      go_wp2_with fail
      refine HCO.out.mono ?_
      rintro e w ⟨rfl, rfl⟩
      obtain ⟨s, hs⟩ : ∃ s, k.any (satP m) = s := ⟨_, rfl⟩
      have HSX := Lib.hid hs
      rw [hs]
      clear hs
      cases s with
      | true =>
        go_wp2_with fail
        go_roundg (gk - 1)
        case measure => have := HJ.out; omega
        case rel => exact ⟨j + 1, by first | rfl | (rw [HST.out.1]) | (congr 1; exact HST.out.1), by have := HJ.out; omega, rfl, by rw [List.take_add_one, HK.out]; simp only [List.all_append, HA.out, Option.toList_some, List.all_cons, List.all_nil, HSX.out]; rfl⟩
      | false =>
        have HR : Hid ((C.all fun k => k.any (satP m)) = false) := by
          show _ = _
          rw [List.all_eq_false]
          exact ⟨k, List.mem_of_getElem? HK.out, by rw [HSX.out]; decide⟩
        go_wp2_with fail
        go_ret
        exact ⟨by simp [HR.out], HB.out⟩
    · have q1 : decide (((j : Nat) : Int) < ((n : Nat) : Int)) = false := decide_eq_false (by omega)
      obtain rfl : j = n := by omega
      have HR : Hid ((C.all fun k => k.any (satP m)) = true) := by
        show _ = _
        rw [← hall, List.take_of_length_le (by rw [← HN.out]; exact Nat.le_refl _)]
      clear hj hall
      go_wp2_with fail
      go_ret
      exact ⟨by simp [HR.out], HB.out⟩
theorem cholds_any {W : World} {al ml : Option Addr} {C : Cl} {m : List Bool} {v : Int} {c mc : Nat} (h : ClsAt W al C) (hok : OkC C) (hm : BoolsAt W ml m) (hml : m.length ≤ 1000000) (hlit : ∀ k ∈ C, ∀ l ∈ k, isL l 1000000 = true) :
    Calls Tryz.prog 8 #[.agg #[.int .i64 v, .slice al C.length c], .slice ml m.length mc] W fun e w => e = .returned (.bool (holdsC m C)) ∧ Below W.heap.size W w := by
  have he : (C.all fun k => k.any (satP m)) = holdsC m C := by
    unfold holdsC
    rw [Bool.eq_iff_iff, List.all_eq_true, List.all_eq_true]
    refine forall_congr' fun k => forall_congr' fun hk => ?_
    rw [List.any_eq_true, List.any_eq_true]
    constructor
    · rintro ⟨l, hl, hs⟩
      unfold satP at hs
      rw [Bool.and_eq_true] at hs
      exact ⟨l, hl, hs.2⟩
    · rintro ⟨l, hl, hs⟩
      exact ⟨l, hl, by unfold satP; rw [hlit k hk l hl, hs]; rfl⟩
  have := holdsP_any (v := v) (c := c) (mc := mc) h hok hm hml
  rw [he] at this
  exact this
end Cf
end Go.Proofs.YtmegadjeficfjaaGreatDoor
