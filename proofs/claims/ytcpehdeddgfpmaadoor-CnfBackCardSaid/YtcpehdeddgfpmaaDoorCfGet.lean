/-
  The document's Get, as a fact on one call.
-/
import Derived.Test.YtcpehdeddgfpmaaDoorCfGetA
namespace Go.Proofs.YtcpehdeddgfpmaaDoor
open Go.RowKit
namespace Cf
set_option maxHeartbeats 4000000
set_option maxRecDepth 100000

/-- What Get answers of a text. -/
def GetE (W : World) (G : Option (Int × Cl)) (e : Ending) (w : World) : Prop := Below W.heap.size W w ∧
  match G with
  | none => e = .returned (.tuple #[.agg #[.int .i64 0, .slice none 0 0], .int .i64 5])
  | some (v, C) => ∃ a c, e = .returned (.tuple #[.agg #[.int .i64 v, .slice a C.length c], .int .i64 0]) ∧ ClsAt w a C
theorem build_zero (w : World) : (Instr.build 25 #[]).run Tryd.prog w = .ok (.agg #[.int .i64 0, .slice none 0 0]) w := run_build w _ _ _ (by kernel_rfl)
theorem build_v (w : World) (v : Int) : (Instr.build 25 #[(0, .int .i64 v)]).run Tryd.prog w = .ok (.agg #[.int .i64 v, .slice none 0 0]) w := run_build w _ _ _ (by kernel_rfl)
theorem two_put {b : Nat} {v v0 : Int} {s u : Value} {w : World} (h : ResAt b v0 s w) : (w.setCell ⟨b, 0, none⟩ (.int .i64 v)).cell? ⟨b, 0, none⟩ = some (.int .i64 v) ∧ ((w.setCell ⟨b, 0, none⟩ (.int .i64 v)).setCell ⟨b, 1, none⟩ u).cell? ⟨b, 1, none⟩ = some u := by
  refine ⟨World.cell?_setCell_same' _ _ _ (by rw [h.c0]; rfl), World.cell?_setCell_same' _ _ _ ?_⟩
  rw [World.cell?_setCell_other _ _ _ _ (by simp), h.c1]; rfl
theorem getE_none {W w : World} {G : Option (Int × Cl)} (h : G = none) (hb : Below W.heap.size W w) : GetE W G (.returned (.tuple #[.agg #[.int .i64 0, .slice none 0 0], .int .i64 5])) w := by
  subst h; exact ⟨hb, rfl⟩
theorem getE_some {W w : World} {G : Option (Int × Cl)} {v : Int} {C : Cl} {a : Option Addr} {c : Nat} (h : G = some (v, C)) (hb : Below W.heap.size W w) (hc : ClsAt w a C) : GetE W G (.returned (.tuple #[.agg #[.int .i64 v, .slice a C.length c], .int .i64 0])) w := by
  subst h; exact ⟨hb, a, c, rfl, hc⟩
theorem str_one {x : By} {X : ByteArray} (h : X = ⟨x.toArray⟩) : X.toList = x := by rw [h, ByteArray.toList_eq]
theorem getB_end {S : By} (h : (splitB 10 S).length < 2 ∨ (splitB 10 S).getLast? ≠ some []) : getB S = none := by
  unfold getB
  rw [if_pos h]
theorem getB_head {S x0 : By} (h2 : ¬ (splitB 10 S).length < 2) (hl : (splitB 10 S).getLast? = some []) (h0 : (splitB 10 S)[0]? = some x0) (h : (splitB 32 x0).length ≠ 4 ∨ (splitB 32 x0)[0]? ≠ some [112] ∨ (splitB 32 x0)[1]? ≠ some [99, 110, 102]) : getB S = none := by
  unfold getB
  have e : (splitB 10 S).headD [] = x0 := by
    cases hs : splitB 10 S with
    | nil => rw [hs] at h0; simp at h0
    | cons y z => rw [hs] at h0; simpa using h0
  simp only [e]
  rw [if_neg (by rintro (c | c); exact h2 c; exact c hl), if_pos h]
theorem getB_nums {S x0 a0 a1 a2 a3 : By} (h2 : ¬ (splitB 10 S).length < 2) (hl : (splitB 10 S).getLast? = some []) (h0 : (splitB 10 S)[0]? = some x0) (hk : splitB 32 x0 = [a0, a1, a2, a3])
    (h : ¬ ∃ v m : Int, readB a2 = some v ∧ readB a3 = some m ∧ 0 ≤ v ∧ v ≤ 1000000 ∧ m = ((splitB 10 S).length : Int) - 2) : getB S = none := by
  unfold getB
  have e : (splitB 10 S).headD [] = x0 := by
    cases hs : splitB 10 S with
    | nil => rw [hs] at h0; simp at h0
    | cons y z => rw [hs] at h0; simpa using h0
  simp only [e, hk]
  rw [if_neg (by rintro (c | c); exact h2 c; exact c hl)]
  split
  · rfl
  · simp only [List.getD_cons_succ, List.getD_cons_zero]
    cases r2 : readB a2 with
    | none => rfl
    | some v =>
      cases r3 : readB a3 with
      | none => rfl
      | some m =>
        simp only
        rw [if_neg (fun c => h ⟨v, m, r2, r3, c.1, c.2.1, c.2.2⟩)]
/-- What Get answers, of the clauses that were read and the lines that are left. -/
def tailG (v : Int) (C : Cl) (l : List By) : Option (Int × Cl) := match l.mapM (lineC v) with
  | some D => some (v, C ++ D)
  | none => none
theorem tailG_nil (v : Int) (C : Cl) : tailG v C [] = some (v, C) := by simp [tailG]
theorem tailG_cons {v : Int} {C : Cl} {y : By} {l : List By} {k : List Int} (h : lineC v y = some k) : tailG v C (y :: l) = tailG v (C ++ [k]) l := by
  unfold tailG
  rw [List.mapM_cons, h]
  cases l.mapM (lineC v) <;> simp
theorem tailG_none {v : Int} {C : Cl} {y : By} {l : List By} (h : lineC v y = none) : tailG v C (y :: l) = none := by
  unfold tailG
  rw [List.mapM_cons, h]; rfl
theorem getB_lines {S x0 a2 a3 : By} {v m : Int} (hl : (splitB 10 S).getLast? = some []) (h0 : (splitB 10 S)[0]? = some x0) (hk : splitB 32 x0 = [[112], [99, 110, 102], a2, a3])
    (r2 : readB a2 = some v) (r3 : readB a3 = some m) (hv0 : 0 ≤ v) (hv1 : v ≤ 1000000) (hm : m = ((splitB 10 S).length : Int) - 2) (h2 : ¬ (splitB 10 S).length < 2) : getB S = tailG v [] ((splitB 10 S).tail.dropLast) := by
  unfold getB tailG
  have e : (splitB 10 S).headD [] = x0 := by
    cases hs : splitB 10 S with
    | nil => rw [hs] at h0; simp at h0
    | cons y z => rw [hs] at h0; simpa using h0
  simp only [e, hk]
  rw [if_neg (by rintro (c | c); exact h2 c; exact c hl), if_neg (by simp)]
  simp only [List.getD_cons_succ, List.getD_cons_zero, r2, r3]
  rw [if_pos ⟨hv0, hv1, hm⟩]
  rfl
theorem getD_some {r : Option Int} {z : Int} (h1 : z = r.getD 0) (h2 : true = r.isSome) : r = some z := by
  cases r with
  | none => cases h2
  | some x => simp at h1; rw [h1]
/-- The literals of a line: those that were read, the words that are left. -/
def tailL (v : Int) (T : List Int) (l : List By) : Option (List Int) := match l.mapM (fun x => match readB x with
    | some z => if isL z v = true then some z else none
    | none => none) with
  | some D => some (T ++ D)
  | none => none
theorem tailL_nil (v : Int) (T : List Int) : tailL v T [] = some T := by simp [tailL]
theorem tailL_cons {v : Int} {T : List Int} {x : By} {l : List By} {z : Int} (h : readB x = some z) (h2 : isL z v = true) : tailL v T (x :: l) = tailL v (T ++ [z]) l := by
  unfold tailL
  rw [List.mapM_cons, h]
  simp only
  rw [if_pos h2]
  generalize (l.mapM fun x => match readB x with
    | some z => if isL z v = true then some z else none
    | none => none) = r
  cases r <;> simp
theorem tailL_none {v : Int} {T : List Int} {x : By} {l : List By} (h : readB x = none ∨ ∃ z, readB x = some z ∧ isL z v = false) : tailL v T (x :: l) = none := by
  unfold tailL
  rw [List.mapM_cons]
  rcases h with h | ⟨z, h, h2⟩
  · rw [h]; rfl
  · rw [h]; simp only; rw [h2]; rfl
theorem drop_line {L : List By} {i : Nat} {y : By} (h : L[i]? = some y) (hl : i + 1 < L.length) : (L.drop i).dropLast = y :: (L.drop (i + 1)).dropLast := by
  obtain ⟨hi, he⟩ := List.getElem?_eq_some_iff.1 h
  rw [List.drop_eq_getElem_cons hi, he]
  cases hd : L.drop (i + 1) with
  | nil =>
    have := congrArg List.length hd
    rw [List.length_drop] at this
    simp at this
    omega
  | cons a b => rfl
theorem bel_of {B : Nat} {W w : World} (_h : Below B W w) : Below w.heap.size w w := Below.refl _ _
theorem str_eq {X : ByteArray} {x c : By} (h : X = ⟨x.toArray⟩) (e : x = c) : X.toList = c ∧ (X.toList == c) = true ∧ (!X.toList == c) = false := by
  have := str_one h
  subst e
  rw [this]; simp
theorem str_ne {X : ByteArray} {x c : By} (h : X = ⟨x.toArray⟩) (e : ¬ x = c) : ¬ X.toList = c ∧ (X.toList == c) = false ∧ (!X.toList == c) = true := by
  have := str_one h
  rw [this]; simp [e]
theorem last_at {L : List By} {n : Nat} {x : By} (h : L.length = n + 1) (hx : L[n]? = some x) : L.getLast? = some x := by
  rw [List.getLast?_eq_getElem?, h]; exact hx

theorem rget_any {s : ByteArray} {W : World} (hs : s.size ≤ 20000) :
    Calls Tryd.prog 7 #[.string s] W (GetE W (getB s.data.toList)) := by
  have HP := Lib.hid (fun (w : World) => rparts_any (s := s) (bi := 10) (b := 10) (W := w) rfl (by omega))
  obtain ⟨L, hL⟩ : ∃ L, L = splitB 10 s.data.toList := ⟨_, rfl⟩
  have HL := Lib.hid hL
  have hLl : L.length ≤ 20001 := by rw [hL]; have := split_len 10 s.data.toList; rw [← bsize] at this; omega
  have HLX : Hid (∀ x ∈ L, x.length ≤ 20000) := by
    show ∀ x ∈ L, _
    intro x hx
    rw [hL] at hx
    have := split_le 10 hx
    rw [← bsize] at this
    omega
  obtain ⟨G, hG⟩ : ∃ G, G = getB s.data.toList := ⟨_, rfl⟩
  have HGG := Lib.hid hG
  rw [← hG]
  clear hL hG
  have hz0 := build_zero
  have hz1 := build_v
  go_enter Tryd.func7, Tryd.ntmps7
  go_wp2_with fail
  refine (HP.out _).mono ?_
  rintro e w1 ⟨v, rfl, hg⟩
  rw [← HL.out] at hg
  have HR1 := Lib.hid ((ResAt.new (W := W) (v := 0) (s := .slice none 0 0)).call hg.bel)
  have HB1 := Lib.hid (bel_call (bel_alloc (Below.refl W.heap.size W) (.cells #[.int .i64 0, .slice none 0 0] 25)) hg.bel)
  obtain ⟨la, lc, rfl⟩ := hg.shape
  have HVL := Lib.hid hg.vals
  rw [List.length_map]
  have c0 := HR1.out.c0
  have c1 := HR1.out.c1
  have f0 := HR1.out.fr 0
  have f1 := HR1.out.fr 1
  have lb := HR1.out.lt
  clear hg HP
  by_cases h2 : L.length < 2
  · have HE : Hid (G = none) := by
      show _ = _
      rw [HGG.out]; exact getB_end (.inl (by rw [← HL.out]; exact h2))
    have q2 : ((L.length : Nat) : Int) < 2 := by omega
    clear h2
    go_wp2_with fail
    (obtain ⟨p0, p1⟩ := two_put (v := 0) (u := .slice none 0 0) HR1.out; exact bodyPost_ret (v := .tuple #[.agg #[.int .i64 0, .slice none 0 0], .int .i64 5]) (by simp [results, Tryd.results7, go_sem, p0, p1]) rfl (getE_none HE.out (by repeat (first | exact HB1.out | (refine Below.setCell ?_ (by simp) _)))))
  obtain ⟨n, hn⟩ : ∃ n, L.length = n + 1 := ⟨L.length - 1, by omega⟩
  obtain ⟨x, hx⟩ : ∃ x, L[n]? = some x := ⟨_, List.getElem?_eq_getElem (by omega)⟩
  obtain ⟨lbk, lo, rfl, hlb, hlast⟩ := vals_at (i := n) (x := strV x) HVL.out (by rw [List.getElem?_map, hx]; rfl)
  unfold strV at hlast
  obtain ⟨X, hX⟩ : ∃ X : ByteArray, X = ⟨x.toArray⟩ := ⟨_, rfl⟩
  have HX := Lib.hid (str_one hX)
  rw [← hX] at hlast
  rw [hn]
  have hn1 : 1 ≤ n := by omega
  have hn2 : n ≤ 20000 := by omega
  have q2 : decide (((n : Nat) : Int) + 1 < 2) = false := decide_eq_false (by omega)
  have HN := Lib.hid hn
  have HLA := Lib.hid (last_at hn hx)
  clear hX h2 hn hx
  by_cases hxe : x = []
  case neg =>
    have e1 : X.toList.isEmpty = false := by
      rw [HX.out]
      cases x with
      | nil => exact absurd rfl hxe
      | cons _ _ => rfl
    have e2 : (!X.toList.isEmpty) = true := by rw [e1]; rfl
    have HE : Hid (G = none) := by
      show _ = _
      rw [HGG.out]; exact getB_end (.inr (by rw [← HL.out, HLA.out]; intro c; injection c with c; exact hxe c))
    clear hxe
    go_wp2_with fail
    (obtain ⟨p0, p1⟩ := two_put (v := 0) (u := .slice none 0 0) HR1.out; exact bodyPost_ret (v := .tuple #[.agg #[.int .i64 0, .slice none 0 0], .int .i64 5]) (by simp [results, Tryd.results7, go_sem, p0, p1]) rfl (getE_none HE.out (by repeat (first | exact HB1.out | (refine Below.setCell ?_ (by simp) _)))))
  subst hxe
  have e0 : X.toList = [] := HX.out
  have e1 : X.toList.isEmpty = true := by rw [e0]; rfl
  have e2 : (!X.toList.isEmpty) = false := by rw [e1]; rfl
  go_upto_region 4 with fail
  obtain ⟨x0, hx0⟩ : ∃ x, L[0]? = some x := ⟨_, List.getElem?_eq_getElem (by have := HN.out; omega)⟩
  have hfirst : w1.cell? ⟨lbk, lo, none⟩ = some (.string ⟨x0.toArray⟩) := by
    obtain ⟨lbk', lo', he, _, h⟩ := vals_at (i := 0) (x := strV x0) HVL.out (by rw [List.getElem?_map, hx0]; rfl)
    injection he with he
    injection he with h1 h2
    subst h1 h2
    exact h
  obtain ⟨X0, hX0⟩ : ∃ X : ByteArray, X = ⟨x0.toArray⟩ := ⟨_, rfl⟩
  rw [← hX0] at hfirst
  have hp0 : X0.data.toList = x0 := by rw [hX0]
  have HP2 := Lib.hid (fun (w : World) => rparts_any (s := X0) (bi := 32) (b := 32) (W := w) rfl (by rw [bsize, hp0]; have := HLX.out x0 (List.mem_of_getElem? hx0); omega))
  rw [hp0] at HP2
  have HX0 := Lib.hid hx0
  clear e0 e1 e2 q2 hlast hX0 hp0 hx0
  go_wp2_with fail
  refine (HP2.out _).mono ?_
  rintro e w2 ⟨v2, rfl, hg2⟩
  obtain ⟨K, hK⟩ : ∃ K, K = splitB 32 x0 := ⟨_, rfl⟩
  have HK := Lib.hid hK
  rw [← hK] at hg2
  have HR2 := Lib.hid (HR1.out.call hg2.bel)
  have HB2 := Lib.hid (bel_call HB1.out hg2.bel)
  have HVL2 := Lib.hid (HVL.out.keep hg2.bel)
  obtain ⟨ka, kc, rfl⟩ := hg2.shape
  have HVK := Lib.hid hg2.vals
  rw [List.length_map]
  clear hg2 hK HP2 c0 c1 f0 f1 lb hlb hfirst
  have c0 := HR2.out.c0
  have c1 := HR2.out.c1
  have f0 := HR2.out.fr 0
  have f1 := HR2.out.fr 1
  have lb := HR2.out.lt
  by_cases hk4 : K.length = 4
  case neg =>
    have d4 : (((K.length : Nat) : Int) != 4) = true := by
      have : ¬ ((K.length : Nat) : Int) = 4 := by omega
      simpa using this
    have HE : Hid (G = none) := by
      show _ = _
      rw [HGG.out]; exact getB_head (by rw [← HL.out, HN.out]; omega) (by rw [← HL.out]; exact HLA.out) (by rw [← HL.out]; exact HX0.out) (.inl (by rw [← HK.out]; exact hk4))
    clear hk4
    go_wp2_with fail
    (obtain ⟨p0, p1⟩ := two_put (v := 0) (u := .slice none 0 0) HR2.out; exact bodyPost_ret (v := .tuple #[.agg #[.int .i64 0, .slice none 0 0], .int .i64 5]) (by simp [results, Tryd.results7, go_sem, p0, p1]) rfl (getE_none HE.out (by repeat (first | exact HB2.out | (refine Below.setCell ?_ (by simp) _)))))
  obtain ⟨a0, a1, a2, a3, hKe⟩ : ∃ a0 a1 a2 a3, K = [a0, a1, a2, a3] := by
    match K, hk4 with
    | [a, b, c, d], _ => exact ⟨a, b, c, d, rfl⟩
  subst hKe
  obtain ⟨kb, ko, rfl, hkb, g0⟩ := vals_at (i := 0) (x := strV a0) HVK.out rfl
  have kat : ∀ i x, ([a0, a1, a2, a3].map strV)[i]? = some x → w2.cell? ⟨kb, ko + i, none⟩ = some x := by
    intro i x hx
    obtain ⟨b', o', he, _, h⟩ := vals_at HVK.out hx
    injection he with he
    injection he with h1 h2
    subst h1 h2
    exact h
  have g0 : w2.cell? ⟨kb, ko, none⟩ = some (strV a0) := g0
  have g1 := kat 1 (strV a1) rfl
  have g2 := kat 2 (strV a2) rfl
  have g3 := kat 3 (strV a3) rfl
  unfold strV at g0 g1 g2 g3
  obtain ⟨A0, hA0⟩ : ∃ X : ByteArray, X = ⟨a0.toArray⟩ := ⟨_, rfl⟩
  obtain ⟨A1, hA1⟩ : ∃ X : ByteArray, X = ⟨a1.toArray⟩ := ⟨_, rfl⟩
  obtain ⟨A2, hA2⟩ : ∃ X : ByteArray, X = ⟨a2.toArray⟩ := ⟨_, rfl⟩
  obtain ⟨A3, hA3⟩ : ∃ X : ByteArray, X = ⟨a3.toArray⟩ := ⟨_, rfl⟩
  rw [← hA0] at g0
  rw [← hA1] at g1
  rw [← hA2] at g2
  rw [← hA3] at g3
  clear kat hk4
  have HA0 := Lib.hid hA0
  have HA1 := Lib.hid hA1
  have HA2 := Lib.hid hA2
  have HA3 := Lib.hid hA3
  clear hA0 hA1 hA2 hA3
  by_cases ha0 : a0 = [112]
  case neg =>
    obtain ⟨s1, s2, s3⟩ := str_ne HA0.out ha0
    have HE : Hid (G = none) := by
      show _ = _
      rw [HGG.out]; exact getB_head (by rw [← HL.out, HN.out]; omega) (by rw [← HL.out]; exact HLA.out) (by rw [← HL.out]; exact HX0.out) (.inr (.inl (by rw [← HK.out]; simpa using ha0)))
    clear ha0
    go_wp2_with fail
    (obtain ⟨p0, p1⟩ := two_put (v := 0) (u := .slice none 0 0) HR2.out; exact bodyPost_ret (v := .tuple #[.agg #[.int .i64 0, .slice none 0 0], .int .i64 5]) (by simp [results, Tryd.results7, go_sem, p0, p1]) rfl (getE_none HE.out (by repeat (first | exact HB2.out | (refine Below.setCell ?_ (by simp) _)))))
  by_cases ha1 : a1 = [99, 110, 102]
  case neg =>
    obtain ⟨s1, s2, s3⟩ := str_eq HA0.out ha0
    obtain ⟨t1, t2, t3⟩ := str_ne HA1.out ha1
    have HE : Hid (G = none) := by
      show _ = _
      rw [HGG.out]; exact getB_head (by rw [← HL.out, HN.out]; omega) (by rw [← HL.out]; exact HLA.out) (by rw [← HL.out]; exact HX0.out) (.inr (.inr (by rw [← HK.out]; simpa using ha1)))
    clear ha0 ha1
    go_wp2_with fail
    (obtain ⟨p0, p1⟩ := two_put (v := 0) (u := .slice none 0 0) HR2.out; exact bodyPost_ret (v := .tuple #[.agg #[.int .i64 0, .slice none 0 0], .int .i64 5]) (by simp [results, Tryd.results7, go_sem, p0, p1]) rfl (getE_none HE.out (by repeat (first | exact HB2.out | (refine Below.setCell ?_ (by simp) _)))))
  obtain ⟨s1, s2, s3⟩ := str_eq HA0.out ha0
  obtain ⟨t1, t2, t3⟩ := str_eq HA1.out ha1
  have HA := Lib.hid (And.intro ha0 ha1)
  clear ha0 ha1
  go_upto_region 7 with fail
  clear s1 s2 s3 t1 t2 t3 g0 g1
  have HRD2 := Lib.hid (fun (w : World) => rread_any (s := A2) (W := w))
  have HRD3 := Lib.hid (fun (w : World) => rread_any (s := A3) (W := w))
  rw [show A2.data.toList = a2 by rw [HA2.out]] at HRD2
  rw [show A3.data.toList = a3 by rw [HA3.out]] at HRD3
  obtain ⟨z2, b2, h2⟩ : ∃ z b, z = (readB a2).getD 0 ∧ b = (readB a2).isSome := ⟨_, _, rfl, rfl⟩
  obtain ⟨z3, b3, h3⟩ : ∃ z b, z = (readB a3).getD 0 ∧ b = (readB a3).isSome := ⟨_, _, rfl, rfl⟩
  rw [← h2.1, ← h2.2] at HRD2
  rw [← h3.1, ← h3.2] at HRD3
  have HZ2 := Lib.hid h2
  have HZ3 := Lib.hid h3
  clear h2 h3
  go_wp2_with fail
  refine (HRD2.out _).mono ?_; rintro e w' ⟨rfl, rfl⟩
  go_wp2_with fail
  refine (HRD3.out _).mono ?_; rintro e w' ⟨rfl, rfl⟩
  go_upto_region 9 with fail
  by_cases hgood : b2 = true ∧ b3 = true ∧ 0 ≤ z2 ∧ z2 ≤ 1000000 ∧ z3 = ((n : Nat) : Int) - 1
  case neg =>
    have HE : Hid (G = none) := by
      show _ = _
      rw [HGG.out]
      refine getB_nums (by rw [← HL.out, HN.out]; omega) (by rw [← HL.out]; exact HLA.out) (by rw [← HL.out]; exact HX0.out) (by rw [← HK.out]) ?_
      rintro ⟨v, m, r1, r2, r3, r4, r5⟩
      obtain ⟨y1, y2⟩ := HZ2.out
      obtain ⟨y3, y4⟩ := HZ3.out
      rw [r1] at y1 y2
      rw [r2] at y3 y4
      refine hgood ⟨y2, y4, by rw [y1]; exact r3, by rw [y1]; exact r4, ?_⟩
      rw [← HL.out, HN.out] at r5
      have : z3 = m := y3
      omega
    clear HZ2 HZ3 HRD2 HRD3
    cases b2 with
    | false =>
      clear hgood
      go_wp2_with fail
      (obtain ⟨p0, p1⟩ := two_put (v := 0) (u := .slice none 0 0) HR2.out; exact bodyPost_ret (v := .tuple #[.agg #[.int .i64 0, .slice none 0 0], .int .i64 5]) (by simp [results, Tryd.results7, go_sem, p0, p1]) rfl (getE_none HE.out (by repeat (first | exact HB2.out | (refine Below.setCell ?_ (by simp) _)))))
    | true =>
      cases b3 with
      | false =>
        clear hgood
        go_wp2_with fail
        (obtain ⟨p0, p1⟩ := two_put (v := 0) (u := .slice none 0 0) HR2.out; exact bodyPost_ret (v := .tuple #[.agg #[.int .i64 0, .slice none 0 0], .int .i64 5]) (by simp [results, Tryd.results7, go_sem, p0, p1]) rfl (getE_none HE.out (by repeat (first | exact HB2.out | (refine Below.setCell ?_ (by simp) _)))))
      | true =>
        by_cases hz0 : z2 < 0
        · clear hgood
          go_wp2_with fail
          (obtain ⟨p0, p1⟩ := two_put (v := 0) (u := .slice none 0 0) HR2.out; exact bodyPost_ret (v := .tuple #[.agg #[.int .i64 0, .slice none 0 0], .int .i64 5]) (by simp [results, Tryd.results7, go_sem, p0, p1]) rfl (getE_none HE.out (by repeat (first | exact HB2.out | (refine Below.setCell ?_ (by simp) _)))))
        · by_cases hz9 : 1000000 < z2
          · have hz0 : 0 ≤ z2 := by omega
            clear hgood
            go_wp2_with fail
            (obtain ⟨p0, p1⟩ := two_put (v := 0) (u := .slice none 0 0) HR2.out; exact bodyPost_ret (v := .tuple #[.agg #[.int .i64 0, .slice none 0 0], .int .i64 5]) (by simp [results, Tryd.results7, go_sem, p0, p1]) rfl (getE_none HE.out (by repeat (first | exact HB2.out | (refine Below.setCell ?_ (by simp) _)))))
          · have q3 : (z3 != ((n : Nat) : Int) + 1 - 2) = true := by
              have : ¬ z3 = ((n : Nat) : Int) + 1 - 2 := fun e => hgood ⟨rfl, rfl, by omega, by omega, by omega⟩
              simpa using this
            have q4 : decide (z2 < 0) = false := decide_eq_false hz0
            have q5 : decide (1000000 < z2) = false := decide_eq_false hz9
            have hz0 : 0 ≤ z2 := by omega
            have hz9 : z2 ≤ 1000000 := by omega
            clear hgood
            go_wp2_with fail
            (obtain ⟨p0, p1⟩ := two_put (v := 0) (u := .slice none 0 0) HR2.out; exact bodyPost_ret (v := .tuple #[.agg #[.int .i64 0, .slice none 0 0], .int .i64 5]) (by simp [results, Tryd.results7, go_sem, p0, p1]) rfl (getE_none HE.out (by repeat (first | exact HB2.out | (refine Below.setCell ?_ (by simp) _)))))
  obtain ⟨rfl, rfl, hv0, hv1, hz3⟩ := hgood
  have HZE := Lib.hid hz3
  have q3 : (z3 != ((n : Nat) : Int) + 1 - 2) = false := by
    have : z3 = ((n : Nat) : Int) + 1 - 2 := by omega
    simpa using this
  have q4 : decide (z2 < 0) = false := decide_eq_false (by omega)
  have q5 : decide (1000000 < z2) = false := decide_eq_false (by omega)
  clear hz3
  go_upto_region 11 with fail
  clear q3 q4 q5 g2 g3
  obtain ⟨v, hvz⟩ : ∃ v, v = z2 := ⟨_, rfl⟩
  subst hvz
  have HGM : Hid (G = tailG v [] ((L.drop 1).dropLast)) := by
    show _ = _
    rw [HGG.out]
    obtain ⟨y1, y2⟩ := HZ2.out
    obtain ⟨y3, y4⟩ := HZ3.out
    refine getB_lines (a2 := a2) (a3 := a3) (m := z3) (by rw [← HL.out]; exact HLA.out) (by rw [← HL.out]; exact HX0.out) (by rw [← HK.out, HA.out.1, HA.out.2]) (getD_some y1 y2) (getD_some y3 y4) hv0 hv1 ?_ (by rw [← HL.out, HN.out]; omega) |>.trans ?_
    · rw [← HL.out, HN.out]; have := HZE.out; omega
    · rw [← HL.out, List.drop_one]
  have HNL : Hid (z3 ≤ 100000) := by show _ ≤ _; have := HZE.out; omega
  have HSS : Hid (s.size ≤ 20000) := hs
  have HV := Lib.hid (And.intro hv0 hv1)
  clear HGG HZ2 HZ3 HRD2 HRD3 HA HA0 HA1 HA2 HA3 HX0 HZE HK HVK hkb HLA HR1 HB1 HVL HX hs
  have H3 := Lib.hid (ResAt.put0 (u := v) (ResAt.new (W := w2) (v := 0) (s := .slice none 0 0)))
  have HB3 := Lib.hid (((bel_alloc (Below.refl w2.heap.size w2) (.cells #[.int .i64 0, .slice none 0 0] 25)).setCell (p := ⟨w2.heap.size, 0, none⟩) (Nat.le_refl _) (.int .i64 v)).setCell (p := ⟨w2.heap.size, 1, none⟩) (Nat.le_refl _) (.slice none 0 0))
  have H3' := Lib.hid (H3.out.put (u := .slice none 0 0))
  go_wp2_with fail
  obtain ⟨w3, hw3⟩ : ∃ w3, w3 = ((w2.alloc (.cells #[.int .i64 0, .slice none 0 0] 25)).setCell ⟨w2.heap.size, 0, none⟩ (.int .i64 v)).setCell ⟨w2.heap.size, 1, none⟩ (.slice none 0 0) := ⟨_, rfl⟩
  rw [← hw3] at HB3 H3' ⊢
  clear hw3 H3 hz0 hz1 c0 c1 f0 f1
  have hz0 := build_zero
  have hin : (1 : Int) = ((1 : Nat) : Int) := rfl
  go_loopg [11] (n - 1) (fun gk v11 wr => ∃ (i : Nat) (cv : Value) (C : Cl), v11 = .int .i64 ((i : Nat) : Int) ∧ i + gk = n ∧ 1 ≤ i ∧ Below w2.heap.size w2 wr ∧ ResAt w2.heap.size v cv wr ∧ ClsOwn (w2.heap.size + 1) cv C wr ∧ C.length + 1 = i ∧ G = tailG v C ((L.drop i).dropLast))
  case atStart => exact ⟨1, _, [], rfl, by omega, Nat.le_refl _, HB3.out, H3'.out, ClsOwn.zero, rfl, HGM.out⟩
  clear HB3 H3' HGM hin
  case round =>
    obtain ⟨i, cv, C, rfl, hi, hi1, hb, hbc, hcl, hlen, hgt⟩ := hrel
    obtain ⟨gO, hgO⟩ : ∃ gO, gO = gk := ⟨_, rfl⟩
    subst hgO
    obtain ⟨ca, cc, rfl⟩ := hcl.shape
    have HI := Lib.hid hi
    have HI1 := Lib.hid hi1
    have HB := Lib.hid hb
    have HBC := Lib.hid hbc
    have HCL := Lib.hid hcl
    have HLEN := Lib.hid hlen
    have HGT := Lib.hid hgt
    have hcb : C.length ≤ 30000 := by omega
    have q0 : (0 : Int) ≤ ((i : Nat) : Int) := by omega
    have lbk0 : w2.heap.size ≤ wr.heap.size := hb.size
    clear hlen hgt
    by_cases hlt : i < n
    · obtain ⟨y, hy⟩ : ∃ y, L[i]? = some y := ⟨_, List.getElem?_eq_getElem (by have := HN.out; omega)⟩
      have hline : wr.cell? ⟨lbk, lo + i, none⟩ = some (strV y) := by
        obtain ⟨lbk', lo', he, _, h⟩ := vals_at (i := i) (x := strV y) (HVL2.out.keep hb) (by rw [List.getElem?_map, hy]; rfl)
        injection he with he
        injection he with h1 h2
        subst h1 h2
        exact h
      unfold strV at hline
      obtain ⟨Y, hY⟩ : ∃ X : ByteArray, X = ⟨y.toArray⟩ := ⟨_, rfl⟩
      rw [← hY] at hline
      have hpy : Y.data.toList = y := by rw [hY]
      have HPY := Lib.hid (fun (w : World) => rparts_any (s := Y) (bi := 32) (b := 32) (W := w) rfl (by rw [bsize, hpy]; have := HLX.out y (List.mem_of_getElem? hy); omega))
      rw [hpy] at HPY
      have HYL : Hid (y.length ≤ 20000) := HLX.out y (List.mem_of_getElem? hy)
      have HDL : Hid ((L.drop i).dropLast = y :: (L.drop (i + 1)).dropLast) := drop_line hy (by rw [HN.out]; omega)
      have q1 : ((i : Nat) : Int) < ((n : Nat) : Int) := by omega
      have HS := Lib.hid (step_i (j := i) (by omega))
      clear hi hi1 hb hbc hcl hy hY hpy
      go_wp2_with fail
      refine (HPY.out _).mono ?_
      rintro e w4 ⟨v4, rfl, hg4⟩
      obtain ⟨K2, hK2⟩ : ∃ K, K = splitB 32 y := ⟨_, rfl⟩
      have HK2 := Lib.hid hK2
      rw [← hK2] at hg4
      obtain ⟨m, hm⟩ : ∃ m, K2.length = m + 1 := ⟨K2.length - 1, by
        have := split_ne 32 y
        rw [← hK2] at this
        have := List.length_pos_iff.2 this
        omega⟩
      have hml : m ≤ 20000 := by
        have := split_len 32 y
        have := HYL.out
        rw [← hK2] at *
        omega
      have HB4 := Lib.hid (bel_call (bel_of HB.out) hg4.bel)
      have HRW := Lib.hid ((HR2.out.call HB.out).call hg4.bel)
      have HBW := Lib.hid ((bel_call (bel_call HB2.out HB.out) hg4.bel))
      have HBC4 := Lib.hid (HBC.out.call hg4.bel)
      have HCL4 := Lib.hid (HCL.out.call hg4.bel)
      have HB24 := Lib.hid (bel_call HB.out hg4.bel)
      have HSZ4 := Lib.hid hg4.bel.size
      obtain ⟨ka, kc, rfl⟩ := hg4.shape
      have HVK := Lib.hid hg4.vals
      rw [List.length_map, hm]
      obtain ⟨x, hx⟩ : ∃ x, K2[m]? = some x := ⟨_, List.getElem?_eq_getElem (by omega)⟩
      obtain ⟨kb, ko, rfl, hkb, hlast⟩ := vals_at (i := m) (x := strV x) HVK.out (by rw [List.getElem?_map, hx]; rfl)
      unfold strV at hlast
      obtain ⟨X, hX⟩ : ∃ X : ByteArray, X = ⟨x.toArray⟩ := ⟨_, rfl⟩
      have HX := Lib.hid hX
      rw [← hX] at hlast
      have HM := Lib.hid hm
      have HKL := Lib.hid (last_at hm hx)
      clear hg4 hK2 HPY hline hX hm hx lbk0
      have c0 := HRW.out.c0
      have c1 := HRW.out.c1
      have f0 := HRW.out.fr 0
      have f1 := HRW.out.fr 1
      have lb := HRW.out.lt
      by_cases hx0 : x = [48]
      case neg =>
        obtain ⟨s1, s2, s3⟩ := str_ne HX.out hx0
        have HE : Hid (G = none) := by
          show _ = _
          rw [HGT.out, HDL.out, tailG_none]
          unfold lineC
          simp only
          rw [← HK2.out, HKL.out, if_neg (by intro c; injection c with c; exact hx0 c)]
        clear hx0
        go_wp2_with fail
        (obtain ⟨p0, p1⟩ := two_put (v := 0) (u := .slice none 0 0) HRW.out; exact bodyPost_ret (v := .tuple #[.agg #[.int .i64 0, .slice none 0 0], .int .i64 5]) (by simp [results, Tryd.results7, go_sem, p0, p1]) rfl (getE_none HE.out (by repeat (first | exact HBW.out | (refine Below.setCell ?_ (by simp) _)))))
      obtain ⟨s1, s2, s3⟩ := str_eq HX.out hx0
      have HLC : Hid (lineC v y = tailL v [] (K2.dropLast)) := by
        show _ = _
        unfold lineC tailL
        simp only
        rw [← HK2.out, HKL.out, if_pos (by rw [hx0])]
        cases (K2.dropLast).mapM (fun x => match readB x with
          | some z => if isL z v = true then some z else none
          | none => none) <;> simp
      clear hx0
      go_upto_region 18 with fail
      clear s1 s2 s3 hlast c0 c1 f0 f1 lb
      go_wp2_with fail
      go_loopg [12, 13] m (fun gk v12 v13 w5 => ∃ (j : Nat) (T : List Int), v13 = .int .i64 ((j : Nat) : Int) ∧ j + gk = m ∧ GrowI w4 v12 T w5 ∧ T.length = j ∧ lineC v y = tailL v T ((K2.dropLast).drop j))
      case atStart => exact ⟨0, [], rfl, by omega, GrowI.zero (Below.refl _ _), rfl, HLC.out⟩
      clear HLC hkb
      case round =>
        obtain ⟨j, T, rfl, hj, hg5, hTj, hlc⟩ := hrel
        obtain ⟨ta, tc, rfl⟩ := hg5.shape
        have HJ := Lib.hid hj
        have HG5 := Lib.hid hg5
        have HTJ := Lib.hid hTj
        have HLC := Lib.hid hlc
        have HRW5 := Lib.hid (HRW.out.call hg5.bel)
        have HBW5 := Lib.hid (bel_call HBW.out hg5.bel)
        have HBC5 := Lib.hid (HBC4.out.call hg5.bel)
        have hTl : T.length ≤ 30000 := by omega
        have p0 : (0 : Int) ≤ ((j : Nat) : Int) := by omega
        have c0 := HRW5.out.c0
        have c1 := HRW5.out.c1
        have f0 := HRW5.out.fr 0
        have f1 := HRW5.out.fr 1
        have lb := HRW5.out.lt
        clear hTj hlc
        by_cases hjm : j < m
        · obtain ⟨x2, hx2⟩ : ∃ x, K2[j]? = some x := ⟨_, List.getElem?_eq_getElem (by have := HM.out; omega)⟩
          have hcell : wr.cell? ⟨kb, ko + j, none⟩ = some (strV x2) := by
            obtain ⟨b', o', he, _, h⟩ := vals_at (i := j) (x := strV x2) (HVK.out.keep hg5.bel) (by rw [List.getElem?_map, hx2]; rfl)
            injection he with he
            injection he with h1 h2
            subst h1 h2
            exact h
          unfold strV at hcell
          obtain ⟨X2, hX2⟩ : ∃ X : ByteArray, X = ⟨x2.toArray⟩ := ⟨_, rfl⟩
          rw [← hX2] at hcell
          have HRD := Lib.hid (fun (w : World) => rread_any (s := X2) (W := w))
          rw [show X2.data.toList = x2 by rw [hX2]] at HRD
          have HDR : Hid ((K2.dropLast).drop j = x2 :: (K2.dropLast).drop (j + 1)) := by
            show _ = _
            have hjl : j < K2.dropLast.length := by rw [List.length_dropLast, HM.out]; omega
            rw [List.drop_eq_getElem_cons hjl]
            congr 1
            rw [List.getElem_dropLast]
            exact (List.getElem?_eq_some_iff.1 hx2).2
          have p1 : ((j : Nat) : Int) < ((m : Nat) : Int) := by omega
          have HSJ := Lib.hid (step_i (j := j) (by omega))
          clear hj hg5 hx2 hX2
          cases hr : readB x2 with
          | none =>
            rw [hr] at HRD
            have HE : Hid (G = none) := by
              show _ = _
              rw [HGT.out, HDL.out, tailG_none]
              rw [HLC.out, HDR.out, tailL_none (.inl hr)]
            clear hr
            go_wp2_with fail
            refine (HRD.out _).mono ?_; rintro e w' ⟨rfl, rfl⟩
            go_wp2_with fail
            (obtain ⟨p0, p1⟩ := two_put (v := 0) (u := .slice none 0 0) HRW5.out; exact bodyPost_ret (v := .tuple #[.agg #[.int .i64 0, .slice none 0 0], .int .i64 5]) (by simp [results, Tryd.results7, go_sem, p0, p1]) rfl (getE_none HE.out (by repeat (first | exact HBW5.out | (refine Below.setCell ?_ (by simp) _)))))
          | some z =>
            rw [hr] at HRD
            have HIS := Lib.hid (fun (w : World) => ris_any (l := z) (W := w) HV.out.1 HV.out.2)
            cases hil : isL z v with
            | false =>
              rw [hil] at HIS
              have HE : Hid (G = none) := by
                show _ = _
                rw [HGT.out, HDL.out, tailG_none]
                rw [HLC.out, HDR.out, tailL_none (.inr ⟨z, hr, hil⟩)]
              clear hr hil
              go_wp2_with fail
              refine (HRD.out _).mono ?_; rintro e w' ⟨rfl, rfl⟩
              go_wp2_with fail
              refine (HIS.out _).mono ?_; rintro e w' ⟨rfl, rfl⟩
              go_wp2_with fail
              (obtain ⟨p0, p1⟩ := two_put (v := 0) (u := .slice none 0 0) HRW5.out; exact bodyPost_ret (v := .tuple #[.agg #[.int .i64 0, .slice none 0 0], .int .i64 5]) (by simp [results, Tryd.results7, go_sem, p0, p1]) rfl (getE_none HE.out (by repeat (first | exact HBW5.out | (refine Below.setCell ?_ (by simp) _)))))
            | true =>
              rw [hil] at HIS
              have HE : Hid (lineC v y = tailL v (T ++ [z]) ((K2.dropLast).drop (j + 1))) := by
                show _ = _
                rw [HLC.out, HDR.out, tailL_cons hr hil]
              clear hr hil
              go_wp2_with fail
              refine (HRD.out _).mono ?_; rintro e w' ⟨rfl, rfl⟩
              go_wp2_with fail
              refine (HIS.out _).mono ?_; rintro e w' ⟨rfl, rfl⟩
              go_wp2_with (at_builtin; refine wpList_grow rfl (.tmp 133) (.tmp 135) rfl rfl HG5.out rfl rfl (by omega) ?_; intro va vc w6 hg6; have HG6 := Lib.hid hg6; clear hg6)
              go_roundg (gk - 1)
              case measure => have := HJ.out; omega
              case rel => exact ⟨j + 1, T ++ [z], by first | rfl | (rw [HSJ.out.1]) | (congr 1; exact HSJ.out.1), by have := HJ.out; omega, HG6.out, by have := HTJ.out; simp; omega, HE.out⟩
        · have p1 : decide (((j : Nat) : Int) < ((m : Nat) : Int)) = false := decide_eq_false (by omega)
          obtain rfl : j = m := by omega
          have HE : Hid (G = tailG v (C ++ [T]) ((L.drop (i + 1)).dropLast)) := by
            show _ = _
            rw [HGT.out, HDL.out, tailG_cons]
            rw [HLC.out, List.drop_eq_nil_of_le (by rw [List.length_dropLast, HM.out]; omega), tailL_nil]
          have HCL5 := Lib.hid (HCL4.out.call hg5.bel)
          have HB25 := Lib.hid (bel_call HB24.out hg5.bel)
          have HIN : Hid (IntsAt wr ta T ∧ InAt (w2.heap.size + 1) (.slice ca C.length cc) T ta wr) := by
            refine ⟨hg5.ints, ?_⟩
            rcases hg5.row with ⟨_, ⟨h1, h2⟩ | ⟨g, cap, cur, hv, hb', hh, _⟩⟩
            · left; exact List.length_eq_zero_iff.1 h2
            · right
              injection hv with e1 e2 e3
              have hs5 := HSZ4.out
              have hb2 := HBC.out.lt
              refine ⟨g, 0, e1, by omega, (Array.getElem?_eq_some_iff.1 hh).1, fun e => ?_⟩
              have := (HCL.out.blk e.symm).2
              omega
          have b0 := HBC5.out.c0
          have b1 := HBC5.out.c1
          have bf := HBC5.out.fr 1
          have hB5 : w2.heap.size + 1 ≤ wr.heap.size := HBC5.out.lt
          clear hj hg5 c0 c1 f0 f1 lb
          go_wp2_with (at_builtin; refine wpList_cls (kc := tc) rfl (.tmp 138) (.tmp 140) rfl rfl HCL5.out hB5 HIN.out.1 HIN.out.2 rfl rfl (by omega) ?_; intro va vc w6 hc6 hgr6; have HC6 := Lib.hid hc6; have HGR6 := Lib.hid hgr6; have HBC6 := Lib.hid ((HBC5.out.call (bel_alloc (Below.refl _ _) _)).grown hgr6 (fun e => by have := (HCL5.out.blk e.symm).1; omega)); have d1 := HBC6.out.c1; have df := HBC6.out.fr 1; clear hc6 hgr6)
          go_roundg (gO - 1)
          case measure => have := HI.out; omega
          case rel => exact ⟨i + 1, .slice va (C.length + 1) vc, C ++ [T], by first | rfl | (rw [HS.out.1]) | (congr 1; exact HS.out.1), by have := HI.out; omega, by omega,
            (bel_grown (bel_call HB25.out (bel_alloc (Below.refl _ _) _)) HGR6.out (fun g e => by have := (HCL5.out.blk e).1; omega)).setCell (Nat.le_refl _) _, HBC6.out.put, HC6.out.setCell (Nat.lt_succ_self _), by have := HLEN.out; simp; omega, HE.out⟩
    · have q1 : decide (((i : Nat) : Int) < ((n : Nat) : Int)) = false := decide_eq_false (by omega)
      obtain rfl : i = n := by omega
      have HE : Hid (G = some (v, C)) := by
        show _ = _
        rw [HGT.out]
        have : (L.drop i).dropLast = [] := List.eq_nil_of_length_eq_zero (by rw [List.length_dropLast, List.length_drop, HN.out]; omega)
        rw [this, tailG_nil]
      have HRW := Lib.hid (HR2.out.call hb)
      have HBW := Lib.hid (bel_call HB2.out hb)
      have c0 := HRW.out.c0
      have c1 := HRW.out.c1
      have f0 := HRW.out.fr 0
      have f1 := HRW.out.fr 1
      have lb := HRW.out.lt
      have b0 := hbc.c0
      have b1 := hbc.c1
      have q6 : decide ((100000 : Int) < z3) = false := decide_eq_false (by have := HNL.out; omega)
      have q7 : decide ((1000000 : Int) < ((s.size : Nat) : Int)) = false := decide_eq_false (by have := HSS.out; omega)
      have hne : W.heap.size < w2.heap.size + 1 := by have := HR2.out.lt; omega
      clear hi hi1 hb hbc hcl
      obtain ⟨p0, p1⟩ := two_put (v := v) (u := .slice ca C.length cc) HRW.out
      go_wp2_with fail
      exact bodyPost_ret (v := .tuple #[.agg #[.int .i64 v, .slice ca C.length cc], .int .i64 0]) (by simp [results, Tryd.results7, go_sem, p0, p1]) rfl (getE_some HE.out (by repeat (first | exact HBW.out | (refine Below.setCell ?_ (by simp) _))) ((HCL.out.setCell hne).setCell hne).cls)
end Cf
end Go.Proofs.YtcpehdeddgfpmaaDoor
