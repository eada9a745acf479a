/-
  The program's literals, whatever the line.
-/
import Derived.Test.YtcpehdeddgfpmaaDoorCuClause
import Derived.RangeFuncBox
namespace Go.Proofs.YtcpehdeddgfpmaaDoor
open Go.RowKit Go.Shelf
namespace Cf
set_option maxHeartbeats 3200000
set_option maxRecDepth 100000

def litO (w : By) : Option Int := match rdN w with
  | some n => if n = 0 then none else some n
  | none => none
def litsP (ws : List By) : List Int := ws.filterMap litO
theorem lits_take {ws : List By} {k : Nat} {w : By} (hw : ws[k]? = some w) : litsP (ws.take (k + 1)) = litsP (ws.take k) ++ (litO w).toList := by
  unfold litsP
  rw [List.take_add_one, hw, List.filterMap_append]
  congr 1
theorem litsP_len (ws : List By) : (litsP ws).length ≤ ws.length := List.length_filterMap_le _ _
theorem row_below {V V1 : World} {b size n : Nat} {e : TypeId} {v : Value} {xs : List Value} (h : V.ownsRow b e size v n xs) (hb : Below V.heap.size V V1) : V1.ownsRow b e size v n xs := by
  rcases h with ⟨hl, h1 | ⟨g, cap, cur, hv, hbg, hh, r⟩⟩
  · exact ⟨hl, .inl h1⟩
  · exact ⟨hl, .inr ⟨g, cap, cur, hv, hbg, (hb.block g (Array.getElem?_eq_some_iff.1 hh).1).trans hh, r⟩⟩
theorem row_base {V : World} {b b' size n : Nat} {e : TypeId} {v : Value} {xs : List Value} (h : V.ownsRow b e size v n xs) (hb : b' ≤ b) : V.ownsRow b' e size v n xs := by
  rcases h with ⟨hl, h1 | ⟨g, cap, cur, hv, hbg, r⟩⟩
  · exact ⟨hl, .inl h1⟩
  · exact ⟨hl, .inr ⟨g, cap, cur, hv, by omega, r⟩⟩
def intV (T : List Int) : List Value := T.map (Value.int .i64)

/-- Between two words. -/
def LiI (W : World) (ws : List By) (k : Nat) (V : World) : Prop :=
  ∃ v, Boxed V W.heap.size 34 v ∧ V.ownsRow (W.heap.size + 4) 3 1 v (litsP (ws.take k)).length (intV (litsP (ws.take k))) ∧ Below W.heap.size W V ∧ W.heap.size + 4 ≤ V.heap.size
theorem LiI.kept {W : World} {ws : List By} {k : Nat} {V V' : World} {row : Option Nat} (h : LiI W ws k V) (hg : V.grownBy V' row) (hr : ∀ r, row = some r → W.heap.size + 4 ≤ r ∧ ∃ o : Obj, V.heap[r]? = some o ∧ o.isCells = false) : LiI W ws k V' := by
  obtain ⟨v, h1, h2, h3, h4⟩ := h
  refine ⟨v, h1.kept hg (fun e => by have := (hr _ e.symm).1; omega), ?_, h3.grown hg (by omega) (fun r e => by have := (hr r e).1; omega), Nat.le_trans h4 hg.size⟩
  rcases h2 with ⟨hl, h5 | ⟨g, cap, cur, hv, hbg, hh, r⟩⟩
  · exact ⟨hl, .inl h5⟩
  · refine ⟨hl, .inr ⟨g, cap, cur, hv, hbg, (hg.block g (Array.getElem?_eq_some_iff.1 hh).1 (fun e => ?_)).trans hh, r⟩⟩
    obtain ⟨_, o, ho, hc⟩ := hr g e.symm
    rw [hh] at ho; cases ho; cases hc
theorem LiI.set {W : World} {ws : List By} {k b : Nat} {V : World} (h : LiI W ws k V) (hb : W.heap.size < b) (hb2 : b < W.heap.size + 4) (u : Value) : LiI W ws k (V.setCell ⟨b, 0, none⟩ u) := by
  obtain ⟨v, h1, h2, h3, h4⟩ := h
  refine ⟨v, h1.other (by omega) u, ?_, h3.setCell (show W.heap.size ≤ b by omega) u, by simpa [World.setCell] using h4⟩
  rcases h2 with ⟨hl, h5 | ⟨g, cap, cur, hv, hbg, hh, r⟩⟩
  · exact ⟨hl, .inl h5⟩
  · exact ⟨hl, .inr ⟨g, cap, cur, hv, hbg, (Below.heap_setCell V _ u g (show g ≠ b by omega)).trans hh, r⟩⟩
theorem LiI.call {W : World} {ws : List By} {k : Nat} {V V' : World} (h : LiI W ws k V) (hb : Below V.heap.size V V') : LiI W ws k V' := by
  obtain ⟨v, h1, h2, h3, h4⟩ := h
  exact ⟨v, (hb.block _ h1.lt).trans h1, row_below h2 hb, h3.trans (hb.mono (by omega)), Nat.le_trans h4 hb.size⟩
theorem LiI.skip {W : World} {ws : List By} {k : Nat} {V : World} {w : By} (h : LiI W ws k V) (hw : ws[k]? = some w) (ho : litO w = none) : LiI W ws (k + 1) V := by
  obtain ⟨v, h1, h2, h3, h4⟩ := h
  refine ⟨v, h1, ?_, h3, h4⟩
  rw [lits_take hw, ho]
  simpa using h2
def four3 (W : World) (s : ByteArray) : World := (((W.alloc (.cells #[.slice none 0 0] 34)).alloc (.cells #[.string s] 9)).alloc (.cells #[.string ⟨#[32]⟩] 9)).alloc (.cells #[.int .i64 0] 3)
theorem four3_is (W : World) (s : ByteArray) : LiI W (splitB 32 s.data.toList) 0 (four3 W s) ∧ SepC (W.heap.size + 1 + 1) (W.heap.size + 1) (W.heap.size + 1 + 1 + 1) 32 s.data.toList (four3 W s) ∧ (four3 W s).heap.size = W.heap.size + 4 := by
  have b0 := Below.refl W.heap.size W
  have hb : Below W.heap.size W (four3 W s) := bel_alloc (bel_alloc (bel_alloc (bel_alloc b0 _) _) _) _
  have hz : (four3 W s).heap.size = W.heap.size + 4 := by unfold four3; simp
  refine ⟨⟨.slice none 0 0, ?_, ?_, hb, by omega⟩, ⟨⟨?_, ?_⟩, ?_, ?_⟩, hz⟩
  · exact (((Boxed.new W 34 (.slice none 0 0)).alloc _).alloc _).alloc _
  · exact World.ownsRow_nil _ _ _ _
  · rw [strW_of]; unfold four3; go_simp
  · unfold four3; go_simp
  · unfold four3; go_simp
  · unfold four3; go_simp

theorem literals_any {s : ByteArray} {W : World} (hE : Sees W) (hs : s.size ≤ 100000000) :
    Calls Tryd.prog 19 #[.string s] W fun e w => ∃ v, e = .returned v ∧ w.ownsRow W.heap.size 3 1 v (litsP (splitB 32 s.data.toList)).length (intV (litsP (splitB 32 s.data.toList))) ∧ Below W.heap.size W w := by
  obtain ⟨ws, hws⟩ : ∃ ws, ws = splitB 32 s.data.toList := ⟨_, rfl⟩
  have HWS := Lib.hid hws
  have hlen : ∀ w ∈ ws, w.length ≤ 1000000000 := fun w hw => by
    have := split_le 32 (by rw [hws] at hw; exact hw)
    have : s.data.toList.length = s.size := rfl
    omega
  have hmany : ws.length ≤ 1000000000 := by
    have := split_len 32 s.data.toList
    have : s.data.toList.length = s.size := rfl
    rw [hws]; omega
  have HLN := Lib.hid hlen
  have HMANY := Lib.hid hmany
  have HE := Lib.hid hE
  have HS : Hid (s.data.toList.length ≤ 1000000000) := Lib.hid (by have : s.data.toList.length = s.size := rfl; omega)
  obtain ⟨i0, hinfo, hz0, hz1, hz2⟩ := info_parts info_int
  clear hE hws hlen hmany hs
  refine (callsIn_wide (n := 3)).1 ?_
  refine callsIn_of_wp_marks Tryd.func19 rfl trivial ?_ rfl
  simp only [Tryd.ntmps19, List.size_toArray, List.length_cons, List.length_nil, Nat.reduceAdd, Nat.reduceSub, Array.replicate_succ, Array.replicate_zero, List.push_toArray, List.append_toArray, List.nil_append, List.cons_append]
  gi_wp2_with (refine ⟨trivial, ?_⟩; gi_at_call 41; refine (callsIn_wide.2 (sseq_any _ _ _)).mono ?_; rintro e w' ⟨rfl, rfl⟩)
  have H6 := Lib.hid (four3_is W s)
  unfold four3 at H6
  generalize (((W.alloc (.cells #[.slice none 0 0] 34)).alloc (.cells #[.string s] 9)).alloc (.cells #[.string ⟨#[32]⟩] 9)).alloc (.cells #[.int .i64 0] 3) = U at H6 ⊢
  rw [← HWS.out] at H6
  have hz6 := H6.out.2.2
  refine range_cell (n := 3) rfl (by decide) (gf := 65) (b := W.heap.size + 1) rfl trivial (enters_of Tryd.func65 (by kernel_rfl) rfl)
    (seq_gives (3 - 1) (W.heap.size + 1 + 1) (W.heap.size + 1) (W.heap.size + 1 + 1 + 1) 32 (by decide) (by omega) (by omega) s.data.toList HS.out)
    (by intro c hc; simp at hc; omega) (by simp) H6.out.2.1 (fun V V' k h => h.same k) rfl
    (LiI W ws) (fun _ => False)
    (fun k V V' row h hg hr => h.kept hg (fun r e => by have := hr r e; rw [hz6] at this; exact this))
    (fun k V u h => h.set (by omega) (by omega) u) (fun k V h => h.kept (row := none) (World.grownBy_alloc V (.cells #[] 3) none |> fun _ => ⟨rfl, rfl, rfl, Nat.le_refl _, fun _ _ _ => rfl⟩) (fun r e => by cases e))
    (fun _ _ _ _ h _ _ => h)
    H6.out.1 (fun x => { tmps := #[.string s, undef, .slice none 0 0, .pointer (some ⟨W.heap.size, 0, none⟩), x, undef, undef, .string s, .func (.func 65) #[] #[.pointer (some ⟨W.heap.size + 1 + 1, 0, none⟩), .pointer (some ⟨W.heap.size + 1, 0, none⟩), .pointer (some ⟨W.heap.size + 1 + 1 + 1, 0, none⟩)], x, undef, undef, undef, undef, undef, undef, undef, undef, undef, undef, undef, undef, undef, undef, undef], defers := [] }) ?assign ?body ?done ?stop
  case assign =>
    intro l x V K hK
    have hsem := @Oper.semAt_some
    gi_wp2
    exact hK
  case stop =>
    intro D V hD hI hK
    exact hI.elim
  case done =>
    intro D V hD hI hK
    obtain ⟨v, h1, h2, h3, h4⟩ := hI
    have cc := h1.cell
    have HH := Lib.hid (And.intro h2 (And.intro h3 h4))
    have HD := Lib.hid hD
    have HK := Lib.hid hK
    clear hD hK h1 h2 h3 h4
    gi_wp2
    refine ⟨by simp, .inl ⟨_, _, rfl, run_takeDeferred HK.out, ?_⟩⟩
    have hr := HH.out.1
    rw [List.length_map, ← HWS.out, List.take_length] at hr
    refine ⟨v, ?res, v, rfl, ?row, HH.out.2.1.trans (belowK_b (w := W) (Nat.le_refl _) _ D _ _ (by have := HD.out; omega) HK.out rfl rfl)⟩
    case res => simp [results, Tryd.results19, go_sem]
    case row =>
      rw [← HWS.out]
      exact ownsRow_putObj (row_base hr (Nat.le_add_right _ 4)) _ HK.out rfl
  case body =>
    intro l k x V hx hI
    obtain ⟨w, hw, rfl⟩ : ∃ w, ws[k]? = some w ∧ x = strW w := by
      rw [← HWS.out, List.getElem?_map] at hx
      cases hq : ws[k]? with
      | none => rw [hq] at hx; cases hx
      | some w => rw [hq] at hx; injection hx with hx; exact ⟨w, rfl, hx.symm⟩
    have hwl := HLN.out w (List.mem_of_getElem? hw)
    have HI := Lib.hid hI
    obtain ⟨v, h1, h2, h3, h4⟩ := hI
    have HN := Lib.hid (cnumber_any (s := ⟨w.toArray⟩) (HE.out.keep h3) hwl)
    obtain ⟨T, hT⟩ : ∃ T, T = litsP (ws.take k) := ⟨_, rfl⟩
    have hTl : T.length ≤ 1000000000 := by
      rw [hT]
      have := litsP_len (ws.take k)
      have := HMANY.out
      rw [List.length_take] at *
      omega
    rw [← hT] at h2
    have cl := h1.cell
    have HT := Lib.hid hT
    have HM1 : Hid (T.length + 1 ≤ maxLen) := Lib.hid (by unfold maxLen; omega)
    have HM2 : Hid ((T.length + 1) * 8 ≤ 140737488355328) := Lib.hid (by omega)
    have HBIG := Lib.hid h4
    have HTE : Hid ((34 : TypeId) ≠ 3) := Lib.hid (by decide)
    have HBX : Hid (∀ V1, Below V.heap.size V V1 → Boxed V1 W.heap.size 34 v ∧ V1.cell? ⟨W.heap.size, 0, none⟩ = some v ∧ V1.ownsRow (W.heap.size + 4) 3 1 v T.length (intV T)) := Lib.hid (fun V1 hb => ⟨(hb.block _ h1.lt).trans h1, Boxed.cell ((hb.block _ h1.lt).trans h1), row_below h2 hb⟩)
    have HW := Lib.hid hw
    have hsem := @Oper.semAt_some
    have hun : ∀ b : Bool, ¬ undef = Value.bool b := fun b h => by cases h
    have HB3 := Lib.hid h3
    clear hw hx hwl h1 h2 h3 h4 hT hTl
    unfold strW
    cases hr : rdN w with
    | none =>
      have HO : Hid (litO w = none) := Lib.hid (by simp [litO, hr])
      have HN0 : Hid (Calls Tryd.prog 35 #[.string ⟨w.toArray⟩] V fun e V' => ∃ x, e = .returned (.tuple #[.int .i64 x, .bool false]) ∧ Below V.heap.size V V') := Lib.hid (HN.out.mono (fun e V' h => by
        obtain ⟨hb, x, b, rfl, h1, _⟩ := h
        cases b with
        | true => have := h1 rfl; rw [show rdN (⟨w.toArray⟩ : ByteArray).data.toList = rdN w from rfl, hr] at this; cases this
        | false => exact ⟨x, rfl, hb⟩))
      clear HN hr
      gi_wp2_with (first | (refine ⟨trivial, ?_⟩; go_at_K) | (refine ⟨trivial, ?_⟩; gi_at_call 35; refine (callsIn_wide.2 HN0.out).mono ?_; rintro e V1 ⟨x, rfl, hb1⟩; obtain ⟨q1, q2, q3⟩ := HBX.out V1 hb1; have HQ3 := Lib.hid q3; have HB1 := Lib.hid hb1; clear hb1 q3))
      exact ⟨kothers HB1.out, same_below HB1.out (by intro c hc; have := HBIG.out; simp at hc; omega), (HI.out.call HB1.out).skip HW.out HO.out⟩
    | some n =>
      have HN1 : Hid (Calls Tryd.prog 35 #[.string ⟨w.toArray⟩] V fun e V' => e = .returned (.tuple #[.int .i64 n, .bool true]) ∧ Below V.heap.size V V') := Lib.hid (HN.out.mono (fun e V' h => by
        obtain ⟨hb, x, b, rfl, h1, h2⟩ := h
        cases b with
        | true => have := h1 rfl; rw [show rdN (⟨w.toArray⟩ : ByteArray).data.toList = rdN w from rfl, hr] at this; injection this with this; subst this; exact ⟨rfl, hb⟩
        | false => have := h2 rfl; rw [show rdN (⟨w.toArray⟩ : ByteArray).data.toList = rdN w from rfl, hr] at this; cases this))
      by_cases hn : n = 0
      · subst hn
        have HO : Hid (litO w = none) := Lib.hid (by simp [litO, hr])
        clear HN hr
        gi_wp2_with (first | (refine ⟨trivial, ?_⟩; go_at_K) | (refine ⟨trivial, ?_⟩; gi_at_call 35; refine (callsIn_wide.2 HN1.out).mono ?_; rintro e V1 ⟨rfl, hb1⟩; obtain ⟨q1, q2, q3⟩ := HBX.out V1 hb1; have HQ3 := Lib.hid q3; have HB1 := Lib.hid hb1; clear hb1 q3))
        exact ⟨kothers HB1.out, same_below HB1.out (by intro c hc; have := HBIG.out; simp at hc; omega), (HI.out.call HB1.out).skip HW.out HO.out⟩
      · have HO : Hid (litO w = some n) := Lib.hid (by simp [litO, hr, hn])
        have d1 : (n != 0) = true := by simpa using hn
        have HONE : Hid (∀ u ∈ [Value.int .i64 n], u.oneCell' = true) := Lib.hid (by intro u hu; simp at hu; subst hu; rfl)
        clear HN hr hn
        gi_wp2_with (first | (refine ⟨trivial, ?_⟩; go_at_K) | (gi_at_builtin; refine wpListIn_append_own _ rfl (.tmp 20) (.tmp 22) 34 rfl (W.heap.size + 4) 3 i0 (.int .i64 0) 1 8 Tryd.underlying34 hinfo hz0 hz1 hz2 rfl (by decide) v T.length (intV T) rfl (HQ3.out.alloc _) ⟨V1.heap.size, 0, none⟩ 1 1 [.int .i64 n] rfl rfl (cell_one_new _ _ _) HONE.out HM1.out HM2.out (by have := HB1.out.size; have := HBIG.out; rw [World.size_alloc]; omega) ?_; intro v' w3 hown' hgr _; obtain ⟨g', c', rfl⟩ := ownsRow_succ hown'; obtain ⟨a1, a2, a3, a4, a5⟩ := Boxed.appended (n₀ := W.heap.size) (t := 34) (q1) HTE.out (row_base HQ3.out (Nat.le_add_right _ 4)) (by have := HB1.out.size; have := HBIG.out; omega) (Nat.le_refl _) (row_base hown' (Nat.le_add_right _ 4)) hgr; have y1 := a1.cell; have y2 := a1.frozen; have HGR := Lib.hid hgr; have HOWN := Lib.hid hown'; have HA := Lib.hid (And.intro a2 (And.intro a4 a5)); clear a1 a2 a3 a4 a5 hown' hgr) | (refine ⟨trivial, ?_⟩; gi_at_call 35; refine (callsIn_wide.2 HN1.out).mono ?_; rintro e V1 ⟨rfl, hb1⟩; obtain ⟨q1, q2, q3⟩ := HBX.out V1 hb1; have HQ3 := Lib.hid q3; have HB1 := Lib.hid hb1; clear hb1 q3))
        refine ⟨(kothers HB1.out).trans HA.out.2.1, ((same_below HB1.out (by intro c hc; have := HBIG.out; simp at hc; omega)).trans ?_).trans (same_set (by simp; omega) _), ⟨_, HA.out.1, ?_, HB3.out.trans ((HB1.out.mono (by have := HBIG.out; omega)).trans HA.out.2.2), ?_⟩⟩
        · intro c hc
          have hcl : c < V1.heap.size := by have := HB1.out.size; have := HBIG.out; simp at hc; omega
          have hne : some c ≠ v.ownBlock := fun e => by
            have := (HQ3.out.lt c e.symm).1
            simp at hc
            omega
          have h9 : w3.heap[c]? = V1.heap[c]? := (HGR.out.block c (by rw [World.size_alloc]; omega) hne).trans (Below.heap_alloc _ _ _ hcl)
          exact ⟨World.cell?_of_block h9, World.frozen?_of_block h9⟩
        · rw [lits_take HW.out, HO.out, ← HT.out]
          have hr9 := row_setCell HOWN.out (a := ⟨W.heap.size, 0, none⟩) (.slice (some ⟨g', 0, none⟩) (T.length + 1) c') (fun e => by have := (HOWN.out.lt W.heap.size e).1; omega)
          simpa [intV] using hr9
        · have h1 := HB1.out.size
          have h2 := HGR.out.size
          have h3 := HBIG.out
          rw [World.size_alloc] at h2
          simp only [World.setCell, Array.size_modify]
          omega
end Cf
end Go.Proofs.YtcpehdeddgfpmaaDoor
