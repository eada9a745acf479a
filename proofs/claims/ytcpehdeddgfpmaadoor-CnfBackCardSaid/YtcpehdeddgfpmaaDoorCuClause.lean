/-
  The program's isClause, whatever the line.
-/
import Derived.Test.YtcpehdeddgfpmaaDoorCuNumA
import Derived.Test.YtcpehdeddgfpmaaDoorCuRg
import Derived.BigGuardIn
import Derived.BigGuardPartIn
namespace Go.Proofs.YtcpehdeddgfpmaaDoor
open Go.RowKit Go.Shelf
namespace Cf
set_option maxHeartbeats 3200000
set_option maxRecDepth 100000

theorem kothers {W w : World} (h : Below W.heap.size W w) : KeepsOthers W w := ⟨h.size, fun k _ hk _ => (h.block k (Array.getElem?_eq_some_iff.1 hk).1).trans hk⟩
theorem same_below {W w : World} {bs : List Nat} (h : Below W.heap.size W w) (hb : ∀ c ∈ bs, c < W.heap.size) : Same bs W w := fun c hc => ⟨h.cell (p := ⟨c, 0, none⟩) (hb c hc), h.frozen (p := ⟨c, 0, none⟩) (hb c hc)⟩
theorem same_set {W : World} {bs : List Nat} {b : Nat} (hb : b ∉ bs) (v : Value) : Same bs W (W.setCell ⟨b, 0, none⟩ v) := fun c hc => ⟨World.cell?_setCell_other _ _ _ _ (by
    intro e
    apply hb
    have : b = c := by simpa using e
    rw [this]; exact hc), by rw [World.frozen?_setCell]⟩

/-- A word more of a line: whether the nought has come; none: it is no clause. -/
def stepC (v : Int) : Option Bool → By → Option Bool
  | none, _ => none
  | some en, w => match rdN w with
    | none => none
    | some n => if en = true ∨ (n ≠ 0 ∧ isL n v = false) then none else some (decide (n = 0))
def runC (v : Int) (ws : List By) : Option Bool := ws.foldl (stepC v) (some false)
theorem runC_snoc (v : Int) (ws : List By) (w : By) : runC v (ws ++ [w]) = stepC v (runC v ws) w := by simp [runC]
theorem runC_none {v : Int} {ws : List By} (h : runC v ws = none) : ∀ r, runC v (ws ++ r) = none := by
  have step : ∀ r : List By, r.foldl (stepC v) none = none := by
    intro r
    induction r with
    | nil => rfl
    | cons c t ih => exact ih
  intro r
  unfold runC at h ⊢
  rw [List.foldl_append, h]
  exact step r
def clP (v : Int) (line : By) : Bool := decide (runC v (splitB 32 line) = some true)

theorem runC_bad {v : Int} {ws : List By} {k : Nat} {w : By} (hw : ws[k]? = some w) (h : stepC v (runC v (ws.take k)) w = none) : runC v ws = none := by
  have e : ws.take (k + 1) = ws.take k ++ [w] := by rw [List.take_add_one, hw]; rfl
  have h1 : runC v (ws.take (k + 1)) = none := by rw [e, runC_snoc, h]
  have := runC_none h1 (ws.drop (k + 1))
  rwa [List.take_append_drop] at this
theorem runC_ok {v : Int} {ws : List By} {k : Nat} {w : By} {en : Bool} (hw : ws[k]? = some w) (h : stepC v (runC v (ws.take k)) w = some en) : runC v (ws.take (k + 1)) = some en := by
  have e : ws.take (k + 1) = ws.take k ++ [w] := by rw [List.take_add_one, hw]; rfl
  rw [e, runC_snoc, h]

/-- Between two words. -/
structure ClI (W : World) (v : Int) (ws : List By) (k : Nat) (V : World) : Prop where
  en : ∃ en, runC v (ws.take k) = some en ∧ V.cell? ⟨W.heap.size + 1 + 1, 0, none⟩ = some (.bool en)
  ef : V.frozen? ⟨W.heap.size + 1 + 1, 0, none⟩ = false
  c0 : V.cell? ⟨W.heap.size, 0, none⟩ = some (.int .i64 v)
  c1 : V.cell? ⟨W.heap.size + 1, 0, none⟩ = some (.bool false)
  f1 : V.frozen? ⟨W.heap.size + 1, 0, none⟩ = false
  bel : Below W.heap.size W V
  big : W.heap.size + 6 ≤ V.heap.size
theorem ClI.kept {W : World} {v : Int} {ws : List By} {k : Nat} {V V' : World} {row : Option Nat} (h : ClI W v ws k V) (hg : V.grownBy V' row) (hr : ∀ r, row = some r → W.heap.size + 6 ≤ r ∧ ∃ o : Obj, V.heap[r]? = some o ∧ o.isCells = false) : ClI W v ws k V' := by
  obtain ⟨en, h1, h2⟩ := h.en
  have hr' : ∀ r, row = some r → ∃ o : Obj, V.heap[r]? = some o ∧ o.isCells = false := fun r e => (hr r e).2
  exact ⟨⟨en, h1, cell_kept h2 hg hr'⟩, (frozen_kept h2 hg hr').trans h.ef, cell_kept h.c0 hg hr', cell_kept h.c1 hg hr', (frozen_kept h.c1 hg hr').trans h.f1, h.bel.grown hg (by have := h.big; omega) (fun r e => by have := (hr r e).1; omega), Nat.le_trans h.big hg.size⟩
theorem ClI.set {W : World} {v : Int} {ws : List By} {k b : Nat} {V : World} (h : ClI W v ws k V) (hb : W.heap.size + 3 ≤ b) (u : Value) : ClI W v ws k (V.setCell ⟨b, 0, none⟩ u) := by
  obtain ⟨en, h1, h2⟩ := h.en
  have q : ∀ c, c < W.heap.size + 3 → (V.setCell ⟨b, 0, none⟩ u).cell? ⟨c, 0, none⟩ = V.cell? ⟨c, 0, none⟩ := fun c hc => World.cell?_setCell_other _ _ _ _ (by simp; try omega)
  exact ⟨⟨en, h1, (q _ (by omega)).trans h2⟩, by rw [World.frozen?_setCell]; exact h.ef, (q _ (by omega)).trans h.c0, (q _ (by omega)).trans h.c1, by rw [World.frozen?_setCell]; exact h.f1, h.bel.setCell (show W.heap.size ≤ b by omega) u, by have := h.big; simpa [World.setCell] using this⟩
theorem ClI.call {W : World} {v : Int} {ws : List By} {k : Nat} {V V' : World} (h : ClI W v ws k V) (hb : Below V.heap.size V V') : ClI W v ws k V' := by
  obtain ⟨en, h1, h2⟩ := h.en
  have big := h.big
  have q : ∀ c, c < V.heap.size → V'.cell? ⟨c, 0, none⟩ = V.cell? ⟨c, 0, none⟩ ∧ V'.frozen? ⟨c, 0, none⟩ = V.frozen? ⟨c, 0, none⟩ := fun c hc => ⟨hb.cell (p := ⟨c, 0, none⟩) hc, hb.frozen (p := ⟨c, 0, none⟩) hc⟩
  exact ⟨⟨en, h1, (q _ (by omega)).1.trans h2⟩, (q _ (by omega)).2.trans h.ef, (q _ (by omega)).1.trans h.c0, (q _ (by omega)).1.trans h.c1, (q _ (by omega)).2.trans h.f1, h.bel.trans (hb.mono (by omega)), Nat.le_trans big hb.size⟩
/-- A word on. -/
theorem ClI.next {W : World} {v : Int} {ws : List By} {k : Nat} {V : World} {w : By} {en : Bool} (h : ClI W v ws k V) (_hw : ws[k]? = some w) (he : runC v (ws.take (k + 1)) = some en) : ClI W v ws (k + 1) (V.setCell ⟨W.heap.size + 1 + 1, 0, none⟩ (.bool en)) := by
  obtain ⟨_, _, h2⟩ := h.en
  have q : ∀ c, c < W.heap.size + 2 → (V.setCell ⟨W.heap.size + 1 + 1, 0, none⟩ (.bool en)).cell? ⟨c, 0, none⟩ = V.cell? ⟨c, 0, none⟩ := fun c hc => World.cell?_setCell_other _ _ _ _ (by simp; try omega)
  exact ⟨⟨en, he, World.cell?_setCell_same' _ _ _ (by rw [h2]; rfl)⟩, by rw [World.frozen?_setCell]; exact h.ef, (q _ (by omega)).trans h.c0, (q _ (by omega)).trans h.c1, by rw [World.frozen?_setCell]; exact h.f1, h.bel.setCell (show W.heap.size ≤ W.heap.size + 1 + 1 by omega) _, by have := h.big; simpa [World.setCell] using this⟩

/-- The call's own six blocks. -/
def six (W : World) (v : Int) (s : ByteArray) : World := (((((W.alloc (.cells #[.int .i64 v] 3)).alloc (.cells #[.bool false] 4)).alloc (.cells #[.bool false] 4)).alloc (.cells #[.string s] 9)).alloc (.cells #[.string ⟨#[32]⟩] 9)).alloc (.cells #[.int .i64 0] 3)
theorem six_is (W : World) (v : Int) (s : ByteArray) : ClI W v (splitB 32 s.data.toList) 0 (six W v s) ∧ SepC (W.heap.size + 1 + 1 + 1 + 1) (W.heap.size + 1 + 1 + 1) (W.heap.size + 1 + 1 + 1 + 1 + 1) 32 s.data.toList (six W v s) ∧ (six W v s).heap.size = W.heap.size + 6 := by
  have b0 := Below.refl W.heap.size W
  have hb : Below W.heap.size W (six W v s) := bel_alloc (bel_alloc (bel_alloc (bel_alloc (bel_alloc (bel_alloc b0 _) _) _) _) _) _
  have hz : (six W v s).heap.size = W.heap.size + 6 := by unfold six; simp
  refine ⟨⟨⟨false, rfl, ?_⟩, ?_, ?_, ?_, ?_, hb, by omega⟩, ⟨⟨?_, ?_⟩, ?_, ?_⟩, hz⟩
  · unfold six; go_simp
  · unfold six; go_simp
  · unfold six; go_simp
  · unfold six; go_simp
  · unfold six; go_simp
  · rw [strW_of]; unfold six; go_simp
  · unfold six; go_simp
  · unfold six; go_simp
  · unfold six; go_simp

theorem isclause_any {v : Int} {s : ByteArray} {W : World} (hE : Sees W) (hs : s.size ≤ 1000000000) (hv0 : 0 ≤ v) (hv1 : v ≤ 1000000) :
    Calls Tryd.prog 36 #[.string s, .int .i64 v] W fun e w => e = .returned (.bool (clP v s.data.toList)) ∧ Below W.heap.size W w := by
  obtain ⟨ws, hws⟩ : ∃ ws, ws = splitB 32 s.data.toList := ⟨_, rfl⟩
  have HWS := Lib.hid hws
  have hlen : ∀ w ∈ ws, w.length ≤ 1000000000 := fun w hw => by
    have := split_le 32 (by rw [hws] at hw; exact hw)
    have : s.data.toList.length = s.size := rfl
    omega
  have HLN := Lib.hid hlen
  have HE := Lib.hid hE
  have HS := Lib.hid hs
  clear hE hws hlen
  refine (callsIn_wide (n := 3)).1 ?_
  refine callsIn_of_wp_marks Tryd.func36 rfl trivial ?_ rfl
  simp only [Tryd.ntmps36, List.size_toArray, List.length_cons, List.length_nil, Nat.reduceAdd, Nat.reduceSub, Array.replicate_succ, Array.replicate_zero, List.push_toArray, List.append_toArray, List.nil_append, List.cons_append]
  gi_wp2_with (refine ⟨trivial, ?_⟩; gi_at_call 41; refine (callsIn_wide.2 (sseq_any _ _ _)).mono ?_; rintro e w' ⟨rfl, rfl⟩)
  have H6 := Lib.hid (six_is W v s)
  unfold six at H6
  generalize (((((W.alloc (.cells #[.int .i64 v] 3)).alloc (.cells #[.bool false] 4)).alloc (.cells #[.bool false] 4)).alloc (.cells #[.string s] 9)).alloc (.cells #[.string ⟨#[32]⟩] 9)).alloc (.cells #[.int .i64 0] 3) = U at H6 ⊢
  rw [← HWS.out] at H6
  have hz6 := H6.out.2.2
  refine range_cell (n := 3) rfl (by decide) (gf := 65) (b := W.heap.size + 1 + 1 + 1) rfl trivial (enters_of Tryd.func65 (by kernel_rfl) rfl)
    (seq_gives (3 - 1) (W.heap.size + 1 + 1 + 1 + 1) (W.heap.size + 1 + 1 + 1) (W.heap.size + 1 + 1 + 1 + 1 + 1) 32 (by decide) (by omega) (by omega) s.data.toList HS.out)
    (by intro c hc; simp at hc; omega) (by simp) H6.out.2.1 (fun V V' k h => h.same k) rfl
    (ClI W v ws) (fun V => V.cell? ⟨W.heap.size + 1, 0, none⟩ = some (.bool false) ∧ clP v s.data.toList = false ∧ Below W.heap.size W V)
    (fun k V V' row h hg hr => h.kept hg (fun r e => by have := hr r e; rw [hz6] at this; exact this))
    (fun k V u h => h.set (by omega) u) (fun k V h => h.kept (row := none) (World.grownBy_alloc V (.cells #[] 3) none |> fun _ => ⟨rfl, rfl, rfl, Nat.le_refl _, fun _ _ _ => rfl⟩) (fun r e => by cases e))
    (fun _ V V' row h hg hr => ⟨cell_kept h.1 hg (fun r e => (hr r e).2), h.2.1, h.2.2.grown hg (by have := h.2.2.size; omega) (fun r e => by have := (hr r e).1; omega)⟩)
    H6.out.1 (fun x => { tmps := #[.string s, .int .i64 v, undef, .pointer (some ⟨W.heap.size, 0, none⟩), .pointer (some ⟨W.heap.size + 1, 0, none⟩), .pointer (some ⟨W.heap.size + 1 + 1, 0, none⟩), x, undef, undef, .string s, .func (.func 65) #[] #[.pointer (some ⟨W.heap.size + 1 + 1 + 1 + 1, 0, none⟩), .pointer (some ⟨W.heap.size + 1 + 1 + 1, 0, none⟩), .pointer (some ⟨W.heap.size + 1 + 1 + 1 + 1 + 1, 0, none⟩)], x, undef, undef, undef, undef, undef, undef, undef, undef, undef, undef, undef, undef, undef, undef, undef, undef, undef, undef, undef, undef, undef, undef, undef], defers := [] }) ?assign ?body ?done ?stop
  case assign =>
    intro l x V K hK
    have hsem := @Oper.semAt_some
    gi_wp2
    exact hK
  case body =>
    intro l k x V hx hI
    obtain ⟨w, hw, rfl⟩ : ∃ w, ws[k]? = some w ∧ x = strW w := by
      rw [← HWS.out, List.getElem?_map] at hx
      cases hq : ws[k]? with
      | none => rw [hq] at hx; cases hx
      | some w => rw [hq] at hx; injection hx with hx; exact ⟨w, rfl, hx.symm⟩
    have hwl := HLN.out w (List.mem_of_getElem? hw)
    obtain ⟨en, hen, cen⟩ := hI.en
    have fen := hI.ef
    have cv := hI.c0
    have cr := hI.c1
    have fr := hI.f1
    have big := hI.big
    have HN := Lib.hid (cnumber_any (s := ⟨w.toArray⟩) (HE.out.keep hI.bel) hwl)
    have HI := Lib.hid hI
    have HW := Lib.hid hw
    have HEN := Lib.hid hen
    have hsem := @Oper.semAt_some
    have hun : ∀ b : Bool, ¬ undef = Value.bool b := fun b h => by cases h
    have HSAME : Hid (∀ V' u, Below V.heap.size V V' → Same [W.heap.size + 1 + 1 + 1 + 1, W.heap.size + 1 + 1 + 1, W.heap.size + 1 + 1 + 1 + 1 + 1] V (V'.setCell ⟨W.heap.size + 1 + 1, 0, none⟩ u)) := Lib.hid (fun V' u hb => (same_below hb (by intro c hc; simp at hc; omega)).trans (same_set (by simp) u))
    have HRET : Hid (∀ V', stepC v (runC v (ws.take k)) w = none → Below V.heap.size V V' → KeepsOthers V (V'.setCell ⟨W.heap.size + 1, 0, none⟩ (.bool false)) ∧ (V'.setCell ⟨W.heap.size + 1, 0, none⟩ (.bool false)).cell? ⟨W.heap.size + 1, 0, none⟩ = some (.bool false) ∧ clP v s.data.toList = false ∧ Below W.heap.size W (V'.setCell ⟨W.heap.size + 1, 0, none⟩ (.bool false))) := Lib.hid (fun V' hst hb => ⟨(kothers hb).trans (KeepsOthers.setCell _ _ _), World.cell?_setCell_same' _ _ _ (by rw [(HI.out.call hb).c1]; rfl), by
        have := runC_bad hw hst
        unfold clP
        rw [← HWS.out, this]
        rfl, (HI.out.call hb).bel.setCell (show W.heap.size ≤ W.heap.size + 1 by omega) _⟩)
    have HNEXT : Hid (∀ V' en', stepC v (runC v (ws.take k)) w = some en' → Below V.heap.size V V' → KeepsOthers V (V'.setCell ⟨W.heap.size + 1 + 1, 0, none⟩ (.bool en')) ∧ Same [W.heap.size + 1 + 1 + 1 + 1, W.heap.size + 1 + 1 + 1, W.heap.size + 1 + 1 + 1 + 1 + 1] V (V'.setCell ⟨W.heap.size + 1 + 1, 0, none⟩ (.bool en')) ∧ ClI W v ws (k + 1) (V'.setCell ⟨W.heap.size + 1 + 1, 0, none⟩ (.bool en'))) := Lib.hid (fun V' en' hst hb => ⟨(kothers hb).trans (KeepsOthers.setCell _ _ _), HSAME.out V' _ hb, (HI.out.call hb).next hw (runC_ok hw hst)⟩)
    clear hI hw hen hx hwl
    rw [HEN.out] at HRET HNEXT
    unfold strW
    cases hr : rdN w with
    | none =>
      have HST : Hid (stepC v (some en) w = none) := Lib.hid (by simp [stepC, hr])
      have HN0 : Hid (Calls Tryd.prog 35 #[.string ⟨w.toArray⟩] V fun e V' => ∃ x, e = .returned (.tuple #[.int .i64 x, .bool false]) ∧ Below V.heap.size V V') := Lib.hid (HN.out.mono (fun e V' h => by
        obtain ⟨hb, x, b, rfl, h1, _⟩ := h
        cases b with
        | true => have := h1 rfl; rw [show rdN (⟨w.toArray⟩ : ByteArray).data.toList = rdN w from rfl, hr] at this; cases this
        | false => exact ⟨x, rfl, hb⟩))
      clear HN hr
      cases en with
      | true =>
        gi_wp2_with (first | (refine ⟨trivial, ?_⟩; go_at_K) | (refine ⟨trivial, ?_⟩; gi_at_call 35; refine (callsIn_wide.2 HN0.out).mono ?_; rintro e V1 ⟨x, rfl, hb1⟩; have g0 := (hb1.cell (p := ⟨W.heap.size + 1 + 1, 0, none⟩) (show W.heap.size + 1 + 1 < V.heap.size by omega)).trans cen; have g1 := (hb1.cell (p := ⟨W.heap.size + 1, 0, none⟩) (show W.heap.size + 1 < V.heap.size by omega)).trans cr; have g2 := (hb1.frozen (p := ⟨W.heap.size + 1, 0, none⟩) (show W.heap.size + 1 < V.heap.size by omega)).trans fr; have HB1 := Lib.hid hb1; clear hb1))
        exact HRET.out _ HST.out HB1.out
      | false =>
        gi_wp2_with (first | (refine ⟨trivial, ?_⟩; go_at_K) | (refine ⟨trivial, ?_⟩; gi_at_call 35; refine (callsIn_wide.2 HN0.out).mono ?_; rintro e V1 ⟨x, rfl, hb1⟩; have g0 := (hb1.cell (p := ⟨W.heap.size + 1 + 1, 0, none⟩) (show W.heap.size + 1 + 1 < V.heap.size by omega)).trans cen; have g1 := (hb1.cell (p := ⟨W.heap.size + 1, 0, none⟩) (show W.heap.size + 1 < V.heap.size by omega)).trans cr; have g2 := (hb1.frozen (p := ⟨W.heap.size + 1, 0, none⟩) (show W.heap.size + 1 < V.heap.size by omega)).trans fr; have HB1 := Lib.hid hb1; clear hb1))
        exact HRET.out _ HST.out HB1.out
    | some n =>
      have HN1 : Hid (Calls Tryd.prog 35 #[.string ⟨w.toArray⟩] V fun e V' => e = .returned (.tuple #[.int .i64 n, .bool true]) ∧ Below V.heap.size V V') := Lib.hid (HN.out.mono (fun e V' h => by
        obtain ⟨hb, x, b, rfl, h1, h2⟩ := h
        cases b with
        | true => have := h1 rfl; rw [show rdN (⟨w.toArray⟩ : ByteArray).data.toList = rdN w from rfl, hr] at this; injection this with this; subst this; exact ⟨rfl, hb⟩
        | false => have := h2 rfl; rw [show rdN (⟨w.toArray⟩ : ByteArray).data.toList = rdN w from rfl, hr] at this; cases this))
      have HR := Lib.hid hr
      clear HN hr
      cases en with
      | true =>
        have HST : Hid (stepC v (some true) w = none) := Lib.hid (by simp [stepC, HR.out])
        gi_wp2_with (first | (refine ⟨trivial, ?_⟩; go_at_K) | (refine ⟨trivial, ?_⟩; gi_at_call 35; refine (callsIn_wide.2 HN1.out).mono ?_; rintro e V1 ⟨rfl, hb1⟩; have g0 := (hb1.cell (p := ⟨W.heap.size + 1 + 1, 0, none⟩) (show W.heap.size + 1 + 1 < V.heap.size by omega)).trans cen; have g1 := (hb1.cell (p := ⟨W.heap.size + 1, 0, none⟩) (show W.heap.size + 1 < V.heap.size by omega)).trans cr; have g2 := (hb1.frozen (p := ⟨W.heap.size + 1, 0, none⟩) (show W.heap.size + 1 < V.heap.size by omega)).trans fr; have HB1 := Lib.hid hb1; clear hb1))
        exact HRET.out _ HST.out HB1.out
      | false =>
        by_cases hn : n = 0
        · subst hn
          have HST : Hid (stepC v (some false) w = some true) := Lib.hid (by simp [stepC, HR.out])
          gi_wp2_with (first | (refine ⟨trivial, ?_⟩; go_at_K) | (refine ⟨trivial, ?_⟩; gi_at_call 35; refine (callsIn_wide.2 HN1.out).mono ?_; rintro e V1 ⟨rfl, hb1⟩; have g0 := (hb1.cell (p := ⟨W.heap.size + 1 + 1, 0, none⟩) (show W.heap.size + 1 + 1 < V.heap.size by omega)).trans cen; have g1 := (hb1.cell (p := ⟨W.heap.size + 1, 0, none⟩) (show W.heap.size + 1 < V.heap.size by omega)).trans cr; have g2 := (hb1.frozen (p := ⟨W.heap.size + 1, 0, none⟩) (show W.heap.size + 1 < V.heap.size by omega)).trans fr; have g3 := (hb1.cell (p := ⟨W.heap.size, 0, none⟩) (show W.heap.size < V.heap.size by omega)).trans cv; have g4 := (hb1.frozen (p := ⟨W.heap.size + 1 + 1, 0, none⟩) (show W.heap.size + 1 + 1 < V.heap.size by omega)).trans fen; have HB1 := Lib.hid hb1; clear hb1) | (refine ⟨trivial, ?_⟩; gi_at_call 27; refine (callsIn_wide.2 (HLIT.out _)).mono ?_; rintro e V2 ⟨rfl, rfl⟩))
          exact HNEXT.out _ _ HST.out HB1.out
        · have d1 : (n != 0) = true := by simpa using hn
          have d2 : (n == 0) = false := by simpa using hn
          have HLIT : Hid (∀ V2 : World, Calls Tryd.prog 27 #[.int .i64 n, .int .i64 v] V2 fun e V3 => e = .returned (.bool (isL n v)) ∧ V2 = V3) := Lib.hid (fun V2 => lit_any (W := V2) (l := n) hv0 hv1)
          have HNZ := Lib.hid hn
          clear hn
          cases hl : isL n v with
          | true =>
            have HST : Hid (stepC v (some false) w = some false) := Lib.hid (by simp [stepC, HR.out, hl, HNZ.out])
            rw [hl] at HLIT
            clear hl
            gi_wp2_with (first | (refine ⟨trivial, ?_⟩; go_at_K) | (refine ⟨trivial, ?_⟩; gi_at_call 35; refine (callsIn_wide.2 HN1.out).mono ?_; rintro e V1 ⟨rfl, hb1⟩; have g0 := (hb1.cell (p := ⟨W.heap.size + 1 + 1, 0, none⟩) (show W.heap.size + 1 + 1 < V.heap.size by omega)).trans cen; have g1 := (hb1.cell (p := ⟨W.heap.size + 1, 0, none⟩) (show W.heap.size + 1 < V.heap.size by omega)).trans cr; have g2 := (hb1.frozen (p := ⟨W.heap.size + 1, 0, none⟩) (show W.heap.size + 1 < V.heap.size by omega)).trans fr; have g3 := (hb1.cell (p := ⟨W.heap.size, 0, none⟩) (show W.heap.size < V.heap.size by omega)).trans cv; have g4 := (hb1.frozen (p := ⟨W.heap.size + 1 + 1, 0, none⟩) (show W.heap.size + 1 + 1 < V.heap.size by omega)).trans fen; have HB1 := Lib.hid hb1; clear hb1) | (refine ⟨trivial, ?_⟩; gi_at_call 27; refine (callsIn_wide.2 (HLIT.out _)).mono ?_; rintro e V2 ⟨rfl, rfl⟩))
            exact HNEXT.out _ _ HST.out HB1.out
          | false =>
            have HST : Hid (stepC v (some false) w = none) := Lib.hid (by simp [stepC, HR.out, hl, HNZ.out])
            rw [hl] at HLIT
            clear hl
            gi_wp2_with (first | (refine ⟨trivial, ?_⟩; go_at_K) | (refine ⟨trivial, ?_⟩; gi_at_call 35; refine (callsIn_wide.2 HN1.out).mono ?_; rintro e V1 ⟨rfl, hb1⟩; have g0 := (hb1.cell (p := ⟨W.heap.size + 1 + 1, 0, none⟩) (show W.heap.size + 1 + 1 < V.heap.size by omega)).trans cen; have g1 := (hb1.cell (p := ⟨W.heap.size + 1, 0, none⟩) (show W.heap.size + 1 < V.heap.size by omega)).trans cr; have g2 := (hb1.frozen (p := ⟨W.heap.size + 1, 0, none⟩) (show W.heap.size + 1 < V.heap.size by omega)).trans fr; have g3 := (hb1.cell (p := ⟨W.heap.size, 0, none⟩) (show W.heap.size < V.heap.size by omega)).trans cv; have g4 := (hb1.frozen (p := ⟨W.heap.size + 1 + 1, 0, none⟩) (show W.heap.size + 1 + 1 < V.heap.size by omega)).trans fen; have HB1 := Lib.hid hb1; clear hb1) | (refine ⟨trivial, ?_⟩; gi_at_call 27; refine (callsIn_wide.2 (HLIT.out _)).mono ?_; rintro e V2 ⟨rfl, rfl⟩))
            exact HRET.out _ HST.out HB1.out
  case done =>
    intro D V hD hI hK
    obtain ⟨en, hen, cen⟩ := hI.en
    have fr := hI.f1
    have cr := hI.c1
    have HI := Lib.hid hI
    have HD := Lib.hid hD
    have HK := Lib.hid hK
    have HCL : Hid (clP v s.data.toList = en) := Lib.hid (by
      unfold clP
      rw [List.length_map, ← HWS.out, List.take_length] at hen
      rw [← HWS.out, hen]
      cases en <;> rfl)
    clear hI hD hK hen
    gi_wp2
    have hK2 := (KeepsOthers.setCell V ⟨W.heap.size + 1, 0, none⟩ (.bool en)).same D _ HK.out rfl
    have c1' : (V.setCell ⟨W.heap.size + 1, 0, none⟩ (.bool en)).cell? ⟨W.heap.size + 1, 0, none⟩ = some (.bool en) := World.cell?_setCell_same' _ _ _ (by rw [cr]; rfl)
    have c3 := cell_kept c1' (grownBy_putObj' _ D (.deferred none)) (fun r e => by cases e; exact ⟨_, hK2, rfl⟩)
    refine ⟨by simp, .inl ⟨_, _, rfl, run_takeDeferred hK2, ?_⟩⟩
    refine ⟨_, ?res, by rw [HCL.out], ?bel⟩
    case res => simp [results, Tryd.results36, go_sem, c3]
    case bel => exact (HI.out.bel.setCell (show W.heap.size ≤ W.heap.size + 1 by omega) _).trans (belowK_b (w := W) (Nat.le_refl _) _ D _ _ (by have := HD.out; omega) hK2 rfl rfl)
  case stop =>
    intro D V hD hI hK
    obtain ⟨hc, hcl, hb⟩ := hI
    have HB := Lib.hid hb
    have HD := Lib.hid hD
    have HK := Lib.hid hK
    have HCL := Lib.hid hcl
    clear hb hD hK hcl
    have c3 := cell_kept hc (grownBy_putObj' V D (.deferred none)) (fun r e => by cases e; exact ⟨_, HK.out, rfl⟩)
    gi_wp2
    refine ⟨by simp, .inl ⟨_, _, rfl, run_takeDeferred HK.out, ?_⟩⟩
    refine ⟨_, ?res2, by rw [HCL.out], ?bel2⟩
    case res2 => simp [results, Tryd.results36, go_sem, c3]
    case bel2 => exact HB.out.trans (belowK_b (w := W) (Nat.le_refl _) _ D _ _ (by have := HD.out; omega) HK.out rfl rfl)
end Cf
end Go.Proofs.YtcpehdeddgfpmaaDoor
