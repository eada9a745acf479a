/-
  The program's areClauses, whatever the lines.
-/
import Derived.Test.YtcpehdeddgfpmaaDoorCuClause
namespace Go.Proofs.YtcpehdeddgfpmaaDoor
open Go.RowKit Go.Shelf
namespace Cf
set_option maxHeartbeats 3200000
set_option maxRecDepth 100000

def trimN (x : By) : By := Lib.trimSuffix x [10]
theorem trim_len (x : By) : (trimN x).length ≤ x.length := by
  unfold trimN Lib.trimSuffix
  split
  · rw [List.length_take]; omega
  · exact Nat.le_refl _
theorem lines_le : ∀ {s x : By}, x ∈ linesL s → x.length ≤ s.length + 1 := by
  intro s x hx
  have key : ∀ L : List By, x ∈ joinL L → ∃ y ∈ L, x.length ≤ y.length + 1 := by
    intro L
    induction L with
    | nil => intro h; simp [joinL] at h
    | cons a t ih =>
      cases t with
      | nil =>
        intro h
        simp only [joinL] at h
        split at h
        · cases h
        · simp at h; exact ⟨a, by simp, by rw [h]; omega⟩
      | cons b r =>
        intro h
        simp only [joinL, List.mem_cons] at h
        rcases h with h | h
        · exact ⟨a, by simp, by rw [h]; simp⟩
        · obtain ⟨y, hy, hl⟩ := ih h
          exact ⟨y, List.mem_cons_of_mem _ hy, hl⟩
  obtain ⟨y, hy, hl⟩ := key _ hx
  have := split_le 10 hy
  omega
theorem lines_many (s : By) : (linesL s).length ≤ s.length + 1 := by
  have key : ∀ L : List By, (joinL L).length ≤ L.length := by
    intro L
    induction L with
    | nil => simp [joinL]
    | cons a t ih =>
      cases t with
      | nil => simp only [joinL]; split <;> simp
      | cons b r => simp only [joinL, List.length_cons] at ih ⊢; omega
  have := key (splitB 10 s)
  have := split_len 10 s
  unfold linesL
  omega
def okN (v : Int) (x : By) : Bool := clP v (trimN x)
def areP (v : Int) (s : By) (c : Int) : Bool := (linesL s).all (okN v) && (((linesL s).length : Int) == c)

/-- Between two lines. -/
structure ArI (W : World) (v : Int) (ws : List By) (k : Nat) (V : World) : Prop where
  ok : (ws.take k).all (okN v) = true
  c2 : V.cell? ⟨W.heap.size + 1 + 1, 0, none⟩ = some (.int .i64 ((k : Nat) : Int))
  f2 : V.frozen? ⟨W.heap.size + 1 + 1, 0, none⟩ = false
  c0 : V.cell? ⟨W.heap.size, 0, none⟩ = some (.int .i64 v)
  c1 : V.cell? ⟨W.heap.size + 1, 0, none⟩ = some (.bool false)
  f1 : V.frozen? ⟨W.heap.size + 1, 0, none⟩ = false
  bel : Below W.heap.size W V
  big : W.heap.size + 4 ≤ V.heap.size
theorem ArI.kept {W : World} {v : Int} {ws : List By} {k : Nat} {V V' : World} {row : Option Nat} (h : ArI W v ws k V) (hg : V.grownBy V' row) (hr : ∀ r, row = some r → W.heap.size + 4 ≤ r ∧ ∃ o : Obj, V.heap[r]? = some o ∧ o.isCells = false) : ArI W v ws k V' := by
  have hr' : ∀ r, row = some r → ∃ o : Obj, V.heap[r]? = some o ∧ o.isCells = false := fun r e => (hr r e).2
  exact ⟨h.ok, cell_kept h.c2 hg hr', (frozen_kept h.c2 hg hr').trans h.f2, cell_kept h.c0 hg hr', cell_kept h.c1 hg hr', (frozen_kept h.c1 hg hr').trans h.f1, h.bel.grown hg (by have := h.big; omega) (fun r e => by have := (hr r e).1; omega), Nat.le_trans h.big hg.size⟩
theorem ArI.set {W : World} {v : Int} {ws : List By} {k b : Nat} {V : World} (h : ArI W v ws k V) (hb : W.heap.size + 3 ≤ b) (u : Value) : ArI W v ws k (V.setCell ⟨b, 0, none⟩ u) := by
  have q : ∀ c, c < W.heap.size + 3 → (V.setCell ⟨b, 0, none⟩ u).cell? ⟨c, 0, none⟩ = V.cell? ⟨c, 0, none⟩ := fun c hc => World.cell?_setCell_other _ _ _ _ (by simp; try omega)
  exact ⟨h.ok, (q _ (by omega)).trans h.c2, by rw [World.frozen?_setCell]; exact h.f2, (q _ (by omega)).trans h.c0, (q _ (by omega)).trans h.c1, by rw [World.frozen?_setCell]; exact h.f1, h.bel.setCell (show W.heap.size ≤ b by omega) u, by have := h.big; simpa [World.setCell] using this⟩
theorem ArI.call {W : World} {v : Int} {ws : List By} {k : Nat} {V V' : World} (h : ArI W v ws k V) (hb : Below V.heap.size V V') : ArI W v ws k V' := by
  have big := h.big
  have q : ∀ c, c < V.heap.size → V'.cell? ⟨c, 0, none⟩ = V.cell? ⟨c, 0, none⟩ ∧ V'.frozen? ⟨c, 0, none⟩ = V.frozen? ⟨c, 0, none⟩ := fun c hc => ⟨hb.cell (p := ⟨c, 0, none⟩) hc, hb.frozen (p := ⟨c, 0, none⟩) hc⟩
  exact ⟨h.ok, (q _ (by omega)).1.trans h.c2, (q _ (by omega)).2.trans h.f2, (q _ (by omega)).1.trans h.c0, (q _ (by omega)).1.trans h.c1, (q _ (by omega)).2.trans h.f1, h.bel.trans (hb.mono (by omega)), Nat.le_trans big hb.size⟩
theorem ArI.next {W : World} {v : Int} {ws : List By} {k : Nat} {V : World} {w : By} (h : ArI W v ws k V) (hw : ws[k]? = some w) (ho : okN v w = true) : ArI W v ws (k + 1) (V.setCell ⟨W.heap.size + 1 + 1, 0, none⟩ (.int .i64 (((k + 1 : Nat) : Nat) : Int))) := by
  have q : ∀ c, c < W.heap.size + 2 → (V.setCell ⟨W.heap.size + 1 + 1, 0, none⟩ (.int .i64 (((k + 1 : Nat) : Nat) : Int))).cell? ⟨c, 0, none⟩ = V.cell? ⟨c, 0, none⟩ := fun c hc => World.cell?_setCell_other _ _ _ _ (by simp; try omega)
  exact ⟨by rw [List.take_add_one, hw, List.all_append, h.ok]; simp [ho], World.cell?_setCell_same' _ _ _ (by rw [h.c2]; rfl), by rw [World.frozen?_setCell]; exact h.f2, (q _ (by omega)).trans h.c0, (q _ (by omega)).trans h.c1, by rw [World.frozen?_setCell]; exact h.f1, h.bel.setCell (show W.heap.size ≤ W.heap.size + 1 + 1 by omega) _, by have := h.big; simpa [World.setCell] using this⟩

/-- The call's own fourA blocks. -/
def fourA (W : World) (v : Int) (s : ByteArray) : World := (((W.alloc (.cells #[.int .i64 v] 3)).alloc (.cells #[.bool false] 4)).alloc (.cells #[.int .i64 0] 3)).alloc (.cells #[.string s] 9)
theorem fourA_is (W : World) (v : Int) (s : ByteArray) : ArI W v (linesL s.data.toList) 0 (fourA W v s) ∧ LeftC (W.heap.size + 1 + 1 + 1) s.data.toList (fourA W v s) ∧ (fourA W v s).heap.size = W.heap.size + 4 := by
  have b0 := Below.refl W.heap.size W
  have hb : Below W.heap.size W (fourA W v s) := bel_alloc (bel_alloc (bel_alloc (bel_alloc b0 _) _) _) _
  have hz : (fourA W v s).heap.size = W.heap.size + 4 := by unfold fourA; simp
  refine ⟨⟨by simp, ?_, ?_, ?_, ?_, ?_, hb, by omega⟩, ⟨?_, ?_⟩, hz⟩
  · unfold fourA; go_simp
  · unfold fourA; go_simp
  · unfold fourA; go_simp
  · unfold fourA; go_simp
  · unfold fourA; go_simp
  · rw [strW_of]; unfold fourA; go_simp
  · unfold fourA; go_simp

theorem areclauses_any {v c : Int} {s : ByteArray} {W : World} (hE : Sees W) (hs : s.size ≤ 100000000) (hv0 : 0 ≤ v) (hv1 : v ≤ 1000000) :
    Calls Tryd.prog 16 #[.string s, .int .i64 v, .int .i64 c] W fun e w => e = .returned (.bool (areP v s.data.toList c)) ∧ Below W.heap.size W w := by
  obtain ⟨ws, hws⟩ : ∃ ws, ws = linesL s.data.toList := ⟨_, rfl⟩
  have HWS := Lib.hid hws
  have hlen : ∀ w ∈ ws, w.length ≤ 1000000000 := fun w hw => by
    have := lines_le (by rw [hws] at hw; exact hw)
    have : s.data.toList.length = s.size := rfl
    omega
  have hmany : ws.length ≤ 1000000000 := by
    have := lines_many s.data.toList
    have : s.data.toList.length = s.size := rfl
    rw [hws]; omega
  have HLN := Lib.hid hlen
  have HMANY := Lib.hid hmany
  have HE := Lib.hid hE
  have HS : Hid (s.data.toList.length ≤ 1000000000) := Lib.hid (by have : s.data.toList.length = s.size := rfl; omega)
  clear hE hws hlen hmany hs
  refine (callsIn_wide (n := 3)).1 ?_
  refine callsIn_of_wp_marks Tryd.func16 rfl trivial ?_ rfl
  simp only [Tryd.ntmps16, List.size_toArray, List.length_cons, List.length_nil, Nat.reduceAdd, Nat.reduceSub, Array.replicate_succ, Array.replicate_zero, List.push_toArray, List.append_toArray, List.nil_append, List.cons_append]
  gi_wp2_with (refine ⟨trivial, ?_⟩; gi_at_call 18; refine (callsIn_wide.2 (slines_any _ _)).mono ?_; rintro e w' ⟨rfl, rfl⟩)
  have H6 := Lib.hid (fourA_is W v s)
  unfold fourA at H6
  generalize (((W.alloc (.cells #[.int .i64 v] 3)).alloc (.cells #[.bool false] 4)).alloc (.cells #[.int .i64 0] 3)).alloc (.cells #[.string s] 9) = U at H6 ⊢
  rw [← HWS.out] at H6
  have hz6 := H6.out.2.2
  refine range_cell (n := 3) rfl (by decide) (gf := 39) (b := W.heap.size + 1 + 1 + 1) rfl trivial (enters_of Tryd.func39 (by kernel_rfl) rfl)
    (lines_gives (3 - 1) (W.heap.size + 1 + 1 + 1) (by decide) s.data.toList HS.out)
    (by intro c hc; simp at hc; omega) (by simp) H6.out.2.1 (fun V V' k h => h.same k) rfl
    (ArI W v ws) (fun V => V.cell? ⟨W.heap.size + 1, 0, none⟩ = some (.bool false) ∧ areP v s.data.toList c = false ∧ Below W.heap.size W V)
    (fun k V V' row h hg hr => h.kept hg (fun r e => by have := hr r e; rw [hz6] at this; exact this))
    (fun k V u h => h.set (by omega) u) (fun k V h => h.kept (row := none) (World.grownBy_alloc V (.cells #[] 3) none |> fun _ => ⟨rfl, rfl, rfl, Nat.le_refl _, fun _ _ _ => rfl⟩) (fun r e => by cases e))
    (fun _ V V' row h hg hr => ⟨cell_kept h.1 hg (fun r e => (hr r e).2), h.2.1, h.2.2.grown hg (by have := h.2.2.size; omega) (fun r e => by have := (hr r e).1; omega)⟩)
    H6.out.1 (fun x => { tmps := #[.string s, .int .i64 v, .int .i64 c, undef, .pointer (some ⟨W.heap.size, 0, none⟩), undef, .pointer (some ⟨W.heap.size + 1, 0, none⟩), .pointer (some ⟨W.heap.size + 1 + 1, 0, none⟩), x, .string s, .func (.func 39) #[] #[.pointer (some ⟨W.heap.size + 1 + 1 + 1, 0, none⟩)], x, undef, undef, undef, undef, undef, undef, undef, undef, undef, undef], defers := [] }) ?assign ?body ?done ?stop
  case assign =>
    intro l x V K hK
    have hsem := @Oper.semAt_some
    gi_wp2
    exact hK
  case body =>
    intro l k x V hx hI
    obtain ⟨w, hw, rfl⟩ : ∃ w, ws[k]? = some w ∧ x = strW w := by
      rw [← HWS.out, List.getElem?_map] at hx
      cases hq : ws[k]? with
      | none => rw [hq] at hx; cases hx
      | some w => rw [hq] at hx; injection hx with hx; exact ⟨w, rfl, hx.symm⟩
    have hwl := HLN.out w (List.mem_of_getElem? hw)
    have c2 := hI.c2
    have f2 := hI.f2
    have cv := hI.c0
    have cr := hI.c1
    have fr := hI.f1
    have big := hI.big
    have HT : Hid (∀ V2 : World, Calls Tryd.prog 37 #[.string ⟨w.toArray⟩, .string ⟨#[10]⟩] V2 fun e V3 => e = .returned (.string ⟨(trimN w).toArray⟩) ∧ V3 = V2) := Lib.hid (fun V2 => Tryd.strings_TrimSuffix ⟨w.toArray⟩ ⟨#[10]⟩ V2 (show w.length ≤ _ by omega))
    have HC : Hid (∀ V2, Below V.heap.size V V2 → Calls Tryd.prog 36 #[.string ⟨(trimN w).toArray⟩, .int .i64 v] V2 fun e V3 => e = .returned (.bool (okN v w)) ∧ Below V2.heap.size V2 V3) := Lib.hid (fun V2 hb => isclause_any (s := ⟨(trimN w).toArray⟩) (HE.out.keep (hI.call hb).bel) (show (trimN w).length ≤ _ by have := trim_len w; omega) hv0 hv1)
    have HI := Lib.hid hI
    have HW := Lib.hid hw
    have hk : k ≤ 1000000000 := by have := (List.getElem?_eq_some_iff.1 hw).1; have := HMANY.out; omega
    have hsem := @Oper.semAt_some
    have hun : ∀ b : Bool, ¬ undef = Value.bool b := fun b h => by cases h
    have hmx : Tryd.prog.follows .mixedOrders = true := by kernel_rfl
    clear hI hw hx hwl
    unfold strW
    cases ho : okN v w with
    | true =>
      rw [ho] at HC
      have HO := Lib.hid ho
      clear ho
      gi_wp2
      gi_region_with_o (first | (refine ⟨trivial, ?_⟩; gi_at_call 37; refine (callsIn_wide.2 (HT.out _)).mono ?_; rintro e V2 ⟨rfl, rfl⟩) | (refine ⟨trivial, ?_⟩; gi_at_call 36; refine (callsIn_wide.2 (HC.out _ ((Below.refl _ _).drew))).mono ?_; rintro e V1 ⟨rfl, hb1⟩; have g2 := (hb1.cell (p := ⟨W.heap.size + 1 + 1, 0, none⟩) (show W.heap.size + 1 + 1 < V.heap.size by omega)).trans c2; have e2 := (hb1.frozen (p := ⟨W.heap.size + 1 + 1, 0, none⟩) (show W.heap.size + 1 + 1 < V.heap.size by omega)).trans f2; have g1 := (hb1.cell (p := ⟨W.heap.size + 1, 0, none⟩) (show W.heap.size + 1 < V.heap.size by omega)).trans cr; have e1 := (hb1.frozen (p := ⟨W.heap.size + 1, 0, none⟩) (show W.heap.size + 1 < V.heap.size by omega)).trans fr; have HB1 : Hid (Below V.heap.size V V1) := Lib.hid (((Below.refl V.heap.size V).drew).trans hb1); clear hb1))
      all_goals gi_wp2
      all_goals exact ⟨(kothers HB1.out).trans (KeepsOthers.setCell _ _ _), (same_below HB1.out (by intro c hc; simp at hc; omega)).trans (same_set (by simp) _), (HI.out.call HB1.out).next HW.out HO.out⟩
    | false =>
      rw [ho] at HC
      have HO := Lib.hid ho
      clear ho
      gi_wp2
      gi_region_with_o (first | (refine ⟨trivial, ?_⟩; gi_at_call 37; refine (callsIn_wide.2 (HT.out _)).mono ?_; rintro e V2 ⟨rfl, rfl⟩) | (refine ⟨trivial, ?_⟩; gi_at_call 36; refine (callsIn_wide.2 (HC.out _ ((Below.refl _ _).drew))).mono ?_; rintro e V1 ⟨rfl, hb1⟩; have g2 := (hb1.cell (p := ⟨W.heap.size + 1 + 1, 0, none⟩) (show W.heap.size + 1 + 1 < V.heap.size by omega)).trans c2; have e2 := (hb1.frozen (p := ⟨W.heap.size + 1 + 1, 0, none⟩) (show W.heap.size + 1 + 1 < V.heap.size by omega)).trans f2; have g1 := (hb1.cell (p := ⟨W.heap.size + 1, 0, none⟩) (show W.heap.size + 1 < V.heap.size by omega)).trans cr; have e1 := (hb1.frozen (p := ⟨W.heap.size + 1, 0, none⟩) (show W.heap.size + 1 < V.heap.size by omega)).trans fr; have HB1 : Hid (Below V.heap.size V V1) := Lib.hid (((Below.refl V.heap.size V).drew).trans hb1); clear hb1))
      all_goals gi_wp2
      all_goals exact ⟨(kothers HB1.out).trans (KeepsOthers.setCell _ _ _), World.cell?_setCell_same' _ _ _ (by rw [g1]; rfl), by
        unfold areP
        have : (linesL s.data.toList).all (okN v) = false := by
          rw [← HWS.out, List.all_eq_false]
          exact ⟨w, List.mem_of_getElem? HW.out, by rw [HO.out]; simp⟩
        rw [this]; rfl, (HI.out.call HB1.out).bel.setCell (show W.heap.size ≤ W.heap.size + 1 by omega) _⟩
  case done =>
    intro D V hD hI hK
    have c2 := hI.c2
    have f2 := hI.f2
    have fr := hI.f1
    have cr := hI.c1
    have HI := Lib.hid hI
    have HD := Lib.hid hD
    have HK := Lib.hid hK
    have HAR : Hid (areP v s.data.toList c = (((linesL s.data.toList).length : Int) == c)) := Lib.hid (by
      have := hI.ok
      rw [List.length_map, ← HWS.out, List.take_length] at this
      unfold areP
      rw [← HWS.out, this, Bool.true_and])
    rw [List.length_map] at c2
    clear hI hD hK
    gi_wp2
    have hK2 := (KeepsOthers.setCell V ⟨W.heap.size + 1, 0, none⟩ (.bool (((linesL s.data.toList).length : Int) == c))).same D _ HK.out rfl
    have c1' : (V.setCell ⟨W.heap.size + 1, 0, none⟩ (.bool (((linesL s.data.toList).length : Int) == c))).cell? ⟨W.heap.size + 1, 0, none⟩ = some (.bool (((linesL s.data.toList).length : Int) == c)) := World.cell?_setCell_same' _ _ _ (by rw [cr]; rfl)
    have c3 := cell_kept c1' (grownBy_putObj' _ D (.deferred none)) (fun r e => by cases e; exact ⟨_, hK2, rfl⟩)
    refine ⟨by simp, .inl ⟨_, _, rfl, run_takeDeferred hK2, ?_⟩⟩
    refine ⟨_, ?res, by rw [HAR.out], ?bel⟩
    case res => simp [results, Tryd.results16, go_sem, c3]
    case bel => exact (HI.out.bel.setCell (show W.heap.size ≤ W.heap.size + 1 by omega) _).trans (belowK_b (w := W) (Nat.le_refl _) _ D _ _ (by have := HD.out; omega) hK2 rfl rfl)
  case stop =>
    intro D V hD hI hK
    obtain ⟨hc, hcl, hb⟩ := hI
    have HB := Lib.hid hb
    have HD := Lib.hid hD
    have HK := Lib.hid hK
    have HCL := Lib.hid hcl
    clear hb hD hK hcl
    have c3 := cell_kept hc (grownBy_putObj' V D (.deferred none)) (fun r e => by cases e; exact ⟨_, HK.out, rfl⟩)
    gi_wp2
    refine ⟨by simp, .inl ⟨_, _, rfl, run_takeDeferred HK.out, ?_⟩⟩
    refine ⟨_, ?res2, by rw [HCL.out], ?bel2⟩
    case res2 => simp [results, Tryd.results16, go_sem, c3]
    case bel2 => exact HB.out.trans (belowK_b (w := W) (Nat.le_refl _) _ D _ _ (by have := HD.out; omega) HK.out rfl rfl)
end Cf
end Go.Proofs.YtcpehdeddgfpmaaDoor
