/-
  The statement CnfSound, as a fact on one call.
-/
import Derived.Test.YtmegadjeficfjaaGreatDoorCuLawsA
import Derived.Test.YtmegadjeficfjaaGreatDoorCuHolds
namespace Go.Proofs.YtmegadjeficfjaaGreatDoor
open Go.RowKit
namespace Cf
set_option maxHeartbeats 3200000
set_option maxRecDepth 100000

/-- Whatever the variables. -/
def isB (l v : Int) : Bool := decide (l ≠ 0) && (decide (IntKind.i64.wrap (-v) ≤ l) && decide (l ≤ v))
theorem isB_is {l v : Int} (h0 : 0 ≤ v) (h1 : v ≤ 1000000) : isB l v = isL l v := by
  unfold isB isL
  rw [(neg_i (x := v) (by omega) (by omega)).2]
theorem ris_gen {l v : Int} {W : World} : Calls Tryz.prog 6 #[.int .i64 l, .int .i64 v] W fun e w => e = .returned (.bool (isB l v)) ∧ W = w := by
  obtain ⟨y, hy⟩ : ∃ y, y = IntKind.i64.wrap (-v) := ⟨_, rfl⟩
  have hy2 : wrap64 (-v) = y := by rw [hy]; unfold wrap64; rw [← IntKind.wrap_i64]
  have hy1 := hy.symm
  by_cases h0 : l = 0
  · have HE : Hid (isB l v = false) := by show _ = _; unfold isB; simp [h0]
    subst h0
    clear hy
    go_enter Tryz.func6, Tryz.ntmps6
    go_wp2_with fail
    go_ret
    exact ⟨ret_bool HE.out.symm, rfl⟩
  · have d0 : (l == 0) = false := by simpa using h0
    have d1 : (l != 0) = true := by simpa using h0
    by_cases h1 : y ≤ l
    · by_cases h2 : l ≤ v
      · have HE : Hid (isB l v = true) := by show _ = _; unfold isB; rw [← hy]; simp [h0, h1, h2]
        clear hy h0
        go_enter Tryz.func6, Tryz.ntmps6
        go_wp2_with fail
        go_ret
        exact ⟨ret_bool HE.out.symm, rfl⟩
      · have HE : Hid (isB l v = false) := by show _ = _; unfold isB; simp [h2]
        have h2 : v < l := by omega
        clear hy h0
        go_enter Tryz.func6, Tryz.ntmps6
        go_wp2_with fail
        go_ret
        exact ⟨ret_bool HE.out.symm, rfl⟩
    · have HE : Hid (isB l v = false) := by show _ = _; unfold isB; rw [← hy]; simp [h1]
      have h1 : l < y := by omega
      clear hy h0
      go_enter Tryz.func6, Tryz.ntmps6
      go_wp2_with fail
      go_ret
      exact ⟨ret_bool HE.out.symm, rfl⟩

/-- What a region holds while it runs: the clauses' box, a literal. -/
structure HeldS (b : Nat) (v : Int) (s : Value) (lb lo i : Nat) (x : Int) (w : World) : Prop where
  box : BoxAt b v s w
  lt : lb < w.heap.size
  cx : w.cell? ⟨lb, lo + i, none⟩ = some (.int .i64 x)
theorem HeldS.heap {b lb lo i : Nat} {v x : Int} {s : Value} {w w' : World} (h : HeldS b v s lb lo i x w) (e : w'.heap = w.heap) : HeldS b v s lb lo i x w' :=
  ⟨h.box.heap e, by rw [e]; exact h.lt, by rw [← h.cx]; unfold World.cell?; rw [e]⟩
theorem HeldS.call {b lb lo i : Nat} {v x : Int} {s : Value} {w w' : World} (h : HeldS b v s lb lo i x w) (k : Below w.heap.size w w') : HeldS b v s lb lo i x w' :=
  ⟨h.box.call k, Nat.lt_of_lt_of_le h.lt k.size, (k.cell (p := ⟨lb, lo + i, none⟩) h.lt).trans h.cx⟩
theorem HeldS.alloc {b lb lo i : Nat} {v x : Int} {s : Value} {w : World} (h : HeldS b v s lb lo i x w) (o : Obj) : HeldS b v s lb lo i x (w.alloc o) := h.call (bel_alloc (Below.refl _ _) o)

theorem one_cls (w : World) (x : Int) : ClsAt ((w.alloc (.cells #[.int .i64 x] 3)).alloc (.cells #[.slice (some ⟨w.heap.size, 0, none⟩) 1 1] 25)) (some ⟨w.heap.size + 1, 0, none⟩) [[x]] := by
  have i1 := new_ints w [x] #[.int .i64 x] rfl
  have s1 : (w.alloc (.cells #[.int .i64 x] 3)).heap.size = w.heap.size + 1 := by simp
  have n0 := new_cell (w.alloc (.cells #[.int .i64 x] 3)) #[.slice (some ⟨w.heap.size, 0, none⟩) 1 1] 25 0
  rw [s1] at n0
  refine .inr ⟨w.heap.size + 1, 0, rfl, by simp, fun j k hj => ?_⟩
  match j, hj with
  | 0, hj =>
    obtain rfl : [x] = k := by simpa using hj
    exact ⟨_, _, n0, i1.keep (bel_alloc (Below.refl _ _) _)⟩
  | n + 1, hj => simp at hj
theorem holds_one {m : List Bool} {x : Int} : holdsC m [[x]] = oneM m x := by simp [holdsC]
theorem one_ok {x : Int} (h : I64 x) : OkC [[x]] := ⟨by simp, by simp, by simpa using h⟩
def unitC (v : Int) (g : List Int) : Cl := (g.filter (fun l => isB l v)).map fun l => [l]
theorem unitC_snoc_yes {v l : Int} {g : List Int} (h : isB l v = true) : unitC v (g ++ [l]) = unitC v g ++ [[l]] := by simp [unitC, h]
theorem unitC_snoc_no {v l : Int} {g : List Int} (h : isB l v = false) : unitC v (g ++ [l]) = unitC v g := by simp [unitC, h]
theorem unitC_len (v : Int) (g : List Int) : (unitC v g).length ≤ g.length := by
  unfold unitC
  rw [List.length_map]
  exact List.length_filter_le _ _
theorem unitC_ok {v : Int} {g : List Int} (hg : g.length ≤ 1000000) (h6 : ∀ l ∈ g, I64 l) : OkC (unitC v g) := by
  have h1 := unitC_len v g
  refine ⟨by omega, ?_, ?_⟩
  · intro k hk
    obtain ⟨l, _, rfl⟩ := List.mem_map.1 hk
    simp
  · intro k hk l' hl'
    obtain ⟨l, hl, rfl⟩ := List.mem_map.1 hk
    obtain rfl : l' = l := by simpa using hl'
    exact h6 _ (List.mem_filter.1 hl).1
theorem unitC_flat (v : Int) (g : List Int) : (unitC v g).flatten.length ≤ g.length := by
  have : (unitC v g).flatten = g.filter (fun l => isB l v) := by
    unfold unitC
    induction g.filter (fun l => isB l v) with
    | nil => rfl
    | cons a r ih => simp [ih]
  rw [this]
  exact List.length_filter_le _ _
theorem unitC_holds {v : Int} {g : List Int} {m : List Bool} (h0 : 0 ≤ v) (h1 : v ≤ 1000000) (h : holdsC m (unitC v g) = true) : ∀ l ∈ g, isL l v = true → oneM m l = true := by
  intro l hl hi
  have := List.all_eq_true.1 h [l] (List.mem_map.2 ⟨l, List.mem_filter.2 ⟨hl, by rw [isB_is h0 h1]; exact hi⟩, rfl⟩)
  simpa using this
theorem size_da (w : World) (q : Nat) (o : Obj) : ((w.drewN q).alloc o).heap.size = w.heap.size + 1 := by simp
theorem givenG_in {v : Int} : ∀ {g came : List Int}, (∀ l ∈ came, isL l v = true) → ∀ l ∈ (givenG v came g).1, isL l v = true
  | [], came, h => by unfold givenG; exact h
  | x :: r, came, h => by
    unfold givenG
    by_cases h1 : (!isL x v || came.elem x) = true
    · rw [if_pos h1]; exact givenG_in h
    · rw [if_neg h1]
      by_cases h2 : came.elem (-x) = true
      · rw [if_pos h2]; exact h
      · rw [if_neg h2]
        refine givenG_in fun l hl => ?_
        rcases List.mem_append.1 hl with e | e
        · exact h l e
        · obtain rfl : l = x := by simpa using e
          cases hi : isL l v
          · rw [hi] at h1; simp at h1
          · rfl
theorem stepsG_lit {v : Int} {C : Cl} (hz : ∀ k ∈ C, ∀ l ∈ k, isL l v = true) : ∀ {f : Nat} {came : List Int}, (∀ l ∈ came, isL l v = true) → ∀ l ∈ (stepsG C f came).1, isL l v = true
  | 0, came, h => by unfold stepsG; exact h
  | f + 1, came, h => by
    unfold stepsG
    cases hn : nextC came C with
    | none => exact h
    | some n =>
      simp only
      by_cases h0 : n = 0
      · rw [if_pos h0]; exact h
      · rw [if_neg h0]
        obtain ⟨⟨k, hk, hnk⟩, _, _⟩ := nextC_open (fun k hk l hl => (isL_ne (hz k hk l hl)).1) hn h0
        refine stepsG_lit hz fun l hl => ?_
        rcases List.mem_append.1 hl with e | e
        · exact h l e
        · obtain rfl : l = n := by simpa using e
          exact hz k hk _ hnk
theorem units_in {v : Int} {C : Cl} {g : List Int} (hm : mayC v C = true) : ∀ l ∈ (unitsC v C g).1, isL l v = true := by
  unfold unitsC
  rw [if_pos hm]
  have h1 := givenG_in (v := v) (g := g) (came := []) (by simp)
  cases hg : givenG v [] g with
  | mk came o =>
    rw [hg] at h1
    cases o with
    | true => exact stepsG_lit (mayC_parts hm).2 h1
    | false => exact h1
theorem build_two (w : World) (v : Int) (a : Option Addr) (n c : Nat) : (Instr.build 24 #[(0, .int .i64 v), (1, .slice a n c)]).run Tryz.prog w = .ok (.agg #[.int .i64 v, .slice a n c]) w := run_build w _ _ _ (by kernel_rfl)

theorem isL_big {l v : Int} (h : isL l v = true) (hv : v ≤ 1000000) : isL l 1000000 = true := by
  unfold isL at h ⊢
  simp only [Bool.and_eq_true, decide_eq_true_eq] at h ⊢
  omega
theorem mayC_big {v : Int} {C : Cl} (h : mayC v C = true) : ∀ k ∈ C, ∀ l ∈ k, isL l 1000000 = true := by
  obtain ⟨a, b⟩ := mayC_parts h
  have hv : 0 ≤ v ∧ v ≤ 1000000 := by unfold mayV at a; simpa using a
  exact fun k hk l hl => isL_big (b k hk l hl) hv.2
theorem unitC_big {v : Int} {g : List Int} (h0 : 0 ≤ v) (h1 : v ≤ 1000000) : ∀ k ∈ unitC v g, ∀ l ∈ k, isL l 1000000 = true := by
  intro k hk l' hl'
  obtain ⟨l, hl, rfl⟩ := List.mem_map.1 hk
  obtain rfl : l' = l := by simpa using hl'
  have := (List.mem_filter.1 hl).2
  rw [isB_is h0 h1] at this
  exact isL_big this h1
theorem cunits_yesI {W : World} {al gl : Option Addr} {C : Cl} {g : List Int} {v : Int} {c gc : Nat} (h : ClsAt W al C) (hok : OkC C) (hg : IntsAt W gl g) (hm : mayC v C = true) (hsz : C.length + g.length + C.flatten.length ≤ 1000000) :
    Calls Tryz.prog 9 #[.agg #[.int .i64 v, .slice al C.length c], .slice gl g.length gc] W fun e w => ∃ a c, e = .returned (.tuple #[.slice a (unitsC v C g).1.length c, .bool (unitsC v C g).2]) ∧ IntsAt w a (unitsC v C g).1 ∧ Below W.heap.size W w := by
  obtain ⟨vn, rfl⟩ : ∃ vn : Nat, v = ((vn : Nat) : Int) := by
    obtain ⟨hmv, _⟩ := mayC_parts hm
    have hv : 0 ≤ v ∧ v ≤ 1000000 := by unfold mayV at hmv; simpa using hmv
    exact ⟨v.toNat, by omega⟩
  exact cunits_yes h hok hg hm hsz
theorem lsound_any {W : World} {al gl ml : Option Addr} {C : Cl} {g : List Int} {m : List Bool} {v : Int} {c gc mc : Nat} (h : ClsAt W al C) (hok : OkC C) (hgi : IntsAt W gl g) (hgl : g.length < 4611686018427387904) (hg6 : ∀ l ∈ g, I64 l) (hmi : BoolsAt W ml m) (hml : m.length < 4611686018427387904) (hT : Tens W) :
    Calls Tryz.prog 3 #[.agg #[.int .i64 v, .slice al C.length c], .slice gl g.length gc, .slice ml m.length mc] W fun e w => e = .returned (.bool true) ∧ Below W.heap.size W w := by
  have HB0 := Lib.hid (bel_alloc (Below.refl W.heap.size W) (.cells #[.int .i64 v, .slice al C.length c] 24))
  have HX0 := Lib.hid (BoxAt.new (W := W) (v := v) (s := .slice al C.length c))
  have HT := Lib.hid hT
  clear hT
  by_cases hgr : greatC C = true ∨ 60 < g.length ∨ 200 < m.length
  · obtain ⟨b, hb⟩ : ∃ b, greatC C = b := ⟨_, rfl⟩
    have HG := Lib.hid (fun (w : World) (hbw : Below W.heap.size W w) => great_bel (W := w) (v := v) (c := c) (h.keep hbw) hok hb)
    have hq : b = true ∨ (b = false ∧ (60 : Int) < ((g.length : Nat) : Int)) ∨ (b = false ∧ decide ((60 : Int) < ((g.length : Nat) : Int)) = false ∧ (200 : Int) < ((m.length : Nat) : Int)) := by
      cases b with
      | true => exact .inl rfl
      | false =>
        by_cases h6 : 60 < g.length
        · exact .inr (.inl ⟨rfl, by omega⟩)
        · rcases hgr with h1 | h1 | h1
          · rw [hb] at h1; cases h1
          · exact absurd h1 h6
          · exact .inr (.inr ⟨rfl, decide_eq_false (by omega), by omega⟩)
    clear h hok hgi hgr hb hg6 hmi
    rcases hq with rfl | ⟨rfl, q6⟩ | ⟨rfl, q6, q7⟩
    all_goals
      go_enter Tryz.func3, Tryz.ntmps3
      go_wp2_with fail
      refine (HG.out _ HB0.out).mono ?_
      rintro e w1 ⟨rfl, hb1⟩
      have HB1 := Lib.hid (bel_call HB0.out hb1)
      clear hb1
      go_wp2_with fail
      refine (lives_any _ (HT.out.keep HB1.out)).mono ?_
      rintro e w2 ⟨rfl, hb2⟩
      go_wp2_with fail
      go_ret
      exact ⟨rfl, bel_call HB1.out hb2⟩
  have hgf : greatC C = false := by
    cases hc : greatC C with
    | false => rfl
    | true => exact absurd (.inl hc) hgr
  have HG := Lib.hid (fun (w : World) (hbw : Below W.heap.size W w) => great_bel (W := w) (v := v) (c := c) (h.keep hbw) hok hgf)
  obtain ⟨hl1, hl2⟩ := greatC_no hgf
  have hg60 : g.length ≤ 60 := by
    have : ¬ 60 < g.length := fun e => hgr (.inr (.inl e))
    omega
  have hm200 : m.length ≤ 200 := by
    have : ¬ 200 < m.length := fun e => hgr (.inr (.inr e))
    omega
  have q6 : decide ((60 : Int) < ((g.length : Nat) : Int)) = false := decide_eq_false (by omega)
  have q7 : decide ((200 : Int) < ((m.length : Nat) : Int)) = false := decide_eq_false (by omega)
  have HCL := Lib.hid h
  have HOK := Lib.hid hok
  have HGI := Lib.hid hgi
  have HG6 := Lib.hid hg6
  have HMI := Lib.hid hmi
  have HSZ := Lib.hid (And.intro hl1 hl2)
  clear h hok hgi hg6 hmi hl1 hl2 hgr hgf
  go_enter Tryz.func3, Tryz.ntmps3
  go_wp2_with fail
  refine (HG.out _ HB0.out).mono ?_
  rintro e w1 ⟨rfl, hb1⟩
  have HB1 := Lib.hid (bel_call HB0.out hb1)
  have HX1 := Lib.hid (HX0.out.call hb1)
  clear hb1 HG HB0 HX0
  go_wp2_with fail
  obtain ⟨n, hn⟩ : ∃ n, n = g.length := ⟨_, rfl⟩
  have HN := Lib.hid hn
  rw [← hn] at q6 hg60 ⊢
  clear hn
  go_loopg [7, 8] n (fun gk v7 v8 wr => ∃ i : Nat, v8 = .int .i64 ((i : Nat) : Int) ∧ i + gk = n ∧ Below w1.heap.size w1 wr ∧ ClsOwn w1.heap.size v7 (unitC v (g.take i)) wr)
  case atStart => exact ⟨0, rfl, by omega, Below.refl _ _, ClsOwn.zero⟩
  case round =>
    obtain ⟨i, rfl, hi, hb, hcl⟩ := hrel
    obtain ⟨ca, cc, rfl⟩ := hcl.shape
    have HI := Lib.hid hi
    have HB := Lib.hid hb
    have HCW := Lib.hid hcl
    have HXW := Lib.hid (HX1.out.call hb)
    have c0 := HXW.out.c0
    have c1 := HXW.out.c1
    have lb := HXW.out.lt
    have hcn := unitC_len v (g.take i)
    have hcn2 : (g.take i).length ≤ i := List.length_take_le _ _
    have q0 : (0 : Int) ≤ ((i : Nat) : Int) := by omega
    by_cases hlt : i < n
    · obtain ⟨l, hl⟩ : ∃ l, g[i]? = some l := ⟨_, List.getElem?_eq_getElem (by rw [← HN.out]; exact hlt)⟩
      obtain ⟨bl, ol, rfl, hbl, hcell⟩ := ints_at ((HGI.out.keep HB1.out).keep hb) hl
      have q1 : ((i : Nat) : Int) < ((n : Nat) : Int) := by omega
      have HS := Lib.hid (step_i (j := i) (by omega))
      have HTK : Hid (g.take (i + 1) = g.take i ++ [l]) := by show _ = _; rw [List.take_add_one, hl]; rfl
      have HIS := Lib.hid (fun (w : World) => ris_gen (l := l) (v := v) (W := w))
      have hUl : (unitC v (g.take i)).length + 1 ≤ 1000000000 := by omega
      obtain ⟨U, hU⟩ : ∃ U, U = unitC v (g.take i) := ⟨_, rfl⟩
      have HU := Lib.hid hU
      rw [← hU] at HCW hUl ⊢
      clear hi hb hcl hl hcn hcn2 hU
      cases hil : isB l v with
      | false =>
        rw [hil] at HIS
        have HE : Hid (U = unitC v (g.take (i + 1))) := by show _ = _; rw [HTK.out, unitC_snoc_no hil]; exact HU.out
        clear hil
        go_wp2_with fail
        go_quiet ((go_at_call 6; exact quiet_left (HIS.out _)))
        go_wp2_with fail
        go_roundg (gk - 1)
        case measure => have := HI.out; omega
        case rel => exact ⟨i + 1, by first | rfl | (rw [HS.out.1]) | (congr 1; exact HS.out.1), by have := HI.out; omega, bel_drewN HB.out _, by rw [← HE.out]; exact HCW.out.call (bel_drewN (Below.refl _ _) _)⟩
      | true =>
        rw [hil] at HIS
        have HE : Hid (U ++ [[l]] = unitC v (g.take (i + 1))) := by show _ = _; rw [HTK.out, unitC_snoc_yes hil, HU.out]
        clear hil
        go_wp2_with fail
        go_quiet ((go_at_call 6; exact quiet_left (HIS.out _)))
        have hsz1 : w1.heap.size ≤ wr.heap.size := HB.out.size
        go_wp2_with (at_builtin; go_must (refine wpList_cls (kc := 1) (k := [l]) (w0 := (wr.drewN _).alloc (.cells #[.int .i64 l] 3)) rfl (.tmp 38) (.tmp 44) rfl rfl (HCW.out.call (bel_alloc (bel_drewN (Below.refl _ _) _) _)) (by simp; omega) (new_ints _ [l] #[.int .i64 l] rfl) (.inr ⟨_, 0, rfl, by simp; omega, by simp, fun e => by have := (HCW.out.blk e.symm).2; simp at this⟩) rfl (by rw [size_da]; rfl) hUl ?_; intro va vc w6 hc6 hgr6; have HC6 := Lib.hid hc6; have HGR6 := Lib.hid hgr6; clear hc6 hgr6))
        go_roundg (gk - 1)
        case measure => have := HI.out; omega
        case rel => exact ⟨i + 1, by first | rfl | (rw [HS.out.1]) | (congr 1; exact HS.out.1), by have := HI.out; omega, bel_grown (bel_alloc (bel_alloc (bel_drewN HB.out _) _) _) HGR6.out (fun q e => (HCW.out.blk e).1), by rw [← HE.out]; exact HC6.out⟩
    · have q1 : decide (((i : Nat) : Int) < ((n : Nat) : Int)) = false := decide_eq_false (by omega)
      obtain rfl : i = n := by omega
      have htk : g.take i = g := List.take_of_length_le (by rw [← HN.out]; exact Nat.le_refl _)
      have hi6 : g.length ≤ 60 := by rw [← HN.out]; exact hg60
      have hUl := unitC_len v g
      have hUf := unitC_flat v g
      have hUok := unitC_ok (v := v) (g := g) (by omega) HG6.out
      rw [htk] at hcl ⊢
      obtain ⟨U, hU⟩ : ∃ U, U = unitC v g := ⟨_, rfl⟩
      have HU := Lib.hid hU
      rw [← hU] at hcl hUl hUf hUok ⊢
      have HUC := Lib.hid hcl.cls
      have HUOK := Lib.hid hUok
      have HUL := Lib.hid (And.intro hUl hUf)
      have HI6 := Lib.hid hi6
      have hBW : Below W.heap.size W wr := HB1.out.trans (hb.mono HB1.out.size)
      have HMAY := Lib.hid (cmay_any (v := v) (c := c) (HCL.out.keep hBW) HOK.out)
      have HBW := Lib.hid hBW
      clear hi hb hcl hcn hcn2 htk hU hUl hUf hUok hi6 hBW hlt q6 hg60
      cases hm : mayC v C with
      | false =>
        rw [hm] at HMAY
        clear hm
        go_wp2_with fail
        refine HMAY.out.mono ?_
        rintro e w2 ⟨rfl, hb2⟩
        have HB2 := Lib.hid (bel_call HBW.out hb2)
        clear hb2 c0 c1 lb
        go_wp2_with fail
        refine (lives_any _ (HT.out.keep HB2.out)).mono ?_
        rintro e w3 ⟨rfl, hb3⟩
        go_wp2_with fail
        go_ret
        exact ⟨rfl, bel_call HB2.out hb3⟩
      | true =>
        rw [hm] at HMAY
        have HMT := Lib.hid hm
        have hmv : 0 ≤ v ∧ v ≤ 1000000 := by
          have := (mayC_parts hm).1
          unfold mayV at this
          simpa using this
        have HV := Lib.hid hmv
        clear hm hmv
        go_wp2_with fail
        refine HMAY.out.mono ?_
        rintro e w2 ⟨rfl, hb2⟩
        have HB2 := Lib.hid (bel_call HBW.out hb2)
        have HX2 := Lib.hid (HXW.out.call hb2)
        have HU2 := Lib.hid (HUC.out.keep hb2)
        have c0 := HX2.out.c0
        have c1 := HX2.out.c1
        have lb := HX2.out.lt
        have HH := Lib.hid (cholds_any (v := v) (c := c) (mc := mc) (HCL.out.keep HB2.out) HOK.out (HMI.out.keep HB2.out) (by omega) (mayC_big HMT.out))
        clear hb2 HMAY
        cases hh : holdsC m C with
        | false =>
          rw [hh] at HH
          clear hh
          go_wp2_with fail
          refine HH.out.mono ?_
          rintro e w3 ⟨rfl, hb3⟩
          have HB3 := Lib.hid (bel_call HB2.out hb3)
          clear hb3 c0 c1 lb
          go_wp2_with fail
          refine (lives_any _ (HT.out.keep HB3.out)).mono ?_
          rintro e w4 ⟨rfl, hb4⟩
          go_wp2_with fail
          go_ret
          exact ⟨rfl, bel_call HB3.out hb4⟩
        | true =>
          rw [hh] at HH
          have HHT := Lib.hid hh
          clear hh
          have hbt := build_two
          go_wp2_with fail
          refine HH.out.mono ?_
          rintro e w3 ⟨rfl, hb3⟩
          have HB3 := Lib.hid (bel_call HB2.out hb3)
          have HX3 := Lib.hid (HX2.out.call hb3)
          have HU3 := Lib.hid (HU2.out.keep hb3)
          have c0 := HX3.out.c0
          have c1 := HX3.out.c1
          have lb := HX3.out.lt
          have HH2 := Lib.hid (cholds_any (v := v) (c := cc) (mc := mc) HU3.out HUOK.out (HMI.out.keep HB3.out) (by omega) (by rw [HU.out]; exact unitC_big HV.out.1 HV.out.2))
          clear hb3 HH
          cases hh : holdsC m U with
          | false =>
            rw [hh] at HH2
            clear hh
            go_wp2_with fail
            refine HH2.out.mono ?_
            rintro e w4 ⟨rfl, hb4⟩
            have HB4 := Lib.hid (bel_call HB3.out hb4)
            clear hb4 c0 c1 lb
            go_wp2_with fail
            refine (lives_any _ (HT.out.keep HB4.out)).mono ?_
            rintro e w5 ⟨rfl, hb5⟩
            go_wp2_with fail
            go_ret
            exact ⟨rfl, bel_call HB4.out hb5⟩
          | true =>
            rw [hh] at HH2
            rw [HU.out] at hh
            obtain ⟨hall, hyes⟩ := units_sound (g := g) HMT.out HHT.out (unitC_holds HV.out.1 HV.out.2 hh)
            have hTl : (unitsC v C g).1.length ≤ 1000 := by
              have := units_len v C g
              have := HSZ.out
              have := HI6.out
              omega
            clear hh
            go_wp2_with fail
            refine HH2.out.mono ?_
            rintro e w4 ⟨rfl, hb4⟩
            have HB4 := Lib.hid (bel_call HB3.out hb4)
            have HX4 := Lib.hid (HX3.out.call hb4)
            have c0 := HX4.out.c0
            have c1 := HX4.out.c1
            have lb := HX4.out.lt
            have hun := cunits_yesI (c := c) (gc := gc) (HCL.out.keep HB4.out) HOK.out (HGI.out.keep HB4.out) HMT.out (by have := HSZ.out; have := HI6.out; omega)
            rw [hyes] at hun
            rw [← HN.out] at hun
            obtain ⟨T, hT⟩ : ∃ T, T = (unitsC v C g).1 := ⟨_, rfl⟩
            rw [← hT] at hun hall hTl
            have HUN := Lib.hid hun
            have HALL := Lib.hid hall
            have HT6 : Hid (∀ l ∈ T, I64 l) := by
              show ∀ l ∈ T, _
              intro l hl
              rw [hT] at hl
              have := units_in HMT.out l hl
              have := isL_ne this
              have := HV.out
              exact ⟨by omega, by omega⟩
            have HTL : Hid (∀ l ∈ T, isL l 1000000 = true) := by
              show ∀ l ∈ T, _
              intro l hl
              rw [hT] at hl
              exact isL_big (units_in HMT.out l hl) HV.out.2
            clear hb4 HH2 hun hall hT hyes
            go_wp2_with fail
            refine HUN.out.mono ?_
            rintro e w5 ⟨ta, tc, rfl, hti, hb5⟩
            have HB5 := Lib.hid (bel_call HB4.out hb5)
            have HX5 := Lib.hid (HX4.out.call hb5)
            have HTI := Lib.hid hti
            clear hb5 hti HUN c0 c1 lb
            obtain ⟨n2, hn2⟩ : ∃ n2, n2 = T.length := ⟨_, rfl⟩
            have HN2 := Lib.hid hn2
            rw [← hn2] at hTl ⊢
            clear hn2
            go_wp2_with fail
            go_loopg [11] n2 (fun gk v11 wr => ∃ j : Nat, v11 = .int .i64 ((j : Nat) : Int) ∧ j + gk = n2 ∧ Below w5.heap.size w5 wr)
            case atStart => exact ⟨0, rfl, by omega, Below.refl _ _⟩
            case round =>
              obtain ⟨j, rfl, hj, hbr⟩ := hrel
              have HJ := Lib.hid hj
              have HBr5 := Lib.hid hbr
              have HBr := Lib.hid (HB5.out.trans (hbr.mono HB5.out.size))
              have p0 : (0 : Int) ≤ ((j : Nat) : Int) := by omega
              by_cases hjn : j < n2
              · obtain ⟨x, hx⟩ : ∃ x, T[j]? = some x := ⟨_, List.getElem?_eq_getElem (by rw [← HN2.out]; exact hjn)⟩
                obtain ⟨tb, tof, rfl, htb, hcx⟩ := ints_at (HTI.out.keep hbr) hx
                have HXT := Lib.hid (HALL.out x (List.mem_of_getElem? hx))
                have hx6 : I64 x := HT6.out x (List.mem_of_getElem? hx)
                have HX6 := Lib.hid hx6
                have HXL := Lib.hid (HTL.out x (List.mem_of_getElem? hx))
                have HS0 : Hid (HeldS W.heap.size v (.slice al C.length c) tb tof j x wr) := ⟨HX5.out.call hbr, htb, hcx⟩
                have p1 : ((j : Nat) : Int) < ((n2 : Nat) : Int) := by omega
                have HSJ := Lib.hid (step_i (j := j) (by omega))
                clear hj hbr hx hcx htb hx6
                go_wp2_with fail
                refine wp_region_held_drew (S := fun w' => HeldS W.heap.size v (.slice al C.length c) tb tof j x w') (by kernel_rfl) (HS0.out.heap rfl) (fun hHeld => ?_)
                refine wpAnyH_take (i := 0) (v := .pointer (some ⟨W.heap.size, 0, none⟩)) (by simp only [List.getElem?_toArray, List.getElem?_cons_zero]; rfl) (by kernel_rfl) (by kernel_rfl) (by kernel_rfl) (by exact fun _ _ _ h => h) (Or.inl ⟨by rfl, ?_⟩) hHeld ?_
                · intro w' hSw
                  go_simp
                simp only [Act.put, List.setIfInBounds_toArray, List.set_cons_zero, List.set_cons_succ]
                refine wpAnyH_take (i := 1) (v := .int .i64 v) (by simp only [List.getElem?_toArray, List.getElem?_cons_zero, List.getElem?_cons_succ]; rfl) (by kernel_rfl) (by kernel_rfl) (by kernel_rfl) (by exact fun _ _ _ h => h) (Or.inl ⟨by rfl, ?_⟩) hHeld ?_
                · intro w' hSw
                  obtain ⟨⟨_, f0, f1⟩, _, f2⟩ := hSw; go_simp
                simp only [Act.put, List.setIfInBounds_toArray, List.set_cons_zero, List.set_cons_succ]
                refine wpAnyH_take (i := 2) (v := .slice (some ⟨tb, tof, none⟩) n2 tc) (by simp only [List.getElem?_toArray, List.getElem?_cons_zero, List.getElem?_cons_succ]; rfl) (by kernel_rfl) (by kernel_rfl) (by kernel_rfl) (by exact fun _ _ _ h => h) (Or.inl ⟨by rfl, ?_⟩) hHeld ?_
                · intro w' hSw
                  go_simp
                simp only [Act.put, List.setIfInBounds_toArray, List.set_cons_zero, List.set_cons_succ]
                refine wpAnyH_take (i := 3) (v := .int .i64 ((j : Nat) : Int)) (by simp only [List.getElem?_toArray, List.getElem?_cons_zero, List.getElem?_cons_succ]; rfl) (by kernel_rfl) (by kernel_rfl) (by kernel_rfl) (by exact fun _ _ _ h => h) (Or.inl ⟨by rfl, ?_⟩) hHeld ?_
                · intro w' hSw
                  go_simp
                simp only [Act.put, List.setIfInBounds_toArray, List.set_cons_zero, List.set_cons_succ]
                refine wpAnyH_take (i := 4) (v := .pointer (some ⟨tb, tof + j, none⟩)) (by simp only [List.getElem?_toArray, List.getElem?_cons_zero, List.getElem?_cons_succ]; rfl) (by kernel_rfl) (by kernel_rfl) (by kernel_rfl) (by exact fun _ _ _ h => h) (Or.inl ⟨by rfl, ?_⟩) hHeld ?_
                · intro w' hSw
                  go_simp
                simp only [Act.put, List.setIfInBounds_toArray, List.set_cons_zero, List.set_cons_succ]
                refine wpAnyH_take (i := 5) (v := .int .i64 x) (by simp only [List.getElem?_toArray, List.getElem?_cons_zero, List.getElem?_cons_succ]; rfl) (by kernel_rfl) (by kernel_rfl) (by kernel_rfl) (by exact fun _ _ _ h => h) (Or.inl ⟨by rfl, ?_⟩) hHeld ?_
                · intro w' hSw
                  obtain ⟨⟨_, f0, f1⟩, _, f2⟩ := hSw; go_simp
                simp only [Act.put, List.setIfInBounds_toArray, List.set_cons_zero, List.set_cons_succ]
                refine wpAnyH_take (i := 9) (v := .slice ml m.length mc) (by simp only [List.getElem?_toArray, List.getElem?_cons_zero, List.getElem?_cons_succ]; rfl) (by kernel_rfl) (by kernel_rfl) (by kernel_rfl) (by exact fun _ _ _ h => h) (Or.inl ⟨by rfl, ?_⟩) hHeld ?_
                · intro w' hSw
                  go_simp
                simp only [Act.put, List.setIfInBounds_toArray, List.set_cons_zero, List.set_cons_succ]
                refine wpAnyH_ready (rs := [6]) (by kernel_rfl) (by simp) ?_
                refine AllReadyH.cons (by simp only [List.getElem?_toArray, List.getElem?_cons_zero, List.getElem?_cons_succ]; rfl) (fun K hK => ?_) AllReadyH.nil
                go_simp
                have HSa := Lib.hid (HS0.out.alloc (.cells #[.int .i64 x] 3))
                refine hK.out _ _ (HSa.out.heap rfl) (fun hHeld => ?_)
                clear hK K
                try simp only [Act.put, List.setIfInBounds_toArray, List.set_cons_zero, List.set_cons_succ]
                refine wpAnyH_ready (rs := [7]) (by kernel_rfl) (by simp) ?_
                refine AllReadyH.cons (by simp only [List.getElem?_toArray, List.getElem?_cons_zero, List.getElem?_cons_succ]; rfl) (fun K hK => ?_) AllReadyH.nil
                go_simp
                have HSb := Lib.hid (HSa.out.alloc (.cells #[.slice (some ⟨wr.heap.size, 0, none⟩) 1 1] 25))
                refine hK.out _ _ (HSb.out.heap rfl) (fun hHeld => ?_)
                clear hK K
                try simp only [Act.put, List.setIfInBounds_toArray, List.set_cons_zero, List.set_cons_succ]
                refine wpAnyH_take (i := 8) (v := .agg #[.int .i64 v, .slice (some ⟨wr.heap.size + 1, 0, none⟩) 1 1]) (by simp only [List.getElem?_toArray, List.getElem?_cons_zero, List.getElem?_cons_succ]; rfl) (by kernel_rfl) (by kernel_rfl) (by kernel_rfl) (by exact fun _ _ _ h => h) (Or.inl ⟨by rfl, ?_⟩) hHeld ?_
                · intro w' hSw
                  first | (go_simp; done) | (go_simp; rw [build_two]; rfl) | (rw [build_two]; rfl)
                simp only [Act.put, List.setIfInBounds_toArray, List.set_cons_zero, List.set_cons_succ]
                refine wpAnyH_ready (rs := [10]) (by kernel_rfl) (by simp) ?_
                refine AllReadyH.cons (by simp only [List.getElem?_toArray, List.getElem?_cons_zero, List.getElem?_cons_succ]; rfl) (fun K hK => ?_) AllReadyH.nil
                go_simp
                refine (cholds_any (one_cls wr.drew x) (one_ok HX6.out) (HMI.out.keep (bel_alloc (bel_alloc HBr.out.drew _) _)) (by omega) (by intro k hk l hl; simp only [List.mem_singleton] at hk; subst hk; simp only [List.mem_singleton] at hl; subst hl; exact HXL.out)).mono ?_
                rintro e w7 ⟨rfl, hb7⟩
                rw [holds_one, HXT.out]
                have HB7 := Lib.hid (bel_call (bel_alloc (bel_alloc HBr5.out.drew _) _) hb7)
                refine hK.out _ _ ((((HS0.out.heap (w' := wr.drew) rfl).alloc _).alloc _).call hb7) (fun hHeld => ?_)
                clear hK K hb7
                try simp only [Act.put, List.setIfInBounds_toArray, List.set_cons_zero, List.set_cons_succ]
                refine wpAnyH_take (i := 11) (v := .bool false) (by simp only [List.getElem?_toArray, List.getElem?_cons_zero, List.getElem?_cons_succ]; rfl) (by kernel_rfl) (by kernel_rfl) (by kernel_rfl) (by exact fun _ _ _ h => h) (Or.inl ⟨by rfl, ?_⟩) hHeld ?_
                · intro w' hSw
                  go_simp
                simp only [Act.put, List.setIfInBounds_toArray, List.set_cons_zero, List.set_cons_succ]
                refine wpAnyH_done (by kernel_rfl) ?_ _
                clear hHeld
                go_wp2_with fail
                go_roundg (gk - 1)
                case measure => have := HJ.out; omega
                case rel => exact ⟨j + 1, by first | rfl | (rw [HSJ.out.1]) | (congr 1; exact HSJ.out.1), by have := HJ.out; omega, HB7.out⟩
              · have p1 : decide (((j : Nat) : Int) < ((n2 : Nat) : Int)) = false := decide_eq_false (by omega)
                clear hj hbr
                go_wp2_with fail
                refine (lives_any _ (HT.out.keep HBr.out)).mono ?_
                rintro e w8 ⟨rfl, hb8⟩
                go_wp2_with fail
                go_ret
                exact ⟨rfl, bel_call HBr.out hb8⟩
end Cf
end Go.Proofs.YtmegadjeficfjaaGreatDoor
