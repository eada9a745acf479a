/-
may of layer term, for every node, as a fact on one call.
Plain facts on memory for add of layer term: append as one step of a region that draws; the store behind it.
add of layer term: a node more, as a fact on one call.
-/
import Derived.Test.YtigjbngedbbdbaaPt07
import Derived.Test.YtigjbngedbbdbaaTmMayD
import Derived.Deep.RegionLaw
import Derived.Maps.AppendAt
import Derived.Deep.RegionHeld3
namespace Go.Proofs.Ytigjbngedbbdbaa
open Go.RowKit Bv
namespace Tm
set_option maxHeartbeats 400000
set_option maxRecDepth 100000

theorem mayN_notOwn {L : List Nd} {x : Nd} (h : ¬ x = own x) : mayN L x = false := by simp [mayN, h]
theorem mayN_badKid {L : List Nd} {x : Nd} {i : Nat} (hi : i < kc x.o) (h : inB L (x.kid i) = false) : mayN L x = false := by
  have : kidsB L x = false := by
    unfold kidsB
    rw [decide_eq_false_iff_not]
    intro hc
    rw [hc i hi] at h
    simp at h
  simp [mayN, this]
theorem mayN_is {L : List Nd} {x : Nd} (h : x = own x) (hk : ∀ i, i < kc x.o → inB L (x.kid i) = true) :
    mayN L x = (if x.o = 1 then mayB x.w x.n else if x.o = 2 then mayB x.w 0 && decide (x.n < 256)
     else (decide (¬ vecW x.o x.w x.l (wid L x 0) (wid L x 1) (wid L x 2) = 0) && decide (vecW x.o x.w x.l (wid L x 0) (wid L x 1) (wid L x 2) = x.w))) := by
  unfold mayN kidsB
  rw [decide_eq_true h, decide_eq_true hk]
  simp

theorem may_any' {B p m : Nat} {sv : Value} {L : List Nd} {x : Nd} {W : World} (S : StoreAt B W p m sv L) (hx : x.Ok) :
    Calls Try.prog 24 #[.pointer (some ⟨p, 0, none⟩), x.val] W fun e W' => e = .returned (.bool (mayN L x)) ∧ Below W.heap.size W W' := by
  have HO : ∀ W : World, Calls Try.prog 48 #[x.val] W fun e W' => e = .returned (.agg (own x).cells) ∧ Below W.heap.size W W' := fun W => own_any x W
  have HQ : ∀ W : World, (binOp .neq 57 x.val (.agg (own x).cells)).run Try.prog W = .ok (.bool (decide (¬ x = own x))) W := fun W => neq_nd x (own x) hx (own_ok hx) W
  by_cases hown : x = own x
  case neg =>
    rw [mayN_notOwn hown]
    simp only [hown, not_false_eq_true, decide_true] at HQ
    obtain ⟨o, w, k0, k1, k2, n, l⟩ := x
    exact may_not o w n l k0 k1 k2 B p m sv L W _ S HO HQ
  rw [decide_eq_false (not_not_intro hown)] at HQ
  have hk3 := kc_le x.o
  by_cases h0 : 0 < kc x.o ∧ inB L (x.kid 0) = false
  · rw [mayN_badKid h0.1 h0.2]
    obtain ⟨o, w, k0, k1, k2, n, l⟩ := x
    have e0 := h0.2
    simp only at hk3 h0
    rcases (by omega : kc o = 1 ∨ kc o = 2 ∨ kc o = 3) with h | h | h
    · exact may_bad_1_0 o w n l k0 k1 k2 B p m sv L W _ S HO HQ (fun W => kids_is h W) e0
    · exact may_bad_2_0 o w n l k0 k1 k2 B p m sv L W _ S HO HQ (fun W => kids_is h W) e0
    · exact may_bad_3_0 o w n l k0 k1 k2 B p m sv L W _ S HO HQ (fun W => kids_is h W) e0
  have i0 : 0 < kc x.o → inB L (x.kid 0) = true := fun hc => by
    cases hb : inB L (x.kid 0)
    · exact absurd ⟨hc, hb⟩ h0
    · rfl
  by_cases h1 : 1 < kc x.o ∧ inB L (x.kid 1) = false
  · rw [mayN_badKid h1.1 h1.2]
    obtain ⟨o, w, k0, k1, k2, n, l⟩ := x
    have e1 := h1.2
    simp only at hk3 h1 i0
    rcases (by omega : kc o = 2 ∨ kc o = 3) with h | h
    · exact may_bad_2_1 o w n l k0 k1 k2 B p m sv L W _ S HO HQ (fun W => kids_is h W) (i0 (by omega)) e1
    · exact may_bad_3_1 o w n l k0 k1 k2 B p m sv L W _ S HO HQ (fun W => kids_is h W) (i0 (by omega)) e1
  have i1 : 1 < kc x.o → inB L (x.kid 1) = true := fun hc => by
    cases hb : inB L (x.kid 1)
    · exact absurd ⟨hc, hb⟩ h1
    · rfl
  by_cases h2 : 2 < kc x.o ∧ inB L (x.kid 2) = false
  · rw [mayN_badKid h2.1 h2.2]
    obtain ⟨o, w, k0, k1, k2, n, l⟩ := x
    have e2 := h2.2
    simp only at hk3 h2 i0 i1
    have h3 : kc o = 3 := by omega
    exact may_bad_3_2 o w n l k0 k1 k2 B p m sv L W _ S HO HQ (fun W => kids_is h3 W) (i0 (by omega)) (i1 (by omega)) e2
  have i2 : 2 < kc x.o → inB L (x.kid 2) = true := fun hc => by
    cases hb : inB L (x.kid 2)
    · exact absurd ⟨hc, hb⟩ h2
    · rfl
  have hk : ∀ i, i < kc x.o → inB L (x.kid i) = true := fun i hi => by
    rcases (by omega : i = 0 ∨ i = 1 ∨ i = 2) with e | e | e <;> subst e
    · exact i0 hi
    · exact i1 hi
    · exact i2 hi
  rw [mayN_is hown hk]
  clear h0 h1 h2 hk hown
  obtain ⟨o, w, k0, k1, k2, n, l⟩ := x
  simp only at hk3 i0 i1 i2 ⊢
  by_cases o1 : o = 1
  · subst o1
    rw [if_pos rfl]
    cases hm : mayB w n
    · exact may_const_f w n l k0 k1 k2 B p m sv L W _ S HO HQ (fun W => kids_is (by decide) W) hm
    · exact may_const_t w n l k0 k1 k2 B p m sv L W _ S HO HQ (fun W => kids_is (by decide) W) hm
  rw [if_neg o1]
  by_cases o2 : o = 2
  · subst o2
    rw [if_pos rfl]
    cases hm : mayB w 0
    · exact may_var_no w n l k0 k1 k2 B p m sv L W _ S HO HQ (fun W => kids_is (by decide) W) hm
    · by_cases hn : n < 256
      · rw [decide_eq_true hn]
        exact may_var_t w n l k0 k1 k2 B p m sv L W _ S HO HQ (fun W => kids_is (by decide) W) hm (decide_eq_true (by omega))
      · rw [decide_eq_false hn]
        exact may_var_f w n l k0 k1 k2 B p m sv L W _ S HO HQ (fun W => kids_is (by decide) W) hm (decide_eq_false (by omega))
  rw [if_neg o2]
  have d1 : ((o : Int) == 1) = false := by simp; omega
  have d2 : ((o : Int) == 2) = false := by simp; omega
  generalize hr : vecW o w l (wid L ⟨o, w, k0, k1, k2, n, l⟩ 0) (wid L ⟨o, w, k0, k1, k2, n, l⟩ 1) (wid L ⟨o, w, k0, k1, k2, n, l⟩ 2) = r
  by_cases hz : r = 0
  · rw [decide_eq_false (not_not_intro hz), Bool.false_and]
    rcases (by omega : kc o = 0 ∨ kc o = 1 ∨ kc o = 2 ∨ kc o = 3) with h | h | h | h
    · exact may_vec_0z o w n l k0 k1 k2 B p m sv L W _ S HO HQ (fun W => kids_is h W) hx d1 d2 h r hr hz
    · exact may_vec_1z o w n l k0 k1 k2 B p m sv L W _ S HO HQ (fun W => kids_is h W) (i0 (by omega)) hx d1 d2 h r hr hz
    · exact may_vec_2z o w n l k0 k1 k2 B p m sv L W _ S HO HQ (fun W => kids_is h W) (i0 (by omega)) (i1 (by omega)) hx d1 d2 h r hr hz
    · exact may_vec_3z o w n l k0 k1 k2 B p m sv L W _ S HO HQ (fun W => kids_is h W) (i0 (by omega)) (i1 (by omega)) (i2 (by omega)) hx d1 d2 h r hr hz
  rw [decide_eq_true hz, Bool.true_and]
  by_cases hw : r = w
  · rw [decide_eq_true hw]
    have d : ((r : Int) == (w : Int)) = true := by simp; omega
    rcases (by omega : kc o = 0 ∨ kc o = 1 ∨ kc o = 2 ∨ kc o = 3) with h | h | h | h
    · exact may_vec_0y o w n l k0 k1 k2 B p m sv L W _ S HO HQ (fun W => kids_is h W) hx d1 d2 h r hr hz d
    · exact may_vec_1y o w n l k0 k1 k2 B p m sv L W _ S HO HQ (fun W => kids_is h W) (i0 (by omega)) hx d1 d2 h r hr hz d
    · exact may_vec_2y o w n l k0 k1 k2 B p m sv L W _ S HO HQ (fun W => kids_is h W) (i0 (by omega)) (i1 (by omega)) hx d1 d2 h r hr hz d
    · exact may_vec_3y o w n l k0 k1 k2 B p m sv L W _ S HO HQ (fun W => kids_is h W) (i0 (by omega)) (i1 (by omega)) (i2 (by omega)) hx d1 d2 h r hr hz d
  · rw [decide_eq_false hw]
    have d : ((r : Int) == (w : Int)) = false := by simp; omega
    rcases (by omega : kc o = 0 ∨ kc o = 1 ∨ kc o = 2 ∨ kc o = 3) with h | h | h | h
    · exact may_vec_0n o w n l k0 k1 k2 B p m sv L W _ S HO HQ (fun W => kids_is h W) hx d1 d2 h r hr hz d
    · exact may_vec_1n o w n l k0 k1 k2 B p m sv L W _ S HO HQ (fun W => kids_is h W) (i0 (by omega)) hx d1 d2 h r hr hz d
    · exact may_vec_2n o w n l k0 k1 k2 B p m sv L W _ S HO HQ (fun W => kids_is h W) (i0 (by omega)) (i1 (by omega)) hx d1 d2 h r hr hz d
    · exact may_vec_3n o w n l k0 k1 k2 B p m sv L W _ S HO HQ (fun W => kids_is h W) (i0 (by omega)) (i1 (by omega)) (i2 (by omega)) hx d1 d2 h r hr hz d

end Tm
end Go.Proofs.Ytigjbngedbbdbaa

namespace Go.Proofs.Ytigjbngedbbdbaa
open Go.RowKit Go.Maps Bv
namespace Tm
set_option maxHeartbeats 400000

/-- append onto a slice of the call's own, as one step of a region that draws. -/
theorem step_append_at {P : Program} {ops : Array Oper} {o : Oper} {a : Act} {w : World} {K : Act → World → Prop} {Q : Exit → Act → World → Prop} {E : Prop}
    (hg : o.guard = none) (s x : Operand) (t : TypeId) (hop : o.op = Op.call { callee := Callee.builtin Builtin.append, args := #[s, x], argTypes := #[t, t] })
    (base : Nat) (e : TypeId) (i : TypeInfo) (z : Value) (size bytes : Nat) (h1 : P.underlying t = some (.slice e)) (h2 : P.info? e = some i) (h3 : i.zero = some z) (h4 : i.size = size) (h5 : i.bytes = bytes) (h6 : z.cells.size = size) (h7 : 0 < size)
    (v : Value) (n : Nat) (xs : List Value) (hs : a.eval s = v) (hown : w.ownsRow base e size v n xs)
    (ad : Addr) (m c : Nat) (news : List Value) (hx : a.eval x = .slice (some ad) m c) (hn : news.length = m * size) (hc : ∀ j u, news[j]? = some u → w.cell? (ad.add j) = some u) (h1c : ∀ u ∈ news, u.oneCell' = true)
    (b1 : n + m ≤ maxLen) (b2 : (n + m) * bytes ≤ 140737488355328) (hbase : base ≤ w.heap.size)
    (hK : ∀ v' w', w'.ownsRow base e size v' (n + m) (xs ++ news) → w.grownBy w' v.ownBlock → (v'.ownBlock = v.ownBlock ∨ v'.ownBlock = some w.heap.size) → K (a.put o.dst v') w') :
    if Region.wanted o (yielded ops a.tmps) = true then Oper.wp P o a w K Q else E := by
  have hw : Region.wanted o (yielded ops a.tmps) = true := by simp [Region.wanted, hg]
  rw [if_pos hw]
  obtain ⟨v', w', hrun, r1, r2, _, r4⟩ := run_append_own_at (P := P) w base t o.type e i z size bytes h1 h2 h3 h4 h5 h6 h7 v n xs hown ad m c news hn hc h1c b1 b2 hbase
  unfold Oper.wp
  simp [execOp, hop, resolve, invoke, builtin, hs, hx, hrun, Result.andThen]
  exact hK v' w' r1 r2 r4

theorem info_nd : (Try.prog.info? 57).map (fun i => (i.zero.map (fun z => z.cells.size), i.size, i.bytes)) = some (some 7, 7, 48) := by kernel_rfl
theorem info_nd_parts : ∃ i z, Try.prog.info? 57 = some i ∧ i.zero = some z ∧ z.cells.size = 7 ∧ i.size = 7 ∧ i.bytes = 48 := by
  have h := info_nd
  cases hi : Try.prog.info? 57 with
  | none => simp [hi] at h
  | some i =>
    rw [hi] at h
    simp only [Option.map_some, Option.some.injEq, Prod.mk.injEq, Option.map_eq_some_iff] at h
    obtain ⟨⟨z, hz, hs⟩, h2, h3⟩ := h
    exact ⟨i, z, rfl, hz, hs, h2, h3⟩

theorem row_slice {w : World} {B : Nat} {v : Value} {n : Nat} {xs : List Value} {e : TypeId} {size : Nat} (h : w.ownsRow B e size v (n + 1) xs) : ∃ g c, v = .slice (some ⟨g, 0, none⟩) (n + 1) c ∧ B ≤ g ∧ g < w.heap.size := by
  rcases h with ⟨_, ⟨_, h2⟩ | ⟨g, cap, cur, hv, hb, hh, _⟩⟩
  · omega
  · exact ⟨g, cap, hv, hb, (Array.getElem?_eq_some_iff.1 hh).1⟩

theorem row_setCell {w : World} {B : Nat} {v : Value} {n : Nat} {xs : List Value} {e : TypeId} {size : Nat} (h : w.ownsRow B e size v n xs) {a : Addr} (u : Value) (ha : v.ownBlock ≠ some a.block) : (w.setCell a u).ownsRow B e size v n xs := by
  rcases h with ⟨hl, h1 | ⟨g, cap, cur, hv, hb, hh, r⟩⟩
  · exact ⟨hl, .inl h1⟩
  · refine ⟨hl, .inr ⟨g, cap, cur, hv, hb, ?_, r⟩⟩
    rw [Below.heap_setCell _ _ _ _ (fun e => ha (by rw [hv, ← e]; rfl))]
    exact hh

/-- What is there of the store behind add's append, its store into the field, its store into the map. -/
structure Added (B : Nat) (W w : World) (p m : Nat) (sv v : Value) (L : List Nd) (x : Nd) : Prop where
  keep : Kept (foot p m sv) W w
  c0 : w.cell? ⟨p, 0, none⟩ = some v
  c1 : w.cell? ⟨p, 1, none⟩ = some (.map (some m))
  cw : ∀ i, i < 256 → w.cell? ⟨p, 2 + i, none⟩ = some (.int .u8 ((wdOf L i : Nat) : Int))
  fr : ∀ o, w.frozen? ⟨p, o, none⟩ = false
  row : w.ownsRow B 57 7 v (L.length + 1) (rowOf L ++ x.cells.toList)
  loc : v.ownBlock = sv.ownBlock ∨ ∃ g, W.heap.size ≤ g ∧ v.ownBlock = some g
  tab : ∃ D : DataW Unit, w.ownsMap Try.prog 57 (plainElem Try.prog 3) m (L.length + 1) D ∧ Table (L ++ [x]) D

theorem Added.gp {B : Nat} {W w : World} {p m : Nat} {sv v : Value} {L : List Nd} {x : Nd} (S : StoreAt B W p m sv L) (h : Added B W w p m sv v L x) : v.ownBlock ≠ some p := by
  rcases h.loc with e | ⟨g, hg, e⟩
  · rw [e]; exact S.gp
  · rw [e]; intro c; have := S.lt; simp at c; omega
theorem Added.gm {B : Nat} {W w : World} {p m : Nat} {sv v : Value} {L : List Nd} {x : Nd} (S : StoreAt B W p m sv L) (h : Added B W w p m sv v L x) : v.ownBlock ≠ some m := by
  rcases h.loc with e | ⟨g, hg, e⟩
  · rw [e]; exact S.gm
  · rw [e]; intro c; have := S.lm; simp at c; omega

theorem mk_new {L : List Nd} {x : Nd} (hm : mayN L x = true) (hn : ¬ x ∈ L) (hl : L.length < 200000) (hw : ¬ (x.o = 2 ∧ ¬ wdOf L x.n = 0 ∧ ¬ wdOf L x.n = x.w)) : mk L x = (L ++ [x], L.length, 0) := by
  unfold mk
  rw [if_neg (by simp [hm]), if_neg hw, if_neg hn, if_neg (by omega)]

theorem Added.good {L : List Nd} {x : Nd} (g : Gd L) (hx : x.Ok) (hm : mayN L x = true) (hn : ¬ x ∈ L) (hl : L.length < 200000) (hw : ¬ (x.o = 2 ∧ ¬ wdOf L x.n = 0 ∧ ¬ wdOf L x.n = x.w)) : Gd (L ++ [x]) := by
  have := gd_step g hx
  rw [mk_new hm hn hl hw] at this
  exact this

/-- Of an operator that is no variable. -/
theorem Added.plain {B : Nat} {W w : World} {p m : Nat} {sv v : Value} {L : List Nd} {x : Nd} (S : StoreAt B W p m sv L) (h : Added B W w p m sv v L x) (hg : Gd (L ++ [x])) (ho : ¬ x.o = 2) : StoreAt B w p m v (L ++ [x]) := by
  refine ⟨S.bp, S.bm, Nat.lt_of_lt_of_le S.lt h.keep.size, Nat.lt_of_lt_of_le S.lm h.keep.size, S.pm, h.c0, h.c1, fun i hi => ?_, h.fr, ?_, h.gp S, h.gm S, ?_, hg⟩
  · rw [h.cw i hi, wdOf_append, if_neg (fun c => ho c.2.1)]
  · rw [rowOf_append]; simpa using h.row
  · simpa using h.tab

/-- Of a variable, behind the store of its width. -/
theorem Added.var {B : Nat} {W w : World} {p m : Nat} {sv v : Value} {L : List Nd} {x : Nd} (S : StoreAt B W p m sv L) (h : Added B W w p m sv v L x) (hg : Gd (L ++ [x])) (ho : x.o = 2) (hn : x.n < 256) :
    StoreAt B (w.setCell ⟨p, 2 + x.n, none⟩ (.int .u8 ((x.w : Nat) : Int))) p m v (L ++ [x]) ∧ Kept (foot p m sv) W (w.setCell ⟨p, 2 + x.n, none⟩ (.int .u8 ((x.w : Nat) : Int))) := by
  have hk : Kept (foot p m sv) W (w.setCell ⟨p, 2 + x.n, none⟩ (.int .u8 ((x.w : Nat) : Int))) := h.keep.setCell _ _ (fun _ => .inl rfl)
  refine ⟨⟨S.bp, S.bm, Nat.lt_of_lt_of_le S.lt hk.size, Nat.lt_of_lt_of_le S.lm hk.size, S.pm, ?_, ?_, fun i hi => ?_, fun o => ?_, ?_, h.gp S, h.gm S, ?_, hg⟩, hk⟩
  · rw [World.cell?_setCell_other _ _ _ _ (by simp; try omega)]; exact h.c0
  · rw [World.cell?_setCell_other _ _ _ _ (by simp; try omega)]; exact h.c1
  · by_cases e : i = x.n
    · subst e
      have hw := hg.wd x (by simp) ho
      rw [hw]
      exact World.cell?_setCell_same' _ _ _ (by rw [h.cw _ hi]; rfl)
    · rw [World.cell?_setCell_other _ _ _ _ (by simp; try omega), h.cw i hi, wdOf_append, if_neg (fun c => e c.2.2.1.symm)]
  · rw [World.frozen?_setCell]; exact h.fr o
  · rw [rowOf_append]
    have := row_setCell h.row (a := ⟨p, 2 + x.n, none⟩) (.int .u8 ((x.w : Nat) : Int)) (h.gp S)
    simpa using this
  · obtain ⟨D, hD, ht⟩ := h.tab
    exact ⟨D, by simpa using hD.setCell (a := ⟨p, 2 + x.n, none⟩) (fun e => S.pm e.symm) _, ht⟩

end Tm
end Go.Proofs.Ytigjbngedbbdbaa

namespace Go.Proofs.Ytigjbngedbbdbaa
open Go.RowKit Go.Maps Bv
namespace Tm
set_option maxHeartbeats 1000000
set_option maxRecDepth 100000

theorem cell_new7 (w : World) (x0 x1 x2 x3 x4 x5 x6 : Value) (t : TypeId) : ∀ j u, [x0, x1, x2, x3, x4, x5, x6][j]? = some u → (w.alloc (.cells #[x0, x1, x2, x3, x4, x5, x6] t)).cell? ((⟨w.heap.size, 0, none⟩ : Addr).add j) = some u := by
  intro j u hj
  have A := At7.new w x0 x1 x2 x3 x4 x5 x6 t
  obtain ⟨a0, a1, a2, a3, a4, a5, a6⟩ := A
  match j, hj with
  | 0, hj => simp at hj; subst hj; exact a0
  | 1, hj => simp at hj; subst hj; exact a1
  | 2, hj => simp at hj; subst hj; exact a2
  | 3, hj => simp at hj; subst hj; exact a3
  | 4, hj => simp at hj; subst hj; exact a4
  | 5, hj => simp at hj; subst hj; exact a5
  | 6, hj => simp at hj; subst hj; exact a6

theorem one7 (x : Nd) : ∀ u ∈ x.cells.toList, u.oneCell' = true := by
  intro u hu
  simp only [Nd.cells, List.mem_cons, List.not_mem_nil, or_false] at hu
  rcases hu with rfl | rfl | rfl | rfl | rfl | rfl | rfl <;> rfl

/-- Behind the append. -/
theorem after_append {B : Nat} {w w2 : World} {p m : Nat} {sv : Value} {L : List Nd} (S : StoreAt B w p m sv L) (hg : w.grownBy w2 sv.ownBlock) :
    w2.cell? ⟨p, 0, none⟩ = some sv ∧ w2.cell? ⟨p, 1, none⟩ = some (.map (some m)) ∧ w2.frozen? ⟨p, 0, none⟩ = false := by
  have hp : some p ≠ sv.ownBlock := fun e => S.gp e.symm
  exact ⟨hg.cell S.c0 hp, hg.cell S.c1 hp, (World.frozen?_of_block (w := w) (hg.block p S.lt hp)).trans (S.fr 0)⟩

theorem added_mk {B : Nat} {W W1 w2 w4 : World} {p m : Nat} {sv v : Value} {L : List Nd} {x : Nd} (S : StoreAt B W p m sv L) (S1 : StoreAt B W1 p m sv L) (k1 : Below W.heap.size W W1)
    (hrow : w2.ownsRow B 57 7 v (L.length + 1) (rowOf L ++ x.cells.toList)) (hg : W1.grownBy w2 sv.ownBlock) (hloc : v.ownBlock = sv.ownBlock ∨ v.ownBlock = some W1.heap.size)
    {D : DataW Unit} (hown : w4.ownsMap Try.prog 57 (plainElem (H := Unit) Try.prog 3) m (L.length + 1) D) (ht : Table (L ++ [x]) D) (hg4 : (w2.setCell ⟨p, 0, none⟩ v).grownBy w4 (some m)) :
    Added B W w4 p m sv v L x := by
  have hp : some p ≠ sv.ownBlock := fun e => S.gp e.symm
  have hpm : some p ≠ some m := fun e => S.pm (by simpa using e)
  have lt2 : p < w2.heap.size := Nat.lt_of_lt_of_le S1.lt hg.size
  have hb4 : w4.heap[p]? = (w2.setCell ⟨p, 0, none⟩ v).heap[p]? := hg4.block p (by simpa [World.setCell] using lt2) hpm
  have hc4 : ∀ o, w4.cell? ⟨p, o, none⟩ = (w2.setCell ⟨p, 0, none⟩ v).cell? ⟨p, o, none⟩ := fun o => World.cell?_of_block hb4
  have hf4 : ∀ o, w4.frozen? ⟨p, o, none⟩ = (w2.setCell ⟨p, 0, none⟩ v).frozen? ⟨p, o, none⟩ := fun o => World.frozen?_of_block hb4
  have hc2 : ∀ o, w2.cell? ⟨p, o, none⟩ = W1.cell? ⟨p, o, none⟩ := fun o => World.cell?_of_block (w := W1) (hg.block p S1.lt hp)
  have hf2 : ∀ o, w2.frozen? ⟨p, o, none⟩ = W1.frozen? ⟨p, o, none⟩ := fun o => World.frozen?_of_block (w := W1) (hg.block p S1.lt hp)
  have hw1 : W.heap.size ≤ W1.heap.size := k1.size
  have kk : Kept (foot p m sv) W w4 := by
    refine ((((Kept.refl _ W).call k1).grown hg (fun i h _ => .inr (.inr h))).setCell ⟨p, 0, none⟩ v (fun _ => .inl rfl)).grown hg4 (fun i h _ => .inr (.inl ?_))
    simpa using h.symm
  have hvp : v.ownBlock ≠ some p := by
    rcases hloc with e | e
    · rw [e]; exact S.gp
    · rw [e]; intro c; have := S.lt; simp at c; omega
  have hvm : v.ownBlock ≠ some m := by
    rcases hloc with e | e
    · rw [e]; exact S.gm
    · rw [e]; intro c; have := S.lm; simp at c; omega
  refine ⟨kk, ?_, ?_, fun i hi => ?_, fun o => ?_, ?_, hloc.imp id (fun e => ⟨_, hw1, e⟩), ⟨D, hown, ht⟩⟩
  · rw [hc4]; exact World.cell?_setCell_same' _ _ _ (by rw [hc2, S1.c0]; rfl)
  · rw [hc4, World.cell?_setCell_other _ _ _ _ (by simp), hc2]; exact S1.c1
  · rw [hc4, World.cell?_setCell_other _ _ _ _ (by simp), hc2]; exact S1.cw i hi
  · rw [hf4, World.frozen?_setCell, hf2]; exact S1.fr o
  · exact (row_setCell hrow _ hvp).kept hg4 (.inr hvm)

theorem add_o (o w n l : Nat) (k0 k1 k2 : Int) (B p m : Nat) (sv : Value) (L : List Nd) (W : World) (S : StoreAt B W p m sv L) (hB : B ≤ W.heap.size) (hx : Nd.Ok ⟨o, w, k0, k1, k2, n, l⟩)
    (hn : ¬ Nd.mk o w k0 k1 k2 n l ∈ L) (hl : L.length < 200000) (hG : Hid (Gd (L ++ [⟨o, w, k0, k1, k2, n, l⟩]))) (d2 : ((o : Int) == 2) = false) (ho : ¬ o = 2) :
    Calls Try.prog 25 #[.pointer (some ⟨p, 0, none⟩), .agg #[.int .u8 o, .int .u8 w, .int .i64 k0, .int .i64 k1, .int .i64 k2, .int .u64 n, .int .u8 l]] W fun e W' => e = .returned (.int .i64 ((L.length : Nat) : Int)) ∧
      ∃ v, StoreAt B W' p m v (L ++ [⟨o, w, k0, k1, k2, n, l⟩]) ∧ Kept (foot p m sv) W W' ∧ (v.ownBlock = sv.ownBlock ∨ ∃ g, W.heap.size ≤ g ∧ v.ownBlock = some g) := by
  obtain ⟨a, c, rfl⟩ := S.shape
  obtain ⟨i, z, hi, hz, hzs, hsz, hby⟩ := info_nd_parts
  have S1 := ((S.alloc (.cells #[.int .u8 o, .int .u8 w, .int .i64 k0, .int .i64 k1, .int .i64 k2, .int .u64 n, .int .u8 l] 57)).drew).alloc (.cells #[.int .u8 o, .int .u8 w, .int .i64 k0, .int .i64 k1, .int .i64 k2, .int .u64 n, .int .u8 l] 57)
  have HS1 := Lib.hid S1
  have kb1 : Below W.heap.size W (((W.alloc (.cells #[.int .u8 o, .int .u8 w, .int .i64 k0, .int .i64 k1, .int .i64 k2, .int .u64 n, .int .u8 l] 57)).drew).alloc (.cells #[.int .u8 o, .int .u8 w, .int .i64 k0, .int .i64 k1, .int .i64 k2, .int .u64 n, .int .u8 l] 57)) := bel_alloc (bel_alloc (Below.refl _ _) _).drew _
  have HN : ∀ j u, (Nd.cells ⟨o, w, k0, k1, k2, n, l⟩).toList[j]? = some u → (((W.alloc (.cells #[.int .u8 o, .int .u8 w, .int .i64 k0, .int .i64 k1, .int .i64 k2, .int .u64 n, .int .u8 l] 57)).drew).alloc (.cells #[.int .u8 o, .int .u8 w, .int .i64 k0, .int .i64 k1, .int .i64 k2, .int .u64 n, .int .u8 l] 57)).cell? ((⟨W.heap.size + 1, 0, none⟩ : Addr).add j) = some u := by
    have h := cell_new7 ((W.alloc (.cells #[.int .u8 o, .int .u8 w, .int .i64 k0, .int .i64 k1, .int .i64 k2, .int .u64 n, .int .u8 l] 57)).drew) (.int .u8 o) (.int .u8 w) (.int .i64 k0) (.int .i64 k1) (.int .i64 k2) (.int .u64 n) (.int .u8 l) 57
    have e : ((W.alloc (.cells #[.int .u8 o, .int .u8 w, .int .i64 k0, .int .i64 k1, .int .i64 k2, .int .u64 n, .int .u8 l] 57)).drew).heap.size = W.heap.size + 1 := by simp
    rw [e] at h
    exact h
  have A1 := ((At7.new W (.int .u8 o) (.int .u8 w) (.int .i64 k0) (.int .i64 k1) (.int .i64 k2) (.int .u64 n) (.int .u8 l) 57).drew).alloc (.cells #[.int .u8 o, .int .u8 w, .int .i64 k0, .int .i64 k1, .int .i64 k2, .int .u64 n, .int .u8 l] 57)
  have hB1 : B ≤ (((W.alloc (.cells #[.int .u8 o, .int .u8 w, .int .i64 k0, .int .i64 k1, .int .i64 k2, .int .u64 n, .int .u8 l] 57)).drew).alloc (.cells #[.int .u8 o, .int .u8 w, .int .i64 k0, .int .i64 k1, .int .i64 k2, .int .u64 n, .int .u8 l] 57)).heap.size := by simp; omega
  have hsz1 : W.heap.size < (((W.alloc (.cells #[.int .u8 o, .int .u8 w, .int .i64 k0, .int .i64 k1, .int .i64 k2, .int .u64 n, .int .u8 l] 57)).drew).alloc (.cells #[.int .u8 o, .int .u8 w, .int .i64 k0, .int .i64 k1, .int .i64 k2, .int .u64 n, .int .u8 l] 57)).heap.size := by simp; omega
  have lp := S.lt
  have lp1 : p < W.heap.size + 1 := by omega
  have c0 := S.c0
  have HA1 := Lib.hid A1
  have HHN := Lib.hid HN
  clear HN S1 A1
  go_enter Try.func25, Try.ntmps25
  go_wp2_with fail
  go_region_law (refine step_append_at rfl (.tmp 15) (.tmp 17) 22 rfl B 57 i z 7 48 Try.underlying22 hi hz hsz hby hzs (by decide) (.slice a L.length c) L.length (rowOf L) (by simp [Act.eval]) HS1.out.row ⟨W.heap.size + 1, 0, none⟩ 1 1 (Nd.cells ⟨o, w, k0, k1, k2, n, l⟩).toList (by simp [Act.eval]) rfl HHN.out (one7 _) (by unfold maxLen; omega) (by omega) hB1 ?_; intro v' w2 hrow hgr hloc; obtain ⟨g', c', rfl, hBg, hg'⟩ := row_slice hrow; obtain ⟨C0, C1, F0⟩ := after_append HS1.out hgr)
  all_goals
    have HH : Hid (∃ w4, (Instr.mapUpdate 47 (.map (some m)) (.agg #[.int .u8 o, .int .u8 w, .int .i64 k0, .int .i64 k1, .int .i64 k2, .int .u64 n, .int .u8 l]) (.int .i64 ((L.length : Nat) : Int))).run Try.prog (w2.setCell ⟨p, 0, none⟩ (.slice (some ⟨g', 0, none⟩) (L.length + 1) c')).drew = .ok () w4 ∧ Added B W w4 p m (.slice a L.length c) (.slice (some ⟨g', 0, none⟩) (L.length + 1) c') L ⟨o, w, k0, k1, k2, n, l⟩ ∧ At7 w4 W.heap.size (.int .u8 o) (.int .u8 w) (.int .i64 k0) (.int .i64 k1) (.int .i64 k2) (.int .u64 n) (.int .u8 l)) := by
      obtain ⟨D, hD, hT⟩ := HS1.out.tab
      have hm2 : m < w2.heap.size := Nat.lt_of_lt_of_le HS1.out.lm hgr.size
      have D2 := (hD.kept hgr (fun e => S.gm e.symm)).setCell (a := ⟨p, 0, none⟩) (fun e => S.pm e.symm) (.slice (some ⟨g', 0, none⟩) (L.length + 1) c')
      obtain ⟨w4, hrun, ho, hg4⟩ := (D2.drew).update law_nd Try.underlying47 (by unfold maxLen; omega) (key_nd ⟨o, w, k0, k1, k2, n, l⟩ hx) (plainElem_int (H := Unit) Try.underlying3 (wf_i64 (n := ((L.length : Nat) : Int)) (by unfold I64; omega)))
      refine ⟨w4, hrun, added_mk S HS1.out kb1 hrow hgr hloc ho (hT.add S.good.ok hx hn) ⟨hg4.os, hg4.tape, hg4.output, hg4.size, hg4.block⟩, ?_⟩
      have hge : Value.ownBlock (.slice a L.length c) ≠ some W.heap.size := by
        intro e
        have := (S.row.lt _ e).2
        omega
      have A2 := HA1.out.move (w' := w2) (fun o => World.cell?_of_block (hgr.block W.heap.size hsz1 (fun e => hge e.symm)))
      have A3 := A2.move (w' := (w2.setCell ⟨p, 0, none⟩ (.slice (some ⟨g', 0, none⟩) (L.length + 1) c')).drew) (fun o => World.cell?_setCell_far w2 _ _ _ (by simp; omega))
      exact A3.move (w' := w4) (fun o => World.cell?_of_block (hg4.block W.heap.size A3.lt (fun e => by have := S.lm; simp at e; omega)))
  all_goals
    have A2 : At7 w2 W.heap.size (.int .u8 o) (.int .u8 w) (.int .i64 k0) (.int .i64 k1) (.int .i64 k2) (.int .u64 n) (.int .u8 l) := by
      have hge : Value.ownBlock (.slice a L.length c) ≠ some W.heap.size := by
        intro e
        have := (S.row.lt _ e).2
        omega
      exact HA1.out.move (w' := w2) (fun o => World.cell?_of_block (hgr.block W.heap.size hsz1 (fun e => hge e.symm)))
    have A3 := A2.move (w' := (w2.setCell ⟨p, 0, none⟩ (.slice (some ⟨g', 0, none⟩) (L.length + 1) c'))) (fun o => World.cell?_setCell_far w2 _ _ _ (by simp; omega))
    obtain ⟨w4, hrun, had, A4⟩ := HH.out
    have C30 : (w2.setCell ⟨p, 0, none⟩ (.slice (some ⟨g', 0, none⟩) (L.length + 1) c')).cell? ⟨p, 1, none⟩ = some (.map (some m)) := by
      rw [World.cell?_setCell_other _ _ _ _ (by simp)]; exact C1
    clear HH hrow hgr hloc A2
    have HAD := Lib.hid had
    clear had
    unfold At7 at A3 A4
    go_wp2_with fail
    go_region
  all_goals go_wp2_with fail
  all_goals go_ret
  all_goals exact ⟨rfl, _, HAD.out.plain S hG.out ho, HAD.out.keep, HAD.out.loc⟩

theorem add_v (w n l : Nat) (k0 k1 k2 : Int) (B p m : Nat) (sv : Value) (L : List Nd) (W : World) (S : StoreAt B W p m sv L) (hB : B ≤ W.heap.size) (hx : Nd.Ok ⟨2, w, k0, k1, k2, n, l⟩)
    (hn : ¬ Nd.mk 2 w k0 k1 k2 n l ∈ L) (hl : L.length < 200000) (hG : Hid (Gd (L ++ [⟨2, w, k0, k1, k2, n, l⟩]))) (hn2 : n < 256) :
    Calls Try.prog 25 #[.pointer (some ⟨p, 0, none⟩), .agg #[.int .u8 2, .int .u8 w, .int .i64 k0, .int .i64 k1, .int .i64 k2, .int .u64 n, .int .u8 l]] W fun e W' => e = .returned (.int .i64 ((L.length : Nat) : Int)) ∧
      ∃ v, StoreAt B W' p m v (L ++ [⟨2, w, k0, k1, k2, n, l⟩]) ∧ Kept (foot p m sv) W W' ∧ (v.ownBlock = sv.ownBlock ∨ ∃ g, W.heap.size ≤ g ∧ v.ownBlock = some g) := by
  obtain ⟨a, c, rfl⟩ := S.shape
  obtain ⟨i, z, hi, hz, hzs, hsz, hby⟩ := info_nd_parts
  have S1 := ((S.alloc (.cells #[.int .u8 2, .int .u8 w, .int .i64 k0, .int .i64 k1, .int .i64 k2, .int .u64 n, .int .u8 l] 57)).drew).alloc (.cells #[.int .u8 2, .int .u8 w, .int .i64 k0, .int .i64 k1, .int .i64 k2, .int .u64 n, .int .u8 l] 57)
  have HS1 := Lib.hid S1
  have kb1 : Below W.heap.size W (((W.alloc (.cells #[.int .u8 2, .int .u8 w, .int .i64 k0, .int .i64 k1, .int .i64 k2, .int .u64 n, .int .u8 l] 57)).drew).alloc (.cells #[.int .u8 2, .int .u8 w, .int .i64 k0, .int .i64 k1, .int .i64 k2, .int .u64 n, .int .u8 l] 57)) := bel_alloc (bel_alloc (Below.refl _ _) _).drew _
  have HN : ∀ j u, (Nd.cells ⟨2, w, k0, k1, k2, n, l⟩).toList[j]? = some u → (((W.alloc (.cells #[.int .u8 2, .int .u8 w, .int .i64 k0, .int .i64 k1, .int .i64 k2, .int .u64 n, .int .u8 l] 57)).drew).alloc (.cells #[.int .u8 2, .int .u8 w, .int .i64 k0, .int .i64 k1, .int .i64 k2, .int .u64 n, .int .u8 l] 57)).cell? ((⟨W.heap.size + 1, 0, none⟩ : Addr).add j) = some u := by
    have h := cell_new7 ((W.alloc (.cells #[.int .u8 2, .int .u8 w, .int .i64 k0, .int .i64 k1, .int .i64 k2, .int .u64 n, .int .u8 l] 57)).drew) (.int .u8 2) (.int .u8 w) (.int .i64 k0) (.int .i64 k1) (.int .i64 k2) (.int .u64 n) (.int .u8 l) 57
    have e : ((W.alloc (.cells #[.int .u8 2, .int .u8 w, .int .i64 k0, .int .i64 k1, .int .i64 k2, .int .u64 n, .int .u8 l] 57)).drew).heap.size = W.heap.size + 1 := by simp
    rw [e] at h
    exact h
  have A1 := ((At7.new W (.int .u8 2) (.int .u8 w) (.int .i64 k0) (.int .i64 k1) (.int .i64 k2) (.int .u64 n) (.int .u8 l) 57).drew).alloc (.cells #[.int .u8 2, .int .u8 w, .int .i64 k0, .int .i64 k1, .int .i64 k2, .int .u64 n, .int .u8 l] 57)
  have hB1 : B ≤ (((W.alloc (.cells #[.int .u8 2, .int .u8 w, .int .i64 k0, .int .i64 k1, .int .i64 k2, .int .u64 n, .int .u8 l] 57)).drew).alloc (.cells #[.int .u8 2, .int .u8 w, .int .i64 k0, .int .i64 k1, .int .i64 k2, .int .u64 n, .int .u8 l] 57)).heap.size := by simp; omega
  have hsz1 : W.heap.size < (((W.alloc (.cells #[.int .u8 2, .int .u8 w, .int .i64 k0, .int .i64 k1, .int .i64 k2, .int .u64 n, .int .u8 l] 57)).drew).alloc (.cells #[.int .u8 2, .int .u8 w, .int .i64 k0, .int .i64 k1, .int .i64 k2, .int .u64 n, .int .u8 l] 57)).heap.size := by simp; omega
  have lp := S.lt
  have lp1 : p < W.heap.size + 1 := by omega
  have c0 := S.c0
  have HA1 := Lib.hid A1
  have HHN := Lib.hid HN
  clear HN S1 A1
  go_enter Try.func25, Try.ntmps25
  go_wp2_with fail
  go_region_law (refine step_append_at rfl (.tmp 15) (.tmp 17) 22 rfl B 57 i z 7 48 Try.underlying22 hi hz hsz hby hzs (by decide) (.slice a L.length c) L.length (rowOf L) (by simp [Act.eval]) HS1.out.row ⟨W.heap.size + 1, 0, none⟩ 1 1 (Nd.cells ⟨2, w, k0, k1, k2, n, l⟩).toList (by simp [Act.eval]) rfl HHN.out (one7 _) (by unfold maxLen; omega) (by omega) hB1 ?_; intro v' w2 hrow hgr hloc; obtain ⟨g', c', rfl, hBg, hg'⟩ := row_slice hrow; obtain ⟨C0, C1, F0⟩ := after_append HS1.out hgr)
  all_goals
    have HH : Hid (∃ w4, (Instr.mapUpdate 47 (.map (some m)) (.agg #[.int .u8 2, .int .u8 w, .int .i64 k0, .int .i64 k1, .int .i64 k2, .int .u64 n, .int .u8 l]) (.int .i64 ((L.length : Nat) : Int))).run Try.prog (w2.setCell ⟨p, 0, none⟩ (.slice (some ⟨g', 0, none⟩) (L.length + 1) c')).drew = .ok () w4 ∧ Added B W w4 p m (.slice a L.length c) (.slice (some ⟨g', 0, none⟩) (L.length + 1) c') L ⟨2, w, k0, k1, k2, n, l⟩ ∧ At7 w4 W.heap.size (.int .u8 2) (.int .u8 w) (.int .i64 k0) (.int .i64 k1) (.int .i64 k2) (.int .u64 n) (.int .u8 l)) := by
      obtain ⟨D, hD, hT⟩ := HS1.out.tab
      have hm2 : m < w2.heap.size := Nat.lt_of_lt_of_le HS1.out.lm hgr.size
      have D2 := (hD.kept hgr (fun e => S.gm e.symm)).setCell (a := ⟨p, 0, none⟩) (fun e => S.pm e.symm) (.slice (some ⟨g', 0, none⟩) (L.length + 1) c')
      obtain ⟨w4, hrun, ho, hg4⟩ := (D2.drew).update law_nd Try.underlying47 (by unfold maxLen; omega) (key_nd ⟨2, w, k0, k1, k2, n, l⟩ hx) (plainElem_int (H := Unit) Try.underlying3 (wf_i64 (n := ((L.length : Nat) : Int)) (by unfold I64; omega)))
      refine ⟨w4, hrun, added_mk S HS1.out kb1 hrow hgr hloc ho (hT.add S.good.ok hx hn) ⟨hg4.os, hg4.tape, hg4.output, hg4.size, hg4.block⟩, ?_⟩
      have hge : Value.ownBlock (.slice a L.length c) ≠ some W.heap.size := by
        intro e
        have := (S.row.lt _ e).2
        omega
      have A2 := HA1.out.move (w' := w2) (fun o => World.cell?_of_block (hgr.block W.heap.size hsz1 (fun e => hge e.symm)))
      have A3 := A2.move (w' := (w2.setCell ⟨p, 0, none⟩ (.slice (some ⟨g', 0, none⟩) (L.length + 1) c')).drew) (fun o => World.cell?_setCell_far w2 _ _ _ (by simp; omega))
      exact A3.move (w' := w4) (fun o => World.cell?_of_block (hg4.block W.heap.size A3.lt (fun e => by have := S.lm; simp at e; omega)))
  all_goals
    have A2 : At7 w2 W.heap.size (.int .u8 2) (.int .u8 w) (.int .i64 k0) (.int .i64 k1) (.int .i64 k2) (.int .u64 n) (.int .u8 l) := by
      have hge : Value.ownBlock (.slice a L.length c) ≠ some W.heap.size := by
        intro e
        have := (S.row.lt _ e).2
        omega
      exact HA1.out.move (w' := w2) (fun o => World.cell?_of_block (hgr.block W.heap.size hsz1 (fun e => hge e.symm)))
    have A3 := A2.move (w' := (w2.setCell ⟨p, 0, none⟩ (.slice (some ⟨g', 0, none⟩) (L.length + 1) c'))) (fun o => World.cell?_setCell_far w2 _ _ _ (by simp; omega))
    obtain ⟨w4, hrun, had, A4⟩ := HH.out
    have C30 : (w2.setCell ⟨p, 0, none⟩ (.slice (some ⟨g', 0, none⟩) (L.length + 1) c')).cell? ⟨p, 1, none⟩ = some (.map (some m)) := by
      rw [World.cell?_setCell_other _ _ _ _ (by simp)]; exact C1
    clear HH hrow hgr hloc A2
    have HAD := Lib.hid had
    clear had
    unfold At7 at A3 A4
    go_wp2_with fail
    go_region
  all_goals go_wp2_with fail
  all_goals
    have Cw := HAD.out.cw n hn2
    have Fw := HAD.out.fr (2 + n)
    have hn3 : (n : Int) < 256 := by omega
    have hn4 : (0 : Int) ≤ (n : Int) := by omega
    go_region
  all_goals go_wp2_with fail
  all_goals go_ret
  all_goals exact ⟨rfl, _, (HAD.out.var S hG.out rfl hn2).1.drew, (HAD.out.var S hG.out rfl hn2).2.drew, HAD.out.loc⟩

/-- add, for every node that is to be added. -/
theorem add_any {B p m : Nat} {sv : Value} {L : List Nd} {x : Nd} {W : World} (S : StoreAt B W p m sv L) (hB : B ≤ W.heap.size) (hx : x.Ok) (hm : mayN L x = true) (hn : ¬ x ∈ L) (hl : L.length < 200000)
    (hw : ¬ (x.o = 2 ∧ ¬ wdOf L x.n = 0 ∧ ¬ wdOf L x.n = x.w)) :
    Calls Try.prog 25 #[.pointer (some ⟨p, 0, none⟩), x.val] W fun e W' => e = .returned (.int .i64 ((L.length : Nat) : Int)) ∧
      ∃ v, StoreAt B W' p m v (L ++ [x]) ∧ Kept (foot p m sv) W W' ∧ (v.ownBlock = sv.ownBlock ∨ ∃ g, W.heap.size ≤ g ∧ v.ownBlock = some g) := by
  have hG := Added.good S.good hx hm hn hl hw
  have hv := fun h => mayN_var hm h
  obtain ⟨o, w, k0, k1, k2, n, l⟩ := x
  by_cases ho : o = 2
  · subst ho
    exact add_v w n l k0 k1 k2 B p m sv L W S hB hx hn hl hG (hv rfl)
  · exact add_o o w n l k0 k1 k2 B p m sv L W S hB hx hn hl hG (by simp; omega) ho
end Tm
end Go.Proofs.Ytigjbngedbbdbaa
