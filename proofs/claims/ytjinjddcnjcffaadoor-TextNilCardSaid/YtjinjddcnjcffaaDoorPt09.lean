/-
may of layer term, for every node, as a fact on one call.
Plain facts on memory for add of layer term: append as one step of a region that draws; the store behind it.
The writer of layer text: what it has in memory; what is added to it, as a fact on one call.
add of layer text: what a writer has written behind it, or the error by which it leaves, as a fact on one call.
-/
import Derived.Test.YtjinjddcnjcffaaDoorTmMayC
import Derived.Test.YtjinjddcnjcffaaDoorTmMayD
import Derived.Deep.RegionLaw
import Derived.Maps.AppendAt
import Derived.Test.YtjinjddcnjcffaaDoorPt01
import Derived.Test.YtjinjddcnjcffaaDoorPt02
import Derived.Lib.AppendStr
import Derived.Deep.LoopGhost
import Derived.WalkLawsBesides
namespace Go.Proofs.YtjinjddcnjcffaaDoor
open Go.RowKit Bv
namespace Tm
set_option maxHeartbeats 400000
set_option maxRecDepth 100000

theorem mayN_notOwn {L : List Nd} {x : Nd} (h : ¬ x = own x) : mayN L x = false := by simp [mayN, h]
theorem mayN_badKid {L : List Nd} {x : Nd} {i : Nat} (hi : i < kc x.o) (h : inB L (x.kid i) = false) : mayN L x = false := by
  have : kidsB L x = false := by
    unfold kidsB
    rw [decide_eq_false_iff_not]
    intro hc
    rw [hc i hi] at h
    simp at h
  simp [mayN, this]
theorem mayN_is {L : List Nd} {x : Nd} (h : x = own x) (hk : ∀ i, i < kc x.o → inB L (x.kid i) = true) :
    mayN L x = (if x.o = 1 then mayB x.w x.n else if x.o = 2 then mayB x.w 0 && decide (x.n < 256)
     else (decide (¬ vecW x.o x.w x.l (wid L x 0) (wid L x 1) (wid L x 2) = 0) && decide (vecW x.o x.w x.l (wid L x 0) (wid L x 1) (wid L x 2) = x.w))) := by
  unfold mayN kidsB
  rw [decide_eq_true h, decide_eq_true hk]
  simp

theorem may_any' {B p m : Nat} {sv : Value} {L : List Nd} {x : Nd} {W : World} (S : StoreAt B W p m sv L) (hx : x.Ok) :
    Calls Tryd.prog 31 #[.pointer (some ⟨p, 0, none⟩), x.val] W fun e W' => e = .returned (.bool (mayN L x)) ∧ Below W.heap.size W W' := by
  have HO : ∀ W : World, Calls Tryd.prog 38 #[x.val] W fun e W' => e = .returned (.agg (own x).cells) ∧ Below W.heap.size W W' := fun W => own_any x W
  have HQ : ∀ W : World, (binOp .neq 44 x.val (.agg (own x).cells)).run Tryd.prog W = .ok (.bool (decide (¬ x = own x))) W := fun W => neq_nd x (own x) hx (own_ok hx) W
  by_cases hown : x = own x
  case neg =>
    rw [mayN_notOwn hown]
    simp only [hown, not_false_eq_true, decide_true] at HQ
    obtain ⟨o, w, k0, k1, k2, n, l⟩ := x
    exact may_not o w n l k0 k1 k2 B p m sv L W _ S HO HQ
  rw [decide_eq_false (not_not_intro hown)] at HQ
  have hk3 := kc_le x.o
  by_cases h0 : 0 < kc x.o ∧ inB L (x.kid 0) = false
  · rw [mayN_badKid h0.1 h0.2]
    obtain ⟨o, w, k0, k1, k2, n, l⟩ := x
    have e0 := h0.2
    simp only at hk3 h0
    rcases (by omega : kc o = 1 ∨ kc o = 2 ∨ kc o = 3) with h | h | h
    · exact may_bad_1_0 o w n l k0 k1 k2 B p m sv L W _ S HO HQ (fun W => kids_is h W) e0
    · exact may_bad_2_0 o w n l k0 k1 k2 B p m sv L W _ S HO HQ (fun W => kids_is h W) e0
    · exact may_bad_3_0 o w n l k0 k1 k2 B p m sv L W _ S HO HQ (fun W => kids_is h W) e0
  have i0 : 0 < kc x.o → inB L (x.kid 0) = true := fun hc => by
    cases hb : inB L (x.kid 0)
    · exact absurd ⟨hc, hb⟩ h0
    · rfl
  by_cases h1 : 1 < kc x.o ∧ inB L (x.kid 1) = false
  · rw [mayN_badKid h1.1 h1.2]
    obtain ⟨o, w, k0, k1, k2, n, l⟩ := x
    have e1 := h1.2
    simp only at hk3 h1 i0
    rcases (by omega : kc o = 2 ∨ kc o = 3) with h | h
    · exact may_bad_2_1 o w n l k0 k1 k2 B p m sv L W _ S HO HQ (fun W => kids_is h W) (i0 (by omega)) e1
    · exact may_bad_3_1 o w n l k0 k1 k2 B p m sv L W _ S HO HQ (fun W => kids_is h W) (i0 (by omega)) e1
  have i1 : 1 < kc x.o → inB L (x.kid 1) = true := fun hc => by
    cases hb : inB L (x.kid 1)
    · exact absurd ⟨hc, hb⟩ h1
    · rfl
  by_cases h2 : 2 < kc x.o ∧ inB L (x.kid 2) = false
  · rw [mayN_badKid h2.1 h2.2]
    obtain ⟨o, w, k0, k1, k2, n, l⟩ := x
    have e2 := h2.2
    simp only at hk3 h2 i0 i1
    have h3 : kc o = 3 := by omega
    exact may_bad_3_2 o w n l k0 k1 k2 B p m sv L W _ S HO HQ (fun W => kids_is h3 W) (i0 (by omega)) (i1 (by omega)) e2
  have i2 : 2 < kc x.o → inB L (x.kid 2) = true := fun hc => by
    cases hb : inB L (x.kid 2)
    · exact absurd ⟨hc, hb⟩ h2
    · rfl
  have hk : ∀ i, i < kc x.o → inB L (x.kid i) = true := fun i hi => by
    rcases (by omega : i = 0 ∨ i = 1 ∨ i = 2) with e | e | e <;> subst e
    · exact i0 hi
    · exact i1 hi
    · exact i2 hi
  rw [mayN_is hown hk]
  clear h0 h1 h2 hk hown
  obtain ⟨o, w, k0, k1, k2, n, l⟩ := x
  simp only at hk3 i0 i1 i2 ⊢
  by_cases o1 : o = 1
  · subst o1
    rw [if_pos rfl]
    cases hm : mayB w n
    · exact may_const_f w n l k0 k1 k2 B p m sv L W _ S HO HQ (fun W => kids_is (by decide) W) hm
    · exact may_const_t w n l k0 k1 k2 B p m sv L W _ S HO HQ (fun W => kids_is (by decide) W) hm
  rw [if_neg o1]
  by_cases o2 : o = 2
  · subst o2
    rw [if_pos rfl]
    cases hm : mayB w 0
    · exact may_var_no w n l k0 k1 k2 B p m sv L W _ S HO HQ (fun W => kids_is (by decide) W) hm
    · by_cases hn : n < 256
      · rw [decide_eq_true hn]
        exact may_var_t w n l k0 k1 k2 B p m sv L W _ S HO HQ (fun W => kids_is (by decide) W) hm (decide_eq_true (by omega))
      · rw [decide_eq_false hn]
        exact may_var_f w n l k0 k1 k2 B p m sv L W _ S HO HQ (fun W => kids_is (by decide) W) hm (decide_eq_false (by omega))
  rw [if_neg o2]
  have d1 : ((o : Int) == 1) = false := by simp; omega
  have d2 : ((o : Int) == 2) = false := by simp; omega
  generalize hr : vecW o w l (wid L ⟨o, w, k0, k1, k2, n, l⟩ 0) (wid L ⟨o, w, k0, k1, k2, n, l⟩ 1) (wid L ⟨o, w, k0, k1, k2, n, l⟩ 2) = r
  by_cases hz : r = 0
  · rw [decide_eq_false (not_not_intro hz), Bool.false_and]
    rcases (by omega : kc o = 0 ∨ kc o = 1 ∨ kc o = 2 ∨ kc o = 3) with h | h | h | h
    · exact may_vec_0z o w n l k0 k1 k2 B p m sv L W _ S HO HQ (fun W => kids_is h W) hx d1 d2 h r hr hz
    · exact may_vec_1z o w n l k0 k1 k2 B p m sv L W _ S HO HQ (fun W => kids_is h W) (i0 (by omega)) hx d1 d2 h r hr hz
    · exact may_vec_2z o w n l k0 k1 k2 B p m sv L W _ S HO HQ (fun W => kids_is h W) (i0 (by omega)) (i1 (by omega)) hx d1 d2 h r hr hz
    · exact may_vec_3z o w n l k0 k1 k2 B p m sv L W _ S HO HQ (fun W => kids_is h W) (i0 (by omega)) (i1 (by omega)) (i2 (by omega)) hx d1 d2 h r hr hz
  rw [decide_eq_true hz, Bool.true_and]
  by_cases hw : r = w
  · rw [decide_eq_true hw]
    have d : ((r : Int) == (w : Int)) = true := by simp; omega
    rcases (by omega : kc o = 0 ∨ kc o = 1 ∨ kc o = 2 ∨ kc o = 3) with h | h | h | h
    · exact may_vec_0y o w n l k0 k1 k2 B p m sv L W _ S HO HQ (fun W => kids_is h W) hx d1 d2 h r hr hz d
    · exact may_vec_1y o w n l k0 k1 k2 B p m sv L W _ S HO HQ (fun W => kids_is h W) (i0 (by omega)) hx d1 d2 h r hr hz d
    · exact may_vec_2y o w n l k0 k1 k2 B p m sv L W _ S HO HQ (fun W => kids_is h W) (i0 (by omega)) (i1 (by omega)) hx d1 d2 h r hr hz d
    · exact may_vec_3y o w n l k0 k1 k2 B p m sv L W _ S HO HQ (fun W => kids_is h W) (i0 (by omega)) (i1 (by omega)) (i2 (by omega)) hx d1 d2 h r hr hz d
  · rw [decide_eq_false hw]
    have d : ((r : Int) == (w : Int)) = false := by simp; omega
    rcases (by omega : kc o = 0 ∨ kc o = 1 ∨ kc o = 2 ∨ kc o = 3) with h | h | h | h
    · exact may_vec_0n o w n l k0 k1 k2 B p m sv L W _ S HO HQ (fun W => kids_is h W) hx d1 d2 h r hr hz d
    · exact may_vec_1n o w n l k0 k1 k2 B p m sv L W _ S HO HQ (fun W => kids_is h W) (i0 (by omega)) hx d1 d2 h r hr hz d
    · exact may_vec_2n o w n l k0 k1 k2 B p m sv L W _ S HO HQ (fun W => kids_is h W) (i0 (by omega)) (i1 (by omega)) hx d1 d2 h r hr hz d
    · exact may_vec_3n o w n l k0 k1 k2 B p m sv L W _ S HO HQ (fun W => kids_is h W) (i0 (by omega)) (i1 (by omega)) (i2 (by omega)) hx d1 d2 h r hr hz d

end Tm
end Go.Proofs.YtjinjddcnjcffaaDoor

namespace Go.Proofs.YtjinjddcnjcffaaDoor
open Go.RowKit Go.Maps Bv
namespace Tm
set_option maxHeartbeats 400000

/-- append onto a slice of the call's own, as one step of a region that draws. -/
theorem step_append_at {P : Program} {ops : Array Oper} {o : Oper} {a : Act} {w : World} {K : Act → World → Prop} {Q : Exit → Act → World → Prop} {E : Prop}
    (hg : o.guard = none) (s x : Operand) (t : TypeId) (hop : o.op = Op.call { callee := Callee.builtin Builtin.append, args := #[s, x], argTypes := #[t, t] })
    (base : Nat) (e : TypeId) (i : TypeInfo) (z : Value) (size bytes : Nat) (h1 : P.underlying t = some (.slice e)) (h2 : P.info? e = some i) (h3 : i.zero = some z) (h4 : i.size = size) (h5 : i.bytes = bytes) (h6 : z.cells.size = size) (h7 : 0 < size)
    (v : Value) (n : Nat) (xs : List Value) (hs : a.eval s = v) (hown : w.ownsRow base e size v n xs)
    (ad : Addr) (m c : Nat) (news : List Value) (hx : a.eval x = .slice (some ad) m c) (hn : news.length = m * size) (hc : ∀ j u, news[j]? = some u → w.cell? (ad.add j) = some u) (h1c : ∀ u ∈ news, u.oneCell' = true)
    (b1 : n + m ≤ maxLen) (b2 : (n + m) * bytes ≤ 140737488355328) (hbase : base ≤ w.heap.size)
    (hK : ∀ v' w', w'.ownsRow base e size v' (n + m) (xs ++ news) → w.grownBy w' v.ownBlock → (v'.ownBlock = v.ownBlock ∨ v'.ownBlock = some w.heap.size) → K (a.put o.dst v') w') :
    if Region.wanted o (yielded ops a.tmps) = true then Oper.wp P o a w K Q else E := by
  have hw : Region.wanted o (yielded ops a.tmps) = true := by simp [Region.wanted, hg]
  rw [if_pos hw]
  obtain ⟨v', w', hrun, r1, r2, _, r4⟩ := run_append_own_at (P := P) w base t o.type e i z size bytes h1 h2 h3 h4 h5 h6 h7 v n xs hown ad m c news hn hc h1c b1 b2 hbase
  unfold Oper.wp
  simp [execOp, hop, resolve, invoke, builtin, hs, hx, hrun, Result.andThen]
  exact hK v' w' r1 r2 r4

theorem info_nd : (Tryd.prog.info? 44).map (fun i => (i.zero.map (fun z => z.cells.size), i.size, i.bytes)) = some (some 7, 7, 48) := by kernel_rfl
theorem info_nd_parts : ∃ i z, Tryd.prog.info? 44 = some i ∧ i.zero = some z ∧ z.cells.size = 7 ∧ i.size = 7 ∧ i.bytes = 48 := by
  have h := info_nd
  cases hi : Tryd.prog.info? 44 with
  | none => simp [hi] at h
  | some i =>
    rw [hi] at h
    simp only [Option.map_some, Option.some.injEq, Prod.mk.injEq, Option.map_eq_some_iff] at h
    obtain ⟨⟨z, hz, hs⟩, h2, h3⟩ := h
    exact ⟨i, z, rfl, hz, hs, h2, h3⟩

theorem row_slice {w : World} {B : Nat} {v : Value} {n : Nat} {xs : List Value} {e : TypeId} {size : Nat} (h : w.ownsRow B e size v (n + 1) xs) : ∃ g c, v = .slice (some ⟨g, 0, none⟩) (n + 1) c ∧ B ≤ g ∧ g < w.heap.size := by
  rcases h with ⟨_, ⟨_, h2⟩ | ⟨g, cap, cur, hv, hb, hh, _⟩⟩
  · omega
  · exact ⟨g, cap, hv, hb, (Array.getElem?_eq_some_iff.1 hh).1⟩

theorem row_setCell {w : World} {B : Nat} {v : Value} {n : Nat} {xs : List Value} {e : TypeId} {size : Nat} (h : w.ownsRow B e size v n xs) {a : Addr} (u : Value) (ha : v.ownBlock ≠ some a.block) : (w.setCell a u).ownsRow B e size v n xs := by
  rcases h with ⟨hl, h1 | ⟨g, cap, cur, hv, hb, hh, r⟩⟩
  · exact ⟨hl, .inl h1⟩
  · refine ⟨hl, .inr ⟨g, cap, cur, hv, hb, ?_, r⟩⟩
    rw [Below.heap_setCell _ _ _ _ (fun e => ha (by rw [hv, ← e]; rfl))]
    exact hh

/-- What is there of the store behind add's append, its store into the field, its store into the map. -/
structure Added (B : Nat) (W w : World) (p m : Nat) (sv v : Value) (L : List Nd) (x : Nd) : Prop where
  keep : Kept (foot p m sv) W w
  c0 : w.cell? ⟨p, 0, none⟩ = some v
  c1 : w.cell? ⟨p, 1, none⟩ = some (.map (some m))
  cw : ∀ i, i < 256 → w.cell? ⟨p, 2 + i, none⟩ = some (.int .u8 ((wdOf L i : Nat) : Int))
  fr : ∀ o, w.frozen? ⟨p, o, none⟩ = false
  row : w.ownsRow B 44 7 v (L.length + 1) (rowOf L ++ x.cells.toList)
  loc : v.ownBlock = sv.ownBlock ∨ ∃ g, W.heap.size ≤ g ∧ v.ownBlock = some g
  tab : ∃ D : DataW Unit, w.ownsMap Tryd.prog 44 (plainElem Tryd.prog 3) m (L.length + 1) D ∧ Table (L ++ [x]) D

theorem Added.gp {B : Nat} {W w : World} {p m : Nat} {sv v : Value} {L : List Nd} {x : Nd} (S : StoreAt B W p m sv L) (h : Added B W w p m sv v L x) : v.ownBlock ≠ some p := by
  rcases h.loc with e | ⟨g, hg, e⟩
  · rw [e]; exact S.gp
  · rw [e]; intro c; have := S.lt; simp at c; omega
theorem Added.gm {B : Nat} {W w : World} {p m : Nat} {sv v : Value} {L : List Nd} {x : Nd} (S : StoreAt B W p m sv L) (h : Added B W w p m sv v L x) : v.ownBlock ≠ some m := by
  rcases h.loc with e | ⟨g, hg, e⟩
  · rw [e]; exact S.gm
  · rw [e]; intro c; have := S.lm; simp at c; omega

theorem mk_new {L : List Nd} {x : Nd} (hm : mayN L x = true) (hn : ¬ x ∈ L) (hl : L.length < 200000) (hw : ¬ (x.o = 2 ∧ ¬ wdOf L x.n = 0 ∧ ¬ wdOf L x.n = x.w)) : mk L x = (L ++ [x], L.length, 0) := by
  unfold mk
  rw [if_neg (by simp [hm]), if_neg hw, if_neg hn, if_neg (by omega)]

theorem Added.good {L : List Nd} {x : Nd} (g : Gd L) (hx : x.Ok) (hm : mayN L x = true) (hn : ¬ x ∈ L) (hl : L.length < 200000) (hw : ¬ (x.o = 2 ∧ ¬ wdOf L x.n = 0 ∧ ¬ wdOf L x.n = x.w)) : Gd (L ++ [x]) := by
  have := gd_step g hx
  rw [mk_new hm hn hl hw] at this
  exact this

/-- Of an operator that is no variable. -/
theorem Added.plain {B : Nat} {W w : World} {p m : Nat} {sv v : Value} {L : List Nd} {x : Nd} (S : StoreAt B W p m sv L) (h : Added B W w p m sv v L x) (hg : Gd (L ++ [x])) (ho : ¬ x.o = 2) : StoreAt B w p m v (L ++ [x]) := by
  refine ⟨S.bp, S.bm, Nat.lt_of_lt_of_le S.lt h.keep.size, Nat.lt_of_lt_of_le S.lm h.keep.size, S.pm, h.c0, h.c1, fun i hi => ?_, h.fr, ?_, h.gp S, h.gm S, ?_, hg⟩
  · rw [h.cw i hi, wdOf_append, if_neg (fun c => ho c.2.1)]
  · rw [rowOf_append]; simpa using h.row
  · simpa using h.tab

/-- Of a variable, behind the store of its width. -/
theorem Added.var {B : Nat} {W w : World} {p m : Nat} {sv v : Value} {L : List Nd} {x : Nd} (S : StoreAt B W p m sv L) (h : Added B W w p m sv v L x) (hg : Gd (L ++ [x])) (ho : x.o = 2) (hn : x.n < 256) :
    StoreAt B (w.setCell ⟨p, 2 + x.n, none⟩ (.int .u8 ((x.w : Nat) : Int))) p m v (L ++ [x]) ∧ Kept (foot p m sv) W (w.setCell ⟨p, 2 + x.n, none⟩ (.int .u8 ((x.w : Nat) : Int))) := by
  have hk : Kept (foot p m sv) W (w.setCell ⟨p, 2 + x.n, none⟩ (.int .u8 ((x.w : Nat) : Int))) := h.keep.setCell _ _ (fun _ => .inl rfl)
  refine ⟨⟨S.bp, S.bm, Nat.lt_of_lt_of_le S.lt hk.size, Nat.lt_of_lt_of_le S.lm hk.size, S.pm, ?_, ?_, fun i hi => ?_, fun o => ?_, ?_, h.gp S, h.gm S, ?_, hg⟩, hk⟩
  · rw [World.cell?_setCell_other _ _ _ _ (by simp; try omega)]; exact h.c0
  · rw [World.cell?_setCell_other _ _ _ _ (by simp; try omega)]; exact h.c1
  · by_cases e : i = x.n
    · subst e
      have hw := hg.wd x (by simp) ho
      rw [hw]
      exact World.cell?_setCell_same' _ _ _ (by rw [h.cw _ hi]; rfl)
    · rw [World.cell?_setCell_other _ _ _ _ (by simp; try omega), h.cw i hi, wdOf_append, if_neg (fun c => e c.2.2.1.symm)]
  · rw [World.frozen?_setCell]; exact h.fr o
  · rw [rowOf_append]
    have := row_setCell h.row (a := ⟨p, 2 + x.n, none⟩) (.int .u8 ((x.w : Nat) : Int)) (h.gp S)
    simpa using this
  · obtain ⟨D, hD, ht⟩ := h.tab
    exact ⟨D, by simpa using hD.setCell (a := ⟨p, 2 + x.n, none⟩) (fun e => S.pm e.symm) _, ht⟩

end Tm
end Go.Proofs.YtjinjddcnjcffaaDoor

namespace Go.Proofs.YtjinjddcnjcffaaDoor
open Go.RowKit Go.Maps Bv Tm
namespace Tx
set_option maxHeartbeats 1600000
set_option maxRecDepth 100000

/-- A text's cells. -/
def bc (l : By) : List Value := l.map fun b => Value.int .u8 (b.toNat : Int)
theorem bc_append (a b : By) : bc (a ++ b) = bc a ++ bc b := by simp [bc]
theorem strCells_bc (s : ByteArray) : Lib.strCells s = bc s.data.toList := rfl
theorem size_len (s : ByteArray) : s.size = s.data.toList.length := (Array.length_toList).symm
theorem str_len (l : By) : (⟨l.toArray⟩ : ByteArray).size = l.length := by rw [size_len]

/-- append of a text onto a list of bytes of one's own: where the list then lies. -/
theorem append_str {P : Program} (w : World) (base : Nat) (t u ty e : TypeId) (i : TypeInfo) (ht : P.underlying t = some (.slice e)) (hu : P.underlying u = some .string) (hi : P.info? e = some i) (hz : i.zero = some (.int .u8 0))
    (hsize : i.size = 1) (hby : i.bytes = 1) (v : Value) (n : Nat) (xs : List Value) (hown : w.ownsRow base e 1 v n xs) (s : ByteArray) (hbytes : n + s.size ≤ 1000000) (hbase : base ≤ w.heap.size) :
    ∃ v' w', (Builtin.append_ #[t, u] ty #[v, .string s]).run P w = .ok v' w' ∧ w'.ownsRow base e 1 v' (n + s.size) (xs ++ Lib.strCells s) ∧ w.grownBy w' v.ownBlock ∧ (v'.ownBlock = v.ownBlock ∨ v'.ownBlock = some w.heap.size) := by
  have h63 : n + s.size ≤ maxLen := by unfold maxLen; omega
  obtain ⟨v', w', hrun, h1, h2, h3⟩ := Lib.run_append_own_string (P := P) w base t u ty e i ht hu hi hz hsize hby v n xs hown s h63 (by omega) hbase
  refine ⟨v', w', hrun, h1, h2, ?_⟩
  rcases hown with ⟨hl, ⟨rfl, rfl⟩ | ⟨g, cap, cur, rfl, hb, hg, hn, hcm, hcs, htake⟩⟩
  · by_cases hs : s.size = 0
    · left; rw [h3.2 ⟨rfl, hs⟩]
    · right
      have hr := run_append_nil_string (P := P) w t u ty e i (.int .u8 0) ht hu hi hz s (by omega) (by omega) (by rw [hby]; omega)
      rw [hrun] at hr
      injection hr with hr _
      subst hr
      rfl
  · by_cases hroom : n + s.size ≤ cap
    · left
      have hr := Lib.run_append_room_string (P := P) w t u ty e i ht hu hi hsize g n cap cur hg s hroom (by simpa [hcs] using hroom)
      rw [hrun] at hr
      injection hr with hr _
      subst hr
      rfl
    · right
      have hr := Lib.run_append_grow_string (P := P) w t u ty e i (.int .u8 0) ht hu hi hz ⟨g, 0, none⟩ n cap xs (by rw [hsize]; exact hl) (World.ownsRow.cells (g := g) ⟨hl, .inr ⟨g, cap, cur, rfl, hb, hg, hn, hcm, hcs, htake⟩⟩ rfl) s (by omega) (by omega) (by rw [hby]; exact growslice_fits (by omega) (by omega))
      rw [hrun] at hr
      injection hr with hr _
      subst hr
      rfl

theorem wpList_append_str {P : Program} {w : World} {ops : Array Oper} {rest : List Oper} {o : Oper} {a : Act} {Q : Exit → Act → World → Prop} (hgd : o.guard = none) (sl x : Operand) (t u : TypeId)
    (ho : o.op = .call { callee := .builtin .append, args := #[sl, x], argTypes := #[t, u] })
    (base : Nat) (e : TypeId) (i : TypeInfo) (ht : P.underlying t = some (.slice e)) (hu : P.underlying u = some .string) (hi : P.info? e = some i) (hz : i.zero = some (.int .u8 0))
    (hsize : i.size = 1) (hby : i.bytes = 1)
    (v : Value) (n : Nat) (xs : List Value) (hs : a.eval sl = v) (hown : w.ownsRow base e 1 v n xs) (s : ByteArray) (hx : a.eval x = .string s)
    (hbytes : n + s.size ≤ 1000000) (hbase : base ≤ w.heap.size)
    (h : ∀ v' w', w'.ownsRow base e 1 v' (n + s.size) (xs ++ Lib.strCells s) → w.grownBy w' v.ownBlock → (v'.ownBlock = v.ownBlock ∨ v'.ownBlock = some w.heap.size) → wpList P ops Q rest (a.put o.dst v') w') : wpList P ops Q (o :: rest) a w := by
  refine wpList_plain hgd fun K hK => ?_
  obtain ⟨v', w', hr, h2, h3, h4⟩ := append_str (P := P) w base t u o.type e i ht hu hi hz hsize hby v n xs hown s hbytes hbase
  unfold Oper.wp execOp
  simp only [ho, resolve, invoke, builtin, Sem.run_bind, Sem.run_pure, Result.andThen_ok, List.map_toArray, List.map_cons, List.map_nil, hs, hx, hr]
  exact hK _ _ (h v' w' h2 h3 h4)

/-! ### the writer -/
/-- The block b of w is a writer over the store st that has written bs; F: the blocks that may change. -/
structure WrAt (F : Nat → Prop) (b : Nat) (st v : Value) (bs : By) (w : World) : Prop where
  c0 : w.cell? ⟨b, 0, none⟩ = some st
  c1 : w.cell? ⟨b, 1, none⟩ = some v
  fr : ∀ o, w.frozen? ⟨b, o, none⟩ = false
  row : w.ownsRow 0 5 1 v bs.length (bc bs)
  gp : v.ownBlock ≠ some b
  fb : F b
  fo : ∀ g, v.ownBlock = some g → F g
  fn : ∀ i, w.heap.size ≤ i → F i
def WrE (F : Nat → Prop) (b : Nat) (st : Value) (bs : By) (w : World) : Prop := ∃ v, WrAt F b st v bs w

theorem WrAt.lt {F : Nat → Prop} {b : Nat} {st v : Value} {bs : By} {w : World} (h : WrAt F b st v bs w) : b < w.heap.size := World.block_lt_of_cell? w _ h.c0
theorem own_lt {w : World} {base : Nat} {e : TypeId} {size : Nat} {v : Value} {n : Nat} {xs : List Value} (h : w.ownsRow base e size v n xs) {g : Nat} (hg : v.ownBlock = some g) : g < w.heap.size := (h.lt g hg).2

/-- Blocks that may not change are as they were: so is what is read of them. -/
theorem WrAt.appended {F : Nat → Prop} {b : Nat} {st v v' : Value} {bs : By} {w w1 : World} (h : WrAt F b st v bs w) (s : ByteArray)
    (hown : w1.ownsRow 0 5 1 v' (bs.length + s.size) (bc bs ++ Lib.strCells s)) (hg : w.grownBy w1 v.ownBlock) (hat : v'.ownBlock = v.ownBlock ∨ v'.ownBlock = some w.heap.size) :
    WrE F b st (bs ++ s.data.toList) (w1.setCell ⟨b, 1, none⟩ v') ∧ Kept F w (w1.setCell ⟨b, 1, none⟩ v') ∧ w1.cell? ⟨b, 1, none⟩ = some v ∧ w1.frozen? ⟨b, 1, none⟩ = false := by
  have lb := h.lt
  have K1 : Kept F w w1 := (Kept.refl F w).grown hg (fun i hi _ => h.fo i hi)
  have nb : v.ownBlock ≠ some b := h.gp
  have hc : ∀ o, w1.cell? ⟨b, o, none⟩ = w.cell? ⟨b, o, none⟩ := fun o => World.cell?_of_block (w := w) (hg.block b lb (Ne.symm nb))
  have hf : ∀ o, w1.frozen? ⟨b, o, none⟩ = w.frozen? ⟨b, o, none⟩ := fun o => World.frozen?_of_block (w := w) (hg.block b lb (Ne.symm nb))
  have nb' : v'.ownBlock ≠ some b := by
    rcases hat with e | e
    · rw [e]; exact nb
    · rw [e]; intro c; simp at c; omega
  refine ⟨⟨v', ?_, ?_, fun o => ?_, ?_, nb', h.fb, ?_, ?_⟩, K1.setCell _ _ (fun _ => h.fb), ?_, ?_⟩
  · rw [World.cell?_setCell_other _ _ _ _ (by simp), hc]; exact h.c0
  · exact World.cell?_setCell_same _ _ _ ((hc 1).trans h.c1)
  · rw [World.frozen?_setCell]; rw [hf]; exact h.fr o
  · have r := row_setCell hown v' (a := ⟨b, 1, none⟩) nb'
    rw [strCells_bc, ← bc_append] at r
    rw [List.length_append, ← size_len]
    exact r
  · intro g e
    rcases hat with c | c
    · rw [c] at e; exact h.fo g e
    · rw [c] at e; simp at e; exact h.fn g (by omega)
  · intro i hi
    refine h.fn i (Nat.le_trans ?_ hi)
    simpa using hg.size
  · rw [hc]; exact h.c1
  · rw [hf]; exact h.fr 1

/-- What leaves the writer alone. -/
theorem WrAt.keep {F G : Nat → Prop} {b : Nat} {st v : Value} {bs : By} {w w' : World} (h : WrAt F b st v bs w) (k : Kept G w w') (hG : ∀ i, i < w.heap.size → G i → i ≠ b ∧ v.ownBlock ≠ some i) : WrAt F b st v bs w' := by
  have lb := h.lt
  have nb : ¬ G b := fun c => (hG b lb c).1 rfl
  refine ⟨(k.cell (x := ⟨b, 0, none⟩) lb nb).trans h.c0, (k.cell (x := ⟨b, 1, none⟩) lb nb).trans h.c1, fun o => (k.frozen (x := ⟨b, o, none⟩) lb nb).trans (h.fr o), ?_, h.gp, h.fb, h.fo, fun i hi => h.fn i (Nat.le_trans k.size hi)⟩
  exact row_kept h.row k (fun g e c => (hG g (own_lt h.row e) c).2 e)
end Tx
end Go.Proofs.YtjinjddcnjcffaaDoor

namespace Go.Proofs.YtjinjddcnjcffaaDoor
open Go.RowKit Go.Maps Bv Tm
namespace Tx
set_option maxHeartbeats 1600000
set_option maxRecDepth 100000

theorem info_u8 : (Tryd.prog.info? 5).map (fun i => (i.zero, i.size, i.bytes)) = some (some (.int .u8 0), 1, 1) := by kernel_rfl
/-- The texts, one behind the other. -/
def flat (P : List ByteArray) : By := P.flatMap (fun s => s.data.toList)
theorem flat_take {P : List ByteArray} {i : Nat} {s : ByteArray} (h : P[i]? = some s) : flat (P.take (i + 1)) = flat (P.take i) ++ s.data.toList := by
  unfold flat
  rw [List.take_add_one, h]
  simp
theorem flat_le {P : List ByteArray} (i : Nat) : (flat (P.take i)).length ≤ (flat P).length := by
  have : flat P = flat (P.take i) ++ flat (P.drop i) := by unfold flat; rw [← List.flatMap_append, List.take_append_drop]
  rw [this]; simp

/-- The error by which a call leaves. -/
abbrev boom (n : Int) : Ending := .panicked [{ v := .iface 28 (.int .i64 n), recovered := false }]
/-- What add has done. -/
def Added1 (F : Nat → Prop) (b : Nat) (st : Value) (bs : By) (w : World) (e : Ending) (w' : World) : Prop :=
  if bs.length ≤ 10000 then e = .returned (.tuple #[]) ∧ WrE F b st bs w' ∧ Kept F w w' else e = boom 3 ∧ Kept F w w'

theorem row_shape {w : World} {base size n : Nat} {e : TypeId} {v : Value} {xs : List Value} (h : w.ownsRow base e size v n xs) : ∃ a c, v = .slice a n c := by
  rcases h with ⟨_, ⟨h1, h2⟩ | ⟨g, cap, cur, hv, _⟩⟩
  · exact ⟨none, 0, by rw [h1, h2]⟩
  · exact ⟨_, _, hv⟩

theorem row_shape3 {w : World} {base size n : Nat} {e : TypeId} {v : Value} {xs : List Value} (h : w.ownsRow base e size v n xs) : ∃ a m c, v = .slice a m c := by
  obtain ⟨a, c, h⟩ := row_shape h
  exact ⟨a, n, c, h⟩

theorem add_any {F : Nat → Prop} {b : Nat} {st : Value} {bs : By} {w : World} {pb cap n : Nat} {P : List ByteArray} (hW : WrE F b st bs w) (hP : ∀ (i : Nat) (s : ByteArray), P[i]? = some s → w.cell? ⟨pb, i, none⟩ = some (.string s)) (hF : ¬ F pb) (hlen : bs.length + (flat P).length ≤ 900000) (hn : n = P.length) (hpb : pb < w.heap.size) (hnb : n < 1000) :
    Calls Tryd.prog 16 #[.pointer (some ⟨b, 0, none⟩), .slice (some ⟨pb, 0, none⟩) n cap] w (Added1 F b st (bs ++ flat P) w) := by
  obtain ⟨i0, hi0, hz0, hz1, hz2⟩ := info_parts info_u8
  have HP := Lib.hid hP
  have HF := Lib.hid hF
  have HL := Lib.hid hlen
  have HN := Lib.hid (And.intro hn hnb)
  have HPB := Lib.hid hpb
  have HW := Lib.hid hW
  clear hP hF hlen hn hW hpb hnb
  go_enter Tryd.func16, Tryd.ntmps16
  go_wp2_with fail
  go_loopg [8] n (fun gk u8 wr => ∃ i : Nat, u8 = .int .i64 ((i : Nat) : Int) ∧ i + gk = n ∧ WrE F b st (bs ++ flat (P.take i)) wr ∧ Kept F w wr)
  case atStart => exact ⟨0, rfl, by omega, by simpa [flat] using HW.out, Kept.refl F w⟩
  case round =>
    obtain ⟨i, rfl, hgk, hE, hK⟩ := hrel
    clear HW
    have HK := Lib.hid hK
    by_cases hin : i < n
    · obtain ⟨s, hs⟩ : ∃ s, P[i]? = some s := ⟨_, List.getElem?_eq_getElem (by rw [← HN.out.1]; exact hin)⟩
      obtain ⟨v, hv⟩ := hE
      have c1 := hv.c1
      have hcell : wr.cell? ⟨pb, i, none⟩ = some (.string s) := (hK.cell (x := ⟨pb, i, none⟩) HPB.out HF.out).trans (HP.out i s hs)
      have q1 : ((i : Nat) : Int) < ((n : Nat) : Int) := by omega
      have q0 : (0 : Int) ≤ ((i : Nat) : Int) := by omega
      have hft := flat_take hs
      have hsz : (bs ++ flat (P.take i)).length + s.size ≤ 1000000 := by
        have := flat_le (P := P) (i + 1)
        have := HL.out
        rw [hft] at *
        simp only [List.length_append, ← size_len] at *
        omega
      have r1 : IntKind.i64.wrap (((i : Nat) : Int) + 1) = (((i + 1 : Nat) : Nat) : Int) := by have := HN.out.2; rw [IntKind.wrap_i64]; omega
      have r2 : wrap64 (((i : Nat) : Int) + 1) = (((i + 1 : Nat) : Nat) : Int) := by unfold wrap64; rw [← IntKind.wrap_i64]; exact r1
      have HR2 := Lib.hid r2
      have HV := Lib.hid hv
      have HSZ := Lib.hid hsz
      have HFT := Lib.hid hft
      have HGK := Lib.hid (And.intro hgk hin)
      clear hv hsz hft hgk hin hs hK r1 r2
      go_wp2_with (at_builtin; refine wpList_append_str rfl _ _ 35 9 rfl 0 5 i0 Tryd.underlying35 Tryd.underlying9 hi0 hz0 hz1 hz2 v _ _ rfl HV.out.row s rfl HSZ.out (Nat.zero_le _) ?_; intro v' w1 hown hg hat; obtain ⟨hE1, hK1, g1, g2⟩ := HV.out.appended s hown hg hat; obtain ⟨sa, sn, sc, rfl⟩ := row_shape3 hown; have HE1 := Lib.hid hE1; have HK1 := Lib.hid hK1; clear hE1 hK1 hown hg hat)
      go_roundg (gk - 1)
      case measure => have := HGK.out; omega
      case rel => exact ⟨i + 1, by first | rfl | (rw [HR2.out]) | (congr 1; exact HR2.out), by have := HGK.out; omega, by rw [HFT.out, ← List.append_assoc]; exact HE1.out, HK.out.trans HK1.out⟩
    · obtain ⟨v, hv⟩ := hE
      have hin' : n ≤ i := by omega
      have hall : P.take i = P := List.take_of_length_le (by rw [← HN.out.1]; exact hin')
      rw [hall] at hv
      have c1 := hv.c1
      obtain ⟨sa, sc, hsv⟩ := row_shape hv.row
      obtain ⟨m, hm⟩ : ∃ m, m = (bs ++ flat P).length := ⟨_, rfl⟩
      rw [← hm] at hsv
      have HV := Lib.hid hv
      clear hv hall
      rw [hsv] at c1
      have HM := Lib.hid hm
      clear hm hgk hin hK
      by_cases hle : m ≤ 10000
      · have q : ¬ (10000 : Int) < ((m : Nat) : Int) := by omega
        go_wp2_with fail
        refine bodyPost_ret (v := .tuple #[]) (by simp [results, Tryd.results16, go_sem]) rfl ?_
        unfold Added1
        rw [if_pos (by rw [← HM.out]; exact hle)]
        exact ⟨rfl, ⟨v, HV.out⟩, HK.out⟩
      · have q : (10000 : Int) < ((m : Nat) : Int) := by omega
        go_wp2_with fail
        refine ⟨rfl, ?_⟩
        unfold Added1
        rw [if_neg (by rw [← HM.out]; exact hle)]
        exact ⟨rfl, HK.out⟩
end Tx
end Go.Proofs.YtjinjddcnjcffaaDoor
