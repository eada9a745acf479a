/-
  Plain facts on memory for add of layer term: append as one step of a region that draws; the store behind it.
-/
import Derived.Test.YthelkbdiedfmfaaGreatTmMay
import Derived.Deep.RegionLaw
import Derived.Maps.AppendAt
namespace Go.Proofs.YthelkbdiedfmfaaGreat
open Go.RowKit Go.Maps Bv
namespace Tm
set_option maxHeartbeats 400000

/-- append onto a slice of the call's own, as one step of a region that draws. -/
theorem step_append_at {P : Program} {ops : Array Oper} {o : Oper} {a : Act} {w : World} {K : Act → World → Prop} {Q : Exit → Act → World → Prop} {E : Prop}
    (hg : o.guard = none) (s x : Operand) (t : TypeId) (hop : o.op = Op.call { callee := Callee.builtin Builtin.append, args := #[s, x], argTypes := #[t, t] })
    (base : Nat) (e : TypeId) (i : TypeInfo) (z : Value) (size bytes : Nat) (h1 : P.underlying t = some (.slice e)) (h2 : P.info? e = some i) (h3 : i.zero = some z) (h4 : i.size = size) (h5 : i.bytes = bytes) (h6 : z.cells.size = size) (h7 : 0 < size)
    (v : Value) (n : Nat) (xs : List Value) (hs : a.eval s = v) (hown : w.ownsRow base e size v n xs)
    (ad : Addr) (m c : Nat) (news : List Value) (hx : a.eval x = .slice (some ad) m c) (hn : news.length = m * size) (hc : ∀ j u, news[j]? = some u → w.cell? (ad.add j) = some u) (h1c : ∀ u ∈ news, u.oneCell' = true)
    (b1 : n + m ≤ maxLen) (b2 : (n + m) * bytes ≤ 140737488355328) (hbase : base ≤ w.heap.size)
    (hK : ∀ v' w', w'.ownsRow base e size v' (n + m) (xs ++ news) → w.grownBy w' v.ownBlock → (v'.ownBlock = v.ownBlock ∨ v'.ownBlock = some w.heap.size) → K (a.put o.dst v') w') :
    if Region.wanted o (yielded ops a.tmps) = true then Oper.wp P o a w K Q else E := by
  have hw : Region.wanted o (yielded ops a.tmps) = true := by simp [Region.wanted, hg]
  rw [if_pos hw]
  obtain ⟨v', w', hrun, r1, r2, _, r4⟩ := run_append_own_at (P := P) w base t o.type e i z size bytes h1 h2 h3 h4 h5 h6 h7 v n xs hown ad m c news hn hc h1c b1 b2 hbase
  unfold Oper.wp
  simp [execOp, hop, resolve, invoke, builtin, hs, hx, hrun, Result.andThen]
  exact hK v' w' r1 r2 r4

theorem info_nd : (Tryz.prog.info? 56).map (fun i => (i.zero.map (fun z => z.cells.size), i.size, i.bytes)) = some (some 7, 7, 48) := by kernel_rfl
theorem info_nd_parts : ∃ i z, Tryz.prog.info? 56 = some i ∧ i.zero = some z ∧ z.cells.size = 7 ∧ i.size = 7 ∧ i.bytes = 48 := by
  have h := info_nd
  cases hi : Tryz.prog.info? 56 with
  | none => simp [hi] at h
  | some i =>
    rw [hi] at h
    simp only [Option.map_some, Option.some.injEq, Prod.mk.injEq, Option.map_eq_some_iff] at h
    obtain ⟨⟨z, hz, hs⟩, h2, h3⟩ := h
    exact ⟨i, z, rfl, hz, hs, h2, h3⟩

theorem row_slice {w : World} {B : Nat} {v : Value} {n : Nat} {xs : List Value} {e : TypeId} {size : Nat} (h : w.ownsRow B e size v (n + 1) xs) : ∃ g c, v = .slice (some ⟨g, 0, none⟩) (n + 1) c ∧ B ≤ g ∧ g < w.heap.size := by
  rcases h with ⟨_, ⟨_, h2⟩ | ⟨g, cap, cur, hv, hb, hh, _⟩⟩
  · omega
  · exact ⟨g, cap, hv, hb, (Array.getElem?_eq_some_iff.1 hh).1⟩

theorem row_setCell {w : World} {B : Nat} {v : Value} {n : Nat} {xs : List Value} {e : TypeId} {size : Nat} (h : w.ownsRow B e size v n xs) {a : Addr} (u : Value) (ha : v.ownBlock ≠ some a.block) : (w.setCell a u).ownsRow B e size v n xs := by
  rcases h with ⟨hl, h1 | ⟨g, cap, cur, hv, hb, hh, r⟩⟩
  · exact ⟨hl, .inl h1⟩
  · refine ⟨hl, .inr ⟨g, cap, cur, hv, hb, ?_, r⟩⟩
    rw [Below.heap_setCell _ _ _ _ (fun e => ha (by rw [hv, ← e]; rfl))]
    exact hh

/-- What is there of the store behind add's append, its store into the field, its store into the map. -/
structure Added (B : Nat) (W w : World) (p m : Nat) (sv v : Value) (L : List Nd) (x : Nd) : Prop where
  keep : Kept (foot p m sv) W w
  c0 : w.cell? ⟨p, 0, none⟩ = some v
  c1 : w.cell? ⟨p, 1, none⟩ = some (.map (some m))
  cw : ∀ i, i < 256 → w.cell? ⟨p, 2 + i, none⟩ = some (.int .u8 ((wdOf L i : Nat) : Int))
  fr : ∀ o, w.frozen? ⟨p, o, none⟩ = false
  row : w.ownsRow B 56 7 v (L.length + 1) (rowOf L ++ x.cells.toList)
  loc : v.ownBlock = sv.ownBlock ∨ ∃ g, W.heap.size ≤ g ∧ v.ownBlock = some g
  tab : ∃ D : DataW Unit, w.ownsMap Tryz.prog 56 (plainElem Tryz.prog 3) m (L.length + 1) D ∧ Table (L ++ [x]) D

theorem Added.gp {B : Nat} {W w : World} {p m : Nat} {sv v : Value} {L : List Nd} {x : Nd} (S : StoreAt B W p m sv L) (h : Added B W w p m sv v L x) : v.ownBlock ≠ some p := by
  rcases h.loc with e | ⟨g, hg, e⟩
  · rw [e]; exact S.gp
  · rw [e]; intro c; have := S.lt; simp at c; omega
theorem Added.gm {B : Nat} {W w : World} {p m : Nat} {sv v : Value} {L : List Nd} {x : Nd} (S : StoreAt B W p m sv L) (h : Added B W w p m sv v L x) : v.ownBlock ≠ some m := by
  rcases h.loc with e | ⟨g, hg, e⟩
  · rw [e]; exact S.gm
  · rw [e]; intro c; have := S.lm; simp at c; omega

theorem mk_new {L : List Nd} {x : Nd} (hm : mayN L x = true) (hn : ¬ x ∈ L) (hl : L.length < 200000) (hw : ¬ (x.o = 2 ∧ ¬ wdOf L x.n = 0 ∧ ¬ wdOf L x.n = x.w)) : mk L x = (L ++ [x], L.length, 0) := by
  unfold mk
  rw [if_neg (by simp [hm]), if_neg hw, if_neg hn, if_neg (by omega)]

theorem Added.good {L : List Nd} {x : Nd} (g : Gd L) (hx : x.Ok) (hm : mayN L x = true) (hn : ¬ x ∈ L) (hl : L.length < 200000) (hw : ¬ (x.o = 2 ∧ ¬ wdOf L x.n = 0 ∧ ¬ wdOf L x.n = x.w)) : Gd (L ++ [x]) := by
  have := gd_step g hx
  rw [mk_new hm hn hl hw] at this
  exact this

/-- Of an operator that is no variable. -/
theorem Added.plain {B : Nat} {W w : World} {p m : Nat} {sv v : Value} {L : List Nd} {x : Nd} (S : StoreAt B W p m sv L) (h : Added B W w p m sv v L x) (hg : Gd (L ++ [x])) (ho : ¬ x.o = 2) : StoreAt B w p m v (L ++ [x]) := by
  refine ⟨S.bp, S.bm, Nat.lt_of_lt_of_le S.lt h.keep.size, Nat.lt_of_lt_of_le S.lm h.keep.size, S.pm, h.c0, h.c1, fun i hi => ?_, h.fr, ?_, h.gp S, h.gm S, ?_, hg⟩
  · rw [h.cw i hi, wdOf_append, if_neg (fun c => ho c.2.1)]
  · rw [rowOf_append]; simpa using h.row
  · simpa using h.tab

/-- Of a variable, behind the store of its width. -/
theorem Added.var {B : Nat} {W w : World} {p m : Nat} {sv v : Value} {L : List Nd} {x : Nd} (S : StoreAt B W p m sv L) (h : Added B W w p m sv v L x) (hg : Gd (L ++ [x])) (ho : x.o = 2) (hn : x.n < 256) :
    StoreAt B (w.setCell ⟨p, 2 + x.n, none⟩ (.int .u8 ((x.w : Nat) : Int))) p m v (L ++ [x]) ∧ Kept (foot p m sv) W (w.setCell ⟨p, 2 + x.n, none⟩ (.int .u8 ((x.w : Nat) : Int))) := by
  have hk : Kept (foot p m sv) W (w.setCell ⟨p, 2 + x.n, none⟩ (.int .u8 ((x.w : Nat) : Int))) := h.keep.setCell _ _ (fun _ => .inl rfl)
  refine ⟨⟨S.bp, S.bm, Nat.lt_of_lt_of_le S.lt hk.size, Nat.lt_of_lt_of_le S.lm hk.size, S.pm, ?_, ?_, fun i hi => ?_, fun o => ?_, ?_, h.gp S, h.gm S, ?_, hg⟩, hk⟩
  · rw [World.cell?_setCell_other _ _ _ _ (by simp; try omega)]; exact h.c0
  · rw [World.cell?_setCell_other _ _ _ _ (by simp; try omega)]; exact h.c1
  · by_cases e : i = x.n
    · subst e
      have hw := hg.wd x (by simp) ho
      rw [hw]
      exact World.cell?_setCell_same' _ _ _ (by rw [h.cw _ hi]; rfl)
    · rw [World.cell?_setCell_other _ _ _ _ (by simp; try omega), h.cw i hi, wdOf_append, if_neg (fun c => e c.2.2.1.symm)]
  · rw [World.frozen?_setCell]; exact h.fr o
  · rw [rowOf_append]
    have := row_setCell h.row (a := ⟨p, 2 + x.n, none⟩) (.int .u8 ((x.w : Nat) : Int)) (h.gp S)
    simpa using this
  · obtain ⟨D, hD, ht⟩ := h.tab
    exact ⟨D, by simpa using hD.setCell (a := ⟨p, 2 + x.n, none⟩) (fun e => S.pm e.symm) _, ht⟩

end Tm
end Go.Proofs.YthelkbdiedfmfaaGreat
