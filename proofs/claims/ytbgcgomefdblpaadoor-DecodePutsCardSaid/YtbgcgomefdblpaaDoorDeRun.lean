/-
  Rows of Ops that follow each other: the document's run, walked.
-/
import Derived.Test.YtbgcgomefdblpaaDoorDeFits
import Derived.Laws.AppendOwn
import Derived.Lib.SliceRun
import Derived.Maps.AppendAt
import Derived.Deep.RegionLaw
import Derived.Laws.MakeOwn
import Derived.StillTailTactics
namespace Go.Proofs.YtbgcgomefdblpaaDoor
open Go.RowKit
namespace De
set_option maxHeartbeats 3200000
set_option maxRecDepth 100000

/-- A list's cells. -/
def ColAt (w : World) (b : Nat) (xs : List Value) : Prop := b < w.heap.size ∧ ∀ j x, xs[j]? = some x → w.cell? ⟨b, j, none⟩ = some x
theorem ColAt.below {w w' : World} {b : Nat} {xs : List Value} (h : ColAt w b xs) (hb : Below w.heap.size w w') : ColAt w' b xs :=
  ⟨Nat.lt_of_lt_of_le h.1 hb.size, fun j x hj => (hb.cell (p := ⟨b, j, none⟩) h.1).trans (h.2 j x hj)⟩
theorem ColAt.alloc {w : World} {b : Nat} {xs : List Value} (h : ColAt w b xs) (o : Obj) : ColAt (w.alloc o) b xs := h.below ((Below.refl _ _).alloc (Nat.le_refl _) o)
theorem ColAt.new (w : World) (xs : List Value) (t : TypeId) : ColAt (w.alloc (.cells xs.toArray t)) w.heap.size xs :=
  ⟨by simp, fun j x hj => by rw [new_cell]; simpa using hj⟩
def u32s (l : List Nat) : List Value := l.map fun x => .int .u32 ((x : Nat) : Int)
def strs (l : List ByteArray) : List Value := l.map .string
/-- Rows with their names, as cells. -/
def rowsV : List Row → List ByteArray → List Value
  | r :: rs, s :: ss => (rowV r s).toList ++ rowsV rs ss
  | _, _ => []
theorem rowsV_len : ∀ (R : List Row) (S : List ByteArray), R.length = S.length → (rowsV R S).length = R.length * 6
  | [], [], _ => rfl
  | r :: rs, s :: ss, h => by
    simp only [rowsV, List.length_append, List.length_cons]
    rw [rowsV_len rs ss (by simpa using h)]
    simp [rowV]; omega
  | [], _ :: _, h => by simp at h
  | _ :: _, [], h => by simp at h
theorem rowsV_app : ∀ (R1 : List Row) (S1 : List ByteArray) (R2 : List Row) (S2 : List ByteArray), R1.length = S1.length → rowsV (R1 ++ R2) (S1 ++ S2) = rowsV R1 S1 ++ rowsV R2 S2
  | [], [], _, _, _ => rfl
  | r :: rs, s :: ss, R2, S2, h => by
    simp only [List.cons_append, rowsV, List.append_assoc]
    rw [rowsV_app rs ss R2 S2 (by simpa using h)]
  | [], _ :: _, _, _, h => by simp at h
  | _ :: _, [], _, _, h => by simp at h
theorem wu8' {x : Nat} (h : x < 256) : IntKind.u8.wrap ((x : Nat) : Int) = ((x : Nat) : Int) := by
  simp [IntKind.wrap, IntKind.bits, IntKind.signed]; omega
theorem infos {t : TypeId} {z : Value} {a b : Nat} (h : (Tryd.prog.info? t).map (fun i => (i.zero, i.size, i.bytes)) = some (some z, a, b)) : ∃ i, Tryd.prog.info? t = some i ∧ i.zero = some z ∧ i.size = a ∧ i.bytes = b := by
  cases hi : Tryd.prog.info? t with
  | none => rw [hi] at h; cases h
  | some i =>
    rw [hi] at h
    simp only [Option.map_some, Option.some.injEq, Prod.mk.injEq] at h
    exact ⟨i, rfl, h.1, h.2.1, h.2.2⟩
theorem info_u32 : (Tryd.prog.info? 22).map (fun i => (i.zero, i.size, i.bytes)) = some (some (.int .u32 0), 1, 4) := by kernel_rfl
theorem made_one (z : Value) (hz : z.cells = #[z]) (n : Nat) : madeCells z.cells (n * 1) = (List.replicate n z).toArray := by
  apply Array.ext_getElem?
  intro j
  by_cases hj : j < n
  · simp [madeCells, hz, hj, Nat.mod_one]
  · simp [madeCells, hz, hj]
theorem make_u32s {n : Nat} {z : Int} (hz : z = ((n : Nat) : Int)) (hn : n ≤ 1000) (W : World) : (Instr.makeSlice 56 (.int .i64 z) (.int .i64 z)).run Tryd.prog W = .ok (.slice (some ⟨W.heap.size, 0, none⟩) n n) (W.alloc (.cells (List.replicate n (Value.int .u32 0)).toArray 22)) := by
  subst hz
  obtain ⟨i0, hinfo, hz0, hz1, hz2⟩ := infos info_u32
  have h := run_makeSlice (P := Tryd.prog) (w := W) 56 22 i0 (.int .u32 0) Tryd.underlying56 hinfo hz0 .i64 .i64 ((n : Nat) : Int) ((n : Nat) : Int) (by omega) (Int.le_refl _) (by rw [hz1]; simp; omega) (by rw [hz2]; omega) (by omega)
  rw [hz1] at h
  simp only [Int.toNat_natCast] at h
  rw [made_one _ rfl] at h
  exact h
theorem noughts_any {n : Nat} {z : Int} (hz : z = ((n : Nat) : Int)) (hn : n ≤ 1000) (W : World) : Calls Tryd.prog 24 #[.int .i64 z] W fun e w => ∃ g, e = .returned (.slice (some ⟨g, 0, none⟩) n n) ∧ ColAt w g (u32s (List.replicate n 0)) ∧ Below W.heap.size W w := by
  have HM := make_u32s hz hn W
  have HC := Lib.hid (ColAt.new W (List.replicate n (.int .u32 0)) 22)
  clear hz
  go_enter Tryd.func24, Tryd.ntmps24
  go_wp2_with fail
  go_ret
  exact ⟨_, rfl, by have := HC.out; simpa [u32s] using this, (Below.refl _ _).alloc (Nat.le_refl _) _⟩
theorem info_row : (Tryd.prog.info? 44).map (fun i => (i.zero, i.size, i.bytes)) = some (some (.agg #[.int .u8 0, .int .u8 0, .int .u32 0, .int .u32 0, .int .u32 0, .string ⟨#[]⟩]), 6, 32) := by kernel_rfl
theorem add_at (b j : Nat) : (⟨b, 0, none⟩ : Addr).add j = ⟨b, j, none⟩ := by unfold Addr.add; split <;> simp_all
theorem new_row (w : World) (xs : List Value) (t : TypeId) (j : Nat) (u : Value) (h : xs[j]? = some u) : (w.alloc (.cells xs.toArray t)).cell? ((⟨w.heap.size, 0, none⟩ : Addr).add j) = some u := by
  rw [add_at, new_cell]; simpa using h
/-- append onto a slice of the call's own, as one step of a region that draws. -/
theorem step_append_at {P : Program} {ops : Array Oper} {o : Oper} {a : Act} {w : World} {K : Act → World → Prop} {Q : Exit → Act → World → Prop} {E : Prop}
    (hg : o.guard = none) (s x : Operand) (t t2 : TypeId) (hop : o.op = Op.call { callee := Callee.builtin Builtin.append, args := #[s, x], argTypes := #[t, t2] })
    (base : Nat) (e : TypeId) (i : TypeInfo) (z : Value) (size bytes : Nat) (ht : t = t2) (h1 : P.underlying t = some (.slice e)) (h2 : P.info? e = some i) (h3 : i.zero = some z) (h4 : i.size = size) (h5 : i.bytes = bytes) (h6 : z.cells.size = size) (h7 : 0 < size)
    (v : Value) (n : Nat) (xs : List Value) (hs : a.eval s = v) (hown : w.ownsRow base e size v n xs)
    (ad : Addr) (m c : Nat) (news : List Value) (hx : a.eval x = .slice (some ad) m c) (hn : news.length = m * size) (hc : ∀ j u, news[j]? = some u → w.cell? (ad.add j) = some u) (h1c : ∀ u ∈ news, u.oneCell' = true)
    (b1 : n + m ≤ maxLen) (b2 : (n + m) * bytes ≤ 140737488355328) (hbase : base ≤ w.heap.size)
    (hK : ∀ v' w', w'.ownsRow base e size v' (n + m) (xs ++ news) → w.grownBy w' v.ownBlock → (v'.ownBlock = v.ownBlock ∨ v'.ownBlock = some w.heap.size) → K (a.put o.dst v') w') :
    if Region.wanted o (yielded ops a.tmps) = true then Oper.wp P o a w K Q else E := by
  have hw : Region.wanted o (yielded ops a.tmps) = true := by simp [Region.wanted, hg]
  rw [if_pos hw]
  subst ht
  obtain ⟨v', w', hrun, r1, r2, _, r4⟩ := run_append_own_at (P := P) w base t o.type e i z size bytes h1 h2 h3 h4 h5 h6 h7 v n xs hown ad m c news hn hc h1c b1 b2 hbase
  unfold Oper.wp
  simp [execOp, hop, resolve, invoke, builtin, hs, hx, hrun, Result.andThen]
  exact hK v' w' r1 r2 r4
/-- 'x = append(x, y..)', x a row of the call's own. -/
theorem wpList_app {B : Nat} {w : World} {v : Value} {n : Nat} {xs : List Value} {ad : Addr} {m c : Nat} {news : List Value} {ops : Array Oper} {rest : List Oper} {o : Oper} {a : Act} {Q : Exit → Act → World → Prop} (hgd : o.guard = none) (s x : Operand)
    (ho : o.op = .call { callee := .builtin .append, args := #[s, x], argTypes := #[40, 40] }) (hs : a.eval s = v) (h : w.ownsRow B 44 6 v n xs) (hB : B ≤ w.heap.size) (hnl : news.length = m * 6) (hcell : ∀ (j : Nat) (u : Value), news[j]? = some u → w.cell? (ad.add j) = some u) (h1 : ∀ u ∈ news, u.oneCell' = true)
    (hx : a.eval x = .slice (some ad) m c) (hl : n + m ≤ 1000000) (_hm : 1 ≤ m) (k : ∀ v' w', w'.ownsRow B 44 6 v' (n + m) (xs ++ news) → w.grownBy w' v.ownBlock → wpList Tryd.prog ops Q rest (a.put o.dst v') w') : wpList Tryd.prog ops Q (o :: rest) a w := by
  obtain ⟨i0, hinfo, hz0', hz1, hz2⟩ := infos info_row
  refine wpList_append_own_at _ hgd s x _ ho B _ i0 _ 6 32 Tryd.underlying40 hinfo hz0' hz1 hz2 rfl (by decide) v n xs hs h ad m c news hx hnl hcell h1 (by unfold maxLen; omega) (by omega) hB ?_
  intro v' w2 hrow hgr _ _
  exact k v' w2 hrow hgr
end De
end Go.Proofs.YtbgcgomefdblpaaDoor
