/-
  The program's heap: Put.
-/
import Derived.Test.YtdajnmlpghgeeaaHpBump
namespace Go.Proofs.Ytdajnmlpghgeeaa
open Go.RowKit
namespace Hp
set_option maxHeartbeats 1600000
set_option maxRecDepth 100000

theorem put_no {W : World} {p sb tb qb n m : Nat} {S T P : Nat → Nat} (h : HAt W p sb tb qb n m S T P) {v : Int} (hv : isV n v = false) : Calls Try.prog 21 #[.pointer (some ⟨p, 0, none⟩), .int .i64 v] W fun e w => e = .returned (.int .i64 2) ∧ w = W := by
  have HN := Lib.hid (isone_any h.h.c1)
  have HT := Lib.hid (isvar_any h.h v)
  rw [hv] at HT
  clear h hv
  go_enter Try.func21, Try.ntmps21
  go_wp2_with fail
  refine HN.out.mono ?_
  rintro e W ⟨rfl, rfl⟩
  go_wp2_with fail
  refine HT.out.mono ?_
  rintro e W ⟨rfl, rfl⟩
  go_wp2_with fail
  go_ret
  exact ⟨rfl, rfl⟩
theorem put_in {W : World} {p sb tb qb n m : Nat} {S T P : Nat → Nat} (h : HAt W p sb tb qb n m S T P) {v : Nat} (h1 : 1 ≤ v) (h2 : v ≤ n) (hp : P v ≠ 0) : Calls Try.prog 21 #[.pointer (some ⟨p, 0, none⟩), .int .i64 ((v : Nat) : Int)] W fun e w => e = .returned (.int .i64 0) ∧ w = W := by
  have HN := Lib.hid (isone_any h.h.c1)
  have HT := Lib.hid (isvar_any h.h ((v : Nat) : Int))
  have HH := Lib.hid (has_any h.h ((v : Nat) : Int))
  rw [isV_of h1 h2] at HT
  have hin : inF n P ((v : Nat) : Int) = true := by
    unfold inF
    rw [isV_of h1 h2, Int.toNat_natCast, decide_eq_true hp]; rfl
  rw [hin] at HH
  clear h hp hin
  go_enter Try.func21, Try.ntmps21
  go_wp2_with fail
  refine HN.out.mono ?_
  rintro e W ⟨rfl, rfl⟩
  go_wp2_with fail
  refine HT.out.mono ?_
  rintro e W ⟨rfl, rfl⟩
  go_wp2_with fail
  refine HH.out.mono ?_
  rintro e W ⟨rfl, rfl⟩
  go_wp2_with fail
  go_ret
  exact ⟨rfl, rfl⟩
theorem info_int3 : (Try.prog.info? 3).map (fun i => (i.zero, i.size, i.bytes)) = some (some (.int .i64 0), 1, 8) := by kernel_rfl
theorem run_append_one (w : World) (ty : TypeId) (g k cap c : Nat) (x old : Int) (ad : Addr) (hx : w.cell? ad = some (.int .i64 x)) (hroom : k + 1 ≤ cap) (hold : w.cell? ⟨g, k, none⟩ = some (.int .i64 old)) (hfr : w.frozen? ⟨g, k, none⟩ = false) :
    (Builtin.append_ #[47, 47] ty #[.slice (some ⟨g, 0, none⟩) k cap, .slice (some ad) 1 c]).run Try.prog w = .ok (.slice (some ⟨g, 0, none⟩) (k + 1) cap) (w.setCell ⟨g, k, none⟩ (.int .i64 x)) := by
  cases hi : Try.prog.info? 3 with
  | none => have := info_int3; rw [hi] at this; cases this
  | some i =>
    have hz := info_int3
    rw [hi] at hz
    simp only [Option.map_some, Option.some.injEq, Prod.mk.injEq] at hz
    have hf := run_firstCells_some (P := Try.prog) w i.size 1 ad 1 c [.int .i64 x] (by rw [hz.2.1]; rfl) (fun j u hj => by
      cases j with
      | zero => simp at hj; subst hj; simpa [Addr.add] using hx
      | succ j => simp at hj)
    have hst : (storeCells (⟨g, k, none⟩ : Addr) [.int .i64 x] 0).run Try.prog w = .ok () (w.setCell ⟨g, k, none⟩ (.int .i64 x)) := by
      have hs := fun m => run_store Try.prog w (⟨g, k, none⟩ : Addr) (.int .i64 x) m rfl
      simp [storeCells, Addr.add, hs, hold, hfr]
    rw [hz.2.1] at hf
    simp [Builtin.append_, run_underlying Try.underlying47, sizeOf, typeInfo, hi, Builtin.lenOf, hroom, hf, Addr.add_lit, hz.2.1, hst]
theorem wpList_append_one {W : World} {ops : Array Oper} {rest : List Oper} {o : Oper} {a : Act} {Q : Exit → Act → World → Prop} (hgd : o.guard = none) (sl x : Operand)
    (ho : o.op = .call { callee := .builtin .append, args := #[sl, x], argTypes := #[47, 47] }) (g k cap c : Nat) (y old : Int) (ad : Addr) (hs : a.eval sl = .slice (some ⟨g, 0, none⟩) k cap) (hx : a.eval x = .slice (some ad) 1 c)
    (hxc : W.cell? ad = some (.int .i64 y)) (hroom : k + 1 ≤ cap) (hold : W.cell? ⟨g, k, none⟩ = some (.int .i64 old)) (hfr : W.frozen? ⟨g, k, none⟩ = false)
    (h : wpList Try.prog ops Q rest (a.put o.dst (.slice (some ⟨g, 0, none⟩) (k + 1) cap)) (W.setCell ⟨g, k, none⟩ (.int .i64 y))) : wpList Try.prog ops Q (o :: rest) a W := by
  refine wpList_plain hgd fun K hK => ?_
  have hr := run_append_one W o.type g k cap c y old ad hxc hroom hold hfr
  unfold Oper.wp execOp
  simp only [ho, resolve, invoke, builtin, Sem.run_bind, Sem.run_pure, Result.andThen_ok, List.map_toArray, List.map_cons, List.map_nil, hs, hx, hr]
  exact hK _ _ h
/-- What Put has done. -/
def PutF (W : World) (p sb tb qb n m : Nat) (S P : Nat → Nat) (v : Nat) (e : Ending) (w : World) : Prop :=
  e = .returned (.int .i64 0) ∧ ∃ T Q : Nat → Nat, HAt w p sb tb qb n (m + 1) S T Q ∧ Q v ≠ 0 ∧ (∀ u, u ≠ v → (P u = 0 ↔ Q u = 0)) ∧ Only [p, sb, tb, qb] W w
theorem Only.alloc {bs : List Nat} {w w' : World} (h : Only bs w w') (o : Obj) : Only bs w (w'.alloc o) :=
  ⟨h.os, h.tape, h.output, by simp; have := h.size; omega, fun k h1 h2 => (((Below.refl w'.heap.size w').alloc (Nat.le_refl _) o).block k (Nat.lt_of_lt_of_le h1 h.size)).trans (h.blk k h1 h2)⟩
theorem put_yes {W : World} {p sb tb qb n m : Nat} {S T P : Nat → Nat} (h : HAt W p sb tb qb n m S T P) {v : Nat} (h1 : 1 ≤ v) (h2 : v ≤ n) (hp : P v = 0) : Calls Try.prog 21 #[.pointer (some ⟨p, 0, none⟩), .int .i64 ((v : Nat) : Int)] W (PutF W p sb tb qb n m S P v) := by
  have HN := Lib.hid (isone_any h.h.c1)
  have HT := Lib.hid (isvar_any h.h ((v : Nat) : Int))
  have HH := Lib.hid (has_any h.h ((v : Nat) : Int))
  rw [isV_of h1 h2] at HT
  have hin : inF n P ((v : Nat) : Int) = false := by
    unfold inF
    rw [isV_of h1 h2, Int.toNat_natCast, decide_eq_false (by omega)]; rfl
  rw [hin] at HH
  have hle := h.h.le
  have hroom := h.fit.room h1 h2 hp
  have c1 := h.h.c1
  have A := h.h.alloc (.cells #[.int .i64 ((v : Nat) : Int)] 3)
  have at1 := A.t (m + 1) (by omega)
  have af := A.ft (m + 1)
  have A2 := A.setT (i := m + 1) (x := v) (by omega)
  have b1 := A2.c1
  have bf := A2.fp 1
  have A3 := A2.setM (k := m + 1) (by omega)
  have HL := Lib.hid (len_any A3)
  have HR := Lib.hid (rise_any (c := True) A3 (i := m + 1) (v := v) (by omega) (Nat.le_refl _) (upd_at _ _ _) h2 (h.fit.put h1 h2 hp) h.ord.put)
  have HO : Hid (Only [p, sb, tb, qb] W (((W.alloc (.cells #[.int .i64 ((v : Nat) : Int)] 3)).setCell ⟨tb, m + 1, none⟩ (.int .i64 ((v : Nat) : Int))).setCell ⟨p, 1, none⟩ (.slice (some ⟨tb, 0, none⟩) (m + 1 + 1) (n + 1)))) := Lib.hid ((((Only.refl _ _).alloc _).set (by simp) _).set (by simp) _)
  have v0 : (0 : Int) ≤ ((v : Nat) : Int) := by omega
  have m0 : (0 : Int) ≤ ((m : Nat) : Int) := by omega
  clear h hin A A2 A3 hp
  go_enter Try.func21, Try.ntmps21
  go_wp2_with fail
  refine HN.out.mono ?_
  rintro e W ⟨rfl, rfl⟩
  go_wp2_with fail
  refine HT.out.mono ?_
  rintro e W ⟨rfl, rfl⟩
  go_wp2_with fail
  refine HH.out.mono ?_
  rintro e W ⟨rfl, rfl⟩
  go_wp2_with (at_builtin; refine wpList_append_one rfl (.tmp 19) (.tmp 21) rfl tb (m + 1) (n + 1) 1 ((v : Nat) : Int) _ ⟨W.heap.size, 0, none⟩ rfl rfl (by simp) (by omega) at1 af ?_)
  refine HL.out.mono ?_
  rintro e w ⟨rfl, rfl⟩
  go_wp2_with fail
  refine HR.out.mono ?_
  rintro e w ⟨rfl, i2, T2, Q2, g, gf, gd, gc, j1, j2, gt, gs, go⟩
  have G3 : Hid (HAt w p sb tb qb n (m + 1) S T2 Q2 ∧ SameIn (upd P v (m + 1)) Q2 ∧ Only [p, sb, tb, qb] _ w) := Lib.hid ⟨⟨g, gf, gc trivial⟩, gs, go⟩
  clear g gf gd gc gt gs go
  go_wp2_with fail
  go_ret
  exact ⟨rfl, T2, Q2, G3.out.1, fun e => by have := (G3.out.2.1 v).2 e; rw [upd_at] at this; omega, fun u hu => by have := G3.out.2.1 u; rw [upd_ne hu] at this; exact this, HO.out.trans G3.out.2.2⟩
end Hp
end Go.Proofs.Ytdajnmlpghgeeaa
