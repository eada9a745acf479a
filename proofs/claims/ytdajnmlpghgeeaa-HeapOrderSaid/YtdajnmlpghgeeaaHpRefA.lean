/-
  The document's heap: Has, Score, Put, Bump.
-/
import Derived.Test.YtdajnmlpghgeeaaHpRef
namespace Go.Proofs.Ytdajnmlpghgeeaa
open Go.RowKit
namespace Hp
set_option maxHeartbeats 1600000
set_option maxRecDepth 100000

theorem RHp.drewN {w : World} {p sb ib : Nat} {S : List Nat} {I : List Bool} (h : RHp w p sb ib S I) (q : Nat) : RHp (w.drewN q) p sb ib S I :=
  ⟨by simpa using h.c0, by simpa using h.c1, fun j x hj => by simpa using h.s j x hj, fun j b hj => by simpa using h.i j b hj, fun j => by simpa using h.fs j, fun j => by simpa using h.fi j, h.len, h.pos, by simpa using h.lt, h.sep⟩
theorem there_at {S : List Nat} {v : Int} (h : thereP S v = true) : ∃ n : Nat, v = ((n : Nat) : Int) ∧ 1 ≤ n ∧ n < S.length := by
  unfold thereP at h
  simp at h
  exact ⟨v.toNat, by omega, by omega, by omega⟩
def hasP (S : List Nat) (I : List Bool) (v : Int) : Bool := thereP S v && (I[v.toNat]?).getD false
def scoreP (S : List Nat) (v : Int) : Nat := if thereP S v = true then (S[v.toNat]?).getD 0 else 0
theorem rhas_any {W : World} {p sb ib : Nat} {S : List Nat} {I : List Bool} (h : RHp W p sb ib S I) (v : Int) : Calls Try.prog 14 #[.pointer (some ⟨p, 0, none⟩), .int .i64 v] W fun e w => e = .returned (.bool (hasP S I v)) ∧ ∃ q, w = W.drewN q := by
  have HT := Lib.hid (rthere_any h v)
  unfold hasP
  cases ht : thereP S v with
  | false =>
    rw [ht] at HT
    clear h ht
    go_enter Try.func14, Try.ntmps14
    go_wp2_with fail
    refine HT.out.mono ?_
    rintro e w ⟨rfl, q, rfl⟩
    go_wp2_with fail
    go_ret
    exact ⟨rfl, q, rfl⟩
  | true =>
    obtain ⟨n, rfl, hn1, hn2⟩ := there_at ht
    rw [ht] at HT
    obtain ⟨b, hb⟩ : ∃ b, I[n]? = some b := ⟨_, List.getElem?_eq_getElem (by rw [h.len]; exact hn2)⟩
    have hI := h.i n b hb
    have c1 := h.c1
    have hp := h.pos
    have e9 : (Int.toNat ((n : Nat) : Int)) = n := Int.toNat_natCast n
    rw [e9, hb]
    clear h ht
    go_enter Try.func14, Try.ntmps14
    go_wp2_with fail
    refine HT.out.mono ?_
    rintro e w ⟨rfl, q, rfl⟩
    go_wp2_with fail
    go_ret
    exact ⟨rfl, q, rfl⟩
theorem rscore_any {W : World} {p sb ib : Nat} {S : List Nat} {I : List Bool} (h : RHp W p sb ib S I) (v : Int) : Calls Try.prog 17 #[.pointer (some ⟨p, 0, none⟩), .int .i64 v] W fun e w => e = .returned (.float .f64 (scoreP S v)) ∧ ∃ q, w = W.drewN q := by
  have HT := Lib.hid (rthere_any h v)
  unfold scoreP
  cases ht : thereP S v with
  | false =>
    rw [ht] at HT
    clear h ht
    go_enter Try.func17, Try.ntmps17
    go_wp2_with fail
    refine HT.out.mono ?_
    rintro e w ⟨rfl, q, rfl⟩
    go_wp2_with fail
    go_ret
    exact ⟨by simp, q, rfl⟩
  | true =>
    obtain ⟨n, rfl, hn1, hn2⟩ := there_at ht
    rw [ht] at HT
    obtain ⟨b, hb⟩ : ∃ b, S[n]? = some b := ⟨_, List.getElem?_eq_getElem hn2⟩
    have hI := h.s n b hb
    have c0 := h.c0
    have hp := h.pos
    have e9 : (Int.toNat ((n : Nat) : Int)) = n := Int.toNat_natCast n
    rw [e9, hb]
    clear h ht
    go_enter Try.func17, Try.ntmps17
    go_wp2_with fail
    refine HT.out.mono ?_
    rintro e w ⟨rfl, q, rfl⟩
    go_wp2_with fail
    go_ret
    exact ⟨by simp, q, rfl⟩
/-- Nothing else is touched. -/
structure Only (bs : List Nat) (w w' : World) : Prop where
  os : w'.os = w.os
  tape : w'.tape = w.tape
  output : w'.output = w.output
  size : w.heap.size ≤ w'.heap.size
  blk : ∀ k, k < w.heap.size → k ∉ bs → w'.heap[k]? = w.heap[k]?
theorem Only.refl (bs : List Nat) (w : World) : Only bs w w := ⟨rfl, rfl, rfl, Nat.le_refl _, fun _ _ _ => rfl⟩
theorem Only.drewN {bs : List Nat} {w w' : World} (h : Only bs w w') (q : Nat) : Only bs w (w'.drewN q) := ⟨h.os, h.tape, h.output, h.size, h.blk⟩
theorem Only.set {bs : List Nat} {w w' : World} (h : Only bs w w') {a : Addr} (ha : a.block ∈ bs) (v : Value) : Only bs w (w'.setCell a v) :=
  ⟨h.os, h.tape, h.output, by simpa [World.setCell] using h.size, fun k h1 h2 => (Below.heap_setCell w' a v k (fun e => h2 (e ▸ ha))).trans (h.blk k h1 h2)⟩
theorem Only.trans {bs : List Nat} {u v w : World} (h : Only bs u v) (k : Only bs v w) : Only bs u w :=
  ⟨k.os.trans h.os, k.tape.trans h.tape, k.output.trans h.output, Nat.le_trans h.size k.size, fun i h1 h2 => (k.blk i (Nat.lt_of_lt_of_le h1 h.size) h2).trans (h.blk i h1 h2)⟩
theorem RHp.setI {w : World} {p sb ib : Nat} {S : List Nat} {I : List Bool} (h : RHp w p sb ib S I) {n : Nat} (hn : n < S.length) (b : Bool) : RHp (w.setCell ⟨ib, n, none⟩ (.bool b)) p sb ib S (I.set n b) := by
  obtain ⟨s1, s2, s3⟩ := h.sep
  have q : ∀ c o, c ≠ ib → (w.setCell ⟨ib, n, none⟩ (.bool b)).cell? ⟨c, o, none⟩ = w.cell? ⟨c, o, none⟩ := fun c o hc => World.cell?_setCell_other _ _ _ _ (by simp; exact fun e => absurd e.symm hc)
  refine ⟨(q _ _ s2).trans h.c0, (q _ _ s2).trans h.c1, fun j x hj => (q _ _ s3).trans (h.s j x hj), fun j c hj => ?_, fun j => by rw [World.frozen?_setCell]; exact h.fs j, fun j => by rw [World.frozen?_setCell]; exact h.fi j, by simpa using h.len, h.pos, by simpa [World.setCell] using h.lt, h.sep⟩
  by_cases e : j = n
  · subst e
    rw [List.getElem?_set_self (by rw [h.len]; exact hn)] at hj
    injection hj with hj
    subst hj
    obtain ⟨b0, hb0⟩ : ∃ b, I[j]? = some b := ⟨_, List.getElem?_eq_getElem (by rw [h.len]; exact hn)⟩
    exact World.cell?_setCell_same' _ _ _ (by rw [h.i j b0 hb0]; rfl)
  · rw [List.getElem?_set_ne (fun x => e x.symm)] at hj
    exact (World.cell?_setCell_other _ _ _ _ (by simp; omega)).trans (h.i j c hj)
theorem RHp.setS {w : World} {p sb ib : Nat} {S : List Nat} {I : List Bool} (h : RHp w p sb ib S I) {n : Nat} (hn : n < S.length) (x : Nat) : RHp (w.setCell ⟨sb, n, none⟩ (.float .f64 x)) p sb ib (S.set n x) I := by
  obtain ⟨s1, s2, s3⟩ := h.sep
  have q : ∀ c o, c ≠ sb → (w.setCell ⟨sb, n, none⟩ (.float .f64 x)).cell? ⟨c, o, none⟩ = w.cell? ⟨c, o, none⟩ := fun c o hc => World.cell?_setCell_other _ _ _ _ (by simp; exact fun e => absurd e.symm hc)
  refine ⟨by rw [List.length_set]; exact (q _ _ s1).trans h.c0, by rw [List.length_set]; exact (q _ _ s1).trans h.c1, fun j y hj => ?_, fun j c hj => (q _ _ s3.symm).trans (h.i j c hj), fun j => by rw [World.frozen?_setCell]; exact h.fs j, fun j => by rw [World.frozen?_setCell]; exact h.fi j, by simpa using h.len, by simpa using h.pos, by simpa [World.setCell] using h.lt, h.sep⟩
  by_cases e : j = n
  · subst e
    rw [List.getElem?_set_self hn] at hj
    injection hj with hj
    subst hj
    obtain ⟨b0, hb0⟩ : ∃ b, S[j]? = some b := ⟨_, List.getElem?_eq_getElem hn⟩
    exact World.cell?_setCell_same' _ _ _ (by rw [h.s j b0 hb0]; rfl)
  · rw [List.getElem?_set_ne (fun x => e x.symm)] at hj
    exact (World.cell?_setCell_other _ _ _ _ (by simp; omega)).trans (h.s j y hj)
theorem rput_any {W : World} {p sb ib : Nat} {S : List Nat} {I : List Bool} (h : RHp W p sb ib S I) (v : Int) : Calls Try.prog 28 #[.pointer (some ⟨p, 0, none⟩), .int .i64 v] W fun e w => e = .returned (.int .i64 (if thereP S v = true then 0 else 2)) ∧ RHp w p sb ib S (if thereP S v = true then I.set v.toNat true else I) ∧ Only [sb, ib] W w := by
  have HT := Lib.hid (rthere_any h v)
  cases ht : thereP S v with
  | false =>
    have HH := Lib.hid h
    rw [ht] at HT
    clear h ht
    go_enter Try.func28, Try.ntmps28
    go_wp2_with fail
    refine HT.out.mono ?_
    rintro e w ⟨rfl, q, rfl⟩
    go_wp2_with fail
    go_ret
    exact ⟨by simp, by simpa using HH.out.drewN q, (Only.refl _ _).drewN q⟩
  | true =>
    obtain ⟨n, rfl, hn1, hn2⟩ := there_at ht
    rw [ht] at HT
    obtain ⟨b, hb⟩ : ∃ b, I[n]? = some b := ⟨_, List.getElem?_eq_getElem (by rw [h.len]; exact hn2)⟩
    have hI := h.i n b hb
    have c1 := h.c1
    have hp := h.pos
    have hf := h.fi n
    have HH := Lib.hid h
    clear h ht
    go_enter Try.func28, Try.ntmps28
    go_wp2_with fail
    refine HT.out.mono ?_
    rintro e w ⟨rfl, q, rfl⟩
    go_wp2_with fail
    go_ret
    exact ⟨by simp, by simpa using (HH.out.drewN q).setI hn2 true, ((Only.refl _ _).drewN q).set (by simp) _⟩
end Hp
end Go.Proofs.Ytdajnmlpghgeeaa
