/-
Const, Var, Node, Len, Width of layer term, of a store that was made, each as a fact on one call; and what they answer of none and of a zero one.
node of layer text's writer: the text of a node behind what was written, or the error by which it leaves, as a fact on one call.
-/
import Derived.Test.YtjinjddcnjcffaaGreatDoorTmMake
import Derived.Test.YtjinjddcnjcffaaGreatDoorPt10
import Derived.Deep.RegionWith
import Derived.BigQuiet
namespace Go.Proofs.YtjinjddcnjcffaaGreatDoor
open Go.RowKit Go.Maps Bv
namespace Tm
set_option maxHeartbeats 1000000
set_option maxRecDepth 100000

/-- A width as a node has it. -/
def nar (w : Int) : Nat := if 0 ≤ w ∧ w ≤ 255 then w.toNat else 0
theorem nar_le (w : Int) : nar w ≤ 255 := by unfold nar; split <;> omega
def cnd (w : Int) (n : Nat) : Nd := ⟨1, nar w, 0, 0, 0, n, 0⟩
def u64 (n : Int) : Nat := (IntKind.u64.wrap n).toNat
theorem u64_is (n : Int) : ((u64 n : Nat) : Int) = IntKind.u64.wrap n := by
  unfold u64
  rw [IntKind.wrap_u64]
  omega
theorem u64_lt (n : Int) : u64 n < 18446744073709551616 := by
  unfold u64
  rw [IntKind.wrap_u64]
  omega
def vnd (w : Int) (n : Int) : Nd := ⟨2, nar w, 0, 0, 0, u64 n, 0⟩
theorem i64_0 : I64 0 := by unfold I64; omega
theorem cnd_ok (w : Int) {n : Nat} (h : n < 18446744073709551616) : (cnd w n).Ok := ⟨by simp [cnd], nar_le w, i64_0, i64_0, i64_0, h, by simp [cnd]⟩
theorem vnd_ok (w n : Int) : (vnd w n).Ok := ⟨by simp [vnd], nar_le w, i64_0, i64_0, i64_0, u64_lt n, by simp [vnd]⟩

/-- What a call of Make, Const, Var has done. -/
def Made (B : Nat) (p m : Nat) (sv : Value) (L : List Nd) (x : Nd) (W : World) (e : Ending) (W' : World) : Prop :=
  e = .returned (.tuple #[.int .i64 (((mk L x).2.1 : Nat) : Int), .int .i64 (((mk L x).2.2 : Nat) : Int)]) ∧
      ∃ v, StoreAt B W' p m v (mk L x).1 ∧ Kept (foot p m sv) W W' ∧ (v.ownBlock = sv.ownBlock ∨ ∃ g, W.heap.size ≤ g ∧ v.ownBlock = some g)

theorem node_yes {B p m k : Nat} {sv : Value} {L : List Nd} {x : Nd} {W : World} (S : StoreAt B W p m sv L) (hx : L[k]? = some x) :
    Calls Tryz.prog 20 #[.pointer (some ⟨p, 0, none⟩), .int .i64 ((k : Nat) : Int)] W fun e W' => e = .returned (.tuple #[x.val, .int .i64 0]) ∧ Below W.heap.size W W' := by
  have hlt := (List.getElem?_eq_some_iff.1 hx).1
  obtain ⟨g, c, rfl, hc⟩ := S.shapeAt hx
  have S1 := S.alloc (.cells #[.int .u8 0, .int .u8 0, .int .i64 0, .int .i64 0, .int .i64 0, .int .u64 0, .int .u8 0] 48)
  have hi : inB L ((k : Nat) : Int) = true := by simp [inB]; omega
  have c1 := S1.c1
  have c0 := S1.c0
  have lg : g < W.heap.size := by
    have := hc 0 _ rfl
    exact World.block_lt_of_cell? W _ this
  have hk1 : ((k : Nat) : Int) < ((L.length : Nat) : Int) := by omega
  have f0 : W.cell? ⟨g, k * 7, none⟩ = some (.int .u8 ((x.o : Nat) : Int)) := hc 0 _ rfl
  have f1 := hc 1 _ rfl
  have f2 := hc 2 _ rfl
  have f3 := hc 3 _ rfl
  have f4 := hc 4 _ rfl
  have f5 := hc 5 _ rfl
  have f6 := hc 6 _ rfl
  have HI := Lib.hid hi
  clear S S1 hc hx hi
  go_enter Tryz.func20, Tryz.ntmps20
  go_wp2_with (first | (go_at_call 23; refine (none_made p m _ c1).mono ?_; rintro e w' ⟨rfl, rfl⟩) | (go_at_call 34; refine (has_any p _ L c _ _ c0).mono ?_; rw [HI.out]; rintro e w' ⟨rfl, rfl⟩))
  exact bodyPost_ret (v := .tuple #[x.val, .int .i64 0]) (by simp [results, Tryz.results20, go_sem, Nd.val]) rfl ⟨rfl, by repeat (first | exact Below.refl _ _ | (refine Below.setCell ?_ (by simp; try omega) _) | (refine bel_alloc ?_ _) | (refine Below.drew ?_))⟩

theorem node_no {B p m : Nat} {k : Int} {sv : Value} {L : List Nd} {W : World} (S : StoreAt B W p m sv L) (hi : inB L k = false) :
    Calls Tryz.prog 20 #[.pointer (some ⟨p, 0, none⟩), .int .i64 k] W fun e W' => e = .returned (.tuple #[.agg #[.int .u8 0, .int .u8 0, .int .i64 0, .int .i64 0, .int .i64 0, .int .u64 0, .int .u8 0], .int .i64 2]) ∧ Below W.heap.size W W' := by
  have S1 := S.alloc (.cells #[.int .u8 0, .int .u8 0, .int .i64 0, .int .i64 0, .int .i64 0, .int .u64 0, .int .u8 0] 48)
  obtain ⟨a, c, rfl⟩ := S.shape
  have c1 := S1.c1
  have c0 := S1.c0
  have HI := Lib.hid hi
  clear S S1 hi
  go_enter Tryz.func20, Tryz.ntmps20
  go_wp2_with (first | (go_at_call 23; refine (none_made p m _ c1).mono ?_; rintro e w' ⟨rfl, rfl⟩) | (go_at_call 34; refine (has_any p _ L c _ _ c0).mono ?_; rw [HI.out]; rintro e w' ⟨rfl, rfl⟩))
  exact bodyPost_ret (v := .tuple #[.agg #[.int .u8 0, .int .u8 0, .int .i64 0, .int .i64 0, .int .i64 0, .int .u64 0, .int .u8 0], .int .i64 2]) (by simp [results, Tryz.results20, go_sem]) rfl ⟨rfl, by repeat (first | exact Below.refl _ _ | (refine Below.setCell ?_ (by simp; try omega) _) | (refine bel_alloc ?_ _) | (refine Below.drew ?_))⟩

/-! ### none, and a zero one -/
/-- The value leads to no store that a call made. -/
def NoneAt (w : World) (ptr : Value) : Prop := ptr = .pointer none ∨ ∃ p, ptr = .pointer (some ⟨p, 0, none⟩) ∧ w.cell? ⟨p, 1, none⟩ = some (.map none)
theorem NoneAt.keep {w w' : World} {ptr : Value} (h : NoneAt w ptr) (k : Below w.heap.size w w') : NoneAt w' ptr := by
  rcases h with h | ⟨p, h, hc⟩
  · exact .inl h
  · exact .inr ⟨p, h, (k.cell (p := ⟨p, 1, none⟩) (World.block_lt_of_cell? w _ hc)).trans hc⟩
theorem NoneAt.alloc {w : World} {ptr : Value} (h : NoneAt w ptr) (o : Obj) : NoneAt (w.alloc o) ptr := h.keep (bel_alloc (Below.refl _ _) o)
theorem isNone_any {w : World} {ptr : Value} (h : NoneAt w ptr) : Calls Tryz.prog 23 #[ptr] w fun e W' => e = .returned (.bool true) ∧ w = W' := by
  rcases h with h | ⟨p, h, hc⟩
  · subst h; exact none_nil w
  · subst h; exact none_zero p w hc

theorem make_none (ptr : Value) (x : Nd) (W : World) (h : NoneAt W ptr) :
    Calls Tryz.prog 14 #[ptr, x.val] W fun e W' => e = .returned (.tuple #[.int .i64 0, .int .i64 1]) ∧ Below W.heap.size W W' := by
  have HN := Lib.hid (h.alloc (.cells x.cells 48))
  clear h
  obtain ⟨o, w, k0, k1, k2, n, l⟩ := x
  unfold Nd.val
  unfold Nd.cells at HN
  go_enter Tryz.func14, Tryz.ntmps14
  go_wp2_with (go_at_call 23; refine (isNone_any HN.out).mono ?_; rintro e w' ⟨rfl, rfl⟩)
  exact bodyPost_ret (v := .tuple #[.int .i64 0, .int .i64 1]) (by simp [results, Tryz.results14, go_sem]) rfl ⟨rfl, bel_alloc (Below.refl _ _) _⟩

theorem node_none (ptr : Value) (k : Int) (W : World) (h : NoneAt W ptr) :
    Calls Tryz.prog 20 #[ptr, .int .i64 k] W fun e W' => e = .returned (.tuple #[.agg #[.int .u8 0, .int .u8 0, .int .i64 0, .int .i64 0, .int .i64 0, .int .u64 0, .int .u8 0], .int .i64 1]) ∧ Below W.heap.size W W' := by
  have HN := Lib.hid (h.alloc (.cells #[.int .u8 0, .int .u8 0, .int .i64 0, .int .i64 0, .int .i64 0, .int .u64 0, .int .u8 0] 48))
  clear h
  go_enter Tryz.func20, Tryz.ntmps20
  go_wp2_with (go_at_call 23; refine (isNone_any HN.out).mono ?_; rintro e w' ⟨rfl, rfl⟩)
  exact bodyPost_ret (v := .tuple #[.agg #[.int .u8 0, .int .u8 0, .int .i64 0, .int .i64 0, .int .i64 0, .int .u64 0, .int .u8 0], .int .i64 1]) (by simp [results, Tryz.results20, go_sem]) rfl ⟨rfl, by repeat (first | exact Below.refl _ _ | (refine Below.setCell ?_ (by simp; try omega) _) | (refine bel_alloc ?_ _) | (refine Below.drew ?_))⟩

end Tm
end Go.Proofs.YtjinjddcnjcffaaGreatDoor

namespace Go.Proofs.YtjinjddcnjcffaaGreatDoor
open Go.RowKit Go.Maps Bv Tm
namespace Tx
set_option maxHeartbeats 3200000
set_option maxRecDepth 100000

theorem WrE.mono {F G : Nat → Prop} {b : Nat} {st : Value} {bs : By} {w : World} (h : WrE F b st bs w) (hG : ∀ i, F i → G i) : WrE G b st bs w := by
  obtain ⟨v, h⟩ := h
  exact ⟨v, h.c0, h.c1, h.fr, h.row, h.gp, hG _ h.fb, fun g e => hG _ (h.fo g e), fun i hi => hG _ (h.fn i hi)⟩
/-- The writer behind what has made memory alone; a block of that is kept apart. -/
theorem WrE.apart {F : Nat → Prop} {b : Nat} {st : Value} {bs : By} {w w3 : World} (h : WrE F b st bs w) (hb : Below w.heap.size w w3) {pb : Nat} (h1 : w.heap.size ≤ pb) (h2 : pb < w3.heap.size) : WrE (fun i => F i ∧ i ≠ pb) b st bs w3 := by
  obtain ⟨v, h⟩ := h
  have k := h.keep (Kept.ofBelow hb (fun _ => False)) (fun _ _ c => c.elim)
  have lb := h.lt
  refine ⟨v, k.c0, k.c1, k.fr, k.row, k.gp, ⟨h.fb, by omega⟩, fun g e => ⟨h.fo g e, ?_⟩, fun i hi => ⟨h.fn i (Nat.le_trans hb.size hi), by omega⟩⟩
  have := own_lt h.row e
  omega
theorem WrE.call {F : Nat → Prop} {b : Nat} {st : Value} {bs : By} {w w3 : World} (h : WrE F b st bs w) (hb : Below w.heap.size w w3) : WrE F b st bs w3 := by
  obtain ⟨v, h⟩ := h
  exact ⟨v, h.keep (Kept.ofBelow hb (fun _ => False)) (fun _ _ c => c.elim)⟩

theorem parts_new {P : List ByteArray} (w : World) (T : TypeId) (i : Nat) (s : ByteArray) (h : P[i]? = some s) : (w.alloc (.cells (P.map Value.string).toArray T)).cell? ⟨w.heap.size, i, none⟩ = some (.string s) := by
  rw [World.cell?_alloc_new]
  simp [h]

/-- Parts in a list that was just made, added. -/
theorem add_step {G : Nat → Prop} {b pb cap n : Nat} {st : Value} {bs : By} {w w3 : World} {P : List ByteArray} (hW : WrE G b st bs w) (hb : Below w.heap.size w w3) (h1 : w.heap.size ≤ pb) (h2 : pb < w3.heap.size)
    (hP : ∀ (i : Nat) (s : ByteArray), P[i]? = some s → w3.cell? ⟨pb, i, none⟩ = some (.string s)) (hn : n = P.length) (hnb : n < 1000) (hlen : bs.length + (flat P).length ≤ 900000) :
    Calls Tryz.prog 29 #[.pointer (some ⟨b, 0, none⟩), .slice (some ⟨pb, 0, none⟩) n cap] w3 (fun e w' =>
      ((bs ++ flat P).length ≤ 10000 ∧ e = .returned (.tuple #[]) ∧ WrE G b st (bs ++ flat P) w' ∧ Kept G w w') ∨ (10000 < (bs ++ flat P).length ∧ e = boom 3 ∧ Kept G w w')) := by
  refine (add_any (hW.apart hb h1 h2) hP (fun c => c.2 rfl) hlen hn h2 hnb).mono ?_
  intro e w' h
  have K : ∀ {w'}, Kept (fun i => G i ∧ i ≠ pb) w3 w' → Kept G w w' := fun k => (Kept.ofBelow hb G).trans (k.mono (fun i _ c => c.1))
  unfold Added1 at h
  split at h
  · exact .inl ⟨‹_›, h.1, h.2.1.mono (fun i c => c.1), K h.2.2⟩
  · exact .inr ⟨by omega, h.1, K h.2⟩

theorem add_fit {G : Nat → Prop} {b pb cap n : Nat} {st : Value} {bs bs' : By} {w w3 : World} {P : List ByteArray} (hf : bs'.length ≤ 10000) (hbs : bs' = bs ++ flat P) (hW : WrE G b st bs w) (hb : Below w.heap.size w w3) (h1 : w.heap.size ≤ pb) (h2 : pb < w3.heap.size)
    (hP : ∀ (i : Nat) (s : ByteArray), P[i]? = some s → w3.cell? ⟨pb, i, none⟩ = some (.string s)) (hn : n = P.length) (hnb : n < 1000) :
    Calls Tryz.prog 29 #[.pointer (some ⟨b, 0, none⟩), .slice (some ⟨pb, 0, none⟩) n cap] w3 (fun e w' => e = .returned (.tuple #[]) ∧ WrE G b st bs' w' ∧ Kept G w w') := by
  subst hbs
  refine (add_step hW hb h1 h2 hP hn hnb (by rw [List.length_append] at hf; omega)).mono ?_
  rintro e w' (⟨_, rfl, h, k⟩ | ⟨h, _⟩)
  · exact ⟨rfl, h, k⟩
  · omega
theorem add_over {G : Nat → Prop} {b pb cap n : Nat} {st : Value} {bs bs' : By} {w w3 : World} {P : List ByteArray} (hf : 10000 < bs'.length) (hl : bs'.length ≤ 900000) (hbs : bs' = bs ++ flat P) (hW : WrE G b st bs w) (hb : Below w.heap.size w w3) (h1 : w.heap.size ≤ pb) (h2 : pb < w3.heap.size)
    (hP : ∀ (i : Nat) (s : ByteArray), P[i]? = some s → w3.cell? ⟨pb, i, none⟩ = some (.string s)) (hn : n = P.length) (hnb : n < 1000) :
    Calls Tryz.prog 29 #[.pointer (some ⟨b, 0, none⟩), .slice (some ⟨pb, 0, none⟩) n cap] w3 (fun e w' => e = boom 3 ∧ Kept G w w') := by
  subst hbs
  refine (add_step hW hb h1 h2 hP hn hnb (by rw [List.length_append] at hl; omega)).mono ?_
  rintro e w' (⟨h, _⟩ | ⟨_, rfl, k⟩)
  · omega
  · exact ⟨rfl, k⟩

theorem dec_len {n : Nat} (h : n < 18446744073709551616) : (dec n).length ≤ 20 := by
  unfold dec
  by_cases h0 : n = 0
  · subst h0; rw [Lib.decDigits_one (by omega)]; simp
  · rw [Lib.decDigits_length]
    have := Lib.numDigits_eq n (by omega) h
    split at this <;> omega
theorem nm_len (o : Nat) : (nm o).length ≤ 7 := by
  by_cases h : o < 26
  · have : ∀ o : Fin 26, (nm o.val).length ≤ 7 := by decide
    exact this ⟨o, h⟩
  · have : nm o = [] := by
      unfold nm
      rw [List.getD_eq_getElem?_getD, List.getElem?_eq_none (show nameL.length ≤ o by simp [nameL]; omega)]
      rfl
    rw [this]; simp

/-- What a call of node has done. -/
def Wrote (F : Nat → Prop) (b : Nat) (st : Value) (bs : By) (w : World) (e : Ending) (w' : World) : Prop :=
  (bs.length ≤ 10000 ∧ e = .returned (.tuple #[]) ∧ WrE F b st bs w' ∧ Kept F w w') ∨ (10000 < bs.length ∧ e = boom 3 ∧ Kept F w w')
end Tx
end Go.Proofs.YtjinjddcnjcffaaGreatDoor
