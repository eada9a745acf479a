/-
  Eval and True of layer eval, of a store that was made and of none, each as a fact on one call.
-/
import Derived.Test.YtjhghfndhpaapaaEvAll
namespace Go.Proofs.Ytjhghfndhpaapaa
open Go.RowKit Go.Maps Bv
namespace Tm
set_option maxHeartbeats 2000000
set_option maxRecDepth 100000

/-- The answer's variable and the list of one, as the call makes them. -/
theorem ev_box (W : World) (id : Int) : ∃ V, V = (W.alloc (.cells #[.int .u8 0, .int .u64 0] 31)).alloc (.cells #[.int .i64 id] 3) ∧ Below W.heap.size W V ∧ W.heap.size + 1 < V.heap.size ∧ V.cell? ⟨W.heap.size + 1, 0, none⟩ = some (.int .i64 id) ∧
    V.cell? ⟨W.heap.size, 0, none⟩ = some (.int .u8 0) ∧ V.cell? ⟨W.heap.size, 1, none⟩ = some (.int .u64 0) ∧ (∀ o, V.frozen? ⟨W.heap.size, o, none⟩ = false) := by
  have b1 : Below W.heap.size W (W.alloc (.cells #[.int .u8 0, .int .u64 0] 31)) := bel_alloc (Below.refl _ _) _
  have h1 := (MapKept.heap_alloc W (.cells #[.int .u8 0, .int .u64 0] 31)).1
  have s1 : (W.alloc (.cells #[.int .u8 0, .int .u64 0] 31)).heap.size = W.heap.size + 1 := size_alloc _ _
  refine ⟨_, rfl, bel_alloc b1 _, by rw [size_alloc, s1]; omega, ?_, ?_, ?_, fun o => ?_⟩
  · have h2 := (MapKept.heap_alloc (W.alloc (.cells #[.int .u8 0, .int .u64 0] 31)) (.cells #[.int .i64 id] 3)).1
    rw [s1] at h2
    unfold World.cell?; rw [h2]; rfl
  · rw [World.cell?_alloc_lt _ _ _ (by rw [s1]; exact Nat.lt_succ_self _)]; unfold World.cell?; rw [h1]; rfl
  · rw [World.cell?_alloc_lt _ _ _ (by rw [s1]; exact Nat.lt_succ_self _)]; unfold World.cell?; rw [h1]; rfl
  · rw [World.frozen?_alloc_old _ _ _ (by rw [s1]; show W.heap.size ≠ _; omega)]; unfold World.frozen?; rw [h1]; simp

theorem all_one {B p m : Nat} {sv : Value} {L : List Nd} {id : Int} {a : List Nat} {W V : World} {g : Nat} {aal : Option Addr} {aac : Nat} (S : StoreAt B W p m sv L) (hM : MayL L) (h6 : I64 id) (HA : AsgAt W aal a) (hb : Below W.heap.size W V) (lg : g < V.heap.size) (hc : V.cell? ⟨g, 0, none⟩ = some (.int .i64 id)) :
    Calls Try.prog 12 #[.pointer (some ⟨p, 0, none⟩), .slice (some ⟨g, 0, none⟩) 1 1, .slice aal a.length aac] V fun e W' => Below V.heap.size V W' ∧
      ((inB L id = true ∧ ∃ g, e = .returned (.tuple #[.slice (some ⟨g, 0, none⟩) 1 1, .int .i64 0]) ∧ VecAt W' g 0 (widAt L id) (evN L a id.toNat)) ∨
       (inB L id = false ∧ e = .returned (.tuple #[.slice none 0 0, .int .i64 2]))) := by
  have hlen := S.good.len
  refine (all_any (T := [id]) (ac := 1) (S.call hb) hM (.inr ⟨g, 0, rfl, lg, fun j v hj => ?_⟩) (fun t ht => by simp at ht; subst ht; exact h6) (by simp; omega) (HA.keep hb)).mono ?_
  · have hj0 : j = 0 := by have := (List.getElem?_eq_some_iff.1 hj).1; simpa using this
    subst hj0
    simp at hj
    subst hj
    simpa using hc
  · rintro e W' ⟨hbw, ⟨hall, gl, rfl, _, hv⟩ | ⟨⟨t, ht, hf⟩, rfl⟩⟩
    · exact ⟨hbw, .inl ⟨hall id (by simp), gl, rfl, hv 0 id rfl⟩⟩
    · simp at ht
      subst ht
      exact ⟨hbw, .inr ⟨hf, rfl⟩⟩

theorem eval_yes {B p m : Nat} {sv : Value} {L : List Nd} {id : Int} {a : List Nat} {W : World} {aal : Option Addr} {aac : Nat} (S : StoreAt B W p m sv L) (hM : MayL L) (h6 : I64 id) (HA : AsgAt W aal a) (hin : inB L id = true) :
    Calls Try.prog 8 #[.pointer (some ⟨p, 0, none⟩), .int .i64 id, .slice aal a.length aac] W fun e W' => e = .returned (.tuple #[.agg #[.int .u8 ((widAt L id : Nat) : Int), .int .u64 ((evN L a id.toNat : Nat) : Int)], .int .i64 0]) ∧ Below W.heap.size W W' := by
  have HAL : Hid (∀ (V : World) (g : Nat), Below W.heap.size W V → g < V.heap.size → V.cell? ⟨g, 0, none⟩ = some (.int .i64 id) → Calls Try.prog 12 #[.pointer (some ⟨p, 0, none⟩), .slice (some ⟨g, 0, none⟩) 1 1, .slice aal a.length aac] V fun e W' => ∃ g, e = .returned (.tuple #[.slice (some ⟨g, 0, none⟩) 1 1, .int .i64 0]) ∧ VecAt W' g 0 (widAt L id) (evN L a id.toNat) ∧ Below V.heap.size V W') := fun V g hb lg hc => (all_one S hM h6 HA hb lg hc).mono (by
    rintro e W' ⟨hbw, ⟨_, gl, h1, h2⟩ | ⟨h1, _⟩⟩
    · exact ⟨gl, h1, h2, hbw⟩
    · rw [hin] at h1; simp at h1)
  obtain ⟨y, hy⟩ : ∃ y, widAt L id = y := ⟨_, rfl⟩
  obtain ⟨z, hz⟩ : ∃ z, evN L a id.toNat = z := ⟨_, rfl⟩
  rw [hy, hz] at HAL ⊢
  clear S hM h6 HA hin hy hz
  obtain ⟨V, hV, hb, lV, hc, r0, r1, fr⟩ := ev_box W id
  have HC := Lib.hid (HAL.out V (W.heap.size + 1) hb lV hc)
  have HR := Lib.hid (And.intro hb (And.intro r0 (And.intro r1 (And.intro (fr 0) (fr 1)))))
  have HL := Lib.hid lV
  clear HAL hb hc r0 r1 fr lV
  subst hV
  go_enter Try.func8, Try.ntmps8
  go_wp2_with (go_at_call 12; refine HC.out.mono ?_; rintro e w5 ⟨gl, rfl, hv, hb5⟩; have lW : W.heap.size < _ := Nat.lt_trans (Nat.lt_succ_self _) HL.out; have k0 := (hb5.cell (p := ⟨W.heap.size, 0, none⟩) lW).trans HR.out.2.1; have k1 := (hb5.cell (p := ⟨W.heap.size, 1, none⟩) lW).trans HR.out.2.2.1; have k2 := (hb5.frozen (p := ⟨W.heap.size, 0, none⟩) lW).trans HR.out.2.2.2.1; have k3 := (hb5.frozen (p := ⟨W.heap.size, 1, none⟩) lW).trans HR.out.2.2.2.2; have HB5 := Lib.hid (bel_call HR.out.1 hb5); obtain ⟨lg, v0, v1⟩ := hv; simp only [Nat.zero_mul, Nat.zero_add] at v0 v1; clear hb5 lW)
  exact bodyPost_ret (v := .tuple #[.agg #[.int .u8 ((y : Nat) : Int), .int .u64 ((z : Nat) : Int)], .int .i64 0]) (by simp [results, Try.results8, go_sem, k0, k1]) rfl ⟨rfl, (HB5.out.setCell (Nat.le_refl _) _).setCell (Nat.le_refl _) _⟩

theorem eval_no {B p m : Nat} {sv : Value} {L : List Nd} {id : Int} {a : List Nat} {W : World} {aal : Option Addr} {aac : Nat} (S : StoreAt B W p m sv L) (hM : MayL L) (h6 : I64 id) (HA : AsgAt W aal a) (hin : inB L id = false) :
    Calls Try.prog 8 #[.pointer (some ⟨p, 0, none⟩), .int .i64 id, .slice aal a.length aac] W fun e W' => e = .returned (.tuple #[.agg #[.int .u8 0, .int .u64 0], .int .i64 2]) ∧ Below W.heap.size W W' := by
  have HAL : Hid (∀ (V : World) (g : Nat), Below W.heap.size W V → g < V.heap.size → V.cell? ⟨g, 0, none⟩ = some (.int .i64 id) → Calls Try.prog 12 #[.pointer (some ⟨p, 0, none⟩), .slice (some ⟨g, 0, none⟩) 1 1, .slice aal a.length aac] V fun e W' => e = .returned (.tuple #[.slice none 0 0, .int .i64 2]) ∧ Below V.heap.size V W') := fun V g hb lg hc => (all_one S hM h6 HA hb lg hc).mono (by
    rintro e W' ⟨hbw, ⟨h1, _⟩ | ⟨_, h2⟩⟩
    · rw [hin] at h1; simp at h1
    · exact ⟨h2, hbw⟩)
  clear S hM h6 HA hin
  obtain ⟨V, hV, hb, lV, hc, r0, r1, fr⟩ := ev_box W id
  have HC := Lib.hid (HAL.out V (W.heap.size + 1) hb lV hc)
  have HR := Lib.hid (And.intro hb (And.intro r0 (And.intro r1 (And.intro (fr 0) (fr 1)))))
  have HL := Lib.hid lV
  clear HAL hb hc r0 r1 fr lV
  subst hV
  go_enter Try.func8, Try.ntmps8
  go_wp2_with (go_at_call 12; refine HC.out.mono ?_; rintro e w5 ⟨rfl, hb5⟩; have lW : W.heap.size < _ := Nat.lt_trans (Nat.lt_succ_self _) HL.out; have k0 := (hb5.cell (p := ⟨W.heap.size, 0, none⟩) lW).trans HR.out.2.1; have k1 := (hb5.cell (p := ⟨W.heap.size, 1, none⟩) lW).trans HR.out.2.2.1; have k2 := (hb5.frozen (p := ⟨W.heap.size, 0, none⟩) lW).trans HR.out.2.2.2.1; have k3 := (hb5.frozen (p := ⟨W.heap.size, 1, none⟩) lW).trans HR.out.2.2.2.2; have HB5 := Lib.hid (bel_call HR.out.1 hb5); clear hb5 lW)
  exact bodyPost_ret (v := .tuple #[.agg #[.int .u8 0, .int .u64 0], .int .i64 2]) (by simp [results, Try.results8, go_sem, k0, k1]) rfl ⟨rfl, (HB5.out.setCell (Nat.le_refl _) _).setCell (Nat.le_refl _) _⟩

/-! ### none, and a zero one -/
theorem all_none (ptr : Value) (al aal : Option Addr) (n c an ac : Nat) (W : World) (h : NoneAt W ptr) :
    Calls Try.prog 12 #[ptr, .slice al n c, .slice aal an ac] W fun e W' => e = .returned (.tuple #[.slice none 0 0, .int .i64 1]) ∧ Below W.heap.size W W' := by
  have HN := Lib.hid (node_none ptr 0 W h)
  clear h
  go_enter Try.func12, Try.ntmps12
  go_wp2_with (go_at_call 20; refine HN.out.mono ?_; rintro e w0 ⟨rfl, hb0⟩)
  exact bodyPost_ret (v := .tuple #[.slice none 0 0, .int .i64 1]) (by simp [results, Try.results12, go_sem]) rfl ⟨rfl, bel_alloc hb0 _⟩

theorem eval_none (ptr : Value) (id : Int) (aal : Option Addr) (an ac : Nat) (W : World) (h : NoneAt W ptr) :
    Calls Try.prog 8 #[ptr, .int .i64 id, .slice aal an ac] W fun e W' => e = .returned (.tuple #[.agg #[.int .u8 0, .int .u64 0], .int .i64 1]) ∧ Below W.heap.size W W' := by
  obtain ⟨V, hV, hb, lV, hc, r0, r1, fr⟩ := ev_box W id
  have HC := Lib.hid (all_none ptr (some ⟨W.heap.size + 1, 0, none⟩) aal 1 1 an ac V (h.keep hb))
  have HR := Lib.hid (And.intro hb (And.intro r0 (And.intro r1 (And.intro (fr 0) (fr 1)))))
  have HL := Lib.hid lV
  clear h hb hc r0 r1 fr lV
  subst hV
  go_enter Try.func8, Try.ntmps8
  go_wp2_with (go_at_call 12; refine HC.out.mono ?_; rintro e w5 ⟨rfl, hb5⟩; have lW : W.heap.size < _ := Nat.lt_trans (Nat.lt_succ_self _) HL.out; have k0 := (hb5.cell (p := ⟨W.heap.size, 0, none⟩) lW).trans HR.out.2.1; have k1 := (hb5.cell (p := ⟨W.heap.size, 1, none⟩) lW).trans HR.out.2.2.1; have k2 := (hb5.frozen (p := ⟨W.heap.size, 0, none⟩) lW).trans HR.out.2.2.2.1; have k3 := (hb5.frozen (p := ⟨W.heap.size, 1, none⟩) lW).trans HR.out.2.2.2.2; have HB5 := Lib.hid (bel_call HR.out.1 hb5); clear hb5 lW)
  exact bodyPost_ret (v := .tuple #[.agg #[.int .u8 0, .int .u64 0], .int .i64 1]) (by simp [results, Try.results8, go_sem, k0, k1]) rfl ⟨rfl, (HB5.out.setCell (Nat.le_refl _) _).setCell (Nat.le_refl _) _⟩

/-- True, whatever Eval answers. -/
theorem true_of (ptr : Value) (id : Int) (aal : Option Addr) (an ac : Nat) (y z er : Nat) (W : World) (HE : Calls Try.prog 8 #[ptr, .int .i64 id, .slice aal an ac] W fun e W' => e = .returned (.tuple #[.agg #[.int .u8 ((y : Nat) : Int), .int .u64 ((z : Nat) : Int)], .int .i64 ((er : Nat) : Int)]) ∧ Below W.heap.size W W') :
    Calls Try.prog 9 #[ptr, .int .i64 id, .slice aal an ac] W fun e W' => e = .returned (.bool (decide (er = 0 ∧ y = 1 ∧ z = 1))) ∧ Below W.heap.size W W' := by
  have HC := Lib.hid HE
  clear HE
  go_enter Try.func9, Try.ntmps9
  go_wp2_with (go_at_call 8; refine HC.out.mono ?_; rintro e w0 ⟨rfl, hb0⟩)
  all_goals go_ret
  all_goals refine ⟨?_, bel_alloc hb0 _⟩
  all_goals first | (simp_all; done) | (congr 2; simp; omega)
end Tm
end Go.Proofs.Ytjhghfndhpaapaa
