/-
  The statements' own small check of examples of layer eval: it returns true, as a fact on one call.
-/
import Derived.Test.YtjhghfndhpaapaaEvTop
import Derived.Test.YtjhghfndhpaapaaTmP6
namespace Go.Proofs.Ytjhghfndhpaapaa
open Go.RowKit Go.Maps Bv
namespace Tm
set_option maxHeartbeats 2000000
set_option maxRecDepth 100000

def ew1 : Nd := ⟨2, 8, 0, 0, 0, 0, 0⟩
def ew2 : Nd := ⟨1, 8, 0, 0, 0, 1, 0⟩
def ew3 : Nd := ⟨8, 8, 0, 1, 0, 0, 0⟩
theorem ew3_ok : ew3.Ok := ⟨by decide, by decide, by simp [ew3, I64], by simp [ew3, I64], by simp [ew3, I64], by decide, by decide⟩
theorem ew_may : MayL [ew1, ew2, ew3] := by
  have g1 := mayL_step mayL_nil ew1
  rw [show (mk [] ew1).1 = [ew1] by decide] at g1
  have g2 := mayL_step g1 ew2
  rw [show (mk [ew1] ew2).1 = [ew1, ew2] by decide] at g2
  have g3 := mayL_step g2 ew3
  rw [show (mk [ew1, ew2] ew3).1 = [ew1, ew2, ew3] by decide] at g3
  exact g3
theorem asg_nil (W : World) : AsgAt W none [] := ⟨.inl rfl, by simp, by simp⟩
theorem asg_one (W : World) (v : Nat) (hv : v < 18446744073709551616) (x : Value) (hx : x = .int .u64 ((v : Nat) : Int)) : AsgAt (W.alloc (.cells #[x] 29)) (some ⟨W.heap.size, 0, none⟩) [v] := by
  subst hx
  refine ⟨.inr ⟨W.heap.size, 0, rfl, by rw [size_alloc]; omega, fun j u hj => ?_⟩, fun u hu => by simp at hu; subst hu; exact hv, by simp⟩
  have hj0 : j = 0 := by have := (List.getElem?_eq_some_iff.1 hj).1; simpa using this
  subst hj0
  simp at hj
  subst hj
  have h1 := (MapKept.heap_alloc W (.cells #[.int .u64 ((v : Nat) : Int)] 29)).1
  unfold World.cell?
  rw [h1]
  rfl

theorem ev_t : evN [ew1, ew2, ew3] [255] 2 = 0 ∧ evN [ew1, ew2, ew3] [257] 0 = 1 ∧ evN [ew1, ew2, ew3] [] 0 = 0 ∧ evN [ew1, ew2, ew3] [1] 0 = 1 := by
  refine ⟨?_, ?_, ?_, ?_⟩ <;> rfl
theorem ev_w : widAt [ew1, ew2, ew3] 2 = 8 ∧ widAt [ew1, ew2, ew3] 0 = 8 := ⟨rfl, rfl⟩

theorem At2.keep {w w' : World} {p : Nat} {x y : Value} (h : At2 w p x y) (k : Below w.heap.size w w') : At2 w' p x y :=
  ⟨Nat.lt_of_lt_of_le h.1 k.size, (k.cell (p := ⟨p, 0, none⟩) h.1).trans h.2.1, (k.cell (p := ⟨p, 1, none⟩) h.1).trans h.2.2⟩
theorem At2.new (w : World) (x y : Value) (t : TypeId) : At2 (w.alloc (.cells #[x, y] t)) w.heap.size x y := by
  have h1 := (MapKept.heap_alloc w (.cells #[x, y] t)).1
  refine ⟨by rw [size_alloc]; omega, ?_, ?_⟩ <;> (unfold World.cell?; rw [h1]; rfl)

theorem ev_at {B p m : Nat} {sv : Value} {W : World} {id : Int} {a : List Nat} {aal : Option Addr} {aac y z : Nat} {yi zi : Int} (n : Nat) (S : StoreAt B W p m sv [ew1, ew2, ew3]) (h6 : I64 id) (HA : AsgAt W aal a) (hin : inB [ew1, ew2, ew3] id = true) (hy : widAt [ew1, ew2, ew3] id = y) (hz : evN [ew1, ew2, ew3] a id.toNat = z) (ey : ((y : Nat) : Int) = yi) (ez : ((z : Nat) : Int) = zi) (hn : n = a.length) :
    Calls Try.prog 8 #[.pointer (some ⟨p, 0, none⟩), .int .i64 id, .slice aal n aac] W fun e W' => e = .returned (.tuple #[.agg #[.int .u8 yi, .int .u64 zi], .int .i64 0]) ∧ Below W.heap.size W W' := by
  subst ey; subst ez; subst hy; subst hz; subst hn
  exact eval_yes S ew_may h6 HA hin

theorem works_any (W : World) :
    Calls Try.prog 10 #[] W fun e W' => e = .returned (.bool true) ∧ Below W.heap.size W W' := by
  go_enter Try.func10, Try.ntmps10
  go_wp2_with (go_at_call 15; refine (new_at W).mono ?_; rintro e v0 ⟨rfl, S0, hb0⟩)
  have hB0 := hb0.size
  have HC0 := Lib.hid (made_to S0 hB0 (var_any S0 (B := W.heap.size) hB0 8 0) (L' := [ew1]) (a := 0) (b := 0) (by decide) (by decide) (by decide))
  clear S0
  go_wp2_with (go_at_call 18; refine HC0.out.mono ?_; rintro e v1 ⟨rfl, s1, S1, hb1⟩)
  replace hb1 := hb0.trans hb1
  have hB1 := hb1.size
  clear HC0
  have HC1 := Lib.hid (made_to S1 hB1 (const_any S1 hB1 8 1 (by decide)) (L' := [ew1, ew2]) (a := 1) (b := 0) (by decide) (by decide) (by decide))
  clear S1
  go_wp2_with (go_at_call 14; refine HC1.out.mono ?_; rintro e v2 ⟨rfl, s2, S2, hb2⟩)
  replace hb2 := hb1.trans hb2
  have hB2 := hb2.size
  clear HC1
  have HC2 := Lib.hid (made_to S2 hB2 (make_any (x := ew3) S2 hB2 ew3_ok) (L' := [ew1, ew2, ew3]) (a := 2) (b := 0) (by decide) (by decide) (by decide))
  clear S2
  go_wp2_with (go_at_call 16; refine HC2.out.mono ?_; rintro e v3 ⟨rfl, s3, S3, hb3⟩)
  replace hb3 := hb2.trans hb3
  have hB3 := hb3.size
  clear HC2
  have HV0 := Lib.hid (bel_alloc hb3 (.cells #[.int .u64 255] 29))
  have HE0 := Lib.hid (ev_at (aac := 1) (id := 2) (yi := 8) (zi := 0) 1 (S3.alloc (.cells #[.int .u64 255] 29)) (by unfold I64; omega) (asg_one v3 255 (by decide) (.int .u64 255) rfl) (by decide) ev_w.1 ev_t.1 rfl rfl rfl)
  have HS3 := Lib.hid (S3.alloc (.cells #[.int .u64 255] 29))
  clear S3 hb0 hb1 hb2 hb3 hB0 hB1 hB2 hB3
  go_wp2_with (go_at_call 8; with_reducible refine HE0.out.mono ?_; rintro e v4 ⟨rfl, hb4⟩; have HV4 := Lib.hid (bel_call HV0.out hb4); have HS4 := Lib.hid (HS3.out.call hb4); clear hb4)
  have B1 := Lib.hid (bel_alloc (Below.refl v4.heap.size v4) (.cells #[.int .u8 8, .int .u64 0] 31))
  have B2 := Lib.hid (bel_alloc B1.out (.cells #[.int .u64 257] 29))
  have HS5 := Lib.hid (HS4.out.call B2.out)
  have HV5 := Lib.hid (bel_call HV4.out B2.out)
  have HA5 := Lib.hid ((At2.new v4 (.int .u8 8) (.int .u64 0) 31).keep (bel_alloc (Below.refl _ _) (.cells #[.int .u64 257] 29)))
  have HE1 := Lib.hid (ev_at (aac := 1) (id := 0) (yi := 8) (zi := 1) 1 HS5.out (by unfold I64; omega) (asg_one (v4.alloc (.cells #[.int .u8 8, .int .u64 0] 31)) 257 (by decide) (.int .u64 257) rfl) (by decide) ev_w.2 ev_t.2.1 rfl rfl rfl)
  rw [size_alloc] at HE1
  clear HE0 HS3 HV0 HS4 HV4 B1 B2
  go_wp2_with (go_at_call 8; with_reducible refine HE1.out.mono ?_; rintro e v5 ⟨rfl, hb5⟩; have HV6 := Lib.hid (bel_call HV5.out hb5); have HS6 := Lib.hid (HS5.out.call hb5); have HA6 := Lib.hid (HA5.out.keep hb5); clear hb5)
  have B3 := Lib.hid (bel_alloc (Below.refl v5.heap.size v5) (.cells #[.int .u8 8, .int .u64 1] 31))
  have HS7 := Lib.hid (HS6.out.call B3.out)
  have HV7 := Lib.hid (bel_call HV6.out B3.out)
  have HA7 := Lib.hid (HA6.out.keep B3.out)
  have HB7 := Lib.hid (At2.new v5 (.int .u8 8) (.int .u64 1) 31)
  have HE2 := Lib.hid (ev_at (aal := none) (aac := 0) (a := []) (id := 0) (yi := 8) (zi := 0) 0 HS7.out (by unfold I64; omega) (asg_nil _) (by decide) ev_w.2 ev_t.2.2.1 rfl rfl rfl)
  clear HE1 HS6 HV6 HA6 HS5 HV5 HA5 B3
  go_wp2_with fail
  with_reducible refine HE2.out.mono ?_
  rintro e v6 ⟨rfl, hb6⟩
  have HV8 := Lib.hid (bel_call HV7.out hb6); have HS8 := Lib.hid (HS7.out.call hb6); have HA8 := Lib.hid (HA7.out.keep hb6); have HB8 := Lib.hid (HB7.out.keep hb6)
  clear hb6
  have B4 := Lib.hid (bel_alloc (Below.refl v6.heap.size v6) (.cells #[.int .u8 8, .int .u64 0] 31))
  obtain ⟨la, a0, a1⟩ := HA8.out
  obtain ⟨lb, b0, b1⟩ := HB8.out
  have B5 := Lib.hid (bel_alloc B4.out (.cells #[.int .u64 1] 29))
  have HT := Lib.hid (true_of (.pointer (some ⟨W.heap.size + 1, 0, none⟩)) 0 (some ⟨v6.heap.size + 1, 0, none⟩) 1 1 8 1 0 _ (ev_at (aac := 1) (id := 0) (yi := ((8 : Nat) : Int)) (zi := ((1 : Nat) : Int)) 1 (HS8.out.call B5.out) (by unfold I64; omega) (by have h := asg_one (v6.alloc (.cells #[.int .u8 8, .int .u64 0] 31)) 1 (by decide) (.int .u64 1) rfl; rw [size_alloc] at h; exact h) (by decide) ev_w.2 ev_t.2.2.2 rfl rfl rfl))
  have HV9 := Lib.hid (bel_call HV8.out B5.out)
  clear HE2 HS7 HV7 HA7 HB7 B4 B5 HV8 HS8
  go_wp2_with (go_at_call 9; with_reducible refine HT.out.mono ?_; rintro e v7 ⟨rfl, hb7⟩)
  go_ret
  exact ⟨rfl, bel_call HV9.out hb7⟩
end Tm
end Go.Proofs.Ytjhghfndhpaapaa
