/-
  The statement that what whatever term is under whatever assignment is the document's, or its error, as a fact on the call.
-/
import Derived.Test.YtjhghfndhpaapaaEvWorks
import Derived.Test.YtjhghfndhpaapaaEvMade
import Derived.Test.YtjhghfndhpaapaaEvRow
namespace Go.Proofs.Ytjhghfndhpaapaa
open Go.RowKit Go.Maps Bv
namespace Tm
set_option maxHeartbeats 1000000
set_option maxRecDepth 100000

/-- Two vectors in variables of the call's own. -/
def XY (g h : Nat) (a b c d : Value) (w : World) : Prop := At2 w g a b ∧ At2 w h c d
theorem XY.keep {g h : Nat} {a b c d : Value} {w w' : World} (x : XY g h a b c d w) (k : Below w.heap.size w w') : XY g h a b c d w' := ⟨x.1.keep k, x.2.keep k⟩
theorem XY.facts {g h : Nat} {a b c d : Value} {w : World} (x : XY g h a b c d w) : w.cell? ⟨g, 0, none⟩ = some a ∧ w.cell? ⟨g, 1, none⟩ = some b ∧ w.cell? ⟨h, 0, none⟩ = some c ∧ w.cell? ⟨h, 1, none⟩ = some d := ⟨x.1.2.1, x.1.2.2, x.2.2.1, x.2.2.2⟩

theorem tells_any {W : World} {al aal : Option Addr} {X : List Nd} {a : List Nat} {cl ac n : Nat} {id : Int} (hX : ArgAt W al X) (hok : ∀ x ∈ X, x.Ok) (hn : n = X.length) (h6 : I64 id) (HA : AsgAt W aal a) :
    Calls Try.prog 3 #[.slice al n cl, .int .i64 id, .slice aal a.length ac] W fun e W' => e = .returned (.bool true) ∧ Below W.heap.size W W' := by
  have HM := Lib.hid (made_any (cl := cl) hX hok hn)
  have HAA := Lib.hid HA
  have H6 := Lib.hid h6
  clear hX hok hn h6 HA
  go_enter Try.func3, Try.ntmps3
  go_wp2_with fail
  refine HM.out.mono ?_
  rintro e v0 ⟨q, L, rfl, ⟨sv, rv, hT⟩, hmay, hlen⟩
  have HMAY := Lib.hid hmay
  have HT := Lib.hid hT
  obtain ⟨ra, rc, rfl⟩ := hT.r.shape
  have r0 := hT.r.c0
  have lq := hT.r.lt
  clear HM hmay
  by_cases hin : inB L id = true
  case neg =>
    have hin' : inB L id = false := by simpa using hin
    have HOUT : Hid ((id < 0) ∨ (0 ≤ id ∧ ((L.length : Nat) : Int) ≤ id)) := by show _ ∨ _; unfold inB at hin; simp at hin; omega
    have HE := Lib.hid (eval_no (aac := ac) hT.s HMAY.out H6.out (HAA.out.keep hT.b) hin')
    go_wp2_with fail
    with_reducible refine HE.out.mono ?_
    rintro e v1 ⟨rfl, hb1⟩
    have r01 := (hb1.cell (p := ⟨q, 0, none⟩) lq).trans r0
    have lq1 : q < v1.heap.size := Nat.lt_of_lt_of_le lq hb1.size
    have HT1 := Lib.hid ((HT.out.call hb1).call (bel_alloc (Below.refl _ _) (.cells #[.int .u8 0, .int .u64 0] 31)))
    have HX1 := Lib.hid (At2.new v1 (.int .u8 0) (.int .u64 0) 31)
    have HTR := Lib.hid (true_of _ id aal a.length ac 0 0 2 _ (eval_no (aac := ac) HT1.out.s HMAY.out H6.out (HAA.out.keep HT1.out.b) hin'))
    clear hin hin' HE r0 lq hb1 hT HT
    obtain ⟨lx, x0, x1⟩ := HX1.out
    have hid : (id < 0) ∨ (0 ≤ id ∧ ((L.length : Nat) : Int) ≤ id) := HOUT.out
    rcases hid with hid | ⟨hid1, hid2⟩
    all_goals
      go_wp2_with fail
      with_reducible refine HTR.out.mono ?_
      rintro e v2 ⟨rfl, hb2⟩
      have HB2 := Lib.hid (bel_call HT1.out.b hb2)
      clear hb2
      go_wp2_with (go_at_call 10; refine (works_any _).mono ?_; rintro e v3 ⟨rfl, hb3⟩)
      go_ret
      exact ⟨rfl, bel_call HB2.out hb3⟩
  case pos =>
    obtain ⟨k, rfl⟩ : ∃ k : Nat, id = ((k : Nat) : Int) := ⟨id.toNat, by unfold inB at hin; simp at hin; omega⟩
    have hk : k < L.length := by unfold inB at hin; simp at hin; omega
    have HE := Lib.hid (eval_yes (aac := ac) hT.s HMAY.out H6.out (HAA.out.keep hT.b) hin)
    have HE2 : Hid (∀ w, Two W (W.heap.size + 1) W.heap.size q sv (.slice ra L.length rc) L L w → Calls Try.prog 8 #[.pointer (some ⟨W.heap.size + 1, 0, none⟩), .int .i64 ((k : Nat) : Int), .slice aal a.length ac] w fun e W' => e = .returned (.tuple #[.agg #[.int .u8 ((widAt L ((k : Nat) : Int) : Nat) : Int), .int .u64 ((evN L a k : Nat) : Int)], .int .i64 ((0 : Nat) : Int)]) ∧ Below w.heap.size w W') := fun w h => by
      have := eval_yes (aac := ac) h.s HMAY.out H6.out (HAA.out.keep h.b) hin
      rw [Int.toNat_natCast] at this
      exact this
    have HR2 : Hid (∀ w, Two W (W.heap.size + 1) W.heap.size q sv (.slice ra L.length rc) L L w → Calls Try.prog 11 #[.pointer (some ⟨q, 0, none⟩), .int .i64 ((k : Nat) : Int), .slice aal a.length ac] w fun e W' => e = .returned (.agg #[.int .u8 ((widAt L ((k : Nat) : Int) : Nat) : Int), .int .u64 ((evN L a k : Nat) : Int)]) ∧ Below w.heap.size w W') := fun w h => reval_any h.r HMAY.out hk (HAA.out.keep h.b)
    rw [Int.toNat_natCast] at HE
    obtain ⟨y, hy⟩ : ∃ y, widAt L ((k : Nat) : Int) = y := ⟨_, rfl⟩
    obtain ⟨z, hz⟩ : ∃ z, evN L a k = z := ⟨_, rfl⟩
    rw [hy, hz] at HE HE2 HR2
    go_wp2_with fail
    with_reducible refine HE.out.mono ?_
    rintro e v1 ⟨rfl, hb1⟩
    have r01 := (hb1.cell (p := ⟨q, 0, none⟩) lq).trans r0
    have lq1 : q < v1.heap.size := Nat.lt_of_lt_of_le lq hb1.size
    have HT1 := Lib.hid ((HT.out.call hb1).call (bel_alloc (Below.refl _ _) (.cells #[.int .u8 ((y : Nat) : Int), .int .u64 ((z : Nat) : Int)] 31)))
    have HX1 := Lib.hid (At2.new v1 (.int .u8 ((y : Nat) : Int)) (.int .u64 ((z : Nat) : Int)) 31)
    have d0 : decide (((k : Nat) : Int) < 0) = false := decide_eq_false (by omega)
    have d1 : ((k : Nat) : Int) < ((L.length : Nat) : Int) := by omega
    clear hin HE r0 lq hb1 hT HT hy hz
    go_wp2_with fail
    with_reducible refine (HR2.out _ HT1.out).mono ?_
    rintro e v2 ⟨rfl, hb2⟩
    have HT3 := Lib.hid ((HT1.out.call hb2).call (bel_alloc (Below.refl _ _) (.cells #[.int .u8 ((y : Nat) : Int), .int .u64 ((z : Nat) : Int)] 31)))
    have HX3 := Lib.hid ((HX1.out.keep hb2).keep (bel_alloc (Below.refl _ _) (.cells #[.int .u8 ((y : Nat) : Int), .int .u64 ((z : Nat) : Int)] 31)))
    have HY3 := Lib.hid (At2.new v2 (.int .u8 ((y : Nat) : Int)) (.int .u64 ((z : Nat) : Int)) 31)
    have HTD := Lib.hid (HT3.out.call (Below.refl _ _).drew)
    have HTR := Lib.hid (true_of _ _ aal a.length ac y z 0 _ (HE2.out _ HTD.out))
    have HXY : Hid (XY v1.heap.size v2.heap.size (.int .u8 ((y : Nat) : Int)) (.int .u64 ((z : Nat) : Int)) (.int .u8 ((y : Nat) : Int)) (.int .u64 ((z : Nat) : Int)) (v2.alloc (.cells #[.int .u8 ((y : Nat) : Int), .int .u64 ((z : Nat) : Int)] 31))) := ⟨HX3.out, HY3.out⟩
    have HXD := Lib.hid (HXY.out.keep (Below.refl _ _).drew)
    clear HE2 HR2 HX1 hb2 r01 d0 d1 HX3 HY3 HT1 HT3
    by_cases hy : y = 1
    · by_cases hz : z = 1
      · subst hy; subst hz
        simp only [show ((1 : Nat) : Int) = 1 from rfl] at HTR HTD HXY HXD ⊢
        go_wp2_with fail
        go_region_held3 (fun w' => w'.cell? ⟨v1.heap.size, 0, none⟩ = some (.int .u8 1) ∧ w'.cell? ⟨v1.heap.size, 1, none⟩ = some (.int .u64 1) ∧ w'.cell? ⟨v2.heap.size, 0, none⟩ = some (.int .u8 1) ∧ w'.cell? ⟨v2.heap.size, 1, none⟩ = some (.int .u64 1))
          (first | exact HXD.out.facts | exact H4.out.facts | exact H5.out.facts)
          (first | (go_at_call 9; with_reducible refine HTR.out.mono ?_; rintro e v4 ⟨rfl, hb4⟩; have H4 := Lib.hid (HXD.out.keep hb4); have HB4 := Lib.hid (bel_call HTD.out.b hb4)) | (go_at_call 10; refine (works_any _).mono ?_; rintro e v5 ⟨rfl, hb5⟩; have H5 := Lib.hid (H4.out.keep hb5); have HB5 := Lib.hid (bel_call HB4.out hb5)))
        all_goals go_wp2_with fail
        all_goals go_ret
        all_goals exact ⟨rfl, HB5.out⟩
      · subst hy
        have d1 : (((z : Nat) : Int) == 1) = false := by simp; omega
        have d2 : decide (0 = 0 ∧ 1 = 1 ∧ z = 1) = false := by simp [hz]
        rw [d2] at HTR
        simp only [show ((1 : Nat) : Int) = 1 from rfl] at HTR HTD HXY HXD ⊢
        go_wp2_with fail
        go_region_held3 (fun w' => w'.cell? ⟨v1.heap.size, 0, none⟩ = some (.int .u8 1) ∧ w'.cell? ⟨v1.heap.size, 1, none⟩ = some (.int .u64 ((z : Nat) : Int)) ∧ w'.cell? ⟨v2.heap.size, 0, none⟩ = some (.int .u8 1) ∧ w'.cell? ⟨v2.heap.size, 1, none⟩ = some (.int .u64 ((z : Nat) : Int)))
          (first | exact HXD.out.facts | exact H4.out.facts | exact H5.out.facts)
          (first | (go_at_call 9; with_reducible refine HTR.out.mono ?_; rintro e v4 ⟨rfl, hb4⟩; have H4 := Lib.hid (HXD.out.keep hb4); have HB4 := Lib.hid (bel_call HTD.out.b hb4)) | (go_at_call 10; refine (works_any _).mono ?_; rintro e v5 ⟨rfl, hb5⟩; have H5 := Lib.hid (H4.out.keep hb5); have HB5 := Lib.hid (bel_call HB4.out hb5)))
        all_goals go_wp2_with fail
        all_goals go_ret
        all_goals exact ⟨rfl, HB5.out⟩
    · have d1 : (((y : Nat) : Int) == 1) = false := by simp; omega
      have d2 : decide (0 = 0 ∧ y = 1 ∧ z = 1) = false := by simp [hy]
      rw [d2] at HTR
      go_wp2_with fail
      go_region_held3 (fun w' => w'.cell? ⟨v1.heap.size, 0, none⟩ = some (.int .u8 ((y : Nat) : Int)) ∧ w'.cell? ⟨v1.heap.size, 1, none⟩ = some (.int .u64 ((z : Nat) : Int)) ∧ w'.cell? ⟨v2.heap.size, 0, none⟩ = some (.int .u8 ((y : Nat) : Int)) ∧ w'.cell? ⟨v2.heap.size, 1, none⟩ = some (.int .u64 ((z : Nat) : Int)))
        (first | exact HXD.out.facts | exact H4.out.facts | exact H5.out.facts)
        (first | (go_at_call 9; with_reducible refine HTR.out.mono ?_; rintro e v4 ⟨rfl, hb4⟩; have H4 := Lib.hid (HXD.out.keep hb4); have HB4 := Lib.hid (bel_call HTD.out.b hb4)) | (go_at_call 10; refine (works_any _).mono ?_; rintro e v5 ⟨rfl, hb5⟩; have H5 := Lib.hid (H4.out.keep hb5); have HB5 := Lib.hid (bel_call HB4.out hb5)))
      all_goals go_wp2_with fail
      all_goals go_ret
      all_goals exact ⟨rfl, HB5.out⟩
end Tm
end Go.Proofs.Ytjhghfndhpaapaa
