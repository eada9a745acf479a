/-
  A vector handed in by value: how it is read, and read again; the row's last step where only new memory was made.
-/
import Derived.Test.YtiogadjjacbjlaaRows
import Derived.Test.YtiogadjjacbjlaaBvMath
import Derived.WalkKit
import Derived.ProofKit
import Derived.OpenShut
import Derived.Lib.SmallJoins
import Derived.Below
import Derived.ChangeSame
namespace Go.Proofs.Ytiogadjjacbjlaa
open Go.ChangeShapes Go.WideShapes Go.ChangeAt Go.RowKit Go.Joins
namespace Bv

theorem own : ownKnob Try.prog.godebug = none := by kernel_rfl
theorem cells_bv : Try.prog.cellsOf 25 = 2 := by kernel_rfl

section
variable {H : Type} {enc : TypeId × Value → H} {P : Program}
/-- The row's last step, where the arguments hold no memory and the call has made new blocks alone. -/
theorem post_new {f : Func} {s : ChangeSpec} {W W' : World} {args : Array Value} {v : Value} {ds : List (DataW H)}
    (hW : DataW.Whole enc P f.params.toList s.vars false W args.toList ds [] [])
    (hres : ∀ (b : Nat) (sp : Nat → Bool) (hd : Bool), DataW.TrodAll enc P W' b sp hd f.resultTypes.toList (v.resultList f.resultTypes.size) (s.fn H (ds ++ [])).results [])
    (hargs : ∀ sp : Nat → Bool, DataW.TrodAll enc P W' 0 sp true f.params.toList args.toList (s.fn H (ds ++ [])).args [])
    (hvars : ∀ sp : Nat → Bool, DataW.TrodVars enc P W' sp s.vars (s.fn H (ds ++ [])).vars []) (hb : Below W.heap.size W W') :
    s.post enc P f false true false false W args v W' :=
  ⟨ds, [], [], [], [], [], hW, hres _ _ _, hargs _, hvars _, hb.frame _, fun h => by cases h⟩

theorem open_bv {W : World} {base b0 : Nat} {spare : Nat → Bool} {held : Bool} {r : Reach} {v : Value} {d : DataW H} {p : List MemPlace}
    (hv : Value.okWide Try.prog W r b0 25 v) (h : DataW.Trod enc Try.prog W base spare held 25 v d p) :
    ∃ w n : Nat, v = .agg #[.int .u8 w, .int .u64 n] ∧ p = [] ∧ w ≤ 255 ∧ n < 18446744073709551616 ∧
      ∀ (W' : World) (b : Nat) (sp : Nat → Bool) (hd : Bool), DataW.Trod enc Try.prog W' b sp hd 25 (.agg #[.int .u8 w, .int .u64 n]) d [] := by
  obtain ⟨c0, c1, y0, y1, m, rfl, rfl, rfl, hy0, hy1⟩ := open_agg2 Try.underlying25 (by kernel_rfl) cells_bv hv h
  obtain ⟨a, e0, rfl, wa⟩ := DataW.trod_int Try.underlying5 hy0
  obtain ⟨b, e1, rfl, wb⟩ := DataW.trod_int Try.underlying23 hy1
  simp at e0 e1
  subst e0 e1
  have ha := wa
  have hb := wb
  simp only [Lit.wf, IntKind.min, IntKind.max, IntKind.signed, IntKind.bits, Bool.and_eq_true] at ha hb
  obtain ⟨w, rfl⟩ := Int.eq_ofNat_of_zero_le (a := a) (by simpa using ha.1)
  obtain ⟨n, rfl⟩ := Int.eq_ofNat_of_zero_le (a := b) (by simpa using hb.1)
  refine ⟨w, n, rfl, rfl, ?_, ?_, fun W' b sp hd => ?_⟩
  · have := ha.2; simp at this; omega
  · have := hb.2; simp at this; omega
  · exact shut_agg2 (y0 := (.lit (.int .u8 w), [])) (y1 := (.lit (.int .u64 n), [])) Try.underlying25 (by kernel_rfl) cells_bv ⟨1, by simp [DataW.trod, Try.underlying5, wa]⟩ ⟨1, by simp [DataW.trod, Try.underlying23, wb]⟩
end
end Bv
end Go.Proofs.Ytiogadjjacbjlaa
