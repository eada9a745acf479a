/-
What the statements' own texts come to: works answers true, as a fact on one call.
Len of layer term, of a store that was made, of none and of a zero one, each as a fact on one call.
The statement that what is put is got as the same number, and what is got is put as the same text, as a fact on one call.
A node handed in by value, or in a list: how it is read, and read again.
A list of nodes handed in; types are laid out.
What the statement's own words on package-level variables give: their cells.
-/
import Derived.Test.YtbemkaninedonaaGreatDoorPt25
import Derived.Test.YtbemkaninedonaaGreatDoorPt18
import Derived.Test.YtbemkaninedonaaGreatDoorPt04
import Derived.Test.YtbemkaninedonaaGreatDoorPt19
import Derived.BigQuiet
import Derived.Deep.QuietTactic
import Derived.Deep.DeepCutAuto
import Derived.Test.YtbemkaninedonaaGreatDoorRows
import Derived.WalkKit
import Derived.ProofKit
import Derived.OpenShut
import Derived.Lib.SmallJoins
import Derived.Laws.IdiomArrays
import Derived.Below
import Derived.ChangeSame
import Derived.Deep.Slices
import Derived.Carry
import Derived.Test.YtbemkaninedonaaGreatDoorPt21
import Derived.Test.YtbemkaninedonaaGreatDoorTie
import Derived.Lib.LaidTab
import Derived.Lib.LaidU8
import Derived.Stop.LaidErr
import Derived.LaidMore
namespace Go.Proofs.YtbemkaninedonaaGreatDoor
open Go.RowKit Go.Maps Bv Tm
namespace Tx
set_option maxHeartbeats 3200000
set_option maxRecDepth 100000

theorem bd_may : ∀ (ns : List Nd) (ids : List Nat) (L : List Nd) (last : Nat), MayL L → MayL (bd ns ids L last).1
  | [], _, _, _, h => h
  | x :: r, ids, L, last, h => by
    simp only [bd]
    split
    · exact bd_may r _ _ _ (mayL_step h _)
    · exact mayL_step h _
theorem getP_may {L : List Nd} (h : MayL L) (t : By) : MayL (getP L t).1 := by
  unfold getP
  split
  · exact h
  · exact bd_may _ _ _ _ h

theorem env_at {W w : World} (hE : EnvAt (fun i => W.heap.size ≤ i) W) (hb : Below W.heap.size W w) : EnvAt (fun i => w.heap.size ≤ i) w :=
  (hE.call hb).mono (fun _ c => Nat.le_trans hb.size c)

theorem get_to {p m : Nat} {sv : Value} {L L' : List Nd} {W w : World} {t : By} {a b : Nat} (S : StoreAt W.heap.size w p m sv L) (hE : EnvAt (fun i => W.heap.size ≤ i) W) (hb : Below W.heap.size W w) (ht : t.length ≤ 9223372036854775807) (hg : getP L t = (L', a, b)) :
    Calls Tryz.prog 6 #[.pointer (some ⟨p, 0, none⟩), .string ⟨t.toArray⟩] w fun e W' => e = .returned (.tuple #[.int .i64 ((a : Nat) : Int), .int .i64 ((b : Nat) : Int)]) ∧ ∃ v, StoreAt W.heap.size W' p m v L' ∧ Below W.heap.size W W' := by
  refine (get_yes S hb.size (env_at hE hb) ht).mono ?_
  rintro e W' ⟨he, v, S', K, _⟩
  rw [hg] at he S'
  refine ⟨he, v, S', hb.trans (K.below (fun i hi c => ?_) hb.size)⟩
  rcases c with c | c | c
  · have := S.bp; omega
  · have := S.bm; omega
  · have := (S.row.lt i c).1; omega

/-! ### the five texts -/
def t1 : By := [40, 97, 100, 100, 32, 118, 48, 58, 56, 32, 35, 56, 58, 49, 41]
def t2 : By := [40, 97, 100, 100, 32, 118, 48, 58, 56, 32, 35, 52, 58, 49, 41]
def t3 : By := [40, 97, 100, 100, 32, 32, 118, 48, 58, 56, 32, 118, 48, 58, 56, 41]
def t4 : By := [35, 56, 58, 48, 49]
def l1 : List Nd := [⟨2, 8, 0, 0, 0, 0, 0⟩, ⟨1, 8, 0, 0, 0, 1, 0⟩, ⟨8, 8, 0, 1, 0, 0, 0⟩]
def l2 : List Nd := [⟨2, 8, 0, 0, 0, 0, 0⟩, ⟨1, 8, 0, 0, 0, 1, 0⟩, ⟨8, 8, 0, 1, 0, 0, 0⟩, ⟨1, 4, 0, 0, 0, 1, 0⟩]
theorem g1 : getP [] t1 = (l1, 2, 0) := by decide +kernel
theorem g2 : getP l1 t2 = (l2, 0, 2) := by decide +kernel
theorem g3 : getP l2 t3 = (l2, 0, 5) := by decide +kernel
theorem g4 : getP l2 t4 = (l2, 0, 5) := by decide +kernel
theorem m1 : MayL l1 := by have := getP_may mayL_nil t1; rw [g1] at this; exact this
theorem dec1 {n : Nat} (h : n < 10) : dec n = [UInt8.ofNat (48 + n)] := Lib.decDigits_one h
theorem x1 : txt l1 2 = t1 := by
  have d0 := dec1 (n := 0) (by omega)
  have d1 := dec1 (n := 1) (by omega)
  have d8 := dec1 (n := 8) (by omega)
  simp [txt, txtF, bodyT, hd, kidsT, l1, kc, Nd.kid, nm, nameL, d0, d1, d8, t1]
theorem p1 : putR l1 2 = .tuple #[.string ⟨t1.toArray⟩, .int .i64 0] := by
  unfold putR
  rw [x1, if_pos (by decide)]

theorem works_any {W : World} (hE : EnvAt (fun i => W.heap.size ≤ i) W) : Calls Tryz.prog 8 #[] W fun e W' => e = .returned (.bool true) ∧ Below W.heap.size W W' := by
  have HE := Lib.hid hE
  clear hE
  go_enter Tryz.func8, Tryz.ntmps8
  go_wp2_with (go_at_call 9; refine (new_at W).mono ?_; rintro e w0 ⟨rfl, S0, hb0⟩; have HS0 := Lib.hid S0; have HB0 := Lib.hid hb0; clear S0 hb0; refine Hid.out ?_)
  refine Lib.hid ?_
  have H1 := Lib.hid (get_to HS0.out HE.out HB0.out (by decide) g1)
  go_wp2_with (go_at_call 6; refine H1.out.mono ?_; rintro e w1 ⟨rfl, v1, S1, hb1⟩; have HS1 := Lib.hid S1; have HB1 := Lib.hid hb1; clear S1 hb1; refine Hid.out ?_)
  refine Lib.hid ?_
  have H2 := put_yes HS1.out m1 (env_at HE.out HB1.out) (show 2 < l1.length by decide)
  rw [p1] at H2
  have H2 := Lib.hid H2
  go_wp2_with (go_at_call 5; refine H2.out.mono ?_; rintro e w2 ⟨rfl, hb2⟩; have HB2 := Lib.hid (bel_call HB1.out hb2); have HS2 := Lib.hid (HS1.out.call hb2); clear hb2; refine Hid.out ?_)
  refine Lib.hid ?_
  have H3 := Lib.hid (get_to HS2.out HE.out HB2.out (by decide) g2)
  go_wp2_with (go_at_call 6; refine H3.out.mono ?_; rintro e w3 ⟨rfl, v3, S3, hb3⟩; have HS3 := Lib.hid S3; have HB3 := Lib.hid hb3; clear S3 hb3; refine Hid.out ?_)
  refine Lib.hid ?_
  have H4 := Lib.hid (get_to HS3.out HE.out HB3.out (by decide) g3)
  go_wp2_with (go_at_call 6; refine H4.out.mono ?_; rintro e w4 ⟨rfl, v4, S4, hb4⟩; have HS4 := Lib.hid S4; have HB4 := Lib.hid hb4; clear S4 hb4; refine Hid.out ?_)
  refine Lib.hid ?_
  have H5 := Lib.hid (get_to HS4.out HE.out HB4.out (by decide) g4)
  go_wp2_with (go_at_call 6; refine H5.out.mono ?_; rintro e w5 ⟨rfl, v5, S5, hb5⟩; have HS5 := Lib.hid S5; have HB5 := Lib.hid hb5; clear S5 hb5; refine Hid.out ?_)
  refine Lib.hid ?_
  have HE5 := Lib.hid (HE.out.call HB5.out)
  have N1 : Hid (Calls Tryz.prog 19 #[.int .u8 25] w5 fun e w' => e = .returned (.string ⟨#[105, 116, 101]⟩) ∧ w5 = w') := Lib.hid (name_any (o := 25) HE5.out (by omega))
  have N2 : Hid (Calls Tryz.prog 19 #[.int .u8 1] w5 fun e w' => e = .returned (.string ⟨#[]⟩) ∧ w5 = w') := Lib.hid (name_any (o := 1) HE5.out (by omega))
  unfold t1
  go_wp2_with (go_at_call 19; first | (with_reducible refine N1.out.mono ?_; rintro e w6 ⟨rfl, rfl⟩) | (refine N2.out.mono ?_; rintro e w6 ⟨rfl, rfl⟩))
  go_ret
  exact ⟨rfl, HB5.out⟩
end Tx
end Go.Proofs.YtbemkaninedonaaGreatDoor

namespace Go.Proofs.YtbemkaninedonaaGreatDoor
open Go.RowKit Go.Maps Bv
namespace Tm
set_option maxHeartbeats 1000000
set_option maxRecDepth 100000

theorem len_made (p m : Nat) (sv : Option Addr) (n c : Nat) (W : World) (h : W.cell? ⟨p, 0, none⟩ = some (.slice sv n c)) (hm : W.cell? ⟨p, 1, none⟩ = some (.map (some m))) :
    Calls Tryz.prog 7 #[.pointer (some ⟨p, 0, none⟩)] W fun e W' => e = .returned (.int .i64 n) ∧ W = W' := by
  go_enter Tryz.func7, Tryz.ntmps7
  go_wp2_with (go_at_call 18; refine (none_made p m _ hm).mono ?_; rintro e w' ⟨rfl, rfl⟩)
  go_ret
  exact ⟨rfl, rfl⟩

theorem len_any {B p m : Nat} {sv : Value} {L : List Nd} {W : World} (S : StoreAt B W p m sv L) :
    Calls Tryz.prog 7 #[.pointer (some ⟨p, 0, none⟩)] W fun e W' => e = .returned (.int .i64 ((L.length : Nat) : Int)) ∧ W = W' := by
  obtain ⟨a, c, rfl⟩ := S.shape
  exact len_made p m a L.length c W S.c0 S.c1

theorem len_none (ptr : Value) (W : World) (h : NoneAt W ptr) :
    Calls Tryz.prog 7 #[ptr] W fun e W' => e = .returned (.int .i64 0) ∧ W = W' := by
  have HN := Lib.hid h
  clear h
  go_enter Tryz.func7, Tryz.ntmps7
  go_wp2_with (go_at_call 18; refine (isNone_any HN.out).mono ?_; rintro e w' ⟨rfl, rfl⟩)
  go_ret
  exact ⟨rfl, rfl⟩

theorem len_q {B p m : Nat} {sv : Value} {L : List Nd} {W : World} (S : StoreAt B W p m sv L) :
    Calls Tryz.prog 7 #[.pointer (some ⟨p, 0, none⟩)] W fun e W1 => e = .returned (.int .i64 ((L.length : Nat) : Int)) ∧ ∃ n, W1 = W.drewN n := by
  refine (len_any S).mono ?_
  rintro e w1 ⟨rfl, rfl⟩
  exact ⟨rfl, 0, rfl⟩

end Tm
end Go.Proofs.YtbemkaninedonaaGreatDoor

namespace Go.Proofs.YtbemkaninedonaaGreatDoor
open Go.RowKit Go.Maps Bv Tm
namespace Tx
set_option maxHeartbeats 1600000
set_option maxRecDepth 100000

theorem u64_ofs (i : Int) : IntKind.u64.wrap i = ((i % 18446744073709551616).toNat : Int) := by
  rw [IntKind.wrap_u64]
  omega

/-- Which node is asked: of the number the rest by how many nodes there are. -/
theorem pick_is (id : Int) {n : Nat} (h0 : n ≠ 0) (hn : n ≤ 60) : ∃ kk : Nat, wrap64 ((IntKind.u64.wrap id).tmod ((n : Nat) : Int)) = ((kk : Nat) : Int) ∧ kk < n := by
  rw [u64_ofs]
  obtain ⟨u, hu⟩ : ∃ u : Nat, (id % 18446744073709551616).toNat = u := ⟨_, rfl⟩
  rw [hu]
  have hlt := Nat.mod_lt u (show n > 0 by omega)
  have hm : ((u : Nat) : Int).tmod ((n : Nat) : Int) = ((u % n : Nat) : Int) := rfl
  refine ⟨u % n, ?_, hlt⟩
  rw [hm]
  unfold wrap64
  rw [← IntKind.wrap_i64, IntKind.wrap_i64]
  omega

theorem get_two {W w : World} {p m q : Nat} {L L' R : List Nd} {t : By} {a b : Nat} (h : TwoE W p m q L R w) (hE : EnvAt (fun i => W.heap.size ≤ i) W) (ht : t.length ≤ 9223372036854775807) (hg : getP L t = (L', a, b)) :
    Calls Tryz.prog 6 #[.pointer (some ⟨p, 0, none⟩), .string ⟨t.toArray⟩] w fun e w' => e = .returned (.tuple #[.int .i64 ((a : Nat) : Int), .int .i64 ((b : Nat) : Int)]) ∧ TwoE W p m q L' R w' := by
  obtain ⟨sv, rv, s⟩ := h
  refine (get_yes s.s s.b.size (env_at hE s.b) ht).mono ?_
  rintro e W' ⟨he, v, S', K, loc⟩
  rw [hg] at he S'
  exact ⟨he, v, rv, s.smake S' K loc⟩
theorem put_two {W w : World} {p m q k : Nat} {L R : List Nd} {val : Value} (h : TwoE W p m q L R w) (hE : EnvAt (fun i => W.heap.size ≤ i) W) (hm : MayL L) (hk : k < L.length) (hp : putR L k = val) :
    Calls Tryz.prog 5 #[.pointer (some ⟨p, 0, none⟩), .int .i64 ((k : Nat) : Int)] w fun e w' => e = .returned val ∧ TwoE W p m q L R w' := by
  subst hp
  obtain ⟨sv, rv, s⟩ := h
  refine (put_yes s.s hm (env_at hE s.b) hk).mono ?_
  rintro e W' ⟨he, hb⟩
  exact ⟨he, sv, rv, s.call hb⟩
theorem len_two {W w : World} {p m q : Nat} {L R : List Nd} (h : TwoE W p m q L R w) :
    Calls Tryz.prog 7 #[.pointer (some ⟨p, 0, none⟩)] w fun e w' => e = .returned (.int .i64 ((L.length : Nat) : Int)) ∧ w = w' := by
  obtain ⟨sv, rv, s⟩ := h
  exact len_any s.s
theorem TwoE.drew {W w : World} {p m q : Nat} {L R : List Nd} (h : TwoE W p m q L R w) : TwoE W p m q L R w.drew := h.call (Below.refl _ _).drew
theorem two_r {W w : World} {p m q : Nat} {L R : List Nd} (h : TwoE W p m q L R w) : ∃ ra rc, q < w.heap.size ∧ w.cell? ⟨q, 0, none⟩ = some (.slice ra R.length rc) := by
  obtain ⟨sv, rv, s⟩ := h
  obtain ⟨ra, rc, rfl⟩ := s.r.shape
  exact ⟨ra, rc, s.r.lt, s.r.c0⟩

theorem back_any {W : World} {al : Option Addr} {X : List Nd} {cl n : Nat} (id : Int) (t : By) (hX : ArgAt W al X) (hok : ∀ x ∈ X, x.Ok) (hn : n = X.length) (ht : t.length ≤ 9223372036854775807) (hE : EnvAt (fun i => W.heap.size ≤ i) W) :
    Calls Tryz.prog 3 #[.slice al n cl, .int .i64 id, .string ⟨t.toArray⟩] W fun e W' => e = .returned (.bool true) ∧ Below W.heap.size W W' := by
  have HM := Lib.hid (made_any (cl := cl) hX hok hn)
  have HE := Lib.hid hE
  have HT := Lib.hid ht
  clear hX hok hn hE ht
  go_enter Tryz.func3, Tryz.ntmps3
  go_wp2_with fail
  refine HM.out.mono ?_
  rintro e w1 ⟨q, L, rfl, hT, hM, hL⟩
  clear HM
  obtain ⟨ra, rc, lq, r0⟩ := two_r hT
  obtain ⟨L', c, er, hg⟩ : ∃ L' c er, getP L t = (L', c, er) := ⟨_, _, _, rfl⟩
  have HT1 := Lib.hid hT
  have HG := Lib.hid (fun (v : World) (h : TwoE W (W.heap.size + 1) W.heap.size q L L v) => get_two h HE.out HT.out hg)
  have HFW := Lib.hid (fun (h0 : er = 0) => got_text (c := c) hT.good hM (by rw [hg, h0]))
  have HMAY := Lib.hid hM
  have HGD := Lib.hid hT.good
  have HLL := Lib.hid hL
  clear hg hT hM hL
  go_upto_if 28 with fail
  go_cut [] (fun wx => TwoE W (W.heap.size + 1) W.heap.size q L L wx)
  case first =>
    by_cases hl : L.length = 0
    case pos =>
      rw [hl] at r0
      go_wp2_with fail
      go_meet
      exact HT1.out
    case neg =>
      have d0 : (((L.length : Nat) : Int) == 0) = false := by
        rw [beq_eq_false_iff_ne]
        omega
      have d1 : ¬ ((L.length : Nat) : Int) = 0 := by omega
      have d2 : (0 : Int) < ((L.length : Nat) : Int) := by omega
      have cw : IntKind.u64.wrap ((L.length : Nat) : Int) = ((L.length : Nat) : Int) := by have := HLL.out; rw [IntKind.wrap_u64]; omega
      obtain ⟨kk, hkk, hkl⟩ := pick_is id hl HLL.out
      have HKL := Lib.hid hkl
      by_cases hlen : (txt L kk).length ≤ 10000
      case pos =>
        have HPK := Lib.hid (put_two HT1.out HE.out HMAY.out hkl (val := .tuple #[.string ⟨(txt L kk).toArray⟩, .int .i64 0]) (by unfold putR; rw [if_pos hlen]))
        have HBK := Lib.hid (fun (v : World) (h : TwoE W (W.heap.size + 1) W.heap.size q L L v) => get_two h HE.out (by omega) (get_back HGD.out HMAY.out hkl hlen))
        obtain ⟨tk, htk⟩ : ∃ tk, txt L kk = tk := ⟨_, rfl⟩
        rw [htk] at HPK HBK
        clear hl hkl hlen htk HG HFW
        go_wp2_with fail
        simp only [hkk]
        with_reducible refine HPK.out.mono ?_
        rintro e w2 ⟨rfl, hT2⟩
        have HT2 := Lib.hid hT2
        clear hT2 r0 lq HT1
        go_wp2_with fail
        with_reducible refine (HBK.out _ HT2.out).mono ?_
        rintro e w3 ⟨rfl, hT3⟩
        obtain ⟨ra3, rc3, lq3, r3⟩ := two_r hT3
        have HT3 := Lib.hid hT3
        clear hT3 HT2 HPK HBK
        go_wp2_with fail
        go_quiet ((go_at_call 7; exact Calls.quiet_of_same ((len_two (HT3.out.call (bel_drewN (Below.refl _ _) _))).mono fun _ _ h => ⟨h.1, h.2.symm⟩)))
        go_wp2_with fail
        go_meet
        exact HT3.out.call (bel_drewN (Below.refl _ _) _)
      case neg =>
        have HPK := Lib.hid (put_two HT1.out HE.out HMAY.out hkl (val := .tuple #[.string ⟨#[]⟩, .int .i64 3]) (by unfold putR; rw [if_neg hlen]))
        clear hl hkl hlen HG HFW
        go_wp2_with fail
        simp only [hkk]
        with_reducible refine HPK.out.mono ?_
        rintro e w2 ⟨rfl, hT2⟩
        go_wp2_with fail
        go_meet
        exact hT2
  case rest =>
    have HT2 := Lib.hid hcut
    clear hcut r0 lq HT1
    by_cases he : er = 0
    case pos =>
      obtain ⟨g1, g2, g3, g4, g5⟩ := HFW.out he
      subst he
      have HG2 := Lib.hid g2
      have HG4 := Lib.hid g4
      have HPR : Hid (putR L' c = .tuple #[.string ⟨t.toArray⟩, .int .i64 0]) := Lib.hid (by unfold putR; rw [g1, if_pos g5])
      clear g1 g2 g3 g4 g5
      go_wp2_with fail
      with_reducible refine (HG.out _ HT2.out).mono ?_
      rintro e w3 ⟨rfl, hT3⟩
      have HT3 := Lib.hid hT3
      clear hT3 HT2
      go_wp2_with fail
      with_reducible refine (put_two HT3.out HE.out HG4.out HG2.out HPR.out).mono ?_
      rintro e w4 ⟨rfl, hT4⟩
      have HT4 := Lib.hid hT4
      clear hT4 HT3
      go_wp2_with (go_at_call 8; refine (works_any (env_at HE.out HT4.out.b)).mono ?_; rintro e w6 ⟨rfl, hb6⟩)
      go_ret
      exact ⟨rfl, bel_call HT4.out.b hb6⟩
    case neg =>
      have d3 : ¬ ((er : Nat) : Int) = 0 := by omega
      have d4 : (((er : Nat) : Int) == 0) = false := by rw [beq_eq_false_iff_ne]; omega
      clear he HFW
      go_wp2_with fail
      with_reducible refine (HG.out _ HT2.out).mono ?_
      rintro e w3 ⟨rfl, hT3⟩
      have HT3 := Lib.hid hT3
      clear hT3 HT2
      go_wp2_with (go_at_call 8; refine (works_any (env_at HE.out HT3.out.b)).mono ?_; rintro e w6 ⟨rfl, hb6⟩)
      go_ret
      exact ⟨rfl, bel_call HT3.out.b hb6⟩
end Tx
end Go.Proofs.YtbemkaninedonaaGreatDoor

namespace Go.Proofs.YtbemkaninedonaaGreatDoor
open Go.ChangeShapes Go.WideShapes Go.ChangeAt Go.RowKit Go.Joins Bv
namespace Tm
set_option maxHeartbeats 400000
set_option maxRecDepth 100000

theorem ownk : ownKnob Tryz.prog.godebug = none := by kernel_rfl

section
variable {H : Type} {enc : TypeId × Value → H} {P : Program}
/-- The row's last step, where the arguments hold no memory and the call has made new blocks alone. -/
theorem post_new {f : Func} {s : ChangeSpec} {W W' : World} {args : Array Value} {v : Value} {ds : List (DataW H)}
    (hW : DataW.Whole enc P f.params.toList s.vars false W args.toList ds [] [])
    (hres : ∀ (b : Nat) (sp : Nat → Bool) (hd : Bool), DataW.TrodAll enc P W' b sp hd f.resultTypes.toList (v.resultList f.resultTypes.size) (s.fn H (ds ++ [])).results [])
    (hargs : ∀ sp : Nat → Bool, DataW.TrodAll enc P W' 0 sp true f.params.toList args.toList (s.fn H (ds ++ [])).args [])
    (hvars : ∀ sp : Nat → Bool, DataW.TrodVars enc P W' sp s.vars (s.fn H (ds ++ [])).vars []) (hb : Below W.heap.size W W') :
    s.post enc P f false true false false W args v W' :=
  ⟨ds, [], [], [], [], [], hW, hres _ _ _, hargs _, hvars _, hb.frame _, fun h => by cases h⟩
end

section
variable {H : Type} {enc : TypeId × Value → H}

def Nd.datum {H : Type} (x : Nd) : DataW H := .agg [.lit (.int .u8 x.o), .lit (.int .u8 x.w), .agg [.lit (.int .i64 x.k0), .lit (.int .i64 x.k1), .lit (.int .i64 x.k2)], .lit (.int .u64 x.n), .lit (.int .u8 x.l)]

theorem nd_reads (x : Nd) (hx : x.Ok) (W : World) (base : Nat) (sp : Nat → Bool) (hd : Bool) (n : Nat) : DataW.trod enc Tryz.prog W base sp hd (n + 3) 45 x.cells.toList = some (x.datum, []) := by
  have a0 := wf_u8 hx.o
  have a1 := wf_u8 hx.w
  have a2 := wf_i64 hx.k0
  have a3 := wf_i64 hx.k1
  have a4 := wf_i64 hx.k2
  have a5 := wf_u64 hx.n
  have a6 := wf_u8 hx.l
  simp [DataW.trod, Tryz.underlying45, Tryz.underlying42, Tryz.underlying41, Tryz.underlying5, Tryz.underlying3, Tryz.underlying43, cells_nd, cells_kids, cells_op, cells_u8, cells_int, cells_u64,
    Nd.cells, Nd.datum, List.range, List.range.loop, a0, a1, a2, a3, a4, a5, a6]

theorem u8_of {a : Int} (h : (Lit.int .u8 a).wf = true) : ∃ n : Nat, a = (n : Int) ∧ n ≤ 255 := by
  simp only [Lit.wf, IntKind.min, IntKind.max, IntKind.signed, IntKind.bits, Bool.and_eq_true] at h
  obtain ⟨n, rfl⟩ := Int.eq_ofNat_of_zero_le (a := a) (by simpa using h.1)
  exact ⟨n, rfl, by have := h.2; simp at this; omega⟩
theorem u64_of {a : Int} (h : (Lit.int .u64 a).wf = true) : ∃ n : Nat, a = (n : Int) ∧ n < 18446744073709551616 := by
  simp only [Lit.wf, IntKind.min, IntKind.max, IntKind.signed, IntKind.bits, Bool.and_eq_true] at h
  obtain ⟨n, rfl⟩ := Int.eq_ofNat_of_zero_le (a := a) (by simpa using h.1)
  exact ⟨n, rfl, by have := h.2; simp at this; omega⟩
theorem i64_of {a : Int} (h : (Lit.int .i64 a).wf = true) : I64 a := by
  simp only [Lit.wf, IntKind.min, IntKind.max, IntKind.signed, IntKind.bits, Bool.and_eq_true] at h
  have h1 := h.1
  have h2 := h.2
  simp at h1 h2
  exact ⟨by omega, by omega⟩

theorem nd_open {W : World} {base : Nat} {sp : Nat → Bool} {hd : Bool} {fuel : Nat} {cs : List Value} {y : DataW H × List MemPlace} (h : DataW.trod enc Tryz.prog W base sp hd fuel 45 cs = some y) :
    ∃ x : Nd, x.Ok ∧ cs = x.cells.toList ∧ y = (x.datum, []) := by
  obtain ⟨xs, n, _, rfl, hl, hlen, hf⟩ := DataW.trod_struct Tryz.underlying45 h
  rw [cells_nd] at hl
  match cs, hl with
  | [c0, c1, c2, c3, c4, c5, c6], _ =>
  match xs, hlen with
  | [y0, y1, y2, y3, y4], _ =>
  have h0 := hf 0 _ rfl
  have h1 := hf 1 _ rfl
  have h2 := hf 2 _ rfl
  have h3 := hf 3 _ rfl
  have h4 := hf 4 _ rfl
  simp [cells_op, cells_u8, cells_kids, cells_u64] at h0 h1 h2 h3 h4
  obtain ⟨a0, e0, z0, w0⟩ := DataW.trod_int Tryz.underlying41 h0
  obtain ⟨a1, e1, z1, w1⟩ := DataW.trod_int Tryz.underlying5 h1
  obtain ⟨t0, t1, t2, n2, z2, k0, k1, k2⟩ := trod_array3 Tryz.underlying42 cells_int h2
  obtain ⟨b0, f0, v0, u0⟩ := DataW.trod_int Tryz.underlying3 k0
  obtain ⟨b1, f1, v1, u1⟩ := DataW.trod_int Tryz.underlying3 k1
  obtain ⟨b2, f2, v2, u2⟩ := DataW.trod_int Tryz.underlying3 k2
  obtain ⟨a3, e3, z3, w3⟩ := DataW.trod_int Tryz.underlying43 h3
  obtain ⟨a4, e4, z4, w4⟩ := DataW.trod_int Tryz.underlying5 h4
  simp only [List.cons.injEq, and_true] at e0 e1 f0 f1 f2 e3 e4
  subst e0 e1 f0 f1 f2 e3 e4
  subst v0 v1 v2
  subst z0 z1 z2 z3 z4
  obtain ⟨o, rfl, ho⟩ := u8_of w0
  obtain ⟨w, rfl, hw⟩ := u8_of w1
  obtain ⟨m, rfl, hm⟩ := u64_of w3
  obtain ⟨l, rfl, hl⟩ := u8_of w4
  exact ⟨⟨o, w, b0, b1, b2, m, l⟩, ⟨ho, hw, i64_of u0, i64_of u1, i64_of u2, hm, hl⟩, rfl, rfl⟩

/-- A node by value. -/
theorem open_nd {W : World} {base b0 : Nat} {spare : Nat → Bool} {held : Bool} {r : Go.Reach} {v : Value} {d : DataW H} {p : List MemPlace}
    (hv : Value.okWide Tryz.prog W r b0 45 v) (h : DataW.Trod enc Tryz.prog W base spare held 45 v d p) :
    ∃ x : Nd, x.Ok ∧ v = x.val ∧ p = [] ∧ ∀ (W' : World) (b : Nat) (sp : Nat → Bool) (hd : Bool), DataW.Trod enc Tryz.prog W' b sp hd 45 x.val d [] := by
  obtain ⟨cs, rfl, _⟩ := okWide_struct Tryz.underlying45 hv
  obtain ⟨fuel, hf⟩ := h
  obtain ⟨x, hx, hc, hy⟩ := nd_open hf
  simp only [Prod.mk.injEq] at hy
  obtain ⟨rfl, rfl⟩ := hy
  refine ⟨x, hx, ?_, rfl, fun W' b sp hd => ⟨3, nd_reads x hx W' b sp hd 0⟩⟩
  have : cs = x.cells := by
    simp only [Value.cells] at hc
    exact Array.toList_inj.1 hc
  rw [this]
  rfl
end
end Tm
end Go.Proofs.YtbemkaninedonaaGreatDoor

namespace Go.Proofs.YtbemkaninedonaaGreatDoor
open Go.ChangeShapes Go.WideShapes Go.ChangeAt Go.RowKit Go.Joins Bv
namespace Tm
set_option maxHeartbeats 400000

/-- A list of nodes handed in. -/
theorem open_nodes {H : Type} {enc : TypeId × Value → H} {W : World} {al : Option Addr} {len cap : Nat} {d : DataW H} {ps : List MemPlace} (h : DataW.Trod enc Tryz.prog W 0 (fun _ => true) true 22 (.slice al len cap) d ps) :
    ∃ X : List Nd, len = X.length ∧ (∀ x ∈ X, x.Ok) ∧ ArgAt W al X := by
  obtain ⟨fuel, hf⟩ := h
  rcases Go.Deep.open_slice Tryz.underlying22 hf with ⟨hcs, _⟩ | ⟨a, len', cap', m, n, D, Pl, hcs, _, hl, _, hm, _, hall⟩
  · simp [Value.cells] at hcs
    obtain ⟨_, rfl, _⟩ := hcs
    exact ⟨[], rfl, by simp, .inl rfl⟩
  · simp [Value.cells] at hcs
    obtain ⟨rfl, rfl, rfl⟩ := hcs
    simp only [if_true] at hm
    have hex : ∀ i : Nat, ∃ x : Nd, i < m → x.Ok ∧ W.cells? 0 (a.add (i * 7)) 7 = some x.cells.toList := by
      intro i
      by_cases hi : i < m
      · obtain ⟨cs', h1, h2⟩ := hall i hi
        obtain ⟨x, hx, rfl, _⟩ := nd_open h2
        rw [cells_nd] at h1
        exact ⟨x, fun _ => ⟨hx, h1⟩⟩
      · exact ⟨⟨0, 0, 0, 0, 0, 0, 0⟩, fun c => absurd c hi⟩
    obtain ⟨f, hfx⟩ := Classical.axiomOfChoice hex
    refine ⟨(List.range len).map f, by simp, ?_, ?_⟩
    · intro x hx
      obtain ⟨i, hi, rfl⟩ := List.mem_map.1 hx
      exact (hfx i (by have := List.mem_range.1 hi; omega)).1
    · by_cases h0 : len = 0
      · left; subst h0; rfl
      · right
        obtain ⟨bl, ol, sp⟩ := a
        have hcell : ∀ i, i < len → ∀ j u, (f i).cells.toList[j]? = some u → W.cell? (((⟨bl, ol, sp⟩ : Addr).add (i * 7)).add j) = some u := by
          intro i hi j u hj
          have hc := (hfx i (by omega)).2
          obtain ⟨_, hc1, hc2⟩ := World.cells?_some hc
          have hj7 : j < 7 := by have := (List.getElem?_eq_some_iff.1 hj).1; simpa [Nd.cells] using this
          have := hc2 j hj7
          rw [this, hj]
        have c0 := hcell 0 (by omega) 0 _ rfl
        simp only [Nat.zero_mul, Addr.add, if_true] at c0
        have hs : sp = none := by simpa using World.cell?_spot c0
        subst hs
        refine ⟨bl, ol, rfl, World.block_lt_of_cell? W _ c0, ?_⟩
        intro i x hx j u hj
        have hi : i < len := by have := (List.getElem?_eq_some_iff.1 hx).1; simpa using this
        have hx' : x = f i := by simp [hi] at hx; exact hx.symm
        subst hx'
        have := hcell i hi j u hj
        have e : ((⟨bl, ol, none⟩ : Addr).add (i * 7)).add j = ⟨bl, ol + i * 7 + j, none⟩ := by
          unfold Addr.add
          split <;> split <;> simp_all
        rw [e] at this
        exact this

theorem laid : laidOutB Tryz.prog = true := by kernel_rfl

end Tm
end Go.Proofs.YtbemkaninedonaaGreatDoor

namespace Go.Proofs.YtbemkaninedonaaGreatDoor
open Go.RowKit Go.Maps Bv Tm
namespace Tx
set_option maxHeartbeats 1600000
set_option maxRecDepth 100000

def laidL : List (String × DataW Unit) := [("math/bits.deBruijn32tab", Rows.laid_math_bits_deBruijn32tab), ("math/bits.deBruijn64tab", Rows.laid_math_bits_deBruijn64tab), ("internal/strconv.uint64pow10", Rows.laid_internal_strconv_uint64pow10), ("strconv.ErrRange", Rows.laid_strconv_ErrRange), ("strconv.ErrSyntax", Rows.laid_strconv_ErrSyntax), ("augury/text.names", Rows.laid_augury_text_names)]

theorem gER : Tryz.prog.globalNamed "strconv.ErrRange" = some 3 := by kernel_rfl
theorem gES : Tryz.prog.globalNamed "strconv.ErrSyntax" = some 2 := by kernel_rfl
theorem gNM : Tryz.prog.globalNamed "augury/text.names" = some 0 := by kernel_rfl
theorem yER : (Tryz.prog.globals[3]?).map (·.type) = some 111 := by kernel_rfl
theorem yES : (Tryz.prog.globals[2]?).map (·.type) = some 111 := by kernel_rfl
theorem yPW : (Tryz.prog.globals[1]?).map (·.type) = some 128 := by kernel_rfl
theorem yNM : (Tryz.prog.globals[0]?).map (·.type) = some 73 := by kernel_rfl
theorem cU : Tryz.prog.cellsOf 43 = 1 := by kernel_rfl
theorem cP : Tryz.prog.cellsOf 128 = 20 := by kernel_rfl
theorem cS : Tryz.prog.cellsOf 9 = 1 := by kernel_rfl
theorem cE : Tryz.prog.cellsOf 148 = 1 := by kernel_rfl
theorem starE : "*" ++ "errors.errorString" = "*errors.errorString" := by decide
theorem rowE (u : TypeId) (h : Tryz.prog.typeName? 3 u = some "*errors.errorString") : u = 146 :=
  typeName_ptr_named (nm := "errors.errorString") (by rw [starE]; kernel_rfl) (by kernel_rfl) (by decide) u (by rw [starE]; exact h)

theorem names_data : (Rows.laid_augury_text_names : DataW Unit) = .agg (nameL.map fun l => .lit (.string l)) := rfl

theorem env_of_laid {W : World} (h : laidMet Tryz.prog laidL W) : EnvAt (fun i => W.heap.size ≤ i) W := by
  have h2 : laidMet Tryz.prog (("internal/strconv.uint64pow10", Lib.tabData .u64 Lib.pow10Tab) :: laidL.tail.tail.tail) W := h.tail.tail
  have hp : Lib.TabIs Tryz.prog W "internal/strconv.uint64pow10" .u64 Lib.pow10Tab := Lib.tabIs_of_head gpow yPW Tryz.underlying128 Tryz.underlying43 cU cP h2
  obtain ⟨a3, s3, hv3, -, -, -⟩ := laid_sentinel (h.tail.tail.tail) gER yER Tryz.underlying111 rowE Tryz.underlying146 Tryz.underlying148 rfl rfl Tryz.underlying9 cE cS
  obtain ⟨a4, s4, hv4, -, -, -⟩ := laid_sentinel (h.tail.tail.tail.tail) gES yES Tryz.underlying111 rowE Tryz.underlying146 Tryz.underlying148 rfl rfl Tryz.underlying9 cE cS
  have cer : W.cell? ⟨3, 0, none⟩ = some (.iface 146 (.pointer (some a3))) := by have h0 := World.var?_cell gER hv3 0; simpa using h0
  have ces : W.cell? ⟨2, 0, none⟩ = some (.iface 146 (.pointer (some a4))) := by have h0 := World.var?_cell gES hv4 0; simpa using h0
  have cpw := Lib.TabIs.cell hp gpow 0 (by decide)
  have lpw := World.block_lt_of_cell? W _ cpw
  have hnames : ∀ (o : Nat) (s : By), nameL[o]? = some s → W.cell? ⟨0, o, none⟩ = some (.string ⟨s.toArray⟩) := by
    intro o s hs
    have ho : o < 26 := (List.getElem?_eq_some_iff.1 hs).1
    obtain ⟨g, t, cs, fuel, p, hg, ht, hv, hd⟩ := Lib.laidMet.reads h (n := "augury/text.names") (d := Rows.laid_augury_text_names) (by unfold laidL; simp)
    obtain rfl := Option.some.inj (gNM.symm.trans hg)
    obtain rfl := Option.some.inj (yNM.symm.trans ht)
    rw [names_data] at hd
    obtain ⟨f2, d, q, hd1, hd2⟩ := Lib.array_elem Tryz.underlying73 hd o ho
    rw [cS] at hd2
    obtain ⟨sv, hcs, hx, _⟩ := DataW.trod_string Tryz.underlying9 hd2
    have hds : d = .lit (.string s) := by
      rw [List.getElem?_map, hs] at hd1
      simpa using hd1.symm
    rw [hds] at hx
    have hsv : sv.data.toList = s := by
      have h9 := hx.symm
      simp at h9
      exact h9.1
    have hat : cs.toList[o]? = some (.string sv) := by
      have := congrArg (·[0]?) hcs
      simpa [List.getElem?_take, List.getElem?_drop] using this
    have hc := World.var?_cell gNM hv o
    rw [hc]
    have : cs[o]? = some (.string sv) := by simpa using hat
    rw [this, ← hsv]
  have lnm := World.block_lt_of_cell? W _ (hnames 0 [] rfl)
  have les := World.block_lt_of_cell? W _ ces
  have ler := World.block_lt_of_cell? W _ cer
  exact ⟨hnames, hp, ⟨_, _, ces⟩, ⟨_, _, cer⟩, lpw, fun c => absurd (Nat.lt_of_lt_of_le lnm c) (Nat.lt_irrefl _), fun c => absurd (Nat.lt_of_lt_of_le lpw c) (Nat.lt_irrefl _), fun c => absurd (Nat.lt_of_lt_of_le les c) (Nat.lt_irrefl _), fun c => absurd (Nat.lt_of_lt_of_le ler c) (Nat.lt_irrefl _)⟩
end Tx
end Go.Proofs.YtbemkaninedonaaGreatDoor
