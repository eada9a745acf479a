/-
All comes that follows, unless a clause has nothing left.
A literal is sure, and what follows from it.
The library's IndexFunc and DeleteFunc over a list of the call's own, with the checker's own predicate.
-/
import Derived.Test.YtmgkgbhkaoflhaaA7
import Derived.Deep.Upon
namespace Go.Proofs.Ytmgkgbhkaoflhaa
open Go.RowKit
namespace Rw
open Cf Rp
set_option maxHeartbeats 6400000
set_option maxRecDepth 100000

/-- What 'follow' has done. -/
def FollowE (B v : Nat) (C : Cl) (G : List Int) (W : World) (k : Nat) (L : Lay) (s : PS) (e : Ending) (w : World) : Prop :=
  ∃ (b : Bool) (L' : Lay) (s' : PS), e = .returned (.bool b) ∧ KAt B v w k L' s' (s'.T.elem ·) none ∧ Kept L W w L' ∧ Like s s' ∧ RI v C G s' (fun _ z => s'.S z = true) ∧ (b = true → ∀ id ∈ s'.ids, ∀ x y, Two s' id x y → s'.hol (-x) = true → s'.hol y = true) ∧ (b = false → Bad C G)
theorem follow_broken {B v : Nat} {W : World} {k : Nat} {L : Lay} {s : PS} {D : Int → Bool} {gap : Option Nat} (h : KAt B v W k L s D gap) (hb : s.br = true) :
    Calls Try.prog 31 #[.pointer (some ⟨k, 0, none⟩)] W fun e w => e = .returned (.bool false) ∧ w = W := by
  have c5 : W.cell? ⟨k, 5, none⟩ = some (.bool true) := by rw [h.cells.1 5, ← hb]; rfl
  obtain ⟨ca, cc, hcv⟩ := row_shape h.ca
  have c4 : W.cell? ⟨k, 4, none⟩ = some (.slice ca s.T.length cc) := by rw [h.cells.1 4, ← hcv]; rfl
  clear h hcv hb
  obtain ⟨n, hn⟩ : ∃ n, n = s.T.length := ⟨_, rfl⟩
  rw [← hn] at c4
  clear hn
  by_cases h0 : 0 < n
  · have q0 : (0 : Int) < ((n : Nat) : Int) := by omega
    go_enter Try.func31, Try.ntmps31
    go_wp2_with fail
    go_loopg [3] 0 (fun gk v3 wr => v3 = .int .i64 0 ∧ wr = W)
    case atStart => exact ⟨rfl, rfl⟩
    case round =>
      obtain ⟨rfl, rfl⟩ := hrel
      go_wp2_with fail
      go_ret
      exact ⟨rfl, rfl⟩
  · have h0 : n = 0 := by omega
    subst h0
    go_enter Try.func31, Try.ntmps31
    go_wp2_with fail
    go_loopg [3] 0 (fun gk v3 wr => v3 = .int .i64 0 ∧ wr = W)
    case atStart => exact ⟨rfl, rfl⟩
    case round =>
      obtain ⟨rfl, rfl⟩ := hrel
      go_wp2_with fail
      go_ret
      exact ⟨rfl, rfl⟩
theorem hol_take {s : PS} {z : Int} {i : Nat} (h : s.S z = true ∨ z ∈ s.T.take i) : s.hol z = true := by
  unfold PS.hol
  rcases h with h | h
  · rw [h]; rfl
  · have := List.mem_of_mem_take h
    simp [this]
theorem follow_any {B v : Nat} {C : Cl} {G : List Int} {W : World} {k : Nat} {L : Lay} {s : PS} (h : KAt B v W k L s (s.T.elem ·) none) (hv : v ≤ 1000000) (hB : B ≤ W.heap.size) (hbr : s.br = false) (hri : RI v C G s (fun _ z => s.S z = true)) (hids : s.ids.length ≤ 1000000) (hlen : ∀ c ∈ s.ids, (s.lit c).length ≤ 1000000) :
    Calls Try.prog 31 #[.pointer (some ⟨k, 0, none⟩)] W (FollowE B v C G W k L s) := by
  have HK := Lib.hid h
  have HRI := Lib.hid hri
  have HLEN := Lib.hid hlen
  have HBR := Lib.hid hbr
  have HB := Lib.hid hB
  have HS : Hid (RI v C G s (fun _ z => s.S z = true ∨ z ∈ s.T.take 0)) := Lib.hid (hri.weak (fun id _ z hz => hz.resolve_right (by simp)) fun id z hz => hol_take hz)
  clear h hri hlen hbr hB
  go_enter Try.func31, Try.ntmps31
  go_wp2_with fail
  go_loopg [3] (2 * v + 2) (fun gk v3 wr => ∃ (i : Nat) (Lc : Lay) (sc : PS), v3 = .int .i64 ((i : Nat) : Int) ∧ i + gk = 2 * v + 2 ∧ i ≤ sc.T.length ∧ KAt B v wr k Lc sc (sc.T.elem ·) none ∧ Kept L W wr Lc ∧ Like s sc ∧ RI v C G sc (fun _ z => sc.S z = true ∨ z ∈ sc.T.take i))
  case atStart => exact ⟨0, L, s, rfl, by omega, Nat.zero_le _, HK.out, Kept.refl _ _, Like.refl _, HS.out⟩
  case round =>
    obtain ⟨i, Lc, sc, rfl, hgk, hi, hk, hp, hlk, hr⟩ := hrel
    clear HK HRI HS
    have hTn := nodup_lits hr.nod.1 (fun x hx => (hr.nod.2 x hx).1)
    have hbr : sc.br = false := hlk.br.trans HBR.out
    have c5 : wr.cell? ⟨k, 5, none⟩ = some (.bool false) := by rw [hk.cells.1 5, ← hbr]; rfl
    have hca := hk.ca
    obtain ⟨ca, cc, hcv⟩ := row_shape hk.ca
    have c4 : wr.cell? ⟨k, 4, none⟩ = some (.slice ca sc.T.length cc) := by rw [hk.cells.1 4, ← hcv]; rfl
    obtain ⟨n, hn⟩ : ∃ n, n = sc.T.length := ⟨_, rfl⟩
    rw [← hn] at c4 hi hTn
    have i0 : (0 : Int) ≤ ((i : Nat) : Int) := by omega
    have HKC := Lib.hid (And.intro hk (And.intro hp hlk))
    have HR := Lib.hid hr
    have HN := Lib.hid hn
    have HGK := Lib.hid hgk
    by_cases hlt : i < n
    · have q1 : ((i : Nat) : Int) < ((n : Nat) : Int) := by omega
      obtain ⟨g, cp, hv2, _, hcl, _⟩ := row_at hca (by omega)
      obtain ⟨x, hx⟩ : ∃ x, sc.T[i]? = some x := ⟨_, List.getElem?_eq_getElem (by omega)⟩
      have hxc : wr.cell? ⟨g, i, none⟩ = some (.int .i64 x) := by rw [hcl i (by omega)]; simp [rowI, hx]
      have hxl := hr.nod.2 x (List.mem_of_getElem? hx)
      rw [hcv] at hv2
      injection hv2 with e1 e2 e3
      subst e1
      have x1 := isL_ne hxl.1
      have x2 : wrap64 (-x) = -x := by unfold wrap64; omega
      have HX := Lib.hid (And.intro hx hxl.1)
      have hso : sc.hol (- -x) = true := by rw [Int.neg_neg]; unfold PS.hol; simp [List.mem_of_getElem? hx]
      have HLV := Lib.hid (leave_any (P := fun z => sc.S z = true ∨ z ∈ sc.T.take i) hk hv (Nat.le_trans HB.out hp.size) (isL_neg hxl.1) hr hso (by rw [hlk.ids]; exact hids) (fun c hc => by rw [hlk.ids] at hc; rw [hlk.len hc]; exact HLEN.out c hc))
      clear hk hp hlk hr hcv hca hcl hx hxl hso hn hgk hbr hi
      go_wp2_with fail
      refine HLV.out.mono ?_
      rintro e w1 ⟨b, L1, s1, rfl, hk1, hp1, hl1, ht, hf, hb⟩
      have H1 := Lib.hid (And.intro hk1 (And.intro (HKC.out.2.1.trans hp1) (And.intro (HKC.out.2.2.trans hl1) (And.intro hl1 (And.intro hf hb)))))
      have HT := Lib.hid ht
      clear hk1 hp1 hl1 hf hb ht HLV
      cases b with
      | true =>
        go_wp2_with fail
        go_roundg (gk - 1)
        case measure => have := HGK.out; omega
        case rel =>
          obtain ⟨more, hm⟩ := H1.out.2.2.2.1.T
          have hin : ∀ z, z ∈ s1.T.take (i + 1) → z ∈ sc.T.take i ∨ z = x := fun z hz => by
            rw [hm, List.take_append_of_le_length (by have := HN.out; omega), List.take_add_one, HX.out.1] at hz
            simpa using hz
          refine ⟨i + 1, L1, s1, rfl, by have := HGK.out; omega, by rw [hm]; simp; have := HN.out; omega, H1.out.1, H1.out.2.1, H1.out.2.2.1, (HT.out (by first | rfl | trivial)).weak (fun id _ z hz => ?_) fun id z hz => hol_take hz⟩
          rcases hz with hz | hz
          · exact .inl (.inl (by rw [← H1.out.2.2.2.1.S]; exact hz))
          · rcases hin z hz with e | e
            · exact .inl (.inr e)
            · exact .inr (by rw [e, Int.neg_neg])
      | false =>
        go_wp2_with fail
        go_ret
        exact ⟨false, L1, s1, rfl, H1.out.1, H1.out.2.1, H1.out.2.2.1, H1.out.2.2.2.2.2, fun e => (by cases e), fun _ => H1.out.2.2.2.2.1 (by first | rfl | trivial)⟩
    · obtain rfl : i = n := by omega
      have q1 : decide (((i : Nat) : Int) < ((i : Nat) : Int)) = false := decide_eq_false (by omega)
      clear hk hp hlk hr hcv hca hn hgk hbr hi hTn
      go_wp2_with fail
      go_ret
      refine ⟨true, Lc, sc, rfl, HKC.out.1, HKC.out.2.1, HKC.out.2.2, HR.out.base, fun _ id hid x y ht hx => HR.out.pr id hid x y ht ?_, fun e => (by cases e)⟩
      rw [HN.out, List.take_length]
      unfold PS.hol at hx
      simpa using hx
end Rw
end Go.Proofs.Ytmgkgbhkaoflhaa

namespace Go.Proofs.Ytmgkgbhkaoflhaa
open Go.RowKit
namespace Rw
open Cf Rp
set_option maxHeartbeats 6400000
set_option maxRecDepth 100000

theorem CmpA.like {C : Cl} {s s' : PS} (h : CmpA C s) (hl : Like s s') : CmpA C s' := fun k hk => by
  rcases h k hk with e | ⟨x, e1, e2⟩ | ⟨id, e1, e2⟩
  · exact .inl e
  · exact .inr (.inl ⟨x, e1, hl.hol e2⟩)
  · exact .inr (.inr ⟨id, by rw [hl.ids]; exact e1, fun x hx => e2 x ((hl.perm id e1).mem_iff.1 hx)⟩)
/-- What 'decide' has done. -/
def DecideE (B v : Nat) (C : Cl) (W : World) (k : Nat) (L : Lay) (s : PS) (e : Ending) (w : World) : Prop :=
  e = .returned (.tuple #[]) ∧ ∃ (L' : Lay) (s' : PS), KAt B v w k L' s' (s'.T.elem ·) none ∧ Kept L W w L' ∧ s'.T = [] ∧ s'.ids = s.ids ∧ (∀ id ∈ s.ids, (s'.lit id).Perm (s.lit id)) ∧ CI v C s'
/-- What is sure is said to be otherwise. -/
theorem KAt.sayS {B v : Nat} {w : World} {k : Nat} {L : Lay} {s : PS} {D : Int → Bool} {gap : Option Nat} (h : KAt B v w k L s D gap) {S' : Int → Bool} (he : ∀ x, s.S x = S' x) : KAt B v w k L { s with S := S' } D gap := by
  have : s.S = S' := funext he
  rw [← this]; exact h
theorem decide_any {B v : Nat} {C : Cl} {W : World} {k : Nat} {L : Lay} {s : PS} (h : KAt B v W k L s (s.T.elem ·) none) (hv : v ≤ 1000000) (hB : B ≤ W.heap.size) {l : Int} (hl : isL l v = true) (hT : s.T = []) (hids : s.ids.length ≤ 1000000) (hlen : ∀ c ∈ s.ids, (s.lit c).length ≤ 1000000) (hwi : WI v s) (hbad : s.br = true → Bad C [])
    (hok : s.br = false → RI v C [] s (fun _ z => s.S z = true) ∧ Ent C [] l ∧ s.hol (-l) = false ∧ CmpA C (s.come l)) :
    Calls Try.prog 44 #[.pointer (some ⟨k, 0, none⟩), .int .i64 l] W (DecideE B v C W k L s) := by
  have HC := Lib.hid (come_any h hv hB hl (by rw [hT]; decide))
  have HW := Lib.hid hwi
  have HBAD := Lib.hid hbad
  have HOK := Lib.hid hok
  have HLEN := Lib.hid hlen
  have HB := Lib.hid hB
  have HL := Lib.hid hl
  have HTT := Lib.hid hT
  clear h hwi hbad hok hlen hB hl hT
  go_enter Try.func44, Try.ntmps44
  go_wp2_with fail
  refine HC.out.mono ?_
  rintro e w1 ⟨rfl, L1, hk1, hp1⟩
  obtain ⟨q1, q2, q3, q4, q5, q6⟩ := come_parts (s := s) (x := l)
  have hT1 : (s.come l).T.length ≤ 1 := by unfold PS.come; split <;> simp [HTT.out]
  have HF : Hid (Calls Try.prog 31 #[.pointer (some ⟨k, 0, none⟩)] w1 fun e w => ∃ (b : Bool) (L' : Lay) (s' : PS), e = .returned (.bool b) ∧ KAt B v w k L' s' (s'.T.elem ·) none ∧ Kept L1 w1 w L' ∧ Like (s.come l) s' ∧ s'.T.length ≤ 2 * v + 1 ∧ (∀ x ∈ s'.T, isL x v = true) ∧ CI v C { s' with br := !b, S := s'.hol, T := [] }) := by
    show Calls _ _ _ _ _
    cases hb : s.br with
    | true =>
      refine (follow_broken hk1 (by rw [q6]; exact hb)).mono ?_
      rintro e w ⟨rfl, rfl⟩
      refine ⟨false, L1, s.come l, rfl, hk1, Kept.refl _ _, Like.refl _, by omega, fun x hx => ?_, CI.broken (HW.out.same q1 q2 q3 q4) (HBAD.out hb) rfl⟩
      unfold PS.come at hx
      split at hx
      · rw [HTT.out] at hx; cases hx
      · simp [HTT.out] at hx
        rw [hx]; exact HL.out
    | false =>
      obtain ⟨r1, r2, r3, r4⟩ := HOK.out hb
      refine (follow_any hk1 hv (Nat.le_trans HB.out hp1.size) (by rw [q6]; exact hb) (by have := r1.come r2 r3 HL.out; rw [q5]; exact this) (by rw [q2]; exact hids) (fun c hc => by rw [q2] at hc; rw [q3]; exact HLEN.out c hc)).mono ?_
      rintro e w ⟨b, L2, s2, rfl, hk2, hp2, hl2, hr2, ht2, hf2⟩
      have hn := nodup_lits hr2.nod.1 (fun x hx => (hr2.nod.2 x hx).1)
      refine ⟨b, L2, s2, rfl, hk2, hp2, hl2, hn, fun x hx => (hr2.nod.2 x hx).1, ?_⟩
      cases b with
      | true =>
        have hbr : s2.br = false := hl2.br.trans (q6.trans hb)
        have := hr2.sure (ht2 rfl) (r4.like hl2) hbr
        rw [hbr] at this
        exact this
      | false => exact CI.broken (hr2.wi.same rfl rfl rfl rfl) (hf2 rfl) rfl
  have HP1 := Lib.hid hp1
  have HQ := Lib.hid (And.intro q2 q3)
  clear hk1 hp1 HC HW HBAD HOK q1 q2 q3 q4 q5 q6 hT1
  go_wp2_with fail
  refine HF.out.mono ?_
  rintro e w2 ⟨b, L2, s2, rfl, hk2, hp2, hl2, hn2, hi2, hci⟩
  clear HF
  have K3 := hk2.setBr (!b)
  have P3 := (HP1.out.trans hp2).put (g := k) (by rw [hk2.tk]; nofun) 5 (.bool (!b))
  have c5 : w2.cell? ⟨k, 5, none⟩ = some (.bool s2.br) := hk2.cells.1 5
  have f5 := hk2.cells.2 5
  have hca := K3.ca
  obtain ⟨ca, cc, hcv⟩ := row_shape K3.ca
  have c4 : (w2.setCell ⟨k, 5, none⟩ (.bool (!b))).cell? ⟨k, 4, none⟩ = some (.slice ca s2.T.length cc) := by rw [K3.cells.1 4, ← hcv]; rfl
  obtain ⟨n, hn⟩ : ∃ n, n = s2.T.length := ⟨_, rfl⟩
  rw [← hn] at c4 hn2
  have HK3 := Lib.hid (And.intro K3 P3)
  have HCI := Lib.hid hci
  have HI2 := Lib.hid hi2
  have HL2 := Lib.hid hl2
  have HN := Lib.hid hn
  have HCV := Lib.hid hcv
  clear hk2 hp2 hl2 hi2 hci K3 P3 hca hcv hn
  go_wp2_with fail
  go_loopg [20] n (fun gk v20 wr => ∃ i : Nat, v20 = .int .i64 ((i : Nat) : Int) ∧ i + gk = n ∧ KAt B v wr k L2 { s2 with S := fun x => s2.S x || (s2.T.take i).elem x, br := !b } (s2.T.elem ·) none ∧ Kept L W wr L2)
  case atStart => exact ⟨0, rfl, by omega, HK3.out.1.sayS (fun x => by simp), HK3.out.2⟩
  case round =>
    obtain ⟨i, rfl, hi, hk, hp⟩ := hrel
    clear c4 c5 f5
    have hca : wr.ownsRow B 3 1 L2.cv s2.T.length (rowI s2.T) := hk.ca
    have hsu : BitsAt wr L2.sb (nw v) fun q => s2.S (lt v q) || (s2.T.take i).elem (lt v q) := hk.su
    have i0 : (0 : Int) ≤ ((i : Nat) : Int) := by omega
    have HI := Lib.hid hi
    have HP := Lib.hid hp
    by_cases hlt : i < n
    · have q1 : ((i : Nat) : Int) < ((n : Nat) : Int) := by omega
      obtain ⟨g, cp, hv2, _, hcl, _⟩ := row_at hca (show 0 < s2.T.length by have := HN.out; omega)
      obtain ⟨x, hx⟩ : ∃ x, s2.T[i]? = some x := ⟨_, List.getElem?_eq_getElem (by have := HN.out; omega)⟩
      have hxc : wr.cell? ⟨g, i, none⟩ = some (.int .i64 x) := by rw [hcl i (by have := HN.out; omega)]; simp [rowI, hx]
      have hxl := HI2.out x (List.mem_of_getElem? hx)
      have hv3 := HCV.out.symm.trans hv2
      injection hv3 with e1 e2 e3
      subst e1 e3
      obtain ⟨b1, b2⟩ := hol_bits hxl hv
      have HPL : Hid (∀ w' : World, w'.heap = wr.heap → Calls Try.prog 46 #[.pointer (some ⟨k, 0, none⟩), .int .i64 x] w' fun e w => e = .returned (.int .i64 ((pl v x : Nat) : Int)) ∧ w = w') := Lib.hid fun w' e => place_any (hk.same (by rw [e]; exact Nat.le_refl _) fun b _ => by rw [e]) hv hxl
      have HD : Hid (∀ w' : World, w'.heap = wr.heap → Calls Try.prog 48 #[.slice (some ⟨L2.sb, 0, none⟩) (nw v) (nw v), .int .i64 ((pl v x : Nat) : Int)] w' fun e w => e = .returned (.tuple #[]) ∧ ∃ (m j0 x' : Nat), w = (w'.setCell ⟨L2.sb, j0, none⟩ (.int .u64 ((x' : Nat) : Int))).drewN m ∧ BitsAt (w'.setCell ⟨L2.sb, j0, none⟩ (.int .u64 ((x' : Nat) : Int))) L2.sb (nw v) fun j => (s2.S (lt v j) || (s2.T.take i).elem (lt v j)) || decide (j = pl v x)) := Lib.hid fun w' e => put_any (hsu.same (by rw [e])) b1 b2
      have c2 : wr.cell? ⟨k, 2, none⟩ = some (.slice (some ⟨L2.sb, 0, none⟩) (nw v) (nw v)) := hk.cells.1 2
      have HKK : Hid (KAt B v wr.drew k L2 { s2 with S := fun x => s2.S x || (s2.T.take i).elem x, br := !b } (s2.T.elem ·) none ∧ Kept L W wr.drew L2) := Lib.hid ⟨hk.drewN 1, hp.drewN 1⟩
      have HX := Lib.hid (And.intro hx hxl)
      clear hk hp hca hi hx hxl hcl hv2 b1 b2 hsu
      go_upto_region 5 with fail
      go_still_tail 7, (by kernel_rfl)
      still_call (HPL.out _ rfl)
      refine wpStill_nil ?_
      change wpList _ _ _ _ _ wr.drew
      have HD2 := Lib.hid (HD.out wr.drew rfl)
      generalize wr.drew = w3 at HKK HD2 ⊢
      clear HPL HD hxc c2
      go_wp2_with fail
      refine HD2.out.mono ?_
      rintro e w4 ⟨rfl, m, j, y, rfl, hbit⟩
      have HK4 : Hid (KAt B v ((w3.setCell ⟨L2.sb, j, none⟩ (.int .u64 ((y : Nat) : Int))).drewN m) k L2 { s2 with S := fun x => s2.S x || (s2.T.take (i + 1)).elem x, br := !b } (s2.T.elem ·) none ∧ Kept L W ((w3.setCell ⟨L2.sb, j, none⟩ (.int .u64 ((y : Nat) : Int))).drewN m) L2) := Lib.hid (by
        refine ⟨((HKK.out.1.setS (S' := fun x => s2.S x || (s2.T.take (i + 1)).elem x) (hbit.congr fun q hq => ?_)).drewN m), (HKK.out.2.put (by rw [HKK.out.1.ts]; nofun) _ _).drewN m⟩
        rw [List.take_add_one, HX.out.1]
        show _ = (s2.S (lt v q) || (s2.T.take i ++ [x]).elem (lt v q))
        rw [elem_snoc, Bool.or_assoc]
        congr 2
        have e := isL_ne HX.out.2
        by_cases e2 : q = pl v x
        · subst e2
          rw [lt_pl HX.out.2]; simp
        · rw [decide_eq_false e2]
          symm
          have : lt v q ≠ x := fun c => e2 (by unfold lt at c; unfold pl; omega)
          simpa using this)
      generalize (w3.setCell ⟨L2.sb, j, none⟩ (.int .u64 ((y : Nat) : Int))).drewN m = w5 at HK4 ⊢
      clear HKK HD2 hbit
      go_wp2_with fail
      go_roundg (gk - 1)
      case measure => have := HI.out; omega
      case rel => exact ⟨i + 1, rfl, by have := HI.out; omega, HK4.out.1, HK4.out.2⟩
    · obtain rfl : i = n := by omega
      have q1 : decide (((i : Nat) : Int) < ((i : Nat) : Int)) = false := decide_eq_false (by omega)
      have HFG := Lib.hid (forget_any hk)
      clear hk hp hca hi hsu
      go_wp2_with fail
      refine HFG.out.mono ?_
      rintro e w6 ⟨rfl, L6, hk6, hp6⟩
      have H6 := Lib.hid (And.intro hk6 (HP.out.trans hp6))
      clear hk6 hp6 HFG
      go_wp2_with fail
      go_end0
      refine ⟨rfl, L6, { s2 with br := !b, S := s2.hol, T := [] }, ?_, H6.out.2, rfl, HL2.out.ids.trans HQ.out.1, fun id hid => ?_, HCI.out⟩
      · exact H6.out.1.sayS (S' := s2.hol) fun x => by
          show (s2.S x || (s2.T.take i).elem x) = s2.hol x
          rw [HN.out, List.take_length]; rfl
      · have := HL2.out.perm id (by rw [HQ.out.1]; exact hid)
        rw [HQ.out.2] at this
        exact this
end Rw
end Go.Proofs.Ytmgkgbhkaoflhaa

namespace Go.Proofs.Ytmgkgbhkaoflhaa
open Go.RowKit
namespace Rw
open Cf Rp
set_option maxHeartbeats 6400000
set_option maxRecDepth 100000

/-- The predicate: is the literal's not sure? -/
def fnV (kb : Nat) : Value := .func (.func 43) #[] #[.pointer (some ⟨kb, 0, none⟩)]
def PredF (W : World) (g kb : Nat) (P : Int → Bool) (xs : List Int) : Prop :=
  ∀ V : World, V.heap.size = W.heap.size → (∀ b, b ≠ g → V.heap[b]? = W.heap[b]?) → ∀ x ∈ xs, Calls Try.prog 43 #[.int .i64 x, .pointer (some ⟨kb, 0, none⟩)] V fun e w => e = .returned (.bool (P x)) ∧ w = V
theorem pred_any {B v : Nat} {W : World} {k g kb : Nat} {L : Lay} {s : PS} (h : KAt B v W k L s (s.T.elem ·) none) (hv : v ≤ 1000000) (hg : L.tag g = .non) (hkb : W.cell? ⟨kb, 0, none⟩ = some (.pointer (some ⟨k, 0, none⟩))) (hne : kb ≠ g) {xs : List Int} (hx : ∀ x ∈ xs, isL x v = true) : PredF W g kb (fun x => s.hol (-x)) xs := by
  intro V hz hs x hxx
  have hK : KAt B v V k L s (s.T.elem ·) none := h.same (by omega) fun b hb => hs b (fun e => hb (by rw [e]; exact hg))
  have c0 : V.cell? ⟨kb, 0, none⟩ = some (.pointer (some ⟨k, 0, none⟩)) := (World.cell?_of_block (a := ⟨kb, 0, none⟩) (hs kb hne)).trans hkb
  have HH := Lib.hid (holds_any hK hv (isL_neg (hx x hxx)))
  have x1 := isL_ne (hx x hxx)
  have x2 : wrap64 (-x) = -x := by unfold wrap64; omega
  clear h hs hK hkb hx hxx hz
  go_enter Try.func43, Try.ntmps43
  go_wp2_with fail
  refine HH.out.mono ?_
  rintro e w ⟨rfl, rfl⟩
  go_wp2_with fail
  go_ret
  exact ⟨rfl, rfl⟩
/-- The first one that is to go. -/
def firstI (P : Int → Bool) : List Int → Nat → Int
  | [], _ => -1
  | x :: r, i => if P x then ((i : Nat) : Int) else firstI P r (i + 1)
theorem firstI_skip {P : Int → Bool} : ∀ {xs : List Int} {j i : Nat}, j ≤ xs.length → (∀ q x, q < j → xs[q]? = some x → P x = false) → firstI P xs i = firstI P (xs.drop j) (i + j)
  | xs, 0, i, _, _ => by simp
  | [], j + 1, i, h, _ => by simp at h
  | x :: r, j + 1, i, h, hp => by
    rw [firstI, hp 0 x (by omega) rfl]
    have := firstI_skip (P := P) (xs := r) (j := j) (i := i + 1) (by simpa using h) (fun q y hq hy => hp (q + 1) y (by omega) (by simpa using hy))
    rw [if_neg (by simp), this, List.drop_succ_cons]
    congr 1; omega
theorem firstI_at {P : Int → Bool} {xs : List Int} {j : Nat} {x : Int} (hx : xs[j]? = some x) (hp : ∀ q x, q < j → xs[q]? = some x → P x = false) (h : P x = true) : firstI P xs 0 = ((j : Nat) : Int) := by
  have hl := (List.getElem?_eq_some_iff.1 hx).1
  rw [firstI_skip (j := j) (by omega) hp]
  have e : xs.drop j = x :: xs.drop (j + 1) := by
    rw [List.drop_eq_getElem_cons hl]
    congr 1
    exact (List.getElem?_eq_some_iff.1 hx).2
  rw [e, firstI, h, if_pos rfl]
  simp
theorem firstI_no {P : Int → Bool} {xs : List Int} (hp : ∀ (q : Nat) (x : Int), xs[q]? = some x → P x = false) : firstI P xs 0 = -1 := by
  rw [firstI_skip (j := xs.length) (Nat.le_refl _) (fun q x _ h => hp q x h), List.drop_length]; rfl
theorem index_any {W : World} {g kb n cap : Nat} {P : Int → Bool} {xs : List Int} (hc : ∀ (j : Nat) (x : Int), xs[j]? = some x → W.cell? ⟨g, j, none⟩ = some (.int .i64 x)) (hn : n = xs.length) (hsz : n ≤ 1000000) (hp : PredF W g kb P xs) :
    Calls Try.prog 58 #[.slice (some ⟨g, 0, none⟩) n cap, fnV kb] W fun e w => e = .returned (.int .i64 (firstI P xs 0)) ∧ w = W := by
  have HC := Lib.hid hc
  have HN := Lib.hid hn
  have HP := Lib.hid hp
  clear hc hn hp
  unfold fnV
  go_enter Try.func58, Try.ntmps58
  go_wp2_with fail
  go_loopg [8] n (fun gk v8 wr => ∃ j : Nat, v8 = .int .i64 ((j : Nat) : Int) ∧ j + gk = n ∧ wr = W ∧ ∀ q x, q < j → xs[q]? = some x → P x = false)
  case atStart => exact ⟨0, rfl, by omega, rfl, fun q x h => by omega⟩
  case round =>
    obtain ⟨j, rfl, hj, rfl, hno⟩ := hrel
    have HJ := Lib.hid hj
    have HNO := Lib.hid hno
    have j0 : (0 : Int) ≤ ((j : Nat) : Int) := by omega
    by_cases hlt : j < n
    · have q1 : ((j : Nat) : Int) < ((n : Nat) : Int) := by omega
      obtain ⟨x, hx⟩ : ∃ x, xs[j]? = some x := ⟨_, List.getElem?_eq_getElem (by have := HN.out; omega)⟩
      have hxc := HC.out j x hx
      have HCL := Lib.hid (HP.out wr rfl (fun _ _ => rfl) x (List.mem_of_getElem? hx))
      have HX := Lib.hid hx
      clear hj hno hx
      cases hpx : P x with
      | true =>
        rw [hpx] at HCL
        have HPX := Lib.hid hpx
        clear hpx
        go_wp2_with fail
        refine HCL.out.mono ?_
        rintro e w ⟨rfl, rfl⟩
        go_wp2_with fail
        go_ret
        exact ⟨by rw [firstI_at HX.out HNO.out HPX.out]; rfl, rfl⟩
      | false =>
        rw [hpx] at HCL
        have HPX := Lib.hid hpx
        clear hpx
        go_wp2_with fail
        refine HCL.out.mono ?_
        rintro e w ⟨rfl, rfl⟩
        go_wp2_with fail
        go_roundg (gk - 1)
        case measure => have := HJ.out; omega
        case rel => exact ⟨j + 1, rfl, by have := HJ.out; omega, rfl, fun q y hq hy => by
          rcases Nat.lt_succ_iff_lt_or_eq.1 hq with c | c
          · exact HNO.out q y c hy
          · rw [c, HX.out] at hy; injection hy with e; rw [← e]; exact HPX.out⟩
    · obtain rfl : j = n := by omega
      have q1 : decide (((j : Nat) : Int) < ((j : Nat) : Int)) = false := decide_eq_false (by omega)
      clear hj hno
      go_wp2_with fail
      go_ret
      exact ⟨by rw [firstI_no fun q x hx => HNO.out q x (by rw [HN.out]; exact (List.getElem?_eq_some_iff.1 hx).1) hx]; rfl, rfl⟩
theorem tape_cells {g : Nat} : ∀ (vs : List Value) (o : Nat) (w : World), (w.setCells g o vs).tape = w.tape
  | [], _, _ => rfl
  | x :: vs, o, w => tape_cells vs (o + 1) (w.setCell ⟨g, o, none⟩ x)
theorem heap_cells_take {g : Nat} {t : TypeId} : ∀ (vs : List Value) (o : Nat) (w : World) (cs : Array Value), w.heap[g]? = some (.cells cs t (0, 0)) → ∃ cs' : Array Value, (w.setCells g o vs).heap[g]? = some (.cells cs' t (0, 0)) ∧ cs'.size = cs.size ∧ cs'.toList.take o = cs.toList.take o
  | [], o, w, cs, h => ⟨cs, h, rfl, rfl⟩
  | x :: vs, o, w, cs, h => by
    obtain ⟨cs', h1, h2, h3⟩ := heap_cells_take vs (o + 1) (w.setCell ⟨g, o, none⟩ x) (cs.setIfInBounds o x) (heap_setCell_same w g o _ _ x h)
    refine ⟨cs', h1, by rw [h2]; simp, ?_⟩
    have := congrArg (List.take o) h3
    rw [List.take_take, List.take_take, Nat.min_eq_left (by omega)] at this
    rw [this, Array.toList_setIfInBounds, List.take_set_of_le (Nat.le_refl _)]
/-- What the loop leaves behind it. -/
structure DelI (W V : World) (g n cap : Nat) (P : Int → Bool) (xs : List Int) (i j : Nat) : Prop where
  le : i < j
  jn : j ≤ n
  num : i = ((xs.take j).filter fun x => !P x).length
  size : V.heap.size = W.heap.size
  grown : W.grownBy V (some g)
  row : ∃ cur : Array Value, V.heap[g]? = some (.cells cur 3 (0, 0)) ∧ cur.size = cap ∧ cur.toList.take i = rowI ((xs.take j).filter fun x => !P x) ∧ ∀ (q : Nat) (x : Int), j ≤ q → xs[q]? = some x → cur[q]? = some (.int .i64 x)
theorem DelI.pred {W V : World} {g n cap kb i j : Nat} {P : Int → Bool} {xs : List Int} (h : DelI W V g n cap P xs i j) (hp : PredF W g kb P xs) {x : Int} (hx : x ∈ xs) : Calls Try.prog 43 #[.int .i64 x, .pointer (some ⟨kb, 0, none⟩)] V fun e w => e = .returned (.bool (P x)) ∧ w = V := by
  refine hp V h.size (fun b hb => ?_) x hx
  by_cases hl : b < W.heap.size
  · exact h.grown.block b hl (fun e => hb (by injection e))
  · rw [Array.getElem?_eq_none (by have := h.size; omega), Array.getElem?_eq_none (by omega)]
theorem DelI.skip {W V : World} {g n cap i j : Nat} {P : Int → Bool} {xs : List Int} (h : DelI W V g n cap P xs i j) (hj : j < n) {x : Int} (hx : xs[j]? = some x) (hp : P x = true) : DelI W V g n cap P xs i (j + 1) := by
  have ef : (xs.take (j + 1)).filter (fun x => !P x) = (xs.take j).filter fun x => !P x := by
    rw [List.take_add_one, hx, List.filter_append]
    simp [hp]
  obtain ⟨cur, h1, h2, h3, h4⟩ := h.row
  exact ⟨by have := h.le; omega, by omega, by rw [ef]; exact h.num, h.size, h.grown, cur, h1, h2, by rw [ef]; exact h3, fun q y hq hy => h4 q y (by omega) hy⟩
theorem DelI.keep {W V : World} {g n cap i j : Nat} {P : Int → Bool} {xs : List Int} (h : DelI W V g n cap P xs i j) (hj : j < n) (hc : n ≤ cap) {x : Int} (hx : xs[j]? = some x) (hp : P x = false) : DelI W (V.setCell ⟨g, i, none⟩ (.int .i64 x)) g n cap P xs (i + 1) (j + 1) := by
  have ef : (xs.take (j + 1)).filter (fun x => !P x) = ((xs.take j).filter fun x => !P x) ++ [x] := by
    rw [List.take_add_one, hx, List.filter_append]
    simp [hp]
  obtain ⟨cur, h1, h2, h3, h4⟩ := h.row
  have hle := h.le
  refine ⟨by omega, by omega, by rw [ef, List.length_append, ← h.num]; rfl, by simpa [World.setCell] using h.size, ⟨h.grown.os, h.grown.tape, h.grown.output, by simpa [World.setCell] using h.grown.size, fun b hb hne => (heap_setCell_other V _ b _ (fun e => hne (by rw [show b = g from e]))).trans (h.grown.block b hb hne)⟩, cur.setIfInBounds i (.int .i64 x), heap_setCell_same V g i _ _ _ h1, by simpa using h2, ?_, fun q y hq hy => ?_⟩
  · rw [ef, Array.toList_setIfInBounds, List.take_add_one, List.take_set_of_le (Nat.le_refl _), h3, List.getElem?_set_self (by simp; omega)]
    simp [rowI]
  · rw [Array.getElem?_setIfInBounds_ne (by omega)]
    exact h4 q y (by omega) hy
theorem firstI_cases (P : Int → Bool) : ∀ (xs : List Int) (i : Nat), (firstI P xs i = -1 ∧ ∀ x ∈ xs, P x = false) ∨ ∃ (j : Nat) (x : Int), xs[j]? = some x ∧ P x = true ∧ firstI P xs i = ((i + j : Nat) : Int) ∧ ∀ y ∈ xs.take j, P y = false
  | [], i => .inl ⟨rfl, fun x hx => by cases hx⟩
  | x :: r, i => by
    cases h : P x with
    | true => exact .inr ⟨0, x, rfl, h, by rw [firstI, h]; simp, fun y hy => by simp at hy⟩
    | false =>
      rcases firstI_cases P r (i + 1) with ⟨e, ha⟩ | ⟨j, y, h1, h2, h3, h4⟩
      · refine .inl ⟨by rw [firstI, h]; simpa using e, fun z hz => ?_⟩
        rcases List.mem_cons.1 hz with e | hz
        · rw [e]; exact h
        · exact ha z hz
      · refine .inr ⟨j + 1, y, by simpa using h1, h2, by rw [firstI, h, if_neg (by simp), h3]; congr 1; omega, fun z hz => ?_⟩
        rw [List.take_succ_cons] at hz
        rcases List.mem_cons.1 hz with e | hz
        · rw [e]; exact h
        · exact h4 z hz
/-- What DeleteFunc has done. -/
def DelE (B : Nat) (W : World) (g cap : Nat) (ys : List Int) (e : Ending) (w : World) : Prop :=
  e = .returned (.slice (some ⟨g, 0, none⟩) ys.length cap) ∧ w.ownsRow B 3 1 (.slice (some ⟨g, 0, none⟩) ys.length cap) ys.length (rowI ys) ∧ W.grownBy w (some g)
theorem delete_any {B g kb n cap : Nat} {W : World} {P : Int → Bool} {xs : List Int} (hr : W.ownsRow B 3 1 (.slice (some ⟨g, 0, none⟩) n cap) n (rowI xs)) (hn : n = xs.length) (hsz : n ≤ 1000000) (hp : PredF W g kb P xs) :
    Calls Try.prog 42 #[.slice (some ⟨g, 0, none⟩) n cap, fnV kb] W (DelE B W g cap (xs.filter fun x => !P x)) := by
  have hc : ∀ (j : Nat) (x : Int), xs[j]? = some x → W.cell? ⟨g, j, none⟩ = some (.int .i64 x) := fun j x hx => by
    rw [hr.cellAt j (by have := (List.getElem?_eq_some_iff.1 hx).1; omega)]
    simp [rowI, hx]
  have HI := Lib.hid (index_any (cap := cap) hc hn hsz hp)
  have HR := Lib.hid hr
  have HN := Lib.hid hn
  have HP := Lib.hid hp
  obtain ⟨_, ⟨h1, _⟩ | ⟨g', cap', cur, hv, hb, hh, hnc, hm, hz, ht⟩⟩ := hr
  · cases h1
  injection hv with e1 e2 e3
  injection e1 with e1
  injection e1 with e1
  subst e1 e3
  have HC : Hid (B ≤ g ∧ cap ≤ maxLen ∧ n ≤ cap) := Lib.hid ⟨hb, hm, hnc⟩
  rcases firstI_cases P xs 0 with ⟨e, ha⟩ | ⟨i0, x0, f1, f2, f3, f4⟩
  · rw [e] at HI
    have hf : (xs.filter fun x => !P x) = xs := List.filter_eq_self.2 fun x hx => by rw [ha x hx]; rfl
    have HF := Lib.hid hf
    clear hc hn hp hb hh hnc hm hz ht e ha hf
    unfold fnV at HI ⊢
    go_enter Try.func42, Try.ntmps42
    go_wp2_with fail
    refine HI.out.mono ?_
    rintro e w ⟨rfl, rfl⟩
    go_wp2_with fail
    go_ret
    rw [HF.out]
    refine ⟨by rw [← HN.out]; rfl, by rw [← HN.out]; exact HR.out, ⟨rfl, rfl, rfl, Nat.le_refl _, fun _ _ _ => rfl⟩⟩
  · rw [f3, Nat.zero_add] at HI
    have hi0 : i0 < n := by rw [hn]; exact (List.getElem?_eq_some_iff.1 f1).1
    have e9 : (((i0 : Nat) : Int) == -1) = false := by simp
    have HD : Hid (DelI W W g n cap P xs i0 (i0 + 1)) := Lib.hid (by
      have ef : (xs.take (i0 + 1)).filter (fun x => !P x) = xs.take i0 := by
        rw [List.take_add_one, f1, List.filter_append]
        simp [f2]
        intro y hy
        exact f4 y hy
      refine ⟨by omega, by omega, by rw [ef, List.length_take]; omega, rfl, ⟨rfl, rfl, rfl, Nat.le_refl _, fun _ _ _ => rfl⟩, cur, hh, by omega, ?_, fun q x hq hx => ?_⟩
      · rw [ef]
        have := congrArg (List.take i0) ht
        rw [List.take_take, Nat.min_eq_left (by omega)] at this
        rw [this]
        simp [rowI, List.map_take]
      · have := hc q x hx
        rw [cell_of_row W g q _ _ _ hh] at this
        exact this)
    clear hc hn hp hb hh hnc hm hz ht f1 f2 f3 f4 HR
    unfold fnV at HI ⊢
    go_enter Try.func42, Try.ntmps42
    go_wp2_with fail
    refine HI.out.mono ?_
    rintro e w ⟨rfl, rfl⟩
    go_wp2_with fail
    go_loopg [5, 6] n (fun gk v5 v6 wr => ∃ i j : Nat, v5 = .int .i64 ((i : Nat) : Int) ∧ v6 = .int .i64 ((j : Nat) : Int) ∧ j + gk = n + i0 + 1 ∧ DelI w wr g n cap P xs i j)
    case atStart => exact ⟨i0, i0 + 1, rfl, rfl, by omega, HD.out⟩
    case round =>
      obtain ⟨i, j, rfl, rfl, hj, hd⟩ := hrel
      clear HD HI
      have j0 : (0 : Int) ≤ ((j : Nat) : Int) := by omega
      have i0' : (0 : Int) ≤ ((i : Nat) : Int) := by omega
      have hle := hd.le
      have hjn := hd.jn
      have HJ := Lib.hid hj
      have hcap := HC.out.2.2
      obtain ⟨cur, h1, h2, h3, h4⟩ := hd.row
      by_cases hlt : j < n
      · have q1 : ((j : Nat) : Int) < ((n : Nat) : Int) := by omega
        have q2 : ((i : Nat) : Int) < ((n : Nat) : Int) := by omega
        obtain ⟨x, hx⟩ : ∃ x, xs[j]? = some x := ⟨_, List.getElem?_eq_getElem (by have := HN.out; omega)⟩
        have hxc : wr.cell? ⟨g, j, none⟩ = some (.int .i64 x) := by rw [cell_of_row wr g j _ _ _ h1]; exact h4 j x (Nat.le_refl _) hx
        have hic : wr.cell? ⟨g, i, none⟩ = some (cur[i]'(by omega)) := by rw [cell_of_row wr g i _ _ _ h1]; simp
        have hif := frozen_of_row wr g i _ _ h1
        have HCL := Lib.hid (hd.pred HP.out (List.mem_of_getElem? hx))
        have HX := Lib.hid hx
        have HD := Lib.hid hd
        obtain ⟨y, hy⟩ : ∃ y, y = cur[i]'(by omega) := ⟨_, rfl⟩
        rw [← hy] at hic
        clear hj hd h1 h2 h3 h4 hx hy
        cases hpx : P x with
        | true =>
          rw [hpx] at HCL
          have HS := Lib.hid (HD.out.skip hlt HX.out hpx)
          clear hpx HD
          go_wp2_with fail
          refine HCL.out.mono ?_
          rintro e w ⟨rfl, rfl⟩
          go_wp2_with fail
          go_roundg (gk - 1)
          case measure => have := HJ.out; omega
          case rel => exact ⟨i, j + 1, rfl, rfl, by have := HJ.out; omega, HS.out⟩
        | false =>
          rw [hpx] at HCL
          have HS := Lib.hid (HD.out.keep hlt hcap HX.out hpx)
          clear hpx HD
          go_wp2_with fail
          refine HCL.out.mono ?_
          rintro e w ⟨rfl, rfl⟩
          go_wp2_with fail
          go_roundg (gk - 1)
          case measure => have := HJ.out; omega
          case rel => exact ⟨i + 1, j + 1, rfl, rfl, by have := HJ.out; omega, HS.out⟩
      · obtain rfl : j = n := by omega
        have q1 : decide (((j : Nat) : Int) < ((j : Nat) : Int)) = false := decide_eq_false (by omega)
        have q2 : ((i : Nat) : Int) ≤ ((j : Nat) : Int) := by omega
        have q3 : ¬ cap = i := by omega
        have hcl : ∀ ty, (Builtin.clear_ #[25] ty #[.slice (some ⟨g, i, none⟩) (j - i) (cap - i)]).run Try.prog wr = .ok (.tuple #[]) (wr.setCells g i (List.replicate (j - i) (.int .i64 0))) := fun ty => by
          refine Lib.run_clear_slice wr 25 3 ty (.int .i64 0) Try.underlying25 (fun w => Try.zeroValue3 w) rfl rfl g i (j - i) (cap - i) (by omega) (fun q hq => ?_) (fun q hq => ?_)
          · rw [cell_of_row wr g _ _ _ _ h1]
            simp; omega
          · exact frozen_of_row wr g _ _ _ h1
        have HT := Lib.hid (heap_cells_take (List.replicate (j - i) (.int .i64 0)) i wr cur h1)
        have HD := Lib.hid hd
        have H2 := Lib.hid (And.intro h2 h3)
        clear hj hd h1 h2 h3 h4
        go_wp2_with fail
        go_ret
        have ef : (xs.take j).filter (fun x => !P x) = xs.filter fun x => !P x := by rw [List.take_of_length_le (by have := HN.out; omega)]
        have hnum : i = (xs.filter fun x => !P x).length := by rw [← ef]; exact HD.out.num
        obtain ⟨cs', t1, t2, t3⟩ := HT.out
        refine ⟨by rw [← hnum]; rfl, ?_, ⟨?_, ?_, ?_, ?_, fun b hb hne => ?_⟩⟩
        · rw [← hnum]
          exact ⟨by simp [rowI, ← hnum], .inr ⟨g, cap, cs', rfl, HC.out.1, t1, by omega, HC.out.2.1, by rw [t2, H2.out.1]; omega, by rw [Nat.mul_one, t3, H2.out.2, ef]⟩⟩
        · exact (World.os_setCells _ _ _ _).trans HD.out.grown.os
        · exact (tape_cells _ _ _).trans HD.out.grown.tape
        · exact (World.output_setCells _ _ _ _).trans HD.out.grown.output
        · rw [size_cells]; exact HD.out.grown.size
        · exact (heap_setCells_far _ _ _ (fun e => hne (by rw [e]))).trans (HD.out.grown.block b hb hne)
end Rw
end Go.Proofs.Ytmgkgbhkaoflhaa
