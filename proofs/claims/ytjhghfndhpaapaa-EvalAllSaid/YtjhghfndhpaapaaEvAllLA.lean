/-
  The statement that of a list it is each one's, or the first error, as a fact on the call.
-/
import Derived.Test.YtjhghfndhpaapaaEvTellsA
namespace Go.Proofs.Ytjhghfndhpaapaa
open Go.RowKit Go.Maps Bv
namespace Tm
set_option maxHeartbeats 2000000
set_option maxRecDepth 100000

/-- While the numbers asked for are looked at. -/
def LookE (W : World) (q : Nat) (sv rv : Value) (L : List Nd) (T : List Int) (i : Nat) (w : World) : Prop := Two W (W.heap.size + 1) W.heap.size q sv rv L L w ∧ ∀ (j : Nat) (t : Int), j < i → T[j]? = some t → inB L t = true
theorem LookE.drewN {W w : World} {q i : Nat} {sv rv : Value} {L : List Nd} {T : List Int} (h : LookE W q sv rv L T i w) (m : Nat) : LookE W q sv rv L T i (w.drewN m) := ⟨h.1.call (bel_drewN (Below.refl _ _) m), h.2⟩
theorem LookE.step {W w : World} {q i : Nat} {sv rv : Value} {L : List Nd} {T : List Int} {t : Int} (h : LookE W q sv rv L T i w) (ht : T[i]? = some t) (hin : inB L t = true) : LookE W q sv rv L T (i + 1) w := by
  refine ⟨h.1, fun j s hj hs => ?_⟩
  by_cases e : j = i
  · subst e; rw [ht] at hs; simp at hs; subst hs; exact hin
  · exact h.2 j s (by omega) hs

def LookV (W : World) (q : Nat) (sv rv : Value) (L : List Nd) (T : List Int) (a : List Nat) (g : Nat) (w : World) : Prop := Two W (W.heap.size + 1) W.heap.size q sv rv L L w ∧ ∀ (i : Nat) (t : Int), T[i]? = some t → VecAt w g i (widAt L t) (evN L a t.toNat)
theorem LookV.call {W w w' : World} {q g : Nat} {sv rv : Value} {L : List Nd} {T : List Int} {a : List Nat} (h : LookV W q sv rv L T a g w) (k : Below w.heap.size w w') : LookV W q sv rv L T a g w' := ⟨h.1.call k, fun i t ht => (h.2 i t ht).keep k⟩
theorem LookV.drewN {W w : World} {q g : Nat} {sv rv : Value} {L : List Nd} {T : List Int} {a : List Nat} (h : LookV W q sv rv L T a g w) (m : Nat) : LookV W q sv rv L T a g (w.drewN m) := h.call (bel_drewN (Below.refl _ _) m)

theorem lall_any {W : World} {al aal tal : Option Addr} {X : List Nd} {a : List Nat} {T : List Int} {cl ac tc n : Nat} (hX : ArgAt W al X) (hok : ∀ x ∈ X, x.Ok) (hn : n = X.length) (HT : IntsAt W tal T) (h6 : ∀ t ∈ T, I64 t) (hb : T.length * 8 ≤ 140737488351232) (HA : AsgAt W aal a) :
    Calls Try.prog 4 #[.slice al n cl, .slice tal T.length tc, .slice aal a.length ac] W fun e W' => e = .returned (.bool true) ∧ Below W.heap.size W W' := by
  have HM := Lib.hid (made_any (cl := cl) hX hok hn)
  have HAA := Lib.hid HA
  have HTT := Lib.hid HT
  have H6 := Lib.hid h6
  have HB := Lib.hid hb
  clear hX hok hn h6 HA HT hb
  go_enter Try.func4, Try.ntmps4
  go_wp2_with fail
  refine HM.out.mono ?_
  rintro e v0 ⟨q, L, rfl, ⟨sv, rv, hT⟩, hmay, hlen⟩
  have HMAY := Lib.hid hmay
  obtain ⟨ra, rc, rfl⟩ := hT.r.shape
  have HTW := Lib.hid hT
  have HALL := Lib.hid (all_any (ac := tc) (aac := ac) hT.s HMAY.out (HTT.out.keep hT.b) H6.out (by have := HB.out; omega) (HAA.out.keep hT.b))
  clear HM hmay
  by_cases hall : ∀ t ∈ T, inB L t = true
  case neg =>
    have HC := Lib.hid (HALL.out.mono (R' := fun e W' => e = .returned (.tuple #[.slice none 0 0, .int .i64 2]) ∧ Below v0.heap.size v0 W') (by
      rintro e w' ⟨hb, ⟨h1, _⟩ | ⟨_, h2⟩⟩
      · exact absurd h1 hall
      · exact ⟨h2, hb⟩))
    have HNA := Lib.hid hall
    clear hall HALL hT hlen
    go_wp2_with fail
    with_reducible refine HC.out.mono ?_
    rintro e v1 ⟨rfl, hb1⟩
    have HT1 := Lib.hid (HTW.out.call hb1)
    clear hb1 HC HTW
    go_wp2_with fail
    go_loopg [11] T.length (fun gk u11 wr => ∃ i : Nat, u11 = .int .i64 ((i : Nat) : Int) ∧ i + gk = T.length ∧ LookE W q sv (.slice ra L.length rc) L T i wr)
    case atStart => exact ⟨0, rfl, by omega, HT1.out, fun j t hj => by omega⟩
    case round =>
      obtain ⟨i, rfl, hg, hl⟩ := hrel
      clear HT1
      have HG := Lib.hid hg
      have hi : i < T.length := by
        refine Nat.lt_of_not_le (fun hc => HNA.out (fun t ht => ?_))
        obtain ⟨j, hj⟩ := List.getElem?_of_mem ht
        exact hl.2 j t (by have := (List.getElem?_eq_some_iff.1 hj).1; omega) hj
      obtain ⟨t, ht⟩ : ∃ t, T[i]? = some t := ⟨_, List.getElem?_eq_getElem hi⟩
      rcases HTT.out.keep hl.1.b with h0 | ⟨bl, ol, rfl, lbl, hc⟩
      · subst h0; simp at hi
      have hct := hc i t ht
      have r0 := hl.1.r.c0
      have lq := hl.1.r.lt
      have q0 : (0 : Int) ≤ ((i : Nat) : Int) := by omega
      have q1 : ((i : Nat) : Int) < ((T.length : Nat) : Int) := by omega
      have HL := Lib.hid hl
      have HX := Lib.hid ht
      have r1 : IntKind.i64.wrap (((i : Nat) : Int) + 1) = (((i + 1 : Nat) : Nat) : Int) := by rw [IntKind.wrap_i64]; have := HB.out; omega
      have r2 : wrap64 (((i : Nat) : Int) + 1) = (((i + 1 : Nat) : Nat) : Int) := by unfold wrap64; rw [← IntKind.wrap_i64]; exact r1
      have HR2 := Lib.hid r2
      have HI := Lib.hid hi
      clear hl hg ht hi hc r1 r2
      by_cases h0 : t < 0
      case pos =>
        go_wp2_with fail
        go_quiet (fail)
        go_wp2_with (go_at_call 10; refine (works_any _).mono ?_; rintro e v3 ⟨rfl, hb3⟩)
        go_ret
        exact ⟨rfl, bel_call (bel_drewN HL.out.1.b _) hb3⟩
      case neg =>
        have d0 : decide (t < 0) = false := decide_eq_false h0
        by_cases h1 : ((L.length : Nat) : Int) ≤ t
        case pos =>
          go_wp2_with fail
          go_quiet (fail)
          go_wp2_with (go_at_call 10; refine (works_any _).mono ?_; rintro e v3 ⟨rfl, hb3⟩)
          go_ret
          exact ⟨rfl, bel_call (bel_drewN HL.out.1.b _) hb3⟩
        case neg =>
          have d1 : t < ((L.length : Nat) : Int) := by omega
          go_wp2_with fail
          go_quiet (fail)
          have HSTEP := Lib.hid (HL.out.step HX.out (by unfold inB; simp; omega))
          go_wp2_with fail
          go_roundg (gk - 1)
          case measure => have := HG.out; have := HI.out; omega
          case rel => exact ⟨i + 1, by first | rfl | (rw [HR2.out]) | (congr 1; exact HR2.out), by have := HG.out; have := HI.out; omega, HSTEP.out.drewN _⟩
  case pos =>
    have HC := Lib.hid (HALL.out.mono (R' := fun e W' => ∃ g, e = .returned (.tuple #[.slice (some ⟨g, 0, none⟩) T.length T.length, .int .i64 0]) ∧ v0.heap.size ≤ g ∧ (∀ (i : Nat) (t : Int), T[i]? = some t → VecAt W' g i (widAt L t) (evN L a t.toNat)) ∧ Below v0.heap.size v0 W') (by
      rintro e w' ⟨hb, ⟨_, g, h1, h2, h3⟩ | ⟨⟨t, ht, h1⟩, _⟩⟩
      · exact ⟨g, h1, h2, h3, hb⟩
      · rw [hall t ht] at h1; simp at h1))
    have HYA := Lib.hid hall
    clear hall HALL hT hlen
    go_wp2_with fail
    with_reducible refine HC.out.mono ?_
    rintro e v1 ⟨g, rfl, hg, hv, hb1⟩
    have HT1 := Lib.hid (HTW.out.call hb1)
    have HV1 := Lib.hid hv
    clear hb1 HC HTW hv
    go_wp2_with fail
    go_loopg [11] T.length (fun gk u11 wr => ∃ i : Nat, u11 = .int .i64 ((i : Nat) : Int) ∧ i + gk = T.length ∧ LookV W q sv (.slice ra L.length rc) L T a g wr)
    case atStart => exact ⟨0, rfl, by omega, HT1.out, HV1.out⟩
    case round =>
      obtain ⟨i, rfl, hg', hl⟩ := hrel
      clear HT1 HV1
      have HG := Lib.hid hg'
      by_cases hi : i < T.length
      case pos =>
        obtain ⟨t, ht⟩ : ∃ t, T[i]? = some t := ⟨_, List.getElem?_eq_getElem hi⟩
        have hin := HYA.out t (List.mem_of_getElem? ht)
        rcases HTT.out.keep hl.1.b with h0 | ⟨bl, ol, rfl, lbl, hc⟩
        · subst h0; simp at hi
        have hct := hc i t ht
        have r0 := hl.1.r.c0
        have lq := hl.1.r.lt
        have q0 : (0 : Int) ≤ ((i : Nat) : Int) := by omega
        have q1 : ((i : Nat) : Int) < ((T.length : Nat) : Int) := by omega
        have HL := Lib.hid hl
        have r1 : IntKind.i64.wrap (((i : Nat) : Int) + 1) = (((i + 1 : Nat) : Nat) : Int) := by rw [IntKind.wrap_i64]; have := HB.out; omega
        have r2 : wrap64 (((i : Nat) : Int) + 1) = (((i + 1 : Nat) : Nat) : Int) := by unfold wrap64; rw [← IntKind.wrap_i64]; exact r1
        have HR2 := Lib.hid r2
        have HI := Lib.hid hi
        have d0 : decide (t < 0) = false := decide_eq_false (by unfold inB at hin; simp at hin; omega)
        have d1 : t < ((L.length : Nat) : Int) := by unfold inB at hin; simp at hin; omega
        clear hl hg' ht hi hc r1 r2 hin
        go_wp2_with fail
        go_quiet (fail)
        go_wp2_with fail
        go_roundg (gk - 1)
        case measure => have := HG.out; have := HI.out; omega
        case rel => exact ⟨i + 1, by first | rfl | (rw [HR2.out]) | (congr 1; exact HR2.out), by have := HG.out; have := HI.out; omega, HL.out.drewN _⟩
      case neg =>
        have hie : i = T.length := by omega
        subst hie
        have HL := Lib.hid hl
        clear hl hg' hi
        go_wp2_with fail
        go_loopg [12] (min T.length 20) (fun gk u12 wq => ∃ i : Nat, u12 = .int .i64 ((i : Nat) : Int) ∧ i + gk = min T.length 20 ∧ LookV W q sv (.slice ra L.length rc) L T a g wq)
        case atStart => exact ⟨0, rfl, by omega, HL.out⟩
        case round =>
          obtain ⟨i, rfl, hg', hl⟩ := hrel
          clear HL
          have HG2 := Lib.hid hg'
          by_cases hi : i < T.length ∧ i < 20
          case pos =>
            obtain ⟨t, ht⟩ : ∃ t, T[i]? = some t := ⟨_, List.getElem?_eq_getElem hi.1⟩
            have hin := HYA.out t (List.mem_of_getElem? ht)
            obtain ⟨k, rfl⟩ : ∃ k : Nat, t = ((k : Nat) : Int) := ⟨t.toNat, by unfold inB at hin; simp at hin; omega⟩
            have hk : k < L.length := by unfold inB at hin; simp at hin; omega
            have hv := hl.2 i _ ht
            rw [Int.toNat_natCast] at hv
            have HRE := Lib.hid (reval_any (ac := ac) (hl.1.call (Below.refl _ _).drew).r HMAY.out hk (HAA.out.keep (hl.1.call (Below.refl _ _).drew).b))
            rcases HTT.out.keep hl.1.b with h0 | ⟨bl, ol, rfl, lbl, hc⟩
            · subst h0; simp at hi
            obtain ⟨y, hy⟩ : ∃ y, widAt L ((k : Nat) : Int) = y := ⟨_, rfl⟩
            obtain ⟨z, hz⟩ : ∃ z, evN L a k = z := ⟨_, rfl⟩
            rw [hy, hz] at hv HRE
            have hct := hc i _ ht
            have HK : Hid (∀ w', Below wr.heap.size wr w' → w'.cell? ⟨g, i * 2, none⟩ = some (.int .u8 ((y : Nat) : Int)) ∧ w'.cell? ⟨g, i * 2 + 1, none⟩ = some (.int .u64 ((z : Nat) : Int)) ∧ w'.cell? ⟨bl, ol + i, none⟩ = some (.int .i64 ((k : Nat) : Int))) := fun w' hb => ⟨(hv.keep hb).2.1, (hv.keep hb).2.2, (hb.cell (p := ⟨bl, ol + i, none⟩) lbl).trans hct⟩
            have HKD : Hid (∀ w', Below wr.drew.heap.size wr.drew w' → w'.cell? ⟨g, i * 2, none⟩ = some (.int .u8 ((y : Nat) : Int)) ∧ w'.cell? ⟨g, i * 2 + 1, none⟩ = some (.int .u64 ((z : Nat) : Int)) ∧ w'.cell? ⟨bl, ol + i, none⟩ = some (.int .i64 ((k : Nat) : Int))) := fun w' hb => ⟨((hv.keep (Below.refl _ _).drew).keep hb).2.1, ((hv.keep (Below.refl _ _).drew).keep hb).2.2, (hb.cell (p := ⟨bl, ol + i, none⟩) lbl).trans hct⟩
            have q0 : (0 : Int) ≤ ((i : Nat) : Int) := by omega
            have q1 : ((i : Nat) : Int) < ((T.length : Nat) : Int) := by omega
            have q2 : ((i : Nat) : Int) < 20 := by omega
            have HL := Lib.hid (hl.call (Below.refl _ _).drew)
            have r1 : IntKind.i64.wrap (((i : Nat) : Int) + 1) = (((i + 1 : Nat) : Nat) : Int) := by rw [IntKind.wrap_i64]; have := HB.out; omega
            have r2 : wrap64 (((i : Nat) : Int) + 1) = (((i + 1 : Nat) : Nat) : Int) := by unfold wrap64; rw [← IntKind.wrap_i64]; exact r1
            have HR2 := Lib.hid r2
            have HI := Lib.hid hi
            clear hl hg' ht hi hc r1 r2 hin hv hk hy hz hct
            go_wp2_with fail
            go_region_held3 (fun w' => w'.cell? ⟨g, i * 2, none⟩ = some (.int .u8 ((y : Nat) : Int)) ∧ w'.cell? ⟨g, i * 2 + 1, none⟩ = some (.int .u64 ((z : Nat) : Int)) ∧ w'.cell? ⟨bl, ol + i, none⟩ = some (.int .i64 ((k : Nat) : Int)))
              (first | exact HK.out _ (Below.refl _ _).drew | exact HKD.out _ hb5)
              (first | (go_at_call 11; with_reducible refine HRE.out.mono ?_; rintro e w5 ⟨rfl, hb5⟩; have HL5 := Lib.hid (HL.out.call hb5)))
            go_wp2_with fail
            go_roundg (gk - 1)
            case measure => have := HG2.out; have := HI.out; omega
            case rel => exact ⟨i + 1, by first | rfl | (rw [HR2.out]) | (congr 1; exact HR2.out), by have := HG2.out; have := HI.out; omega, HL5.out⟩
          case neg =>
            have HL := Lib.hid hl
            have ex : T.length ≤ i ∨ (i < T.length ∧ (20 : Int) ≤ ((i : Nat) : Int)) := by omega
            clear hl hg' hi
            rcases ex with ex | ⟨ex1, ex2⟩
            all_goals
              go_wp2_with (go_at_call 10; refine (works_any _).mono ?_; rintro e v3 ⟨rfl, hb3⟩)
              go_ret
              exact ⟨rfl, bel_call HL.out.1.b hb3⟩
end Tm
end Go.Proofs.Ytjhghfndhpaapaa
