/-
  The statement that a term hangs on the variables below it alone, as a fact on the call.
-/
import Derived.Test.YtjhghfndhpaapaaEvHangA
import Derived.Deep.DeepMust
namespace Go.Proofs.Ytjhghfndhpaapaa
open Go.RowKit Go.Maps Bv
namespace Tm
set_option maxHeartbeats 2000000
set_option maxRecDepth 100000

theorem addr_add (ab ao j : Nat) : (⟨ab, ao, none⟩ : Addr).add j = ⟨ab, ao + j, none⟩ := by
  unfold Addr.add
  split <;> simp_all
theorem info_u64 : (Try.prog.info? 29).map (fun i => (i.zero, i.size, i.bytes)) = some (some (.int .u64 0), 1, 8) := by kernel_rfl

theorem lhang_any {W : World} {al aal bal : Option Addr} {X : List Nd} {a b : List Nat} {cl ac bc n : Nat} {id : Int} (hX : ArgAt W al X) (hok : ∀ x ∈ X, x.Ok) (hn : n = X.length) (h6 : I64 id) (HA : AsgAt W aal a) (HB : AsgAt W bal b) (hb : b.length * 8 ≤ 140737488351232) :
    Calls Try.prog 5 #[.slice al n cl, .int .i64 id, .slice aal a.length ac, .slice bal b.length bc] W fun e W' => e = .returned (.bool true) ∧ Below W.heap.size W W' := by
  have HM := Lib.hid (made_any (cl := cl) hX hok hn)
  have HAA := Lib.hid HA
  have HBB := Lib.hid HB
  have H6 := Lib.hid h6
  have HBL := Lib.hid hb
  clear hX hok hn h6 HA HB hb
  go_enter Try.func5, Try.ntmps5
  go_wp2_with fail
  refine HM.out.mono ?_
  rintro e v0 ⟨q, L, rfl, ⟨sv, rv, hT⟩, hmay, hlen⟩
  have HMAY := Lib.hid hmay
  obtain ⟨ra, rc, rfl⟩ := hT.r.shape
  have HTW := Lib.hid hT
  have r0 := hT.r.c0
  have lq := hT.r.lt
  clear HM hmay
  by_cases hl : L.length = 0
  case pos =>
    rw [hl] at r0
    clear hT hlen
    go_wp2_with (go_at_call 10; refine (works_any _).mono ?_; rintro e v3 ⟨rfl, hb3⟩)
    go_ret
    exact ⟨rfl, bel_call HTW.out.b hb3⟩
  case neg =>
    have d0 : (((L.length : Nat) : Int) == 0) = false := by
      rw [beq_eq_false_iff_ne]
      omega
    have d1 : ¬ ((L.length : Nat) : Int) = 0 := by omega
    have cw : IntKind.u64.wrap ((L.length : Nat) : Int) = ((L.length : Nat) : Int) := by rw [IntKind.wrap_u64]; omega
    obtain ⟨kk, hkk, hkl⟩ : ∃ kk : Nat, wrap64 ((IntKind.u64.wrap id).tmod ((L.length : Nat) : Int)) = ((kk : Nat) : Int) ∧ kk < L.length := by
      have hu := u64_is id
      have hm : (IntKind.u64.wrap id).tmod ((L.length : Nat) : Int) = ((u64 id % L.length : Nat) : Int) := by rw [← hu]; rfl
      have hlt := Nat.mod_lt (u64 id) (show L.length > 0 by omega)
      refine ⟨u64 id % L.length, ?_, hlt⟩
      rw [hm]
      unfold wrap64
      rw [← IntKind.wrap_i64, IntKind.wrap_i64]
      omega
    have HLN := Lib.hid (And.intro hl hlen)
    have HVS := Lib.hid (vars_yes hT.s hkl)
    have HKL := Lib.hid hkl
    clear hT hlen hl hkl
    go_wp2_with fail
    simp only [hkk]
    with_reducible refine HVS.out.mono ?_
    rintro e v1 ⟨vv, rfl, hvr, hb1⟩
    have HTW1 := Lib.hid (HTW.out.call hb1)
    have HH0 : Hid (HangAt v0 vv (varsOf L kk) (.slice none 0 0) [] v1) := ⟨hb1, hvr, World.ownsRow_nil _ _ _ _, fun g e => by simp [Value.ownBlock] at e, by simp⟩
    obtain ⟨va, vc, rfl⟩ := row_shape hvr
    clear HVS hb1 hvr r0 lq d0 d1 cw
    go_upto_region 9 with fail
    go_cut [14] (fun s14 wx => ∃ C, HangAt v0 (.slice va (varsOf L kk).length vc) (varsOf L kk) s14 C wx ∧ C.length ≤ b.length)
    case first =>
      have hBB := HBB.out.keep (bel_call HTW.out.b HH0.out.bel)
      by_cases hnil : b = [] ∧ bal = none
      case pos =>
        obtain ⟨rfl, rfl⟩ := hnil
        clear hBB
        go_wp2_with fail
        go_meet
        exact ⟨[], HH0.out, Nat.le_refl _⟩
      case neg =>
        have hcs : ∃ ad : Addr, bal = some ad ∧ ∀ (j : Nat) (u : Value), (rowU b)[j]? = some u → v1.cell? (ad.add j) = some u := by
          rcases hBB.at' with h | ⟨ab, ao, h1, h2, h3⟩
          · subst h
            cases bal with
            | none => exact absurd ⟨rfl, rfl⟩ hnil
            | some ad => exact ⟨ad, rfl, fun j u hj => by simp [rowU] at hj⟩
          · refine ⟨_, h1, fun j u hj => ?_⟩
            unfold rowU at hj
            rw [List.getElem?_map] at hj
            cases hbj : b[j]? with
            | none => rw [hbj] at hj; simp at hj
            | some v =>
              rw [hbj] at hj
              simp at hj
              subst hj
              have := h3 j v hbj
              rw [addr_add]
              exact this
        obtain ⟨ad, rfl, hcell⟩ := hcs
        obtain ⟨i0, hinfo, hz0, hz1, hz2⟩ := info_parts info_u64
        have HCL := Lib.hid hcell
        have H1 := Lib.hid (show ∀ u ∈ rowU b, u.oneCell' = true by intro u hu; simp [rowU] at hu; obtain ⟨v, _, rfl⟩ := hu; rfl)
        have HOK := Lib.hid hBB.ok
        have hbl := HBL.out
        have hsz := HH0.out.bel.size
        clear hcell hBB hnil
        obtain ⟨cz, hcz⟩ : ∃ cz, cz = Value.slice none 0 0 := ⟨_, rfl⟩
        have HROW : Hid (v1.ownsRow v0.heap.size 29 1 cz 0 []) := by rw [hcz]; exact World.ownsRow_nil _ _ _ _
        rw [← hcz] at HH0
        rw [← hcz]
        clear hcz
        go_wp2_with (at_builtin; (refine wpList_append_own_at _ rfl (.tmp 51) (.tmp 52) 24 rfl v0.heap.size 29 i0 (.int .u64 0) 1 8 Try.underlying24 hinfo hz0 hz1 hz2 rfl (by decide) cz 0 [] rfl HROW.out ad b.length bc (rowU b) rfl (by simp [rowU]) HCL.out H1.out (by unfold maxLen; omega) (by omega) hsz ?_; intro v' w2 hrow hgr _ hloc; have HG := Lib.hid (HH0.out.grow (M := b) (kept_grown hgr (fun i e => e)) hrow (hloc.imp (fun x => x) (fun e => ⟨_, Nat.le_refl _, e⟩)) HOK.out)))
        go_meet
        exact ⟨_, HG.out, Nat.le_refl _⟩
    case rest =>
      obtain ⟨C0, hh, hcl⟩ := hcut
      have HV : Hid ((varsOf L kk).Pairwise (· < ·) ∧ (∀ v, v ∈ varsOf L kk ↔ Below2 L kk v) ∧ (∀ v ∈ varsOf L kk, v < 256)) := ⟨varsOf_rising L kk, fun v => mem_varsOf HTW.out.s.good, fun v hv => by
        unfold varsOf at hv
        rw [List.mem_filter] at hv
        simpa using hv.1⟩
      obtain ⟨V, hVV⟩ : ∃ V, varsOf L kk = V := ⟨_, rfl⟩
      rw [hVV] at HV hh
      simp only [hVV]
      have HH := Lib.hid hh
      have HCL := Lib.hid hcl
      clear hh hcl hVV HH0 HTW1 hkk
      go_wp2_with fail
      go_loopg [14, 15] V.length (fun gk u14 u15 wr => ∃ (i : Nat) (C : List Nat), u15 = .int .i64 ((i : Nat) : Int) ∧ i + gk = V.length ∧ HangAt v0 (.slice va V.length vc) V u14 C wr ∧ Fits C V a i ∧ C.length ≤ max b.length 256)
      case atStart => exact ⟨0, C0, rfl, by omega, HH.out, fits_zero _ _ _, by have := HCL.out; omega⟩
      case round =>
        obtain ⟨i, C, rfl, hg, hh, hf, hlen⟩ := hrel
        clear HH HCL
        obtain ⟨gO, hgO⟩ : ∃ gO, gO = gk := ⟨_, rfl⟩
        subst hgO
        have HG := Lib.hid hg
        by_cases hi : i < V.length
        case pos =>
          obtain ⟨v, hv⟩ : ∃ v, V[i]? = some v := ⟨_, List.getElem?_eq_getElem hi⟩
          have hv256 := HV.out.2.2 v (List.mem_of_getElem? hv)
          obtain ⟨gv, cv, hsv, lgv, hcv⟩ := row_int_at hh.vrow hv
          simp only [Value.slice.injEq] at hsv
          obtain ⟨rfl, _, rfl⟩ := hsv
          have q0 : (0 : Int) ≤ ((i : Nat) : Int) := by omega
          have q1 : ((i : Nat) : Int) < ((V.length : Nat) : Int) := by omega
          have q2 : ((v : Nat) : Int) < 256 := by omega
          have HH := Lib.hid hh
          have HF := Lib.hid hf
          have HLEN := Lib.hid hlen
          have HVI := Lib.hid hv
          have hV256 : V.length ≤ 256 := nodup_le 256 V (HV.out.1.imp (fun h e => by omega)) HV.out.2.2
          have r1 : IntKind.i64.wrap (((i : Nat) : Int) + 1) = (((i + 1 : Nat) : Nat) : Int) := by rw [IntKind.wrap_i64]; omega
          have r2 : wrap64 (((i : Nat) : Int) + 1) = (((i + 1 : Nat) : Nat) : Int) := by unfold wrap64; rw [← IntKind.wrap_i64]; exact r1
          have HR2 := Lib.hid r2
          have HI := Lib.hid hi
          obtain ⟨ca, cc, rfl⟩ := row_shape hh.crow
          clear hh hf hlen hv hg hi r1 r2 hv256 hV256
          go_wp2_with fail
          go_loopg [14] (256 - C.length) (fun gk u14 wq => ∃ C' : List Nat, 256 - C'.length = gk ∧ HangAt v0 (.slice (some ⟨gv, 0, none⟩) V.length vc) V u14 C' wq ∧ Fits C' V a i ∧ C'.length ≤ max b.length 256)
          case atStart => exact ⟨C, rfl, HH.out, HF.out, HLEN.out⟩
          case round =>
            obtain ⟨C', hgk, hh, hf, hlen⟩ := hrel
            clear HH HF HLEN
            obtain ⟨ca', cc', rfl⟩ := row_shape hh.crow
            by_cases hlt : C'.length ≤ v
            case pos =>
              have q3 : ((C'.length : Nat) : Int) ≤ ((v : Nat) : Int) := by omega
              obtain ⟨i0, hinfo, hz0, hz1, hz2⟩ := info_parts info_u64
              have HR := Lib.hid (hh.crow.alloc (.cells #[.int .u64 0] 29))
              have HN := Lib.hid (cell_one_new wr (.int .u64 0) 29)
              have H1 := Lib.hid (show ∀ u ∈ [Value.int .u64 0], u.oneCell' = true by intro u hu; simp at hu; subst hu; rfl)
              have HB1 : Hid (v0.heap.size ≤ (wr.alloc (.cells #[.int .u64 0] 29)).heap.size) := by show _ ≤ _; rw [size_alloc]; have := hh.bel.size; omega
              have HH := Lib.hid hh
              have HF := Lib.hid hf
              have HLT := Lib.hid (And.intro hlt (And.intro hlen hgk))
              have hcl : C'.length < 256 := by omega
              clear hh hf hlen hlt hgk
              go_wp2_with (at_builtin; refine wpList_append_own_at _ rfl (.tmp 72) (.tmp 73) 24 rfl v0.heap.size 29 i0 (.int .u64 0) 1 8 Try.underlying24 hinfo hz0 hz1 hz2 rfl (by decide) (.slice ca' C'.length cc') C'.length (rowU C') rfl HR.out ⟨wr.heap.size, 0, none⟩ 1 1 [.int .u64 0] rfl rfl HN.out H1.out (by unfold maxLen; omega) (by omega) HB1.out ?_; intro v' w2 hrow hgr _ hloc; have HH2 := Lib.hid (HH.out.more (M := [0]) hgr hrow hloc (by simp)); clear hrow hgr hloc)
              go_roundg (gk - 1)
              case measure => have := HLT.out; omega
              case rel => exact ⟨C' ++ [0], by have := HLT.out; simp; omega, HH2.out, HF.out.more [0], by have := HLT.out; simp; omega⟩
            case neg =>
              have q3 : decide (((C'.length : Nat) : Int) ≤ ((v : Nat) : Int)) = false := decide_eq_false (by omega)
              have q4 : ((v : Nat) : Int) < ((C'.length : Nat) : Int) := by omega
              have q5 : (0 : Int) ≤ ((v : Nat) : Int) := by omega
              obtain ⟨u0, hu0⟩ : ∃ u, (rowU C')[v]? = some u := ⟨_, List.getElem?_eq_getElem (by simp [rowU]; omega)⟩
              obtain ⟨gc, hgc, hcell, hfz⟩ : ∃ gc, ca' = some ⟨gc, 0, none⟩ ∧ wr.cell? ⟨gc, v, none⟩ = some u0 ∧ wr.frozen? ⟨gc, v, none⟩ = false := by
                rcases hh.crow with ⟨_, ⟨h1, h2⟩ | ⟨g2, c2, cur, h1, _⟩⟩
                · omega
                · simp only [Value.slice.injEq] at h1
                  obtain ⟨rfl, _, rfl⟩ := h1
                  exact ⟨g2, rfl, (hh.crow.cellAt v (by omega)).trans hu0, hh.crow.frozenAt v⟩
              subst hgc
              have HZ := Lib.hid (hh.set (j := v) (u := 0) rfl (by decide))
              have HF := Lib.hid (hf.step HV.out.1 HVI.out (by omega))
              have HLT := Lib.hid hlen
              have lgc := (hh.crow.lt gc rfl).2
              by_cases hva : v < a.length
              case pos =>
                obtain ⟨x, hx⟩ : ∃ x, a[v]? = some x := ⟨_, List.getElem?_eq_getElem hva⟩
                have hx64 := HAA.out.ok x (List.mem_of_getElem? hx)
                have hgx : a.getD v 0 = x := by rw [List.getD_eq_getElem?_getD, hx]; rfl
                rw [hgx] at HF
                have HZ2 := Lib.hid (HZ.out.set (j := v) (u := x) (by simp; exact ⟨rfl, rfl⟩) hx64)
                rw [List.set_set] at HZ2
                rcases HAA.out.at' with h | ⟨ab, ao, rfl, hab, hac⟩
                · subst h; simp at hva
                have hbw := bel_call HTW.out.b hh.bel
                have hax : wr.cell? ⟨ab, ao + v, none⟩ = some (.int .u64 ((x : Nat) : Int)) := (hbw.cell (p := ⟨ab, ao + v, none⟩) hab).trans (hac v x hx)
                have nab : ¬ gc = ab := by have := (hh.crow.lt gc rfl).1; have := HTW.out.b.size; omega
                have nab2 : ¬ ab = gc := fun e => nab e.symm
                have q6 : ((v : Nat) : Int) < ((a.length : Nat) : Int) := by omega
                clear hh hf hlen hlt hgk hu0 hva hx hgx hac hbw
                go_wp2_with fail
                go_roundg (gO - 1)
                case measure => have := HG.out; have := HI.out; omega
                case rel => exact ⟨i + 1, _, by first | rfl | (rw [HR2.out]) | (congr 1; exact HR2.out), by have := HG.out; have := HI.out; omega, HZ2.out, HF.out, by have := HLT.out; simp; omega⟩
              case neg =>
                have hgx : a.getD v 0 = 0 := by rw [List.getD_eq_getElem?_getD, List.getElem?_eq_none (by omega)]; rfl
                rw [hgx] at HF
                have q6 : a.length ≤ v := by omega
                clear hh hf hlen hlt hgk hu0 hgx hva
                go_wp2_with fail
                go_roundg (gO - 1)
                case measure => have := HG.out; have := HI.out; omega
                case rel => exact ⟨i + 1, _, by first | rfl | (rw [HR2.out]) | (congr 1; exact HR2.out), by have := HG.out; have := HI.out; omega, HZ.out, HF.out, by have := HLT.out; simp; omega⟩
        case neg =>
          have hie : i = V.length := by omega
          subst hie
          obtain ⟨ca, cc, rfl⟩ := row_shape hh.crow
          have hT := HTW.out.call hh.bel
          have hin : inB L ((kk : Nat) : Int) = true := by have := HKL.out; unfold inB; simp; omega
          have h6k : I64 ((kk : Nat) : Int) := by have := HKL.out; have := HLN.out; unfold I64; omega
          have HE1 := Lib.hid (eval_yes (aac := ac) hT.s HMAY.out h6k (HAA.out.keep hT.b) hin)
          have HEQ := Lib.hid (hang_eq HMAY.out HKL.out hf HV.out.2.1 (cnd 64 123456789))
          rw [Int.toNat_natCast] at HE1
          obtain ⟨y, hy⟩ : ∃ y, widAt L ((kk : Nat) : Int) = y := ⟨_, rfl⟩
          obtain ⟨z, hz⟩ : ∃ z, evN L a kk = z := ⟨_, rfl⟩
          rw [hy, hz] at HE1 HEQ
          have HH := Lib.hid hh
          have HLT := Lib.hid hlen
          have HIN := Lib.hid (And.intro hin h6k)
          clear hh hf hg hi hT hin hy hz hlen h6k
          go_wp2_with fail
          with_reducible refine HE1.out.mono ?_
          rintro e v2 ⟨rfl, hb2⟩
          have HH3 := Lib.hid (HH.out.call (hb2.trans (bel_alloc (Below.refl _ _) (.cells #[.int .u8 ((y : Nat) : Int), .int .u64 ((z : Nat) : Int)] 31) |>.mono hb2.size)))
          have HV2 : Hid (v0.heap.size ≤ v2.heap.size) := Nat.le_trans HH.out.bel.size hb2.size
          have HX3 := Lib.hid (At2.new v2 (.int .u8 ((y : Nat) : Int)) (.int .u64 ((z : Nat) : Int)) 31)
          have hT3 := HTW.out.call HH3.out.bel
          have HC := Lib.hid (const_any hT3.s hT3.b.size 64 123456789 (by decide))
          simp only [show ((123456789 : Nat) : Int) = 123456789 from rfl] at HC
          have HB3 := Lib.hid hT3.b
          have HS3 := Lib.hid hT3.s
          clear hb2 hT3 HE1 HH
          go_wp2_with fail
          with_reducible refine HC.out.mono ?_
          rintro e v4 ⟨rfl, sv4, S4, hK, _⟩
          have hnf : ∀ g, v0.heap.size ≤ g → ¬ foot (W.heap.size + 1) W.heap.size sv g := fun g hg c => by have := (foot_lt HTW.out.s c).2; omega
          have hc4 := row_kept HH3.out.crow hK (fun g e => hnf g (HH3.out.crow.lt g e).1)
          have hA4 := asg_of_row hc4 HH3.out.ok (by have := HLT.out; have := HBL.out; omega)
          have hv2 : v0.heap.size ≤ v2.heap.size := HV2.out
          have HX4 : Hid (At2 v4 v2.heap.size (.int .u8 ((y : Nat) : Int)) (.int .u64 ((z : Nat) : Int))) := ⟨Nat.lt_of_lt_of_le HX3.out.1 hK.size, (hK.cell (x := ⟨v2.heap.size, 0, none⟩) HX3.out.1 (hnf _ hv2)).trans HX3.out.2.1, (hK.cell (x := ⟨v2.heap.size, 1, none⟩) HX3.out.1 (hnf _ hv2)).trans HX3.out.2.2⟩
          have HB4 := Lib.hid (HB3.out.trans (hK.below (fun i hi c => by have := (foot_lt HTW.out.s c).1; omega) HB3.out.size))
          have HE2 := Lib.hid (eval_yes (aac := cc) S4 (mayL_step HMAY.out _) HIN.out.2 hA4 (by have h1 := HKL.out; have h2 := mk_len L (cnd 64 123456789); unfold inB; simp; omega))
          rw [Int.toNat_natCast, HEQ.out.1, HEQ.out.2] at HE2
          clear HX3 HB3 HS3 S4 hK hnf hc4 hA4 hv2 HC HH3
          go_wp2_with fail
          with_reducible refine HE2.out.mono ?_
          rintro e v5 ⟨rfl, hb5⟩
          have HX5 := Lib.hid (HX4.out.keep hb5)
          have HB5 := Lib.hid (bel_call HB4.out hb5)
          have HY5 := Lib.hid (At2.new v5 (.int .u8 ((y : Nat) : Int)) (.int .u64 ((z : Nat) : Int)) 31)
          have HX6 := Lib.hid (HX5.out.keep (bel_alloc (Below.refl _ _) (.cells #[.int .u8 ((y : Nat) : Int), .int .u64 ((z : Nat) : Int)] 31)))
          have HB6 := Lib.hid (bel_alloc HB5.out (.cells #[.int .u8 ((y : Nat) : Int), .int .u64 ((z : Nat) : Int)] 31))
          obtain ⟨lx, x0, x1⟩ := HX6.out
          obtain ⟨ly, y0, y1⟩ := HY5.out
          clear hb5 HE2 HX4 HX5 HB4 HB5 HX6 HY5
          go_wp2_with (go_at_call 10; refine (works_any _).mono ?_; rintro e v6 ⟨rfl, hb6⟩)
          go_ret
          exact ⟨rfl, bel_call HB6.out hb6⟩
end Tm
end Go.Proofs.Ytjhghfndhpaapaa
