/-
  The program's Put and Name, walked.
-/
import Derived.Test.YtbgcgomefdblpaaDoorDqGet
import Derived.Test.YtbgcgomefdblpaaDoorDqRput
namespace Go.Proofs.YtbgcgomefdblpaaDoor
open Go.RowKit
namespace De
set_option maxHeartbeats 3200000
set_option maxRecDepth 100000

/-- What the program's Put holds on to. -/
structure PqAt (W w : World) (i : Ins) : Prop where
  x : InsAt w W.heap.size i
  e : EnvAt w
  bw : Below W.heap.size W w
theorem PqAt.below {W w w' : World} {i : Ins} (h : PqAt W w i) (hb : Below w.heap.size w w') : PqAt W w' i := ⟨h.x.below hb, h.e.below hb, De.on h.bw hb⟩
theorem pput_any {x : Ins} (hx : x.Ok) (W : World) (hE : EnvAt W) : Calls Tryd.prog 10 #[.agg (insV x)] W fun e W' => e = .returned (.tuple #[.int .u32 (((putP x).getD 0 : Nat) : Int), .int .i64 (erN (putP x) 2)]) ∧ Below W.heap.size W W' := by
  have HX := Lib.hid hx
  have HG0 : Hid (PqAt W (W.alloc (.cells (insV x) 26)) x) := Lib.hid ⟨InsAt.new W x _, hE.below (alloc_below W _), alloc_below W _⟩
  obtain ⟨cs, tt, fr, hg, hs, hc⟩ := (hE.below (alloc_below W (.cells (insV x) 26))).rows
  have HIX := Lib.hid (fun (i : Nat) (q : Qr) (hi : rowsQ[i]? = some q) (w : World) => index_rows hs hc hi w)
  have HG := Lib.hid (And.intro hg hs)
  clear hx hE hg hs hc
  unfold insV at HG0 HG ⊢
  go_enter Tryd.func10, Tryd.ntmps10
  go_upto_region 1 with fail
  generalize W.alloc _ = w1 at HG0 HG ⊢
  go_wp2_with fail
  rename_i hk
  refine wp_load_row _ _ rfl 0 rfl tt cs fr _ HG.out.1 Tryd.underlying38 rfl (by rw [HG.out.2]; kernel_rfl) (hk _ _ ?_)
  clear hk HG
  simp only [Act.put, List.setIfInBounds_toArray, List.set_cons_zero, List.set_cons_succ]
  go_wp2_with fail
  go_loopg [7] 39 (fun gk v7 wr => ∃ i : Nat, v7 = .int .i64 ((i : Nat) : Int) ∧ i + gk = 39 ∧ PqAt W wr x ∧ ∀ j q, j < i → rowsQ[j]? = some q → ¬ (q.lo ≤ x.op ∧ x.op ≤ q.hi))
  case atStart => exact ⟨0, rfl, rfl, HG0.out, fun j r h => by omega⟩
  case round =>
    obtain ⟨i, rfl, hgk, hG, hno⟩ := hrel
    have HGK := Lib.hid hgk
    have HG := Lib.hid hG
    have HNO := Lib.hid hno
    clear HG0 hno
    by_cases hlt : i < 39
    · have g1 : ((i : Nat) : Int) < 39 := by omega
      have i0 : (0 : Int) ≤ ((i : Nat) : Int) := by omega
      obtain ⟨q, hq⟩ : ∃ q, rowsQ[i]? = some q := ⟨_, List.getElem?_eq_getElem (by rw [rowsQ_len]; exact hlt)⟩
      have hix := HIX.out i q hq
      have HQ := Lib.hid hq
      have HG1 := Lib.hid (hG.below (alloc_below wr (.cells (qrV q) 37)))
      have HR1 := Lib.hid (QrAt.new wr q 37)
      clear hq hG hgk
      by_cases c1 : q.lo ≤ x.op
      · have t1 : ((q.lo : Nat) : Int) ≤ ((x.op : Nat) : Int) := by omega
        by_cases c2 : x.op ≤ q.hi
        · have t2 : ((x.op : Nat) : Int) ≤ ((q.hi : Nat) : Int) := by omega
          have HRP := Lib.hid (fun W hE => rput_any (List.mem_of_getElem? HQ.out) HX.out c1 c2 W hE)
          rw [← put_eq (List.mem_of_getElem? HQ.out) HX.out c1 c2] at HRP
          obtain ⟨n, hn⟩ : ∃ n, n = (putP x).getD 0 := ⟨_, rfl⟩
          obtain ⟨er, her⟩ : ∃ er, er = erN (putP x) 2 := ⟨_, rfl⟩
          rw [← hn, ← her] at HRP
          have HNE := Lib.hid (And.intro hn her)
          clear hn her
          unfold qrV at hix HG1 HR1 HRP
          unfold insV at HRP
          clear c1 c2
          go_upto_region 4 with fail
          generalize wr.alloc _ = w2 at HG1 HR1 ⊢
          generalize wr.heap.size = bq at HR1 ⊢
          have q0 := HR1.out.q0
          have q1 := HR1.out.q1
          have q2 := HR1.out.q2
          have q3 := HR1.out.q3
          have i0 := HG1.out.x.i0
          have i1 := HG1.out.x.i1
          have i2 := HG1.out.x.i2
          have i3 := HG1.out.x.i3
          have i4 := HG1.out.x.i4
          have i5 := HG1.out.x.i5
          go_wp2_with fail
          refine (HRP.out _ (by exact HG1.out.e)).mono ?_
          rintro e w3 ⟨rfl, hb⟩
          have HG2 := Lib.hid (HG1.out.below hb)
          clear q0 q1 q2 q3 i0 i1 i2 i3 i4 i5 hb
          go_wp2_with fail
          go_ret2
          exact ⟨by rw [← HNE.out.1, ← HNE.out.2]; rfl, HG2.out.bw⟩
        · have t2 : decide (((x.op : Nat) : Int) ≤ ((q.hi : Nat) : Int)) = false := decide_eq_false (by omega)
          have t3 : ¬ ((x.op : Nat) : Int) ≤ ((q.hi : Nat) : Int) := by omega
          have HFIT : Hid (¬ (q.lo ≤ x.op ∧ x.op ≤ q.hi)) := Lib.hid (fun h => c2 h.2)
          unfold qrV at hix HG1 HR1
          clear c1 c2
          go_upto_region 4 with fail
          generalize wr.alloc _ = w2 at HG1 HR1 ⊢
          generalize wr.heap.size = bq at HR1 ⊢
          have q0 := HR1.out.q0
          have q1 := HR1.out.q1
          have i0 := HG1.out.x.i0
          go_wp2_with fail
          go_roundg (gk - 1)
          case measure => have := HGK.out; omega
          case rel =>
            refine ⟨i + 1, by go_num, by have := HGK.out; omega, HG1.out, fun j r' h h2 => ?_⟩
            by_cases e : j = i
            · subst e
              rw [HQ.out] at h2
              injection h2 with h2
              rw [← h2]; exact HFIT.out
            · exact HNO.out j r' (by omega) h2
      · have t1 : decide (((q.lo : Nat) : Int) ≤ ((x.op : Nat) : Int)) = false := decide_eq_false (by omega)
        have t3 : ¬ ((q.lo : Nat) : Int) ≤ ((x.op : Nat) : Int) := by omega
        have HFIT : Hid (¬ (q.lo ≤ x.op ∧ x.op ≤ q.hi)) := Lib.hid (fun h => c1 h.1)
        unfold qrV at hix HG1 HR1
        clear c1
        go_upto_region 4 with fail
        generalize wr.alloc _ = w2 at HG1 HR1 ⊢
        generalize wr.heap.size = bq at HR1 ⊢
        have q0 := HR1.out.q0
        have q1 := HR1.out.q1
        have i0 := HG1.out.x.i0
        go_wp2_with fail
        go_roundg (gk - 1)
        case measure => have := HGK.out; omega
        case rel =>
          refine ⟨i + 1, by go_num, by have := HGK.out; omega, HG1.out, fun j r' h h2 => ?_⟩
          by_cases e : j = i
          · subst e
            rw [HQ.out] at h2
            injection h2 with h2
            rw [← h2]; exact HFIT.out
          · exact HNO.out j r' (by omega) h2
    · have g1 : decide (((i : Nat) : Int) < 39) = false := decide_eq_false (by omega)
      obtain rfl : i = 39 := by omega
      have HGET : Hid (putP x = none) := Lib.hid (put_no (by
        intro q hq
        obtain ⟨j, hj⟩ := List.mem_iff_getElem?.1 hq
        have lj := (List.getElem?_eq_some_iff.1 hj).1
        rw [rowsQ_len] at lj
        exact HNO.out j q lj hj))
      clear hG hgk HNO
      go_wp2_with fail
      go_ret2
      exact ⟨by rw [HGET.out]; rfl, HG.out.bw⟩
theorem namesQ_get {o : Nat} (h : o ≤ 68) : namesQ[o]? = some (nameP o) := by
  have h2 : ∀ o : Fin 69, namesQ[o.1]?.map (·.data) = some (nameP o.1).data := by decide +kernel
  have := h2 ⟨o, by omega⟩
  simp only [] at this
  cases hn : namesQ[o]? with
  | none => rw [hn] at this; cases this
  | some s =>
    rw [hn] at this
    simp only [Option.map_some, Option.some.injEq] at this
    cases s
    cases hm : nameP o
    rw [hm] at this
    simp only [] at this
    rw [this]
theorem pname_any {o : Nat} (ho : o ≤ 255) (W : World) (hE : EnvAt W) : Calls Tryd.prog 12 #[.int .u8 ((o : Nat) : Int)] W fun e W' => e = .returned (.string (nameP o)) ∧ Below W.heap.size W W' := by
  by_cases h : o ≤ 68
  · have hc := hE.names o _ (namesQ_get h)
    have o0 : (0 : Int) ≤ ((o : Nat) : Int) := by omega
    have o1 : ((o : Nat) : Int) < 69 := by omega
    have o2 : decide (((o : Nat) : Int) ≥ 69) = false := decide_eq_false (by omega)
    have o3 : decide ((69 : Int) ≤ ((o : Nat) : Int)) = false := decide_eq_false (by omega)
    generalize nameP o = s at hc ⊢
    clear hE h
    go_enter Tryd.func12, Tryd.ntmps12
    go_wp2_with fail
    go_ret
    exact ⟨rfl, Below.refl _ _⟩
  · have hn : nameP o = noName := by unfold nameP; rw [if_neg (by omega)]
    have o2 : ((o : Nat) : Int) ≥ 69 := by omega
    have o3 : (69 : Int) ≤ ((o : Nat) : Int) := by omega
    have o1 : ((o : Nat) : Int) ≤ 255 := by omega
    rw [hn]
    clear hE h hn ho
    go_enter Tryd.func12, Tryd.ntmps12
    go_wp2_with fail
    go_ret
    exact ⟨rfl, Below.refl _ _⟩
end De
end Go.Proofs.YtbgcgomefdblpaaDoor
