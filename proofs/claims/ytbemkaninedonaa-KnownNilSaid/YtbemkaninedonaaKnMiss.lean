/-
  Those kids that are still to be worked out, as a fact on one call.
-/
import Derived.Test.YtbemkaninedonaaKnSet
import Derived.Test.YtbemkaninedonaaKnKids
import Derived.Deep.LoopGhost
namespace Go.Proofs.Ytbemkaninedonaa
open Go.RowKit Go.Maps Bv Tm
namespace Kn
set_option maxHeartbeats 1000000
set_option maxRecDepth 100000

/-- Of the first m kids those that are not done. -/
def missOf (N : List Nat) (x : Nd) (m : Nat) : List Nat := ((List.range m).map (fun j => (x.kid j).toNat)).filter (fun k => decide (k ∉ N))
theorem missOf_zero (N : List Nat) (x : Nd) : missOf N x 0 = [] := rfl
theorem missOf_in {N : List Nat} {x : Nd} {m : Nat} (h : (x.kid m).toNat ∈ N) : missOf N x (m + 1) = missOf N x m := by
  unfold missOf
  rw [List.range_succ, List.map_append, List.filter_append]
  simp [h]
theorem missOf_out {N : List Nat} {x : Nd} {m : Nat} (h : (x.kid m).toNat ∉ N) : missOf N x (m + 1) = missOf N x m ++ [(x.kid m).toNat] := by
  unfold missOf
  rw [List.range_succ, List.map_append, List.filter_append]
  simp [h]
theorem missOf_len (N : List Nat) (x : Nd) (m : Nat) : (missOf N x m).length ≤ m := by
  unfold missOf
  refine Nat.le_trans (List.length_filter_le _ _) ?_
  simp
theorem mem_missOf {N : List Nat} {x : Nd} {m k : Nat} : k ∈ missOf N x m ↔ (∃ j, j < m ∧ (x.kid j).toNat = k) ∧ k ∉ N := by
  unfold missOf
  simp

/-- What stands while the kids are gone through. -/
structure MissAt (W : World) (L : List Nd) (N : List Nat) (b : Nat) (x : Nd) (m : Nat) (v : Value) (w : World) : Prop where
  row : w.ownsRow W.heap.size 3 1 v (missOf N x m).length (todoRow (missOf N x m))
  bel : Below W.heap.size W w
  box : ∀ j, j < 3 → w.cell? ⟨W.heap.size, 2 + j, none⟩ = some (.int .i64 (x.kid j))
  bl : W.heap.size < w.heap.size
  map : MapAt w L b N
  mb : b < W.heap.size
  nb : v.ownBlock ≠ some W.heap.size

theorem kept_grown {w w' : World} {r : Option Nat} (h : w.grownBy w' r) {F : Nat → Prop} (hF : ∀ i, r = some i → F i) : Kept F w w' := (Kept.refl F w).grown h (fun i e _ => hF i e)
theorem MissAt.skip {W w : World} {L : List Nd} {N : List Nat} {b m : Nat} {x : Nd} {v : Value} (h : MissAt W L N b x m v w) (hin : (x.kid m).toNat ∈ N) (o : Obj) : MissAt W L N b x (m + 1) v (w.alloc o) := by
  have hbl := h.bl
  refine ⟨?_, bel_alloc h.bel o, fun j hj => by rw [World.cell?_alloc_lt _ _ _ hbl]; exact h.box j hj, by rw [size_alloc]; omega, h.map.same (Below.heap_alloc _ _ _ h.map.lt), h.mb, h.nb⟩
  rw [missOf_in hin]
  exact h.row.alloc o
theorem MissAt.push {W w w2 : World} {L : List Nd} {N : List Nat} {b m : Nat} {x : Nd} {v v' : Value} {o1 o2 : Obj} (h : MissAt W L N b x m v w) (hout : (x.kid m).toNat ∉ N) (h0 : 0 ≤ x.kid m)
    (hg : ((w.alloc o1).alloc o2).grownBy w2 v.ownBlock) (hrow : w2.ownsRow W.heap.size 3 1 v' ((missOf N x m).length + 1) (todoRow (missOf N x m) ++ [.int .i64 (x.kid m)])) (hloc : v'.ownBlock = v.ownBlock ∨ v'.ownBlock = some ((w.alloc o1).alloc o2).heap.size) :
    MissAt W L N b x (m + 1) v' w2 := by
  have hbl := h.bl
  have hlt := h.map.lt
  have hm := h.mb
  have zg := hg.size
  have z0 := h.bel.size
  rw [size_alloc, size_alloc] at zg hloc
  have vlt : ∀ g, v.ownBlock = some g → W.heap.size ≤ g := fun g e => (h.row.lt g e).1
  have K : Kept (fun i => v.ownBlock = some i) w w2 := (((Kept.refl _ w).alloc o1).alloc o2).grown hg (fun i e _ => e)
  refine ⟨?_, h.bel.trans (K.below (fun i hi c => by have := vlt i c; omega) z0), fun j hj => (K.cell (x := ⟨W.heap.size, 2 + j, none⟩) hbl h.nb).trans (h.box j hj), by omega, h.map.same (K.block b hlt (fun c => by have := vlt b c; omega)), hm, ?_⟩
  · rw [missOf_out hout]
    have e : todoRow (missOf N x m ++ [(x.kid m).toNat]) = todoRow (missOf N x m) ++ [.int .i64 (x.kid m)] := by
      unfold todoRow
      rw [List.map_append]
      congr 1
      simp
      omega
    rw [e, List.length_append]
    exact hrow
  · rcases hloc with e | e
    · rw [e]; exact h.nb
    · rw [e]; intro c; simp at c; omega

theorem miss_any {W : World} {L : List Nd} {N : List Nat} {b : Nat} {x : Nd} (hM : MapAt W L b N) (ho : x.o ≤ 25) (hk : ∀ j, j < ka x.o → 0 ≤ x.kid j ∧ x.kid j < 9223372036854775808) :
    Calls Try.prog 16 #[x.val, .map (some b)] W fun e W' => ∃ v, e = .returned v ∧ W'.ownsRow W.heap.size 3 1 v (missOf N x (ka x.o)).length (todoRow (missOf N x (ka x.o))) ∧ Below W.heap.size W W' := by
  have hka : ka x.o ≤ 3 := Nat.le_trans (ka_le _) (kc_le _)
  obtain ⟨n, hn⟩ : ∃ n, ka x.o = n := ⟨_, rfl⟩
  have HK := Lib.hid (fun W => ka_any ho W)
  rw [hn] at hka hk HK
  rw [hn]
  have HKID := Lib.hid hk
  have HMAP := Lib.hid hM
  have HB := Lib.hid hM.lt
  obtain ⟨i0, hinfo, hz0, hz1, hz2⟩ := info_parts info_int
  have HINFO := Lib.hid hinfo
  have HZ0 := Lib.hid hz0
  have HZ1 := Lib.hid hz1
  have HZ2 := Lib.hid hz2
  have q3 : ((n : Nat) : Int) ≤ 3 := by omega
  have q0 : (0 : Int) ≤ ((n : Nat) : Int) := by omega
  have hn3 := Lib.hid hka
  unfold Nd.val
  clear hn hk hM hinfo hz0 hz1 hz2 ho hka
  go_enter Try.func16, Try.ntmps16
  go_wp2_with (go_at_call 29; refine (HK.out _).mono ?_; rintro e w1 ⟨rfl, rfl⟩)
  go_loopg [5, 16] n (fun gk u5 u16 wr => ∃ i : Nat, u16 = .int .i64 ((i : Nat) : Int) ∧ i + gk = n ∧ MissAt W L N b x i u5 wr)
  case atStart =>
    refine ⟨0, rfl, by omega, ⟨World.ownsRow_nil _ _ _ _, bel_alloc (Below.refl _ _) _, fun j hj => ?_, by rw [size_alloc]; omega, HMAP.out.same (Below.heap_alloc _ _ _ HB.out), HB.out, by simp [Value.ownBlock]⟩⟩
    have h7 := At7.new W (.int .u8 ((x.o : Nat) : Int)) (.int .u8 ((x.w : Nat) : Int)) (.int .i64 x.k0) (.int .i64 x.k1) (.int .i64 x.k2) (.int .u64 ((x.n : Nat) : Int)) (.int .u8 ((x.l : Nat) : Int)) 57
    unfold At7 at h7
    match j, hj with
    | 0, _ => exact h7.2.2.1
    | 1, _ => exact h7.2.2.2.1
    | 2, _ => exact h7.2.2.2.2.1
  case round =>
    obtain ⟨i, rfl, hgk, hA⟩ := hrel
    have HA := Lib.hid hA
    have HGK := Lib.hid hgk
    by_cases hi : i < n
    case pos =>
      have c0 := hA.box i (by have := hn3.out; omega)
      have lbl := hA.bl
      have kid0 := (HKID.out i hi).1
      have kid1 : I64 (x.kid i) := by have := (HKID.out i hi); unfold I64; omega
      have HK0 := Lib.hid kid0
      have q1 : ((i : Nat) : Int) < ((n : Nat) : Int) := by omega
      have q2 : (0 : Int) ≤ ((i : Nat) : Int) := by omega
      have r1 : IntKind.i64.wrap (((i : Nat) : Int) + 1) = (((i + 1 : Nat) : Nat) : Int) := by have := hn3.out; rw [IntKind.wrap_i64]; omega
      have r2 : wrap64 (((i : Nat) : Int) + 1) = (((i + 1 : Nat) : Nat) : Int) := by unfold wrap64; rw [← IntKind.wrap_i64]; exact r1
      have hl := hA.map.look2 kid1
      obtain ⟨kq, hkq⟩ : ∃ kq, x.kid i = kq := ⟨_, rfl⟩
      have HKQ := Lib.hid hkq
      rw [hkq] at c0 hl
      have HR2 := Lib.hid r2
      by_cases hin : (x.kid i).toNat ∈ N
      case pos =>
        rw [show decide (0 ≤ kq ∧ kq.toNat ∈ N) = true by rw [← hkq]; exact decide_eq_true ⟨kid0, hin⟩] at hl
        unfold lkV at hl
        have HIN := Lib.hid hin
        clear hA hgk hin hkq kid0 kid1 hi
        go_wp2_with fail
        go_roundg (gk - 1)
        case measure => have := HGK.out; omega
        case rel => exact ⟨i + 1, by first | rfl | (rw [HR2.out]) | (congr 1; exact HR2.out), by have := HGK.out; omega, HA.out.skip HIN.out _⟩
      case neg =>
        rw [show decide (0 ≤ kq ∧ kq.toNat ∈ N) = false by rw [← hkq]; exact decide_eq_false (fun c => hin c.2)] at hl
        unfold lkV at hl
        have HIN := Lib.hid hin
        have hrow := (hA.row.alloc (.cells #[.int .u8 ((lkW L N kq : Nat) : Int), .int .u64 (((lkB L N kq).1 : Nat) : Int), .int .u64 (((lkB L N kq).2 : Nat) : Int)] 64)).alloc (.cells #[.int .i64 kq] 3)
        have HROW := Lib.hid hrow
        have hc1 := cell_one_new (wr.alloc (.cells #[.int .u8 ((lkW L N kq : Nat) : Int), .int .u64 (((lkB L N kq).1 : Nat) : Int), .int .u64 (((lkB L N kq).2 : Nat) : Int)] 64)) (.int .i64 kq) 3
        rw [size_alloc] at hc1
        have HC1 := Lib.hid hc1
        have H1 := Lib.hid (show ∀ u ∈ [Value.int .i64 kq], u.oneCell' = true by intro u hu; simp at hu; subst hu; rfl)
        have HSZ : Hid (W.heap.size ≤ ((wr.alloc (.cells #[.int .u8 ((lkW L N kq : Nat) : Int), .int .u64 (((lkB L N kq).1 : Nat) : Int), .int .u64 (((lkB L N kq).2 : Nat) : Int)] 64)).alloc (.cells #[.int .i64 kq] 3)).heap.size) := Lib.hid (by rw [size_alloc, size_alloc]; omega)
        have HLN := Lib.hid (missOf_len N x i)
        have HI := Lib.hid hi
        clear hA hgk hin hkq kid0 kid1 hi hrow hc1
        go_wp2_with (at_builtin; go_loud (refine wpList_append_own_at _ rfl (.tmp 28) (.tmp 30) 61 rfl W.heap.size 3 i0 (.int .i64 0) 1 8 Try.underlying61 HINFO.out HZ0.out HZ1.out HZ2.out rfl (by decide) u5 (missOf N x i).length (todoRow (missOf N x i)) rfl HROW.out ⟨wr.heap.size + 1, 0, none⟩ 1 1 [.int .i64 kq] rfl rfl HC1.out H1.out (by unfold maxLen; have := HLN.out; have := HI.out; have := hn3.out; omega) (by have := HLN.out; have := HI.out; have := hn3.out; omega) HSZ.out ?_); intro v' w2 hrow2 hgr _ hloc; have D2 := HA.out.push HIN.out HK0.out hgr (by rw [HKQ.out]; exact hrow2) hloc)
        all_goals
          go_roundg (gk - 1)
          case measure => have := HGK.out; omega
          case rel => exact ⟨i + 1, by first | rfl | (rw [HR2.out]) | (congr 1; exact HR2.out), by have := HGK.out; omega, D2⟩
    case neg =>
      have q1 : ¬ ((i : Nat) : Int) < ((n : Nat) : Int) := by omega
      obtain rfl : i = n := by omega
      clear hA hgk
      go_wp2_with fail
      go_ret
      exact ⟨_, rfl, HA.out.row, HA.out.bel⟩
end Kn
end Go.Proofs.Ytbemkaninedonaa
