/-
  The checker is made, and takes in the clauses.
-/
import Derived.Test.YtmgkgbhkaoflhaaRwAdd
import Derived.Deep.DeepCutAuto
import Derived.BigRegion
namespace Go.Proofs.Ytmgkgbhkaoflhaa
open Go.RowKit
namespace Rw
open Cf Rp
set_option maxHeartbeats 6400000
set_option maxRecDepth 100000

theorem made_one (z : Value) (hz : z.cells = #[z]) (n : Nat) : madeCells z.cells (n * 1) = (List.replicate n z).toArray := by
  apply Array.ext_getElem?
  intro j
  by_cases hj : j < n
  · simp [madeCells, hz, hj, Nat.mod_one]
  · simp [madeCells, hz, hj]
theorem info_list : (Try.prog.info? 86).map (fun i => (i.zero, i.size, i.bytes)) = some (some (.slice none 0 0), 1, 24) := by kernel_rfl
theorem make_lists (v : Nat) (hv : v ≤ 1000000) (W : World) : (Instr.makeSlice 48 (.int .i64 (2 * ((v : Nat) : Int) + 1)) (.int .i64 (2 * ((v : Nat) : Int) + 1))).run Try.prog W = .ok (.slice (some ⟨W.heap.size, 0, none⟩) (2 * v + 1) (2 * v + 1)) (W.alloc (.cells (List.replicate (2 * v + 1) (Value.slice none 0 0)).toArray 86)) := by
  obtain ⟨i0, hinfo, hz0, hz1, hz2⟩ := infos info_list
  have h := run_makeSlice (P := Try.prog) (w := W) 48 86 i0 (.slice none 0 0) Try.underlying48 hinfo hz0 .i64 .i64 (2 * ((v : Nat) : Int) + 1) (2 * ((v : Nat) : Int) + 1) (by omega) (Int.le_refl _) (by rw [hz1]; simp; omega) (by rw [hz2]; omega) (by omega)
  rw [hz1] at h
  have e : (2 * ((v : Nat) : Int) + 1).toNat = 2 * v + 1 := by omega
  simp only [e] at h
  rw [made_one _ rfl] at h
  exact h
theorem make_words (v : Nat) (hv : v ≤ 1000000) (W : World) : (Instr.makeSlice 50 (.int .i64 ((2 * ((v : Nat) : Int) + 1) / 64 + 1)) (.int .i64 ((2 * ((v : Nat) : Int) + 1) / 64 + 1))).run Try.prog W = .ok (.slice (some ⟨W.heap.size, 0, none⟩) (nw v) (nw v)) (W.alloc (.cells (List.replicate (nw v) (Value.int .u64 0)).toArray 87)) := by
  obtain ⟨i0, hinfo, hz0, hz1, hz2⟩ := infos info_u64
  have h := run_makeSlice (P := Try.prog) (w := W) 50 87 i0 (.int .u64 0) Try.underlying50 hinfo hz0 .i64 .i64 ((2 * ((v : Nat) : Int) + 1) / 64 + 1) ((2 * ((v : Nat) : Int) + 1) / 64 + 1) (by omega) (Int.le_refl _) (by rw [hz1]; simp; omega) (by rw [hz2]; omega) (by omega)
  rw [hz1] at h
  have e : ((2 * ((v : Nat) : Int) + 1) / 64 + 1).toNat = nw v := by unfold nw; omega
  simp only [e] at h
  rw [made_one _ rfl] at h
  exact h
theorem build_chk (w : World) (x : Int) (a b c : Option Addr) (k l c1 d e f : Nat) : (Instr.build 53 #[(0, .int .i64 x), (1, .slice a k l), (2, .slice b c1 d), (3, .slice c e f)]).run Try.prog w = .ok (.agg #[.int .i64 x, .slice a k l, .slice b c1 d, .slice c e f, .slice none 0 0, .bool false]) w := run_build w _ _ _ (by kernel_rfl)
def s0 : PS := ⟨fun _ => [], [], fun _ => [], fun _ => 0, fun _ => false, [], false⟩
def L0 (k wb sb db : Nat) : Lay := ⟨wb, sb, db, .slice none 0 0, fun _ => .slice none 0 0, fun _ => .slice none 0 0, tagOf (tagOf (tagOf (tagOf (fun _ => .non) (some k) .chk) (some wb) .wat) (some sb) .sur) (some db) .dec⟩
theorem zero_bits {U : World} {b v : Nat} (h : U.heap[b]? = some (.cells (List.replicate (nw v) (Value.int .u64 0)).toArray 87 (0, 0))) : BitsAt U b (nw v) fun _ => false := by
  refine ⟨List.replicate (nw v) 0, by simp, by rw [h]; simp [wordV], fun x hx => by rw [(List.mem_replicate.1 hx).2]; decide, fun q _ => ?_⟩
  have : (List.replicate (nw v) 0).getD (q / 64) 0 = 0 := by
    rw [List.getD, List.getElem?_replicate]
    split <;> rfl
  rw [this]
  exact Nat.zero_testBit _
theorem KAt.made {U : World} {B v k wb sb db : Nat} (hk : U.heap[k]? = some (.cells #[.int .i64 ((v : Nat) : Int), .slice (some ⟨wb, 0, none⟩) (2 * v + 1) (2 * v + 1), .slice (some ⟨sb, 0, none⟩) (nw v) (nw v), .slice (some ⟨db, 0, none⟩) (nw v) (nw v), .slice none 0 0, .bool false] 53 (0, 0)))
    (hw : U.heap[wb]? = some (.cells (List.replicate (2 * v + 1) (Value.slice none 0 0)).toArray 86 (0, 0))) (hs : U.heap[sb]? = some (.cells (List.replicate (nw v) (Value.int .u64 0)).toArray 87 (0, 0))) (hd : U.heap[db]? = some (.cells (List.replicate (nw v) (Value.int .u64 0)).toArray 87 (0, 0)))
    (hB : B ≤ k ∧ B ≤ wb ∧ B ≤ sb ∧ B ≤ db) (hn : k ≠ wb ∧ k ≠ sb ∧ k ≠ db ∧ wb ≠ sb ∧ wb ≠ db ∧ sb ≠ db) : KAt B v U k (L0 k wb sb db) s0 (s0.T.elem ·) none := by
  have hlt : ∀ {b : Nat} {o : Obj}, U.heap[b]? = some o → b < U.heap.size := fun h => (Array.getElem?_eq_some_iff.1 h).1
  obtain ⟨n1, n2, n3, n4, n5, n6⟩ := hn
  have ne : ∀ {a b : Nat}, a ≠ b → some a ≠ some b := fun h e => h (by injection e)
  refine ⟨hk, ?_, zero_bits hs, zero_bits hd, World.ownsRow_nil _ _ _ _, fun p _ _ => World.ownsRow_nil _ _ _ _, fun c hc => (by cases hc), fun c hc => (by cases hc), ?_, ?_, ?_, ?_, fun g e => (by cases e), fun p _ _ g e => (by cases e), fun c hc => (by cases hc), fun c hc => (by cases hc), fun b hb => ?_⟩
  · show U.heap[wb]? = _
    rw [hw]
    have e : rowW v (fun _ => Value.slice none 0 0) = (List.replicate (2 * v + 1) (Value.slice none 0 0)).toArray := by
      unfold rowW
      rw [List.map_const', List.length_range]
    show _ = some (Obj.cells (rowW v fun _ => Value.slice none 0 0) _ _)
    rw [e]
  · show tagOf (tagOf (tagOf (tagOf _ _ _) _ _) _ _) _ _ k = _
    rw [tagOf_ne (ne n3.symm), tagOf_ne (ne n2.symm), tagOf_ne (ne n1.symm), tagOf_at]
  · show tagOf (tagOf (tagOf (tagOf _ _ _) _ _) _ _) _ _ wb = _
    rw [tagOf_ne (ne n5.symm), tagOf_ne (ne n4.symm), tagOf_at]
  · show tagOf (tagOf (tagOf (tagOf _ _ _) _ _) _ _) _ _ sb = _
    rw [tagOf_ne (ne n6.symm), tagOf_at]
  · exact tagOf_at
  · have hb : tagOf (tagOf (tagOf (tagOf (fun _ => Role.non) (some k) .chk) (some wb) .wat) (some sb) .sur) (some db) .dec b ≠ .non := hb
    by_cases e1 : b = db
    · rw [e1]; exact ⟨hB.2.2.2, hlt hd⟩
    · by_cases e2 : b = sb
      · rw [e2]; exact ⟨hB.2.2.1, hlt hs⟩
      · by_cases e3 : b = wb
        · rw [e3]; exact ⟨hB.2.1, hlt hw⟩
        · by_cases e4 : b = k
          · rw [e4]; exact ⟨hB.1, hlt hk⟩
          · rw [tagOf_ne (ne (Ne.symm e1)), tagOf_ne (ne (Ne.symm e2)), tagOf_ne (ne (Ne.symm e3)), tagOf_ne (ne (Ne.symm e4))] at hb
            exact absurd rfl hb
theorem ci_none (v : Nat) : CI v [] s0 :=
  ⟨⟨fun p id h => (by cases h), fun p => List.nodup_nil, fun id h => (by cases h), fun id h => (by cases h)⟩, fun e => (by cases e), fun _ id h => (by cases h), fun _ x h => (by cases h), fun _ x h => (by cases h), fun _ id h => (by cases h), fun _ k h => (by cases h)⟩
theorem four (w1 : World) (o1 o2 o3 o4 : Obj) : (((w1.alloc o1).alloc o2).alloc o3 |>.alloc o4).heap[w1.heap.size]? = some o1 ∧ (((w1.alloc o1).alloc o2).alloc o3 |>.alloc o4).heap[w1.heap.size + 1]? = some o2 ∧ (((w1.alloc o1).alloc o2).alloc o3 |>.alloc o4).heap[w1.heap.size + 1 + 1]? = some o3 ∧ (((w1.alloc o1).alloc o2).alloc o3 |>.alloc o4).heap[w1.heap.size + 1 + 1 + 1]? = some o4 := by
  have e : (((w1.alloc o1).alloc o2).alloc o3 |>.alloc o4).heap = (((w1.heap.push o1).push o2).push o3).push o4 := rfl
  refine ⟨?_, ?_, ?_, ?_⟩
  · rw [e]; simp only [Array.getElem?_push, Array.size_push]; rw [if_neg (by omega), if_neg (by omega), if_neg (by omega), if_pos trivial]
  · rw [e]; simp only [Array.getElem?_push, Array.size_push]; rw [if_neg (by omega), if_neg (by omega), if_pos trivial]
  · rw [e]; simp only [Array.getElem?_push, Array.size_push]; rw [if_neg (by omega), if_pos trivial]
  · rw [e]; simp only [Array.getElem?_push, Array.size_push]; rw [if_pos trivial]
theorem Kept.belowB {B v : Nat} {w w' : World} {k : Nat} {L L' : Lay} {s : PS} {D : Int → Bool} {gap : Option Nat} (h : KAt B v w k L s D gap) (hB : B ≤ w.heap.size) (hk : Kept L w w' L') : Below B w w' :=
  ⟨hk.os, hk.tape, hk.output, hk.size, fun b hb => (hk.blk b (by omega) (Classical.byContradiction fun hn => by have := (h.low b hn).1; omega)).1⟩
structure Mk (B v : Nat) (W V : World) (x : Value) : Prop where
  lt : B < V.heap.size
  bel : Below B W V
  cell : V.cell? ⟨B, 1, none⟩ = some x
section
variable {B v : Nat} {W V : World} {x : Value}
theorem mk_wsd (h : Mk B v W V x) : KAt B v (((((V.alloc (.cells (Array.replicate (2 * v + 1) (.slice none 0 0)) 86)).alloc (.cells (Array.replicate (nw v) (.int .u64 0)) 87)).alloc (.cells (Array.replicate (nw v) (.int .u64 0)) 87)).alloc (.cells #[.int .i64 ((v : Nat) : Int), .slice (some ⟨V.heap.size, 0, none⟩) (2 * v + 1) (2 * v + 1), .slice (some ⟨V.heap.size + 1, 0, none⟩) (nw v) (nw v), .slice (some ⟨V.heap.size + 1 + 1, 0, none⟩) (nw v) (nw v), .slice none 0 0, .bool false] 53)).drew) (V.heap.size + 1 + 1 + 1) (L0 (V.heap.size + 1 + 1 + 1) (V.heap.size) (V.heap.size + 1) (V.heap.size + 1 + 1)) s0 (s0.T.elem ·) none ∧ Below B W (((((V.alloc (.cells (Array.replicate (2 * v + 1) (.slice none 0 0)) 86)).alloc (.cells (Array.replicate (nw v) (.int .u64 0)) 87)).alloc (.cells (Array.replicate (nw v) (.int .u64 0)) 87)).alloc (.cells #[.int .i64 ((v : Nat) : Int), .slice (some ⟨V.heap.size, 0, none⟩) (2 * v + 1) (2 * v + 1), .slice (some ⟨V.heap.size + 1, 0, none⟩) (nw v) (nw v), .slice (some ⟨V.heap.size + 1 + 1, 0, none⟩) (nw v) (nw v), .slice none 0 0, .bool false] 53)).drew) ∧ (((((V.alloc (.cells (Array.replicate (2 * v + 1) (.slice none 0 0)) 86)).alloc (.cells (Array.replicate (nw v) (.int .u64 0)) 87)).alloc (.cells (Array.replicate (nw v) (.int .u64 0)) 87)).alloc (.cells #[.int .i64 ((v : Nat) : Int), .slice (some ⟨V.heap.size, 0, none⟩) (2 * v + 1) (2 * v + 1), .slice (some ⟨V.heap.size + 1, 0, none⟩) (nw v) (nw v), .slice (some ⟨V.heap.size + 1 + 1, 0, none⟩) (nw v) (nw v), .slice none 0 0, .bool false] 53)).drew).cell? ⟨B, 1, none⟩ = some x := by
  obtain ⟨t1, t2, t3, t4⟩ := four V (.cells (Array.replicate (2 * v + 1) (.slice none 0 0)) 86) (.cells (Array.replicate (nw v) (.int .u64 0)) 87) (.cells (Array.replicate (nw v) (.int .u64 0)) 87) (.cells #[.int .i64 ((v : Nat) : Int), .slice (some ⟨V.heap.size, 0, none⟩) (2 * v + 1) (2 * v + 1), .slice (some ⟨V.heap.size + 1, 0, none⟩) (nw v) (nw v), .slice (some ⟨V.heap.size + 1 + 1, 0, none⟩) (nw v) (nw v), .slice none 0 0, .bool false] 53)
  have hbl := h.lt
  have hb : Below V.heap.size V (((((V.alloc (.cells (Array.replicate (2 * v + 1) (.slice none 0 0)) 86)).alloc (.cells (Array.replicate (nw v) (.int .u64 0)) 87)).alloc (.cells (Array.replicate (nw v) (.int .u64 0)) 87)).alloc (.cells #[.int .i64 ((v : Nat) : Int), .slice (some ⟨V.heap.size, 0, none⟩) (2 * v + 1) (2 * v + 1), .slice (some ⟨V.heap.size + 1, 0, none⟩) (nw v) (nw v), .slice (some ⟨V.heap.size + 1 + 1, 0, none⟩) (nw v) (nw v), .slice none 0 0, .bool false] 53)).drew) := (((((Below.refl V.heap.size V).alloc (Nat.le_refl _) _).alloc (by simp) _).alloc (by simp; omega) _).alloc (by simp; omega) _).drew
  exact ⟨(KAt.made t4 (by simpa using t1) (by simpa using t2) (by simpa using t3) (by omega) (by omega)).drewN 1, h.bel.trans (hb.mono (by omega)), (hb.cell (p := ⟨B, 1, none⟩) hbl).trans h.cell⟩
theorem mk_wds (h : Mk B v W V x) : KAt B v (((((V.alloc (.cells (Array.replicate (2 * v + 1) (.slice none 0 0)) 86)).alloc (.cells (Array.replicate (nw v) (.int .u64 0)) 87)).alloc (.cells (Array.replicate (nw v) (.int .u64 0)) 87)).alloc (.cells #[.int .i64 ((v : Nat) : Int), .slice (some ⟨V.heap.size, 0, none⟩) (2 * v + 1) (2 * v + 1), .slice (some ⟨V.heap.size + 1 + 1, 0, none⟩) (nw v) (nw v), .slice (some ⟨V.heap.size + 1, 0, none⟩) (nw v) (nw v), .slice none 0 0, .bool false] 53)).drew) (V.heap.size + 1 + 1 + 1) (L0 (V.heap.size + 1 + 1 + 1) (V.heap.size) (V.heap.size + 1 + 1) (V.heap.size + 1)) s0 (s0.T.elem ·) none ∧ Below B W (((((V.alloc (.cells (Array.replicate (2 * v + 1) (.slice none 0 0)) 86)).alloc (.cells (Array.replicate (nw v) (.int .u64 0)) 87)).alloc (.cells (Array.replicate (nw v) (.int .u64 0)) 87)).alloc (.cells #[.int .i64 ((v : Nat) : Int), .slice (some ⟨V.heap.size, 0, none⟩) (2 * v + 1) (2 * v + 1), .slice (some ⟨V.heap.size + 1 + 1, 0, none⟩) (nw v) (nw v), .slice (some ⟨V.heap.size + 1, 0, none⟩) (nw v) (nw v), .slice none 0 0, .bool false] 53)).drew) ∧ (((((V.alloc (.cells (Array.replicate (2 * v + 1) (.slice none 0 0)) 86)).alloc (.cells (Array.replicate (nw v) (.int .u64 0)) 87)).alloc (.cells (Array.replicate (nw v) (.int .u64 0)) 87)).alloc (.cells #[.int .i64 ((v : Nat) : Int), .slice (some ⟨V.heap.size, 0, none⟩) (2 * v + 1) (2 * v + 1), .slice (some ⟨V.heap.size + 1 + 1, 0, none⟩) (nw v) (nw v), .slice (some ⟨V.heap.size + 1, 0, none⟩) (nw v) (nw v), .slice none 0 0, .bool false] 53)).drew).cell? ⟨B, 1, none⟩ = some x := by
  obtain ⟨t1, t2, t3, t4⟩ := four V (.cells (Array.replicate (2 * v + 1) (.slice none 0 0)) 86) (.cells (Array.replicate (nw v) (.int .u64 0)) 87) (.cells (Array.replicate (nw v) (.int .u64 0)) 87) (.cells #[.int .i64 ((v : Nat) : Int), .slice (some ⟨V.heap.size, 0, none⟩) (2 * v + 1) (2 * v + 1), .slice (some ⟨V.heap.size + 1 + 1, 0, none⟩) (nw v) (nw v), .slice (some ⟨V.heap.size + 1, 0, none⟩) (nw v) (nw v), .slice none 0 0, .bool false] 53)
  have hbl := h.lt
  have hb : Below V.heap.size V (((((V.alloc (.cells (Array.replicate (2 * v + 1) (.slice none 0 0)) 86)).alloc (.cells (Array.replicate (nw v) (.int .u64 0)) 87)).alloc (.cells (Array.replicate (nw v) (.int .u64 0)) 87)).alloc (.cells #[.int .i64 ((v : Nat) : Int), .slice (some ⟨V.heap.size, 0, none⟩) (2 * v + 1) (2 * v + 1), .slice (some ⟨V.heap.size + 1 + 1, 0, none⟩) (nw v) (nw v), .slice (some ⟨V.heap.size + 1, 0, none⟩) (nw v) (nw v), .slice none 0 0, .bool false] 53)).drew) := (((((Below.refl V.heap.size V).alloc (Nat.le_refl _) _).alloc (by simp) _).alloc (by simp; omega) _).alloc (by simp; omega) _).drew
  exact ⟨(KAt.made t4 (by simpa using t1) (by simpa using t3) (by simpa using t2) (by omega) (by omega)).drewN 1, h.bel.trans (hb.mono (by omega)), (hb.cell (p := ⟨B, 1, none⟩) hbl).trans h.cell⟩
theorem mk_swd (h : Mk B v W V x) : KAt B v (((((V.alloc (.cells (Array.replicate (nw v) (.int .u64 0)) 87)).alloc (.cells (Array.replicate (2 * v + 1) (.slice none 0 0)) 86)).alloc (.cells (Array.replicate (nw v) (.int .u64 0)) 87)).alloc (.cells #[.int .i64 ((v : Nat) : Int), .slice (some ⟨V.heap.size + 1, 0, none⟩) (2 * v + 1) (2 * v + 1), .slice (some ⟨V.heap.size, 0, none⟩) (nw v) (nw v), .slice (some ⟨V.heap.size + 1 + 1, 0, none⟩) (nw v) (nw v), .slice none 0 0, .bool false] 53)).drew) (V.heap.size + 1 + 1 + 1) (L0 (V.heap.size + 1 + 1 + 1) (V.heap.size + 1) (V.heap.size) (V.heap.size + 1 + 1)) s0 (s0.T.elem ·) none ∧ Below B W (((((V.alloc (.cells (Array.replicate (nw v) (.int .u64 0)) 87)).alloc (.cells (Array.replicate (2 * v + 1) (.slice none 0 0)) 86)).alloc (.cells (Array.replicate (nw v) (.int .u64 0)) 87)).alloc (.cells #[.int .i64 ((v : Nat) : Int), .slice (some ⟨V.heap.size + 1, 0, none⟩) (2 * v + 1) (2 * v + 1), .slice (some ⟨V.heap.size, 0, none⟩) (nw v) (nw v), .slice (some ⟨V.heap.size + 1 + 1, 0, none⟩) (nw v) (nw v), .slice none 0 0, .bool false] 53)).drew) ∧ (((((V.alloc (.cells (Array.replicate (nw v) (.int .u64 0)) 87)).alloc (.cells (Array.replicate (2 * v + 1) (.slice none 0 0)) 86)).alloc (.cells (Array.replicate (nw v) (.int .u64 0)) 87)).alloc (.cells #[.int .i64 ((v : Nat) : Int), .slice (some ⟨V.heap.size + 1, 0, none⟩) (2 * v + 1) (2 * v + 1), .slice (some ⟨V.heap.size, 0, none⟩) (nw v) (nw v), .slice (some ⟨V.heap.size + 1 + 1, 0, none⟩) (nw v) (nw v), .slice none 0 0, .bool false] 53)).drew).cell? ⟨B, 1, none⟩ = some x := by
  obtain ⟨t1, t2, t3, t4⟩ := four V (.cells (Array.replicate (nw v) (.int .u64 0)) 87) (.cells (Array.replicate (2 * v + 1) (.slice none 0 0)) 86) (.cells (Array.replicate (nw v) (.int .u64 0)) 87) (.cells #[.int .i64 ((v : Nat) : Int), .slice (some ⟨V.heap.size + 1, 0, none⟩) (2 * v + 1) (2 * v + 1), .slice (some ⟨V.heap.size, 0, none⟩) (nw v) (nw v), .slice (some ⟨V.heap.size + 1 + 1, 0, none⟩) (nw v) (nw v), .slice none 0 0, .bool false] 53)
  have hbl := h.lt
  have hb : Below V.heap.size V (((((V.alloc (.cells (Array.replicate (nw v) (.int .u64 0)) 87)).alloc (.cells (Array.replicate (2 * v + 1) (.slice none 0 0)) 86)).alloc (.cells (Array.replicate (nw v) (.int .u64 0)) 87)).alloc (.cells #[.int .i64 ((v : Nat) : Int), .slice (some ⟨V.heap.size + 1, 0, none⟩) (2 * v + 1) (2 * v + 1), .slice (some ⟨V.heap.size, 0, none⟩) (nw v) (nw v), .slice (some ⟨V.heap.size + 1 + 1, 0, none⟩) (nw v) (nw v), .slice none 0 0, .bool false] 53)).drew) := (((((Below.refl V.heap.size V).alloc (Nat.le_refl _) _).alloc (by simp) _).alloc (by simp; omega) _).alloc (by simp; omega) _).drew
  exact ⟨(KAt.made t4 (by simpa using t2) (by simpa using t1) (by simpa using t3) (by omega) (by omega)).drewN 1, h.bel.trans (hb.mono (by omega)), (hb.cell (p := ⟨B, 1, none⟩) hbl).trans h.cell⟩
theorem mk_sdw (h : Mk B v W V x) : KAt B v (((((V.alloc (.cells (Array.replicate (nw v) (.int .u64 0)) 87)).alloc (.cells (Array.replicate (nw v) (.int .u64 0)) 87)).alloc (.cells (Array.replicate (2 * v + 1) (.slice none 0 0)) 86)).alloc (.cells #[.int .i64 ((v : Nat) : Int), .slice (some ⟨V.heap.size + 1 + 1, 0, none⟩) (2 * v + 1) (2 * v + 1), .slice (some ⟨V.heap.size, 0, none⟩) (nw v) (nw v), .slice (some ⟨V.heap.size + 1, 0, none⟩) (nw v) (nw v), .slice none 0 0, .bool false] 53)).drew) (V.heap.size + 1 + 1 + 1) (L0 (V.heap.size + 1 + 1 + 1) (V.heap.size + 1 + 1) (V.heap.size) (V.heap.size + 1)) s0 (s0.T.elem ·) none ∧ Below B W (((((V.alloc (.cells (Array.replicate (nw v) (.int .u64 0)) 87)).alloc (.cells (Array.replicate (nw v) (.int .u64 0)) 87)).alloc (.cells (Array.replicate (2 * v + 1) (.slice none 0 0)) 86)).alloc (.cells #[.int .i64 ((v : Nat) : Int), .slice (some ⟨V.heap.size + 1 + 1, 0, none⟩) (2 * v + 1) (2 * v + 1), .slice (some ⟨V.heap.size, 0, none⟩) (nw v) (nw v), .slice (some ⟨V.heap.size + 1, 0, none⟩) (nw v) (nw v), .slice none 0 0, .bool false] 53)).drew) ∧ (((((V.alloc (.cells (Array.replicate (nw v) (.int .u64 0)) 87)).alloc (.cells (Array.replicate (nw v) (.int .u64 0)) 87)).alloc (.cells (Array.replicate (2 * v + 1) (.slice none 0 0)) 86)).alloc (.cells #[.int .i64 ((v : Nat) : Int), .slice (some ⟨V.heap.size + 1 + 1, 0, none⟩) (2 * v + 1) (2 * v + 1), .slice (some ⟨V.heap.size, 0, none⟩) (nw v) (nw v), .slice (some ⟨V.heap.size + 1, 0, none⟩) (nw v) (nw v), .slice none 0 0, .bool false] 53)).drew).cell? ⟨B, 1, none⟩ = some x := by
  obtain ⟨t1, t2, t3, t4⟩ := four V (.cells (Array.replicate (nw v) (.int .u64 0)) 87) (.cells (Array.replicate (nw v) (.int .u64 0)) 87) (.cells (Array.replicate (2 * v + 1) (.slice none 0 0)) 86) (.cells #[.int .i64 ((v : Nat) : Int), .slice (some ⟨V.heap.size + 1 + 1, 0, none⟩) (2 * v + 1) (2 * v + 1), .slice (some ⟨V.heap.size, 0, none⟩) (nw v) (nw v), .slice (some ⟨V.heap.size + 1, 0, none⟩) (nw v) (nw v), .slice none 0 0, .bool false] 53)
  have hbl := h.lt
  have hb : Below V.heap.size V (((((V.alloc (.cells (Array.replicate (nw v) (.int .u64 0)) 87)).alloc (.cells (Array.replicate (nw v) (.int .u64 0)) 87)).alloc (.cells (Array.replicate (2 * v + 1) (.slice none 0 0)) 86)).alloc (.cells #[.int .i64 ((v : Nat) : Int), .slice (some ⟨V.heap.size + 1 + 1, 0, none⟩) (2 * v + 1) (2 * v + 1), .slice (some ⟨V.heap.size, 0, none⟩) (nw v) (nw v), .slice (some ⟨V.heap.size + 1, 0, none⟩) (nw v) (nw v), .slice none 0 0, .bool false] 53)).drew) := (((((Below.refl V.heap.size V).alloc (Nat.le_refl _) _).alloc (by simp) _).alloc (by simp; omega) _).alloc (by simp; omega) _).drew
  exact ⟨(KAt.made t4 (by simpa using t3) (by simpa using t1) (by simpa using t2) (by omega) (by omega)).drewN 1, h.bel.trans (hb.mono (by omega)), (hb.cell (p := ⟨B, 1, none⟩) hbl).trans h.cell⟩
theorem mk_dws (h : Mk B v W V x) : KAt B v (((((V.alloc (.cells (Array.replicate (nw v) (.int .u64 0)) 87)).alloc (.cells (Array.replicate (2 * v + 1) (.slice none 0 0)) 86)).alloc (.cells (Array.replicate (nw v) (.int .u64 0)) 87)).alloc (.cells #[.int .i64 ((v : Nat) : Int), .slice (some ⟨V.heap.size + 1, 0, none⟩) (2 * v + 1) (2 * v + 1), .slice (some ⟨V.heap.size + 1 + 1, 0, none⟩) (nw v) (nw v), .slice (some ⟨V.heap.size, 0, none⟩) (nw v) (nw v), .slice none 0 0, .bool false] 53)).drew) (V.heap.size + 1 + 1 + 1) (L0 (V.heap.size + 1 + 1 + 1) (V.heap.size + 1) (V.heap.size + 1 + 1) (V.heap.size)) s0 (s0.T.elem ·) none ∧ Below B W (((((V.alloc (.cells (Array.replicate (nw v) (.int .u64 0)) 87)).alloc (.cells (Array.replicate (2 * v + 1) (.slice none 0 0)) 86)).alloc (.cells (Array.replicate (nw v) (.int .u64 0)) 87)).alloc (.cells #[.int .i64 ((v : Nat) : Int), .slice (some ⟨V.heap.size + 1, 0, none⟩) (2 * v + 1) (2 * v + 1), .slice (some ⟨V.heap.size + 1 + 1, 0, none⟩) (nw v) (nw v), .slice (some ⟨V.heap.size, 0, none⟩) (nw v) (nw v), .slice none 0 0, .bool false] 53)).drew) ∧ (((((V.alloc (.cells (Array.replicate (nw v) (.int .u64 0)) 87)).alloc (.cells (Array.replicate (2 * v + 1) (.slice none 0 0)) 86)).alloc (.cells (Array.replicate (nw v) (.int .u64 0)) 87)).alloc (.cells #[.int .i64 ((v : Nat) : Int), .slice (some ⟨V.heap.size + 1, 0, none⟩) (2 * v + 1) (2 * v + 1), .slice (some ⟨V.heap.size + 1 + 1, 0, none⟩) (nw v) (nw v), .slice (some ⟨V.heap.size, 0, none⟩) (nw v) (nw v), .slice none 0 0, .bool false] 53)).drew).cell? ⟨B, 1, none⟩ = some x := by
  obtain ⟨t1, t2, t3, t4⟩ := four V (.cells (Array.replicate (nw v) (.int .u64 0)) 87) (.cells (Array.replicate (2 * v + 1) (.slice none 0 0)) 86) (.cells (Array.replicate (nw v) (.int .u64 0)) 87) (.cells #[.int .i64 ((v : Nat) : Int), .slice (some ⟨V.heap.size + 1, 0, none⟩) (2 * v + 1) (2 * v + 1), .slice (some ⟨V.heap.size + 1 + 1, 0, none⟩) (nw v) (nw v), .slice (some ⟨V.heap.size, 0, none⟩) (nw v) (nw v), .slice none 0 0, .bool false] 53)
  have hbl := h.lt
  have hb : Below V.heap.size V (((((V.alloc (.cells (Array.replicate (nw v) (.int .u64 0)) 87)).alloc (.cells (Array.replicate (2 * v + 1) (.slice none 0 0)) 86)).alloc (.cells (Array.replicate (nw v) (.int .u64 0)) 87)).alloc (.cells #[.int .i64 ((v : Nat) : Int), .slice (some ⟨V.heap.size + 1, 0, none⟩) (2 * v + 1) (2 * v + 1), .slice (some ⟨V.heap.size + 1 + 1, 0, none⟩) (nw v) (nw v), .slice (some ⟨V.heap.size, 0, none⟩) (nw v) (nw v), .slice none 0 0, .bool false] 53)).drew) := (((((Below.refl V.heap.size V).alloc (Nat.le_refl _) _).alloc (by simp) _).alloc (by simp; omega) _).alloc (by simp; omega) _).drew
  exact ⟨(KAt.made t4 (by simpa using t2) (by simpa using t3) (by simpa using t1) (by omega) (by omega)).drewN 1, h.bel.trans (hb.mono (by omega)), (hb.cell (p := ⟨B, 1, none⟩) hbl).trans h.cell⟩
theorem mk_dsw (h : Mk B v W V x) : KAt B v (((((V.alloc (.cells (Array.replicate (nw v) (.int .u64 0)) 87)).alloc (.cells (Array.replicate (nw v) (.int .u64 0)) 87)).alloc (.cells (Array.replicate (2 * v + 1) (.slice none 0 0)) 86)).alloc (.cells #[.int .i64 ((v : Nat) : Int), .slice (some ⟨V.heap.size + 1 + 1, 0, none⟩) (2 * v + 1) (2 * v + 1), .slice (some ⟨V.heap.size + 1, 0, none⟩) (nw v) (nw v), .slice (some ⟨V.heap.size, 0, none⟩) (nw v) (nw v), .slice none 0 0, .bool false] 53)).drew) (V.heap.size + 1 + 1 + 1) (L0 (V.heap.size + 1 + 1 + 1) (V.heap.size + 1 + 1) (V.heap.size + 1) (V.heap.size)) s0 (s0.T.elem ·) none ∧ Below B W (((((V.alloc (.cells (Array.replicate (nw v) (.int .u64 0)) 87)).alloc (.cells (Array.replicate (nw v) (.int .u64 0)) 87)).alloc (.cells (Array.replicate (2 * v + 1) (.slice none 0 0)) 86)).alloc (.cells #[.int .i64 ((v : Nat) : Int), .slice (some ⟨V.heap.size + 1 + 1, 0, none⟩) (2 * v + 1) (2 * v + 1), .slice (some ⟨V.heap.size + 1, 0, none⟩) (nw v) (nw v), .slice (some ⟨V.heap.size, 0, none⟩) (nw v) (nw v), .slice none 0 0, .bool false] 53)).drew) ∧ (((((V.alloc (.cells (Array.replicate (nw v) (.int .u64 0)) 87)).alloc (.cells (Array.replicate (nw v) (.int .u64 0)) 87)).alloc (.cells (Array.replicate (2 * v + 1) (.slice none 0 0)) 86)).alloc (.cells #[.int .i64 ((v : Nat) : Int), .slice (some ⟨V.heap.size + 1 + 1, 0, none⟩) (2 * v + 1) (2 * v + 1), .slice (some ⟨V.heap.size + 1, 0, none⟩) (nw v) (nw v), .slice (some ⟨V.heap.size, 0, none⟩) (nw v) (nw v), .slice none 0 0, .bool false] 53)).drew).cell? ⟨B, 1, none⟩ = some x := by
  obtain ⟨t1, t2, t3, t4⟩ := four V (.cells (Array.replicate (nw v) (.int .u64 0)) 87) (.cells (Array.replicate (nw v) (.int .u64 0)) 87) (.cells (Array.replicate (2 * v + 1) (.slice none 0 0)) 86) (.cells #[.int .i64 ((v : Nat) : Int), .slice (some ⟨V.heap.size + 1 + 1, 0, none⟩) (2 * v + 1) (2 * v + 1), .slice (some ⟨V.heap.size + 1, 0, none⟩) (nw v) (nw v), .slice (some ⟨V.heap.size, 0, none⟩) (nw v) (nw v), .slice none 0 0, .bool false] 53)
  have hbl := h.lt
  have hb : Below V.heap.size V (((((V.alloc (.cells (Array.replicate (nw v) (.int .u64 0)) 87)).alloc (.cells (Array.replicate (nw v) (.int .u64 0)) 87)).alloc (.cells (Array.replicate (2 * v + 1) (.slice none 0 0)) 86)).alloc (.cells #[.int .i64 ((v : Nat) : Int), .slice (some ⟨V.heap.size + 1 + 1, 0, none⟩) (2 * v + 1) (2 * v + 1), .slice (some ⟨V.heap.size + 1, 0, none⟩) (nw v) (nw v), .slice (some ⟨V.heap.size, 0, none⟩) (nw v) (nw v), .slice none 0 0, .bool false] 53)).drew) := (((((Below.refl V.heap.size V).alloc (Nat.le_refl _) _).alloc (by simp) _).alloc (by simp; omega) _).alloc (by simp; omega) _).drew
  exact ⟨(KAt.made t4 (by simpa using t3) (by simpa using t2) (by simpa using t1) (by omega) (by omega)).drewN 1, h.bel.trans (hb.mono (by omega)), (hb.cell (p := ⟨B, 1, none⟩) hbl).trans h.cell⟩
end
/-- What is made. -/
def NewE (B v : Nat) (C : Cl) (W : World) (e : Ending) (w : World) : Prop :=
  ∃ (k : Nat) (L : Lay) (s : PS), e = .returned (.pointer (some ⟨k, 0, none⟩)) ∧ KAt B v w k L s (s.T.elem ·) none ∧ Below B W w ∧ s.T = [] ∧ CI v C s ∧ s.ids.length ≤ C.length ∧ ∀ c ∈ s.ids, (s.lit c).length ≤ 1000000
theorem new_any {B v : Nat} {C : Cl} {W : World} {al : Option Addr} {n cap : Nat} (hB : B = W.heap.size) (hv : v ≤ 1000000) (hC : ClsAt W al C) (hn : n = C.length) (hm : mayC v C = true) (hl1 : n ≤ 900000) (hl2 : ∀ k ∈ C, k.length ≤ 1000000) :
    Calls Try.prog 18 #[.agg #[.int .i64 ((v : Nat) : Int), .slice al n cap]] W (NewE B v C W) := by
  have hmw := make_lists v hv
  have hms := make_words v hv
  have hbc := build_chk
  have HC := Lib.hid hC
  have HN := Lib.hid hn
  have HM := Lib.hid (mayC_parts hm).2
  have HL2 := Lib.hid hl2
  have s6 : ∀ x : Int, x / 2 ^ 6 = x / 64 := fun x => rfl
  clear hC hn hm hl2
  go_enter Try.func18, Try.ntmps18
  go_upto_region 2 with fail
  change Code.wp _ _ _ _ (W.alloc (.cells #[.int .i64 ((v : Nat) : Int), .slice al n cap] 24))
  have hbx : Below W.heap.size W (W.alloc (.cells #[.int .i64 ((v : Nat) : Int), .slice al n cap] 24)) := (Below.refl _ _).alloc (Nat.le_refl _) _
  have c0 := new_cell W #[.int .i64 ((v : Nat) : Int), .slice al n cap] 24 0
  have c1 := new_cell W #[.int .i64 ((v : Nat) : Int), .slice al n cap] 24 1
  have hsz : (W.alloc (.cells #[.int .i64 ((v : Nat) : Int), .slice al n cap] 24)).heap.size = B + 1 := by simp [hB]
  rw [← hB] at c0 c1 ⊢
  have HBX := Lib.hid (And.intro hB hbx)
  generalize W.alloc (.cells #[.int .i64 ((v : Nat) : Int), .slice al n cap] 24) = V at *
  have c0 : V.cell? ⟨B, 0, none⟩ = some (.int .i64 ((v : Nat) : Int)) := c0
  have c1 : V.cell? ⟨B, 1, none⟩ = some (.slice al n cap) := c1
  have hwr : IntKind.i64.wrap ((2 * ((v : Nat) : Int) + 1) / 64 + 1) = (2 * ((v : Nat) : Int) + 1) / 64 + 1 := by rw [IntKind.wrap_i64]; omega
  clear hbx hB
  have hbl : B < V.heap.size := by omega
  have HMK : Hid (Mk B v W V (.slice al n cap)) := Lib.hid ⟨hbl, HBX.out.1 ▸ HBX.out.2, c1⟩
  have hl1 : B < V.heap.size + 1 := by omega
  have hl2 : B < V.heap.size + 1 + 1 := by omega
  have hl3 : B < V.heap.size + 1 + 1 + 1 := by omega
  have hl4 : B < V.heap.size + 1 + 1 + 1 + 1 := by omega
  clear hsz
  go_cut [4] (fun s4 wx => ∃ k wb sb db : Nat, s4 = .pointer (some ⟨k, 0, none⟩) ∧ KAt B v wx k (L0 k wb sb db) s0 (s0.T.elem ·) none ∧ Below B W wx ∧ wx.cell? ⟨B, 1, none⟩ = some (.slice al n cap))
  case first =>
    go_region_with (fail)
    all_goals
      go_wp2_with fail
      go_meet
      first
        | with_reducible exact ⟨_, _, _, _, rfl, mk_wsd HMK.out⟩
        | with_reducible exact ⟨_, _, _, _, rfl, mk_wds HMK.out⟩
        | with_reducible exact ⟨_, _, _, _, rfl, mk_swd HMK.out⟩
        | with_reducible exact ⟨_, _, _, _, rfl, mk_sdw HMK.out⟩
        | with_reducible exact ⟨_, _, _, _, rfl, mk_dws HMK.out⟩
        | with_reducible exact ⟨_, _, _, _, rfl, mk_dsw HMK.out⟩
  case rest =>
    obtain ⟨k, wb, sb, db, rfl, hka, hbw, c1'⟩ := hcut
    clear hmw hms hbc c0 hwr s6 hl1 hl2 hl3 hl4
    have HR := Lib.hid (And.intro hka (And.intro hbw c1'))
    clear c1 hka hbw hbl HMK
    have hBs : B ≤ W.heap.size := Nat.le_of_eq HBX.out.1
    go_wp2_with fail
    go_loopg [28] n (fun gk v28 wr => ∃ (i : Nat) (L : Lay) (s : PS), v28 = .int .i64 ((i : Nat) : Int) ∧ i + gk = n ∧ KAt B v wr k L s (s.T.elem ·) none ∧ Below B W wr ∧ s.T = [] ∧ CI v (C.take i) s ∧ s.ids.length ≤ i ∧ ∀ c ∈ s.ids, (s.lit c).length ≤ 1000000)
    case atStart => exact ⟨0, _, s0, rfl, by omega, HR.out.1, HR.out.2.1, rfl, ci_none v, Nat.le_refl _, fun c hc => by cases hc⟩
    case round =>
      obtain ⟨i, L, s, rfl, hi, hk, hb, hT, hci, hid, hls⟩ := hrel
      have HI := Lib.hid hi
      have i0 : (0 : Int) ≤ ((i : Nat) : Int) := by omega
      by_cases hlt : i < n
      · have q1 : ((i : Nat) : Int) < ((n : Nat) : Int) := by omega
        obtain ⟨q, hq⟩ : ∃ q, C[i]? = some q := ⟨_, List.getElem?_eq_getElem (by have := HN.out; omega)⟩
        obtain ⟨bl, ol, kal, kc, rfl, hbl2, hcell, hI⟩ := cls_at HC.out hq
        have hcell := (hb.cell (p := ⟨bl, ol + i, none⟩) (by have := HBX.out.1; show bl < B; omega)).trans hcell
        have hI2 : IntsAt wr kal q := hI.keep (by rw [← HBX.out.1]; exact hb)
        have hqm := List.mem_of_getElem? hq
        have HAD := Lib.hid (add_any (C := C.take i) (cap := kc) hk hv (Nat.le_trans hBs hb.size) hT hci (List.all_eq_true.2 (HM.out q hqm)) hI2 rfl (HL2.out q hqm) (by omega) hls)
        have HB := Lib.hid hb
        have HQ := Lib.hid hq
        have HK := Lib.hid hk
        clear hk hb hT hci hls hI hI2 hi hq hqm c1
        have hid2 := Lib.hid hid
        clear hid
        go_wp2_with fail
        refine HAD.out.mono ?_
        rintro e w1 ⟨rfl, L1, s1, hk1, hp1, hT1, hci1, hid1, hls1⟩
        have H1 : Hid (KAt B v w1 k L1 s1 (s1.T.elem ·) none ∧ Below B W w1 ∧ s1.T = [] ∧ CI v (C.take (i + 1)) s1 ∧ s1.ids.length ≤ i + 1 ∧ ∀ c ∈ s1.ids, (s1.lit c).length ≤ 1000000) := Lib.hid ⟨hk1, HB.out.trans (Kept.belowB HK.out (Nat.le_trans hBs HB.out.size) hp1), hT1, by rw [List.take_add_one, HQ.out]; exact hci1, by have := hid2.out; omega, hls1⟩
        clear hk1 hp1 hT1 hci1 hid1 hls1 HAD
        go_wp2_with fail
        go_roundg (gk - 1)
        case measure => have := HI.out; omega
        case rel => exact ⟨i + 1, L1, s1, rfl, by have := HI.out; omega, H1.out⟩
      · obtain rfl : i = n := by omega
        have q1 : decide (((i : Nat) : Int) < ((i : Nat) : Int)) = false := decide_eq_false (by omega)
        have HH : Hid (KAt B v wr k L s (s.T.elem ·) none ∧ Below B W wr ∧ s.T = [] ∧ CI v C s ∧ s.ids.length ≤ C.length ∧ ∀ c ∈ s.ids, (s.lit c).length ≤ 1000000) := Lib.hid ⟨hk, hb, hT, by have := hci; rw [List.take_of_length_le (by have := HN.out; omega)] at this; exact this, by have := HN.out; omega, hls⟩
        clear hk hb hT hci hls hi hid c1
        go_wp2_with fail
        go_ret
        exact ⟨k, L, s, rfl, HH.out⟩
end Rw
end Go.Proofs.Ytmgkgbhkaoflhaa
