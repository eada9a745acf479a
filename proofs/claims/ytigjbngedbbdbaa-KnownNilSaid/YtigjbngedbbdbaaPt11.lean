/-
A kid that is still to be worked out, if one is asked for, as a fact on one call.
Plain facts for layer known: the chain of nodes that are still to be worked out, and that it ends.
Plain facts for layer known: widths of kids; that the masks of a node are of its width.
What shifts, choices and comparisons of layer known return, each as a fact on one call.
What shifts, choices and comparisons of layer known return, each as a fact on one call.
What the comparison of layer known returns, and on how many kids a node hangs, each as a fact on one call.
-/
import Derived.Test.YtigjbngedbbdbaaPt10
import Derived.Sort.Grow
import Derived.Laws.Bits64b
import Derived.Test.YtigjbngedbbdbaaPt02
import Derived.Deep.RegionWith
import Derived.WalkSpells
import Derived.Deep.RegionHeld3
import Derived.Deep.QuietTactic
import Derived.BigQuiet
namespace Go.Proofs.Ytigjbngedbbdbaa
open Go.RowKit Go.Maps Bv Tm Go.Sort
namespace Kn
set_option maxHeartbeats 1000000
set_option maxRecDepth 100000

theorem kept_grown {w w' : World} {r : Option Nat} (h : w.grownBy w' r) {F : Nat → Prop} (hF : ∀ i, r = some i → F i) : Kept F w w' := (Kept.refl F w).grown h (fun i e _ => hF i e)
/-- Does nothing come of a kid of these masks, whatever the other one is? -/
def nothing (o : Nat) (K : Kb) : Bool := if o = 7 then decide (K.1 ||| K.2 = 0) else if o = 8 ∨ o = 9 then decide (K.1 &&& 1 = 0) else false
/-- What is asked for is there. -/
def Ready (L : List Nd) (N : List Nat) (x : Nd) : Prop := (∀ j, j < ka x.o → (x.kid j).toNat ∈ N) ∨ ∃ j, j < ka x.o ∧ (x.kid j).toNat ∈ N ∧ nothing x.o (kn L (x.kid j).toNat) = true
def MissE (W : World) (L : List Nd) (N : List Nat) (x : Nd) (e : Ending) (w : World) : Prop :=
  ((∃ k : Nat, e = .returned (.tuple #[.int .i64 ((k : Nat) : Int), .bool true]) ∧ (∃ j, j < ka x.o ∧ (x.kid j).toNat = k) ∧ k ∉ N) ∨ (e = .returned (.tuple #[.int .i64 0, .bool false]) ∧ Ready L N x)) ∧ Below W.heap.size W w

theorem leaves_any {o : Nat} (ho : o ≤ 25) (wd : Int) {z q : Nat} (hz : z < 18446744073709551616) (hq : q < 18446744073709551616) (W : World) :
    Calls Try.prog 31 #[.int .u8 ((o : Nat) : Int), .agg #[.int .u8 wd, .int .u64 ((z : Nat) : Int), .int .u64 ((q : Nat) : Int)]] W fun e w => e = .returned (.bool (nothing o (z, q))) ∧ Below W.heap.size W w := by
  have HOR := bits_or_u64_nat z q hz hq
  have HAND : bits .and .u64 ((z : Nat) : Int) 1 = ((z &&& 1 : Nat) : Int) := by simpa using bits_and_u64_nat z 1 hz (by omega)
  obtain ⟨oI, hoI⟩ : ∃ oI : Int, oI = ((o : Nat) : Int) := ⟨_, rfl⟩
  rw [← hoI]
  unfold nothing
  by_cases h7 : o = 7
  · rw [if_pos h7]
    obtain ⟨y, hy⟩ : ∃ y, y = z ||| q := ⟨_, rfl⟩
    rw [← hy] at HOR
    simp only [← hy]
    have g1 : (oI == 7) = true := by rw [beq_iff_eq]; omega
    have g2 : (((y : Nat) : Int) == 0) = decide (y = 0) := by rw [Bool.eq_iff_iff]; simp
    clear HAND hoI h7 hy
    obtain ⟨c, hc⟩ : ∃ c, c = decide (y = 0) := ⟨_, rfl⟩
    rw [← hc] at g2 ⊢
    clear hc
    go_enter Try.func31, Try.ntmps31
    go_wp2_with fail
    go_ret
    exact ⟨rfl, bel_alloc (Below.refl _ _) _⟩
  · rw [if_neg h7]
    have g1 : (oI == 7) = false := by rw [beq_eq_false_iff_ne]; omega
    by_cases h8 : o = 8 ∨ o = 9
    · rw [if_pos h8]
      obtain ⟨y, hy⟩ : ∃ y, y = z &&& 1 := ⟨_, rfl⟩
      rw [← hy] at HAND
      simp only [← hy]
      have g2 : (((y : Nat) : Int) == 0) = decide (y = 0) := by rw [Bool.eq_iff_iff]; simp
      obtain ⟨c, hc⟩ : ∃ c, c = decide (y = 0) := ⟨_, rfl⟩
      rw [← hc] at g2 ⊢
      by_cases h88 : o = 8
      · have g3 : (oI == 8) = true := by rw [beq_iff_eq]; omega
        clear HOR hoI h7 h8 h88 hy hc
        go_enter Try.func31, Try.ntmps31
        go_wp2_with fail
        go_ret
        exact ⟨rfl, bel_alloc (Below.refl _ _) _⟩
      · have g3 : (oI == 8) = false := by rw [beq_eq_false_iff_ne]; omega
        have g4 : (oI == 9) = true := by rw [beq_iff_eq]; omega
        clear HOR hoI h7 h8 h88 hy hc
        go_enter Try.func31, Try.ntmps31
        go_wp2_with fail
        go_ret
        exact ⟨rfl, bel_alloc (Below.refl _ _) _⟩
    · rw [if_neg h8]
      have g3 : (oI == 8) = false := by rw [beq_eq_false_iff_ne]; omega
      have g4 : (oI == 9) = false := by rw [beq_eq_false_iff_ne]; omega
      clear HOR HAND hoI h7 h8
      go_enter Try.func31, Try.ntmps31
      go_wp2_with fail
      go_ret
      exact ⟨rfl, bel_alloc (Below.refl _ _) _⟩
/-- What stands while the kids, in order, are gone through. -/
structure PickAt (W : World) (L : List Nd) (N : List Nat) (b : Nat) (x : Nd) (r : List Int) (w : World) : Prop where
  bel : Below W.heap.size W w
  op : w.cell? ⟨W.heap.size, 0, none⟩ = some (.int .u8 ((x.o : Nat) : Int))
  box : ∀ i q, r[i]? = some q → w.cell? ⟨W.heap.size, 2 + i, none⟩ = some (.int .i64 q)
  bl : W.heap.size < w.heap.size
  map : MapAt w L b N
theorem PickAt.call {W w w' : World} {L : List Nd} {N : List Nat} {b : Nat} {x : Nd} {r : List Int} (h : PickAt W L N b x r w) (k : Below w.heap.size w w') : PickAt W L N b x r w' :=
  ⟨bel_call h.bel k, (k.cell (p := ⟨W.heap.size, 0, none⟩) h.bl).trans h.op, fun i q hq => (k.cell (p := ⟨W.heap.size, 2 + i, none⟩) h.bl).trans (h.box i q hq), Nat.lt_of_lt_of_le h.bl k.size, h.map.same (k.block b h.map.lt)⟩
theorem kids_get (x : Nd) {n i : Nat} (h : i < n) : ((List.range n).map x.kid)[i]? = some (x.kid i) := by simp [List.getElem?_map, List.getElem?_range h]
theorem holds_ahead {w : World} {b o : Nat} {d : Array Int} (h : Holds (Value.int .i64) w b o d) (m : Nat) : Holds (Value.int .i64) (Sort.ahead w m) b o d := fun j hj => h j hj
theorem pick_sorted {W : World} {L : List Nd} {N : List Nat} {b n : Nat} {x : Nd} {w' : World} (_hn : n ≤ 3) (hM : MapAt W L b N)
    (hw : ∃ m os, w' = grow (putRow (Value.int .i64) (Sort.ahead (W.alloc (.cells #[.int .u8 ((x.o : Nat) : Int), .int .u8 ((x.w : Nat) : Int), .int .i64 x.k0, .int .i64 x.k1, .int .i64 x.k2, .int .u64 ((x.n : Nat) : Int), .int .u8 ((x.l : Nat) : Int)] 57)) m) W.heap.size 2 (((List.range n).map x.kid).mergeSort fun x y => decide (x ≤ y)).toArray) os)
    (h0 : Holds (Value.int .i64) (W.alloc (.cells #[.int .u8 ((x.o : Nat) : Int), .int .u8 ((x.w : Nat) : Int), .int .i64 x.k0, .int .i64 x.k1, .int .i64 x.k2, .int .u64 ((x.n : Nat) : Int), .int .u8 ((x.l : Nat) : Int)] 57)) W.heap.size 2 ((List.range n).map x.kid).toArray) :
    PickAt W L N b x (((List.range n).map x.kid).mergeSort fun x y => decide (x ≤ y)) w' := by
  obtain ⟨m, os, rfl⟩ := hw
  have hlen : (((List.range n).map x.kid).mergeSort fun x y => decide (x ≤ y)).length = n := by simp
  obtain ⟨r, hr⟩ : ∃ r, r = ((List.range n).map x.kid).mergeSort fun x y => decide (x ≤ y) := ⟨_, rfl⟩
  rw [← hr] at hlen ⊢
  have hold : ∀ k, k < W.heap.size → (grow (putRow (Value.int .i64) (Sort.ahead (W.alloc (.cells #[.int .u8 ((x.o : Nat) : Int), .int .u8 ((x.w : Nat) : Int), .int .i64 x.k0, .int .i64 x.k1, .int .i64 x.k2, .int .u64 ((x.n : Nat) : Int), .int .u8 ((x.l : Nat) : Int)] 57)) m) W.heap.size 2 r.toArray) os).heap[k]? = W.heap[k]? := by
    intro k hk
    rw [heap_grow_old _ _ (by simp; omega)]
    have : ¬ W.heap.size = k := by omega
    simp only [putRow, mapBlock, Sort.ahead, Array.getElem?_modify, this, if_false]
    exact ((bel_alloc (Below.refl W.heap.size W) _).block k hk)
  refine ⟨⟨rfl, rfl, rfl, by simp; omega, hold⟩, ?_, fun i q hq => ?_, by simp; omega, hM.same (hold b hM.lt)⟩
  · rw [cell?_grow _ _ _ (by simp), cell?_putRow_other _ _ _ _ _ _ (.inr (.inl (by simp)))]
    exact (At7.new W (.int .u8 ((x.o : Nat) : Int)) (.int .u8 ((x.w : Nat) : Int)) (.int .i64 x.k0) (.int .i64 x.k1) (.int .i64 x.k2) (.int .u64 ((x.n : Nat) : Int)) (.int .u8 ((x.l : Nat) : Int)) 57).1
  · have hi := (List.getElem?_eq_some_iff.1 hq).1
    rw [cell?_grow _ _ _ (by simp)]
    refine (cell?_putRow (Value.int .i64) (Sort.ahead _ m) W.heap.size 2 _ r.toArray (holds_ahead h0 m) (by simp [hlen]) i (by simpa using hi)).trans ?_
    have e : r.toArray[i]! = q := by simp [hq]
    rw [e]
end Kn
end Go.Proofs.Ytigjbngedbbdbaa

namespace Go.Proofs.Ytigjbngedbbdbaa
open Go.RowKit Bv Tm
namespace Kn
set_option maxHeartbeats 400000

/-- The chain's nodes fall; none of them is done. -/
structure Inv (L : List Nd) (id : Nat) (F : List Nat) (N : List Nat) : Prop where
  nin : ∀ j ∈ N, j < L.length
  nd : N.Nodup
  fin : ∀ t ∈ F, t ≤ id ∧ t ∉ N
  dec : F.Pairwise (fun a b => b < a)
  idl : id < L.length
  bot : id ∈ N ∨ F[0]? = some id
def mu (L : List Nd) (F N : List Nat) : Nat := (L.length - N.length) * (L.length + 2) + (L.length + 1 - F.length)
theorem inv_start {L : List Nd} {id : Nat} (hid : id < L.length) : Inv L id [id] [] :=
  ⟨fun j h => by simp at h, List.nodup_nil, fun t h => by simp at h; subst h; exact ⟨Nat.le_refl _, by simp⟩, List.pairwise_singleton _ _, hid, .inr rfl⟩
theorem fall_len : ∀ (F : List Nat) (n : Nat), F.Pairwise (fun a b => b < a) → (∀ t ∈ F, t < n) → F.length ≤ n
  | [], _, _, _ => Nat.zero_le _
  | a :: F, n, h, hn => by
    rw [List.pairwise_cons] at h
    have ih := fall_len F a h.2 h.1
    have := hn a (by simp)
    simp only [List.length_cons]
    omega
theorem Inv.len {L : List Nd} {id : Nat} {F N : List Nat} (h : Inv L id F N) : F.length ≤ id + 1 :=
  fall_len F (id + 1) h.dec (fun t ht => by have := (h.fin t ht).1; omega)
theorem Inv.nlen {L : List Nd} {id : Nat} {F N : List Nat} (h : Inv L id F N) : N.length ≤ L.length := nodup_le _ _ h.nd h.nin
/-- What the node on top asks for is there: it is done. -/
theorem Inv.pop {L : List Nd} {id t : Nat} {F0 N : List Nat} (h : Inv L id (F0 ++ [t]) N) : Inv L id F0 (addK N t) ∧ mu L F0 (addK N t) < mu L (F0 ++ [t]) N := by
  have ht := h.fin t (by simp)
  have hd := List.pairwise_append.1 h.dec
  have hnd : (addK N t).Nodup := by
    unfold addK
    rw [if_neg ht.2]
    exact List.nodup_append.2 ⟨h.nd, by simp, fun a ha b hb e => by simp at hb; subst hb; subst e; exact ht.2 ha⟩
  have hni : ∀ j ∈ addK N t, j < L.length := by
    intro j hj
    rcases mem_addK.1 hj with c | c
    · exact h.nin j c
    · have := h.idl; omega
  have hl := nodup_le _ _ hnd hni
  have hal : (addK N t).length = N.length + 1 := by unfold addK; rw [if_neg ht.2]; simp
  have hlen := h.len
  have hidl := h.idl
  refine ⟨⟨hni, hnd, fun s hs => ⟨(h.fin s (by simp [hs])).1, fun c => ?_⟩, hd.1, h.idl, ?_⟩, ?_⟩
  · rcases mem_addK.1 c with c | c
    · exact (h.fin s (by simp [hs])).2 c
    · have := hd.2.2 s hs t (by simp); omega
  · rcases h.bot with c | c
    · exact .inl (mem_addK.2 (.inl c))
    · by_cases h0 : F0 = []
      · subst h0
        simp at c
        exact .inl (mem_addK.2 (.inr c.symm))
      · right
        have : 0 < F0.length := List.length_pos_iff.2 h0
        rwa [List.getElem?_append_left this] at c
  · unfold mu
    rw [hal] at hl ⊢
    simp only [List.length_append, List.length_singleton] at hlen ⊢
    obtain ⟨a, ha⟩ : ∃ a, L.length - N.length = a + 1 := ⟨L.length - N.length - 1, by omega⟩
    rw [ha, show L.length - (N.length + 1) = a by omega, Nat.add_mul]
    omega
/-- A kid is missing: it comes on top. -/
theorem Inv.push {L : List Nd} {id t k : Nat} {F0 N : List Nat} (h : Inv L id (F0 ++ [t]) N) (hk : k < t) (hn : k ∉ N) : Inv L id (F0 ++ [t] ++ [k]) N ∧ mu L (F0 ++ [t] ++ [k]) N < mu L (F0 ++ [t]) N := by
  have ht := h.fin t (by simp)
  have hd := List.pairwise_append.1 h.dec
  have hlen := h.len
  have hidl := h.idl
  refine ⟨⟨h.nin, h.nd, fun s hs => ?_, ?_, h.idl, ?_⟩, ?_⟩
  · rw [List.mem_append] at hs
    rcases hs with c | c
    · exact h.fin s c
    · simp at c
      subst c
      exact ⟨by omega, hn⟩
  · refine List.pairwise_append.2 ⟨h.dec, List.pairwise_singleton _ _, fun a ha b hb => ?_⟩
    simp at hb
    subst hb
    rw [List.mem_append] at ha
    rcases ha with c | c
    · have := hd.2.2 a c t (by simp); omega
    · simp at c; omega
  · rcases h.bot with c | c
    · exact .inl c
    · right
      rw [List.getElem?_append_left (by simp)]
      exact c
  · unfold mu
    simp only [List.length_append, List.length_singleton] at hlen ⊢
    omega
end Kn
end Go.Proofs.Ytigjbngedbbdbaa

namespace Go.Proofs.Ytigjbngedbbdbaa
open Bv Tm
namespace Kn
set_option maxHeartbeats 400000

section
variable {L : List Nd} {i : Nat} {x : Nd}
theorem wid_at {j : Nat} (hj : j < kc x.o) : wid L x j = widAt L (x.kid j) := by unfold wid; rw [if_pos hj]
theorem wd_un (h : MayL L) (hx : L[i]? = some x) (ho : x.o = 3 ∨ x.o = 4) : widAt L x.k0 = x.w := by
  have hk : kc x.o = 1 := by unfold kc; rw [if_pos (by omega)]
  have hv := mayL_vec h hx (by omega) (by omega)
  unfold vecW at hv
  rw [if_pos ho, wid_at (j := 0) (by omega)] at hv
  have e : x.kid 0 = x.k0 := rfl
  rw [e] at hv
  split at hv <;> omega
theorem wd_bin (h : MayL L) (hx : L[i]? = some x) (ho : 5 ≤ x.o ∧ x.o ≤ 17) : widAt L x.k0 = x.w ∧ widAt L x.k1 = x.w := by
  have hk : kc x.o = 2 := by unfold kc; rw [if_neg (by omega), if_pos (by omega)]
  have hv := mayL_vec h hx (by omega) (by omega)
  unfold vecW at hv
  rw [if_neg (by omega), if_neg (by omega), if_neg (by omega), if_neg (by omega), wid_at (j := 0) (by omega), wid_at (j := 1) (by omega)] at hv
  have e : x.kid 0 = x.k0 := rfl
  have e1 : x.kid 1 = x.k1 := rfl
  rw [e, e1] at hv
  unfold widthB at hv
  rw [if_pos ho] at hv
  repeat' split at hv
  all_goals omega
theorem wd_cmp (h : MayL L) (hx : L[i]? = some x) (ho : 18 ≤ x.o ∧ x.o ≤ 20) : x.w = 1 ∧ widAt L x.k1 = widAt L x.k0 ∧ 1 ≤ widAt L x.k0 ∧ widAt L x.k0 ≤ 64 := by
  have hk : kc x.o = 2 := by unfold kc; rw [if_neg (by omega), if_pos (by omega)]
  have hv := mayL_vec h hx (by omega) (by omega)
  unfold vecW at hv
  rw [if_neg (by omega), if_neg (by omega), if_neg (by omega), if_neg (by omega), wid_at (j := 0) (by omega), wid_at (j := 1) (by omega)] at hv
  have e : x.kid 0 = x.k0 := rfl
  have e1 : x.kid 1 = x.k1 := rfl
  rw [e, e1] at hv
  unfold widthB at hv
  rw [if_neg (show ¬ (5 ≤ x.o ∧ x.o ≤ 17) by omega), if_pos ho] at hv
  repeat' split at hv
  all_goals omega
theorem wd_cat (h : MayL L) (hx : L[i]? = some x) (ho : x.o = 21) : x.w = widAt L x.k0 + widAt L x.k1 ∧ 1 ≤ widAt L x.k0 ∧ 1 ≤ widAt L x.k1 ∧ x.w ≤ 64 := by
  have hk : kc x.o = 2 := by unfold kc; rw [if_neg (by omega), if_pos (by omega)]
  have hv := mayL_vec h hx (by omega) (by omega)
  unfold vecW at hv
  rw [if_neg (by omega), if_neg (by omega), if_neg (by omega), if_neg (by omega), wid_at (j := 0) (by omega), wid_at (j := 1) (by omega)] at hv
  have e : x.kid 0 = x.k0 := rfl
  have e1 : x.kid 1 = x.k1 := rfl
  rw [e, e1] at hv
  unfold widthB at hv
  rw [if_neg (show ¬ (5 ≤ x.o ∧ x.o ≤ 17) by omega), if_neg (show ¬ (18 ≤ x.o ∧ x.o ≤ 20) by omega), if_pos ho] at hv
  repeat' split at hv
  all_goals omega
theorem wd_cut (h : MayL L) (hx : L[i]? = some x) (ho : x.o = 22) : x.l + x.w ≤ widAt L x.k0 ∧ widAt L x.k0 ≤ 64 := by
  have hk : kc x.o = 1 := by unfold kc; rw [if_pos (by omega)]
  have hv := mayL_vec h hx (by omega) (by omega)
  unfold vecW at hv
  rw [if_neg (by omega), if_pos ho, wid_at (j := 0) (by omega)] at hv
  have e : x.kid 0 = x.k0 := rfl
  rw [e] at hv
  split at hv <;> omega
theorem wd_wide (h : MayL L) (hx : L[i]? = some x) (ho : x.o = 23 ∨ x.o = 24) : 1 ≤ widAt L x.k0 ∧ widAt L x.k0 ≤ x.w ∧ x.w ≤ 64 := by
  have hk : kc x.o = 1 := by unfold kc; rw [if_pos (by omega)]
  have hv := mayL_vec h hx (by omega) (by omega)
  unfold vecW at hv
  rw [if_neg (by omega), if_neg (by omega), if_pos ho, wid_at (j := 0) (by omega)] at hv
  have e : x.kid 0 = x.k0 := rfl
  rw [e] at hv
  split at hv <;> omega
theorem wd_ite (h : MayL L) (hx : L[i]? = some x) (ho : x.o = 25) : widAt L x.k0 = 1 ∧ widAt L x.k1 = x.w ∧ widAt L x.k2 = x.w := by
  have hk : kc x.o = 3 := by rw [ho]; decide
  have hv := mayL_vec h hx (by omega) (by omega)
  unfold vecW at hv
  rw [if_neg (by omega), if_neg (by omega), if_neg (by omega), if_pos ho, wid_at (j := 0) (by omega), wid_at (j := 1) (by omega), wid_at (j := 2) (by omega)] at hv
  have e : x.kid 0 = x.k0 := rfl
  have e1 : x.kid 1 = x.k1 := rfl
  have e2 : x.kid 2 = x.k2 := rfl
  rw [e, e1, e2] at hv
  split at hv <;> omega
/-- A kid is a node ahead. -/
theorem kid_in (h : MayL L) (hx : L[i]? = some x) {j : Nat} (hj : j < kc x.o) : ∃ y, L[(x.kid j).toNat]? = some y ∧ (x.kid j).toNat < i ∧ 0 ≤ x.kid j ∧ widAt L (x.kid j) = y.w ∧ kbAt (kvals L i) (x.kid j) = kn L (x.kid j).toNat := by
  have hkj := mayL_kids h hx j hj
  have hl := (List.getElem?_eq_some_iff.1 hx).1
  obtain ⟨y, hy⟩ : ∃ y, L[(x.kid j).toNat]? = some y := ⟨_, List.getElem?_eq_getElem (by omega)⟩
  refine ⟨y, hy, by omega, hkj.1, ?_, kbAt_kn hkj.1 hkj.2⟩
  unfold widAt
  rw [hy]
  rfl
end

/-- The masks of a node have no bit outside its width. -/
theorem kn_lt {L : List Nd} (h : MayL L) : ∀ (i : Nat) (x : Nd), L[i]? = some x → (kn L i).1 < 2 ^ x.w ∧ (kn L i).2 < 2 ^ x.w := by
  intro i
  induction i using Nat.strongRecOn with
  | _ i ih =>
    intro x hx
    have hp := pow_pos' x.w
    rw [kn_is hx]
    unfold oneK opK
    have lo : ∀ a b, (low x.w a, low x.w b).1 < 2 ^ x.w ∧ (low x.w a, low x.w b).2 < 2 ^ x.w := fun a b => ⟨low_le _ _, low_le _ _⟩
    have lz : ∀ a, (low x.w a, 0).1 < 2 ^ x.w ∧ (low x.w a, 0).2 < 2 ^ x.w := fun a => ⟨low_le _ _, hp⟩
    by_cases h1 : x.o = 1
    · rw [if_pos h1]; exact lo _ _
    rw [if_neg h1]
    by_cases h3 : x.o = 3
    · rw [if_pos h3]; exact lo _ _
    rw [if_neg h3]
    by_cases h5 : x.o = 5
    · rw [if_pos h5]; exact lo _ _
    rw [if_neg h5]
    by_cases h6 : x.o = 6
    · rw [if_pos h6]; exact lo _ _
    rw [if_neg h6]
    by_cases h7 : x.o = 7
    · rw [if_pos h7]; exact lo _ _
    rw [if_neg h7]
    by_cases h8 : x.o = 8 ∨ x.o = 9
    · rw [if_pos h8]; exact lz _
    rw [if_neg h8]
    by_cases h10 : x.o = 10
    · rw [if_pos h10]; exact lz _
    rw [if_neg h10]
    by_cases h15 : x.o = 15 ∨ x.o = 16 ∨ x.o = 17
    · rw [if_pos h15, (wd_bin h hx (by omega)).1]
      unfold farK
      split
      · unfold shK
        (repeat' split) <;> exact lo _ _
      · exact ⟨hp, hp⟩
    rw [if_neg h15]
    by_cases h21 : x.o = 21
    · rw [if_pos h21]; exact lo _ _
    rw [if_neg h21]
    by_cases h22 : x.o = 22
    · rw [if_pos h22]; exact lo _ _
    rw [if_neg h22]
    by_cases h23 : x.o = 23
    · rw [if_pos h23]; exact lo _ _
    rw [if_neg h23]
    by_cases h24 : x.o = 24
    · rw [if_pos h24]; exact lo _ _
    rw [if_neg h24]
    by_cases h25 : x.o = 25
    · rw [if_pos h25]
      have hk : kc x.o = 3 := by rw [h25]; decide
      have hw := wd_ite h hx h25
      obtain ⟨y1, e1, l1, _, w1, v1⟩ := kid_in h hx (j := 1) (by omega)
      obtain ⟨y2, e2, l2, _, w2, v2⟩ := kid_in h hx (j := 2) (by omega)
      have m1 := ih _ l1 y1 e1
      have m2 := ih _ l2 y2 e2
      have f1 : x.kid 1 = x.k1 := rfl
      have f2 : x.kid 2 = x.k2 := rfl
      rw [f1] at w1 v1 m1
      rw [f2] at w2 v2 m2
      rw [hw.2.1, v1, v2]
      rw [← w1, hw.2.1] at m1
      rw [← w2, hw.2.2] at m2
      unfold iteK
      split
      · exact m1
      · split
        · exact m2
        · exact lo _ _
    rw [if_neg h25]
    by_cases h18 : x.o = 18
    · rw [if_pos h18, (wd_cmp h hx (by omega)).1]
      unfold eqK
      split
      · exact ⟨by decide, by decide⟩
      · split
        · exact ⟨by decide, by decide⟩
        · exact ⟨by decide, by decide⟩
    rw [if_neg h18]
    exact ⟨hp, hp⟩
theorem kn_lt64 {L : List Nd} (g : Gd L) (h : MayL L) {i : Nat} (hi : i < L.length) : (kn L i).1 < 18446744073709551616 ∧ (kn L i).2 < 18446744073709551616 := by
  obtain ⟨x, hx⟩ : ∃ x, L[i]? = some x := ⟨_, List.getElem?_eq_getElem hi⟩
  have := kn_lt h i x hx
  have hw := pow_le64 (g.w x (List.mem_of_getElem? hx)).2
  omega
end Kn
end Go.Proofs.Ytigjbngedbbdbaa

namespace Go.Proofs.Ytigjbngedbbdbaa
open Go.RowKit Bv Tm
namespace Kn
set_option maxHeartbeats 1000000
set_option maxRecDepth 100000

theorem mulM_lt (z far : Nat) : z * 2 ^ min far 64 % 18446744073709551616 < 18446744073709551616 := Nat.mod_lt _ (by decide)
theorem shl_int (z far : Nat) : IntKind.u64.wrap (((z : Nat) : Int) * 2 ^ min far 64) = ((z * 2 ^ min far 64 % 18446744073709551616 : Nat) : Int) := by
  rw [IntKind.wrap_u64, show ((2 : Int) ^ min far 64) = ((2 ^ min far 64 : Nat) : Int) by simp]
  generalize 2 ^ min far 64 = b
  rw [← Int.natCast_mul]
  omega
theorem shr_int (z far : Nat) : ((z : Nat) : Int) / 2 ^ min far 64 = ((z / 2 ^ min far 64 : Nat) : Int) := by simp
theorem not_int {n : Nat} (hn : n < 18446744073709551616) : bits .xor .u64 IntKind.u64.max ((n : Nat) : Int) = ((18446744073709551615 - n : Nat) : Int) := not64 hn
theorem or_lt64 {a b : Nat} (ha : a < 18446744073709551616) (hb : b < 18446744073709551616) : a ||| b < 18446744073709551616 := by
  have := Nat.or_lt_two_pow (n := 64) (x := a) (y := b) (by omega) (by omega)
  omega
theorem and_lt64 {a : Nat} (b : Nat) (ha : a < 18446744073709551616) : a &&& b < 18446744073709551616 := Nat.lt_of_le_of_lt Nat.and_le_left ha
theorem ret_kb {w z o w' z' o' : Nat} (h0 : w = w') (h1 : z = z') (h2 : o = o') : Ending.returned (.agg #[.int .u8 ((w : Nat) : Int), .int .u64 ((z : Nat) : Int), .int .u64 ((o : Nat) : Int)]) = .returned (.agg #[.int .u8 ((w' : Nat) : Int), .int .u64 ((z' : Nat) : Int), .int .u64 ((o' : Nat) : Int)]) := by rw [h0, h1, h2]

theorem kshl_any (w z o far : Nat) (h1 : 1 ≤ w) (h2 : w ≤ 64) (W : World) :
    Calls Try.prog 34 #[.int .u8 15, .agg #[.int .u8 ((w : Nat) : Int), .int .u64 ((z : Nat) : Int), .int .u64 ((o : Nat) : Int)], .int .u64 ((far : Nat) : Int)] W fun e W' => e = .returned (.agg #[.int .u8 ((w : Nat) : Int), .int .u64 (((shK 15 w (z, o) far).1 : Nat) : Int), .int .u64 (((shK 15 w (z, o) far).2 : Nat) : Int)]) ∧ Below W.heap.size W W' := by
  have e1 := shl_int z far
  have e2 := shl_int o far
  have e3 := shl_int 18446744073709551615 far
  rw [show ((18446744073709551615 : Nat) : Int) = 18446744073709551615 from rfl] at e3
  have e4 := not_int (mulM_lt 18446744073709551615 far)
  have l1 := mulM_lt z far
  have l2 := mulM_lt o far
  have l3 : 18446744073709551615 - 18446744073709551615 * 2 ^ min far 64 % 18446744073709551616 < 18446744073709551616 := by omega
  have e5 := bits_or_u64_nat _ _ l1 l3
  have E1 := Lib.hid e1
  have E2 := Lib.hid e2
  have E3 := Lib.hid e3
  have E4 := Lib.hid e4
  have E5 := Lib.hid e5
  have HC := Lib.hid (fun W => kcut_any w _ _ h1 h2 (or_lt64 l1 l3) l2 W)
  clear e1 e2 e3 e4 e5 l1 l2 l3
  go_enter Try.func34, Try.ntmps34
  go_wp2_with fail
  rw [E1.out, E2.out, E3.out, E4.out, E5.out]
  refine (HC.out _).mono ?_
  rintro e w1 ⟨rfl, rfl⟩
  go_wp2_with fail
  exact bodyPost_ret (v := .agg #[.int .u8 ((w : Nat) : Int), .int .u64 (((shK 15 w (z, o) far).1 : Nat) : Int), .int .u64 (((shK 15 w (z, o) far).2 : Nat) : Int)]) (by simp [results, Try.results34, go_sem]; exact ⟨rfl, rfl⟩) rfl ⟨rfl, bel_alloc (bel_alloc (bel_alloc (Below.refl _ _) _) _) _⟩

theorem kite_any (w z0 o0 w1 z1 o1 w2 z2 o2 : Nat) (h1 : 1 ≤ w1) (h2 : w1 ≤ 64) (hz1 : z1 < 18446744073709551616) (ho1 : o1 < 18446744073709551616) (hz2 : z2 < 18446744073709551616) (ho2 : o2 < 18446744073709551616) (W : World) :
    Calls Try.prog 37 #[.agg #[.int .u8 ((w : Nat) : Int), .int .u64 ((z0 : Nat) : Int), .int .u64 ((o0 : Nat) : Int)], .agg #[.int .u8 ((w1 : Nat) : Int), .int .u64 ((z1 : Nat) : Int), .int .u64 ((o1 : Nat) : Int)], .agg #[.int .u8 ((w2 : Nat) : Int), .int .u64 ((z2 : Nat) : Int), .int .u64 ((o2 : Nat) : Int)]] W fun e W' => e = .returned (.agg #[.int .u8 (((if o0 = 1 then w1 else if z0 = 1 then w2 else w1 : Nat) : Nat) : Int), .int .u64 (((iteK w1 (z0, o0) (z1, o1) (z2, o2)).1 : Nat) : Int), .int .u64 (((iteK w1 (z0, o0) (z1, o1) (z2, o2)).2 : Nat) : Int)]) ∧ Below W.heap.size W W' := by
  have u1 := bits_and_u64_nat z1 z2 hz1 hz2
  have u2 := bits_and_u64_nat o1 o2 ho1 ho2
  have U1 := Lib.hid u1
  have U2 := Lib.hid u2
  have HC := Lib.hid (fun x y ex ey W => kcut_of w1 x y _ _ h1 h2 (and_lt64 z2 hz1) (and_lt64 o2 ho1) ex ey W)
  clear hz1 ho1 hz2 ho2 u1 u2
  by_cases c1 : o0 = 1
  case pos =>
    subst c1
    go_enter Try.func37, Try.ntmps37
    go_wp2_with fail
    exact bodyPost_ret (v := .agg #[.int .u8 ((w1 : Nat) : Int), .int .u64 ((z1 : Nat) : Int), .int .u64 ((o1 : Nat) : Int)]) (by simp [results, Try.results37, go_sem]) rfl ⟨rfl, bel_alloc (bel_alloc (bel_alloc (bel_alloc (Below.refl _ _) _) _) _) _⟩
  case neg =>
    have d1 : (((o0 : Nat) : Int) == 1) = false := by rw [beq_eq_false_iff_ne]; omega
    have d1' : ¬ ((o0 : Nat) : Int) = 1 := by omega
    have HN := Lib.hid c1
    clear c1
    by_cases c2 : z0 = 1
    case pos =>
      subst c2
      go_enter Try.func37, Try.ntmps37
      go_wp2_with fail
      have e1 : (if o0 = 1 then w1 else if (1 : Nat) = 1 then w2 else w1 : Nat) = w2 := by rw [if_neg HN.out, if_pos rfl]
      have e2 : iteK w1 (1, o0) (z1, o1) (z2, o2) = (z2, o2) := by unfold iteK; rw [if_neg HN.out, if_pos rfl]
      exact bodyPost_ret (v := .agg #[.int .u8 ((w2 : Nat) : Int), .int .u64 ((z2 : Nat) : Int), .int .u64 ((o2 : Nat) : Int)]) (by simp [results, Try.results37, go_sem]) rfl ⟨by first | rw [e1, e2] | rw [e2], bel_alloc (bel_alloc (bel_alloc (bel_alloc (Below.refl _ _) _) _) _) _⟩
    case neg =>
      have d2 : (((z0 : Nat) : Int) == 1) = false := by rw [beq_eq_false_iff_ne]; omega
      have d2' : ¬ ((z0 : Nat) : Int) = 1 := by omega
      have HM := Lib.hid c2
      clear c2
      go_enter Try.func37, Try.ntmps37
      go_wp2_with fail
      refine (HC.out _ _ U1.out U2.out _).mono ?_
      rintro e w4 ⟨rfl, rfl⟩
      go_wp2_with fail
      have e1 : (if o0 = 1 then w1 else if z0 = 1 then w2 else w1 : Nat) = w1 := by rw [if_neg HN.out, if_neg HM.out]
      have e2 : iteK w1 (z0, o0) (z1, o1) (z2, o2) = (low w1 (z1 &&& z2), low w1 (o1 &&& o2)) := by unfold iteK; rw [if_neg HN.out, if_neg HM.out]
      exact bodyPost_ret (v := .agg #[.int .u8 ((w1 : Nat) : Int), .int .u64 ((low w1 (z1 &&& z2) : Nat) : Int), .int .u64 ((low w1 (o1 &&& o2) : Nat) : Int)]) (by simp [results, Try.results37, go_sem]) rfl ⟨by first | rw [e1, e2] | rw [e2], bel_alloc (bel_alloc (bel_alloc (bel_alloc (bel_alloc (Below.refl _ _) _) _) _) _) _⟩
end Kn
end Go.Proofs.Ytigjbngedbbdbaa

namespace Go.Proofs.Ytigjbngedbbdbaa
open Go.RowKit Bv Tm
namespace Kn
set_option maxHeartbeats 300000
set_option maxRecDepth 100000

theorem klshr_any (w z o far : Nat) (h1 : 1 ≤ w) (h2 : w ≤ 64) (hz : z < 18446744073709551616) (ho : o < 18446744073709551616) (W : World) :
    Calls Try.prog 34 #[.int .u8 16, .agg #[.int .u8 ((w : Nat) : Int), .int .u64 ((z : Nat) : Int), .int .u64 ((o : Nat) : Int)], .int .u64 ((far : Nat) : Int)] W fun e W' => e = .returned (.agg #[.int .u8 ((w : Nat) : Int), .int .u64 (((shK 16 w (z, o) far).1 : Nat) : Int), .int .u64 (((shK 16 w (z, o) far).2 : Nat) : Int)]) ∧ Below W.heap.size W W' := by
  have hp := pow_le64 h2
  have l1 : z / 2 ^ min far 64 < 18446744073709551616 := Nat.lt_of_le_of_lt (Nat.div_le_self _ _) hz
  have l2 : o / 2 ^ min far 64 < 18446744073709551616 := Nat.lt_of_le_of_lt (Nat.div_le_self _ _) ho
  have l4 : (2 ^ w - 1) / 2 ^ min far 64 < 18446744073709551616 := Nat.lt_of_le_of_lt (Nat.div_le_self _ _) (Nat.lt_of_lt_of_le (Nat.sub_lt (pow_pos' w) (by decide)) hp)
  have l3 : 18446744073709551615 - (2 ^ w - 1) / 2 ^ min far 64 < 18446744073709551616 := Nat.lt_of_le_of_lt (Nat.sub_le _ _) (by decide)
  have e4 := not_int l4
  have e5 := bits_or_u64_nat _ _ l1 l3
  rw [← e4, ← shr_int, ← shr_int] at e5
  have EX := Lib.hid e5
  have EY := Lib.hid (shr_int o far)
  have HI : Hid ((if IntKind.u64.signed = true then (-1 : Int) else IntKind.u64.max) = IntKind.u64.max) := Lib.hid rfl
  have HM := Lib.hid (fun W => kmask_any w h1 h2 W)
  have HC := Lib.hid (fun x y ex ey W => kcut_of w x y _ _ h1 h2 (or_lt64 l1 l3) l2 ex ey W)
  clear hp hz ho l1 l2 l3 l4 e4 e5
  go_enter Try.func34, Try.ntmps34
  go_wp2_with fail
  go_region_held3 (fun w' => w'.cell? ⟨W.heap.size, 0, none⟩ = some (.int .u8 ((w : Nat) : Int)) ∧ w'.cell? ⟨W.heap.size, 1, none⟩ = some (.int .u64 ((z : Nat) : Int)) ∧ w'.cell? ⟨W.heap.size, 2, none⟩ = some (.int .u64 ((o : Nat) : Int)))
    (first | ((try dsimp only); (try go_split_ands); refine ⟨?_, ?_, ?_⟩ <;> (first | assumption | (simp [go_sem]; done))) | (go_keep; done))
    (first | (go_at_call 35; refine (HM.out _).mono ?_; rintro e w' ⟨rfl, rfl⟩) | (go_at_call 32; go_must (first | rw [HI.out, EX.out, EY.out] | rw [EX.out, EY.out]); go_must (with_reducible refine (HC.out _ _ rfl rfl _).mono ?_); rintro e w1 ⟨rfl, rfl⟩))
  all_goals go_wp2_with fail
  all_goals
    have e2 : shK 16 w (z, o) far = (low w (z / 2 ^ min far 64 ||| (18446744073709551615 - (2 ^ w - 1) / 2 ^ min far 64)), low w (o / 2 ^ min far 64)) := by unfold shK; rw [if_neg (by decide), if_pos rfl]
    rw [e2]
    generalize low w (z / 2 ^ min far 64 ||| (18446744073709551615 - (2 ^ w - 1) / 2 ^ min far 64)) = A
    generalize low w (o / 2 ^ min far 64) = B
    exact bodyPost_ret (v := .agg #[.int .u8 ((w : Nat) : Int), .int .u64 ((A : Nat) : Int), .int .u64 ((B : Nat) : Int)]) (by simp [results, Try.results34, go_sem]) rfl ⟨rfl, bel_alloc (bel_alloc (bel_alloc (Below.refl _ _) _) _).drew _⟩

theorem wo_lt {w n : Nat} (h1 : 1 ≤ w) (h2 : w ≤ 64) (hn : n < 2 ^ w) : -9223372036854775808 ≤ wo w n ∧ wo w n < 9223372036854775808 := by
  have h := pow_half h1
  have hp : 2 ^ (w - 1) ≤ 9223372036854775808 := by
    have := Nat.pow_le_pow_right (n := 2) (by omega) (show w - 1 ≤ 63 by omega)
    simpa using this
  unfold wo
  rw [h] at hn ⊢
  generalize 2 ^ (w - 1) = a at *
  split <;> omega

theorem kashr_any (w z o far : Nat) (h1 : 1 ≤ w) (h2 : w ≤ 64) (hz : z < 2 ^ w) (ho : o < 2 ^ w) (W : World) :
    Calls Try.prog 34 #[.int .u8 17, .agg #[.int .u8 ((w : Nat) : Int), .int .u64 ((z : Nat) : Int), .int .u64 ((o : Nat) : Int)], .int .u64 ((far : Nat) : Int)] W fun e W' => e = .returned (.agg #[.int .u8 ((w : Nat) : Int), .int .u64 (((shK 17 w (z, o) far).1 : Nat) : Int), .int .u64 (((shK 17 w (z, o) far).2 : Nat) : Int)]) ∧ Below W.heap.size W W' := by
  have u : ∀ n, IntKind.u64.wrap (wo w n / 2 ^ min far 64) = ((numB 17 w w n far : Nat) : Int) := fun n => by
    show _ = (((wo w n / 2 ^ min far 64) % 18446744073709551616).toNat : Int)
    rw [IntKind.wrap_u64]
    omega
  have U := Lib.hid u
  have l : ∀ n, numB 17 w w n far < 18446744073709551616 := fun n => by
    show ((wo w n / 2 ^ min far 64) % 18446744073709551616).toNat < _
    omega
  have HS := Lib.hid (fun W => kspread_any w z h1 h2 hz W)
  have HT := Lib.hid (fun W => kspread_any w o h1 h2 ho W)
  have HC := Lib.hid (fun x y ex ey W => kcut_of w x y _ _ h1 h2 (l z) (l o) ex ey W)
  clear u l hz ho
  go_enter Try.func34, Try.ntmps34
  go_wp2_with fail
  go_region_held3 (fun w' => w'.cell? ⟨W.heap.size, 0, none⟩ = some (.int .u8 ((w : Nat) : Int)) ∧ w'.cell? ⟨W.heap.size, 1, none⟩ = some (.int .u64 ((z : Nat) : Int)) ∧ w'.cell? ⟨W.heap.size, 2, none⟩ = some (.int .u64 ((o : Nat) : Int)))
    (first | ((try dsimp only); (try go_split_ands); refine ⟨?_, ?_, ?_⟩ <;> (first | assumption | (simp [go_sem]; done))) | (go_keep; done))
    (first | (go_at_call 36; first | (with_reducible refine (HS.out _).mono ?_; rintro e w' ⟨rfl, rfl⟩) | (with_reducible refine (HT.out _).mono ?_; rintro e w' ⟨rfl, rfl⟩)) | (go_at_call 32; go_must (rw [U.out, U.out]); go_must (with_reducible refine (HC.out _ _ rfl rfl _).mono ?_); rintro e w1 ⟨rfl, rfl⟩))
  all_goals go_wp2_with fail
  all_goals
    have e2 : shK 17 w (z, o) far = (low w (numB 17 w w z far), low w (numB 17 w w o far)) := by unfold shK; rw [if_neg (by decide), if_neg (by decide)]
    rw [e2]
    generalize low w (numB 17 w w z far) = A
    generalize low w (numB 17 w w o far) = B
    exact bodyPost_ret (v := .agg #[.int .u8 ((w : Nat) : Int), .int .u64 ((A : Nat) : Int), .int .u64 ((B : Nat) : Int)]) (by simp [results, Try.results34, go_sem]) rfl ⟨rfl, bel_alloc (bel_alloc (bel_alloc (Below.refl _ _) _) _).drew _⟩

end Kn
end Go.Proofs.Ytigjbngedbbdbaa

namespace Go.Proofs.Ytigjbngedbbdbaa
open Go.RowKit Bv Tm
namespace Kn
set_option maxHeartbeats 400000
set_option maxRecDepth 100000

theorem cut_10 (v : World) : Calls Try.prog 32 #[.int .u8 1, .int .u64 1, .int .u64 0] v fun e v' => e = .returned (.agg #[.int .u8 1, .int .u64 1, .int .u64 0]) ∧ v.alloc (.cells #[.int .u8 1, .int .u64 1, .int .u64 0] 65) = v' := by
  have h := kcut_any 1 1 0 (by omega) (by omega) (by omega) (by omega) v
  rw [show low 1 1 = 1 by decide, show low 1 0 = 0 by decide] at h
  exact h
theorem cut_01 (v : World) : Calls Try.prog 32 #[.int .u8 1, .int .u64 0, .int .u64 1] v fun e v' => e = .returned (.agg #[.int .u8 1, .int .u64 0, .int .u64 1]) ∧ v.alloc (.cells #[.int .u8 1, .int .u64 0, .int .u64 1] 65) = v' := by
  have h := kcut_any 1 0 1 (by omega) (by omega) (by omega) (by omega) v
  rw [show low 1 0 = 0 by decide, show low 1 1 = 1 by decide] at h
  exact h
theorem cut_00 (v : World) : Calls Try.prog 32 #[.int .u8 1, .int .u64 0, .int .u64 0] v fun e v' => e = .returned (.agg #[.int .u8 1, .int .u64 0, .int .u64 0]) ∧ v.alloc (.cells #[.int .u8 1, .int .u64 0, .int .u64 0] 65) = v' := by
  have h := kcut_any 1 0 0 (by omega) (by omega) (by omega) (by omega) v
  rw [show low 1 0 = 0 by decide] at h
  exact h

theorem ksame_any (w z0 o0 w1 z1 o1 : Nat) (h1 : 1 ≤ w) (h2 : w ≤ 64) (hz0 : z0 < 18446744073709551616) (ho0 : o0 < 18446744073709551616) (hz1 : z1 < 18446744073709551616) (ho1 : o1 < 18446744073709551616) (W : World) :
    Calls Try.prog 38 #[.agg #[.int .u8 ((w : Nat) : Int), .int .u64 ((z0 : Nat) : Int), .int .u64 ((o0 : Nat) : Int)], .agg #[.int .u8 ((w1 : Nat) : Int), .int .u64 ((z1 : Nat) : Int), .int .u64 ((o1 : Nat) : Int)]] W fun e W' => e = .returned (.agg #[.int .u8 1, .int .u64 (((eqK w (z0, o0) (z1, o1)).1 : Nat) : Int), .int .u64 (((eqK w (z0, o0) (z1, o1)).2 : Nat) : Int)]) ∧ Below W.heap.size W W' := by
  obtain ⟨P, hP⟩ : ∃ P, z0 &&& o1 = P := ⟨_, rfl⟩
  obtain ⟨Q, hQ⟩ : ∃ Q, o0 &&& z1 = Q := ⟨_, rfl⟩
  obtain ⟨A, hA⟩ : ∃ A, P ||| Q = A := ⟨_, rfl⟩
  obtain ⟨R, hR⟩ : ∃ R, z0 ||| o0 = R := ⟨_, rfl⟩
  obtain ⟨S, hS⟩ : ∃ S, z1 ||| o1 = S := ⟨_, rfl⟩
  obtain ⟨B, hB⟩ : ∃ B, R &&& S = B := ⟨_, rfl⟩
  obtain ⟨M, hM⟩ : ∃ M, 2 ^ w - 1 = M := ⟨_, rfl⟩
  have k1 : bits .and .u64 ((z0 : Nat) : Int) ((o1 : Nat) : Int) = ((P : Nat) : Int) := by rw [← hP]; exact bits_and_u64_nat z0 o1 hz0 ho1
  have k2 : bits .and .u64 ((o0 : Nat) : Int) ((z1 : Nat) : Int) = ((Q : Nat) : Int) := by rw [← hQ]; exact bits_and_u64_nat o0 z1 ho0 hz1
  have k3 : bits .or .u64 ((P : Nat) : Int) ((Q : Nat) : Int) = ((A : Nat) : Int) := by rw [← hA]; exact bits_or_u64_nat P Q (by rw [← hP]; exact and_lt64 _ hz0) (by rw [← hQ]; exact and_lt64 _ ho0)
  have k4 : bits .or .u64 ((z0 : Nat) : Int) ((o0 : Nat) : Int) = ((R : Nat) : Int) := by rw [← hR]; exact bits_or_u64_nat z0 o0 hz0 ho0
  have k5 : bits .or .u64 ((z1 : Nat) : Int) ((o1 : Nat) : Int) = ((S : Nat) : Int) := by rw [← hS]; exact bits_or_u64_nat z1 o1 hz1 ho1
  have k6 : bits .and .u64 ((R : Nat) : Int) ((S : Nat) : Int) = ((B : Nat) : Int) := by rw [← hB]; exact bits_and_u64_nat R S (by rw [← hR]; exact or_lt64 hz0 ho0) (by rw [← hS]; exact or_lt64 hz1 ho1)
  have HM : Hid (∀ v, Calls Try.prog 35 #[.int .u8 ((w : Nat) : Int)] v fun e v' => e = .returned (.int .u64 ((M : Nat) : Int)) ∧ v = v') := Lib.hid (fun v => by rw [← hM]; exact kmask_any w h1 h2 v)
  have HC1 : Hid (∀ v, Calls Try.prog 32 #[.int .u8 1, .int .u64 1, .int .u64 0] v fun e v' => e = .returned (.agg #[.int .u8 1, .int .u64 1, .int .u64 0]) ∧ v.alloc (.cells #[.int .u8 1, .int .u64 1, .int .u64 0] 65) = v') := Lib.hid (cut_10)
  have HC2 : Hid (∀ v, Calls Try.prog 32 #[.int .u8 1, .int .u64 0, .int .u64 1] v fun e v' => e = .returned (.agg #[.int .u8 1, .int .u64 0, .int .u64 1]) ∧ v.alloc (.cells #[.int .u8 1, .int .u64 0, .int .u64 1] 65) = v') := Lib.hid (cut_01)
  have HC3 : Hid (∀ v, Calls Try.prog 32 #[.int .u8 1, .int .u64 0, .int .u64 0] v fun e v' => e = .returned (.agg #[.int .u8 1, .int .u64 0, .int .u64 0]) ∧ v.alloc (.cells #[.int .u8 1, .int .u64 0, .int .u64 0] 65) = v') := Lib.hid (cut_00)
  have HK : Hid (eqK w (z0, o0) (z1, o1) = if ¬ A = 0 then (1, 0) else if B = M then (0, 1) else (0, 0)) := Lib.hid (by unfold eqK; simp only [hP, hQ, hA, hR, hS, hB, hM])
  clear hP hQ hA hR hS hB hM hz0 ho0 hz1 ho1
  by_cases c1 : A = 0
  case neg =>
    have d1 : (((A : Nat) : Int) != 0) = true := by simp; omega
    have d2 : ¬ ((A : Nat) : Int) = 0 := by omega
    rw [HK.out, if_pos c1]
    go_enter Try.func38, Try.ntmps38
    go_wp2_with (go_at_call 32; refine (HC1.out _).mono ?_; rintro e w1 ⟨rfl, rfl⟩)
    exact bodyPost_ret (v := .agg #[.int .u8 1, .int .u64 1, .int .u64 0]) (by simp [results, Try.results38, go_sem]) rfl ⟨rfl, bel_alloc (bel_alloc (bel_alloc (bel_alloc (Below.refl _ _) _) _) _) _⟩
  case pos =>
    have HA := Lib.hid c1
    subst c1
    by_cases c2 : B = M
    case pos =>
      have HB := Lib.hid c2
      rw [HK.out, if_neg (by simp), if_pos c2]
      subst c2
      go_enter Try.func38, Try.ntmps38
      go_wp2_with fail
      go_quiet ((go_at_call 35; exact Calls.quiet_of_same ((HM.out _).mono fun _ _ h => ⟨h.1, h.2.symm⟩)))
      go_wp2_with (go_at_call 32; refine (HC2.out _).mono ?_; rintro e w1 ⟨rfl, rfl⟩)
      exact bodyPost_ret (v := .agg #[.int .u8 1, .int .u64 0, .int .u64 1]) (by simp [results, Try.results38, go_sem]) rfl ⟨rfl, bel_alloc ((((bel_drewN (bel_alloc (bel_alloc (bel_alloc (Below.refl _ _) _) _) _) _).setCell (by simp; omega) _).setCell (by simp; omega) _).setCell (by simp; omega) _) _⟩
    case neg =>
      have d3 : (((B : Nat) : Int) == ((M : Nat) : Int)) = false := by rw [beq_eq_false_iff_ne]; omega
      have d4 : ¬ ((B : Nat) : Int) = ((M : Nat) : Int) := by omega
      rw [HK.out, if_neg (by simp), if_neg c2]
      clear c2
      go_enter Try.func38, Try.ntmps38
      go_wp2_with fail
      go_quiet ((go_at_call 35; exact Calls.quiet_of_same ((HM.out _).mono fun _ _ h => ⟨h.1, h.2.symm⟩)))
      go_wp2_with (go_at_call 32; refine (HC3.out _).mono ?_; rintro e w1 ⟨rfl, rfl⟩)
      exact bodyPost_ret (v := .agg #[.int .u8 1, .int .u64 0, .int .u64 0]) (by simp [results, Try.results38, go_sem]) rfl ⟨rfl, bel_alloc ((((bel_drewN (bel_alloc (bel_alloc (bel_alloc (Below.refl _ _) _) _) _) _).setCell (by simp; omega) _).setCell (by simp; omega) _).setCell (by simp; omega) _) _⟩
end Kn
end Go.Proofs.Ytigjbngedbbdbaa
