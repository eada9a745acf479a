/-
Nodes that were read are made, one by one: a fact on one call.
build of layer text: nodes that were read are made, one by one: a fact on one call.
The reader of layer text: a node of whatever text; all of a text: facts on one call.
node of layer text's writer: the text of a node behind what was written, or the error by which it leaves, as a fact on one call.
-/
import Derived.Test.YtkiegiofholofaaGreatDoorTxWid
import Derived.Test.YtkiegiofholofaaGreatDoorPt26
import Derived.Laws.MakeOwn
import Derived.Deep.LoopGhost
import Derived.Test.YtkiegiofholofaaGreatDoorPt27
import Derived.Test.YtkiegiofholofaaGreatDoorPt25
import Derived.Test.YtkiegiofholofaaGreatDoorPt10
import Derived.Deep.RegionWith
import Derived.BigQuiet
namespace Go.Proofs.YtkiegiofholofaaGreatDoor
open Go.RowKit Go.Maps Bv Tm
namespace Tx
set_option maxHeartbeats 3200000
set_option maxRecDepth 100000

theorem mk_id {L : List Nd} {x : Nd} (h : (mk L x).2.2 = 0) : (mk L x).2.1 < (mk L x).1.length ∧ L.length ≤ (mk L x).1.length := by
  refine ⟨?_, mk_len L x⟩
  unfold mk at *
  split at h
  · simp at h
  rename_i h1
  split at h
  · simp at h
  rename_i h2
  split at h
  · rename_i h3
    rw [if_neg h1, if_neg h2, if_pos h3]
    unfold idx
    exact List.findIdx_lt_length_of_exists ⟨x, h3, by simp⟩
  rename_i h3
  split at h
  · simp at h
  rename_i h4
  rw [if_neg h1, if_neg h2, if_neg h3, if_neg h4]
  simp

theorem subK_o (ids : List Nat) (x : Nd) : ∀ c, (subK ids x c).o = x.o
  | 0 => rfl
  | c + 1 => by simp only [subK, setKid_o]; exact subK_o ids x c
theorem subK_kid (ids : List Nat) (x : Nd) : ∀ c j, c ≤ 3 → j < 3 → (subK ids x c).kid j = if j < c then (((ids.getD (x.kid j).toNat 0 : Nat) : Nat) : Int) else x.kid j
  | 0, j, _, _ => by simp [subK]
  | c + 1, j, hc, hj => by
    simp only [subK]
    rw [setKid_kid (by omega) hj, subK_kid ids x c j (by omega) hj]
    by_cases e : j = c
    · subst e; rw [if_pos rfl, if_pos (by omega)]
    · rw [if_neg e]
      by_cases h : j < c
      · rw [if_pos h, if_pos (by omega)]
      · rw [if_neg h, if_neg (by omega)]
theorem subK_ok {ids : List Nat} {x : Nd} (hx : x.Ok) (hid : ∀ j, ids.getD j 0 < 9223372036854775808) : ∀ c, (subK ids x c).Ok
  | 0 => hx
  | c + 1 => setKid_ok (subK_ok hx hid c) (by unfold I64; have := hid (x.kid c).toNat; omega)
theorem widB_le {L : List Nd} (g : Gd L) {x : Nd} (hx : x.w ≤ 255) : widB L x ≤ 255 := by
  have hw : ∀ k, widAt L k ≤ 255 := fun k => by
    unfold widAt
    cases h : L[k.toNat]? with
    | none => simp
    | some y => have := (g.w y (List.mem_of_getElem? h)).2; simp; omega
  unfold widB
  have h0 := hw x.k0
  have h1 := hw x.k1
  (repeat' split) <;> omega

/-- The list of numbers. -/
def IdAt (g n : Nat) (ids : List Nat) (w : World) : Prop := g < w.heap.size ∧ (∀ j, j < n → w.cell? ⟨g, j, none⟩ = some (.int .i64 ((ids.getD j 0 : Nat) : Int))) ∧ ∀ o, w.frozen? ⟨g, o, none⟩ = false
theorem IdAt.kept {G : Nat → Prop} {g n : Nat} {ids : List Nat} {w w' : World} (h : IdAt g n ids w) (k : Kept G w w') (hG : ¬ G g) : IdAt g n ids w' :=
  ⟨Nat.lt_of_lt_of_le h.1 k.size, fun j hj => (k.cell (x := ⟨g, j, none⟩) h.1 hG).trans (h.2.1 j hj), fun o => (k.frozen (x := ⟨g, o, none⟩) h.1 hG).trans (h.2.2 o)⟩
theorem IdAt.snoc {g n : Nat} {ids : List Nat} {w : World} {a : Nat} (h : IdAt g n ids w) (hl : ids.length < n) : IdAt g n (ids ++ [a]) (w.setCell ⟨g, ids.length, none⟩ (.int .i64 ((a : Nat) : Int))) := by
  refine ⟨by simpa using h.1, fun j hj => ?_, fun o => by rw [World.frozen?_setCell]; exact h.2.2 o⟩
  by_cases e : j = ids.length
  · subst e
    rw [World.cell?_setCell_same _ _ _ (h.2.1 _ hl)]
    simp [List.getD_eq_getElem?_getD]
  · rw [World.cell?_setCell_other _ _ _ _ (by first | (simp; done) | (simp; omega)), h.2.1 j hj]
    simp only [List.getD_eq_getElem?_getD]
    by_cases hjl : j < ids.length
    · rw [List.getElem?_append_left hjl]
    · rw [List.getElem?_eq_none (by omega), List.getElem?_eq_none (by simp; omega)]

/-- Blocks that may change while nodes are made. -/
def BF (W : World) (p m : Nat) (sv : Value) (i : Nat) : Prop := foot p m sv i ∨ W.heap.size ≤ i
/-- What is there ahead of each node. -/
structure BdS (W : World) (B p m : Nat) (sv : Value) (n : Nat) (L : List Nd) (ids : List Nat) (w : World) : Prop where
  st : ∃ v, StoreAt B w p m v L ∧ v.ownBlock ≠ some W.heap.size ∧ (v.ownBlock = sv.ownBlock ∨ ∃ g, W.heap.size ≤ g ∧ v.ownBlock = some g)
  k : Kept (BF W p m sv) W w
  id : IdAt W.heap.size n ids w
  pl : p < W.heap.size
  ml : m < W.heap.size
theorem BdS.call {W w w' : World} {B p m n : Nat} {sv : Value} {L : List Nd} {ids : List Nat} (h : BdS W B p m sv n L ids w) (k : Below w.heap.size w w') : BdS W B p m sv n L ids w' := by
  obtain ⟨v, S, h1, h2⟩ := h.st
  exact ⟨⟨v, S.call k, h1, h2⟩, h.k.trans (Kept.ofBelow k _), h.id.kept (Kept.ofBelow k (fun _ => False)) (fun c => c), h.pl, h.ml⟩
/-- A store into a new block of the call's own. -/
theorem BdS.box {W w : World} {B p m n b i : Nat} {sv u : Value} {L : List Nd} {ids : List Nat} (h : BdS W B p m sv n L ids w) (hb : W.heap.size < b) (hs : ∀ v, StoreAt B w p m v L → v.ownBlock ≠ some b) : BdS W B p m sv n L ids (w.setCell ⟨b, i, none⟩ u) := by
  obtain ⟨v, S, h1, h2⟩ := h.st
  have hk : Kept (fun j => j = b) w (w.setCell ⟨b, i, none⟩ u) := (Kept.refl _ w).setCell ⟨b, i, none⟩ u (fun _ => rfl)
  refine ⟨⟨v, S.kept hk (fun j c e => ?_), h1, h2⟩, h.k.setCell _ _ (fun c => absurd c (by simp; omega)), h.id.kept hk (by omega), h.pl, h.ml⟩
  subst e
  rcases c with c | c | c
  · have := h.pl; omega
  · have := h.ml; omega
  · exact hs v S c
theorem BdS.ns {W w : World} {B p m n : Nat} {sv : Value} {L : List Nd} {ids : List Nat} (h : BdS W B p m sv n L ids w) {b : Nat} (hb : b < W.heap.size) (hf : ¬ foot p m sv b) : ∀ o, w.cell? ⟨b, o, none⟩ = W.cell? ⟨b, o, none⟩ := fun o =>
  h.k.cell (x := ⟨b, o, none⟩) hb (fun c => by rcases c with c | c; exact hf c; exact absurd (show W.heap.size ≤ b from c) (by omega))
/-- A node is made. -/
theorem BdS.made {W w w' : World} {B p m n bx : Nat} {sv v : Value} {L L' : List Nd} {ids : List Nat} {x : Nd} (h : BdS W B p m sv n L ids w) (_S : StoreAt B w p m v L) (h1 : v.ownBlock ≠ some W.heap.size) (h2 : v.ownBlock = sv.ownBlock ∨ ∃ g, W.heap.size ≤ g ∧ v.ownBlock = some g)
    (hbx : W.heap.size < bx) (hbw : bx < w.heap.size) (hv : v.ownBlock ≠ some bx) (hX : NdAt w bx x) (hm : ∃ v', StoreAt B w' p m v' L' ∧ Kept (foot p m v) w w' ∧ (v'.ownBlock = v.ownBlock ∨ ∃ g, w.heap.size ≤ g ∧ v'.ownBlock = some g)) :
    BdS W B p m sv n L' ids w' ∧ NdAt w' bx x := by
  obtain ⟨v', S', K, loc⟩ := hm
  have hpl := h.pl
  have hml := h.ml
  have hWw := h.k.size
  have hnf : ∀ b, W.heap.size ≤ b → v.ownBlock ≠ some b → ¬ foot p m v b := by
    intro b hb hne c
    rcases c with c | c | c
    · omega
    · omega
    · exact hne c
  refine ⟨⟨⟨v', S', ?_, ?_⟩, ?_, h.id.kept K (hnf _ (Nat.le_refl _) h1), hpl, hml⟩, hX.kept K (hnf _ (by omega) hv)⟩
  · rcases loc with e | ⟨g, hg, e⟩
    · rw [e]; exact h1
    · rw [e]; intro c; simp at c; have := h.id.1; omega
  · rcases loc with c | ⟨g2, hg, c⟩
    · rw [c]; exact h2
    · exact .inr ⟨g2, by omega, c⟩
  · refine h.k.trans (K.mono (fun i _ c => ?_))
    rcases c with c | c | c
    · exact .inl (.inl c)
    · exact .inl (.inr (.inl c))
    · rcases h2 with e | ⟨g, hg, e⟩
      · rw [e] at c; exact .inl (.inr (.inr c))
      · rw [e] at c; simp at c; exact .inr (by omega)
end Tx
end Go.Proofs.YtkiegiofholofaaGreatDoor

namespace Go.Proofs.YtkiegiofholofaaGreatDoor
open Go.RowKit Go.Maps Bv Tm
namespace Tx
set_option maxHeartbeats 3200000
set_option maxRecDepth 100000

theorem info_int : (Tryz.prog.info? 3).map (fun i => (i.zero, i.size, i.bytes)) = some (some (.int .i64 0), 1, 8) := by kernel_rfl

/-- Ahead of each node: its place, what is made, what is still to come. -/
def LoopB (W : World) (B p m : Nat) (sv : Value) (ns : List Nd) (RES : List Nd × Nat × Nat) (i last : Nat) (w : World) : Prop :=
  ∃ (L : List Nd) (ids : List Nat), BdS W B p m sv ns.length L ids w ∧ ids.length = i ∧ (∀ a ∈ ids, a < L.length) ∧ bd (ns.drop i) ids L last = RES
/-- What build has done. -/
def Built (W : World) (B p m : Nat) (sv : Value) (RES : List Nd × Nat × Nat) (e : Ending) (w : World) : Prop :=
  e = .returned (.tuple #[.int .i64 ((RES.2.1 : Nat) : Int), .int .i64 ((RES.2.2 : Nat) : Int)]) ∧ ∃ v, StoreAt B w p m v RES.1 ∧ Kept (BF W p m sv) W w ∧ (v.ownBlock = sv.ownBlock ∨ ∃ g, W.heap.size ≤ g ∧ v.ownBlock = some g)

theorem build_any {B p m gn c : Nat} {sv : Value} {L : List Nd} {ns : List Nd} {W : World} (S : StoreAt B W p m sv L) (_hB : B ≤ W.heap.size) (hp : PlOk ns) (hl : ns.length ≤ 10000) (hgn : gn < W.heap.size) (hfn : ¬ foot p m sv gn)
    (hcell : ∀ (i : Nat) (x : Nd), ns[i]? = some x → ∀ j u, x.cells.toList[j]? = some u → W.cell? ⟨gn, i * 7 + j, none⟩ = some u) (n : Nat) (hn : n = ns.length) :
    Calls Tryz.prog 55 #[.pointer (some ⟨p, 0, none⟩), .slice (some ⟨gn, 0, none⟩) n c] W (Built W B p m sv (bd ns [] L 0)) := by
  obtain ⟨i0, hi0, hz0, hz1, hz2⟩ := info_parts info_int
  have hmk : ∀ W, (Instr.makeSlice 85 (.int .i64 ((n : Nat) : Int)) (.int .i64 ((n : Nat) : Int))).run Tryz.prog W = .ok (.slice (some ⟨W.heap.size, 0, none⟩) n n) (W.alloc (.cells (madeCells #[.int .i64 0] (n * 1)) 3)) := by
    intro W
    have h := run_make W 85 3 i0 (.int .i64 0) Tryz.underlying85 hi0 hz0 .i64 .i64 ((n : Nat) : Int) ((n : Nat) : Int) (by omega) (Int.le_refl _) (by rw [hz2]; omega) (by omega)
    have htn : ((n : Nat) : Int).toNat = n := by omega
    rw [hz1, htn] at h
    exact h
  have hb1 : Below W.heap.size W (W.alloc (.cells (madeCells #[.int .i64 0] n) 3)) := bel_alloc (Below.refl _ _) _
  have hS0 : LoopB W B p m sv ns (bd ns [] L 0) 0 0 (W.alloc (.cells (madeCells #[.int .i64 0] n) 3)) := by
    refine ⟨L, [], ⟨⟨sv, S.call hb1, fun e => by have := (S.row.lt _ e).2; omega, by exact .inl rfl⟩, Kept.ofBelow hb1 _, ⟨by simp, fun j hj => ?_, fun o => World.frozen?_alloc_new _ _ _ _⟩, S.lt, S.lm⟩, rfl, by simp, rfl⟩
    rw [World.cell?_alloc_new]
    have : j < n := by omega
    simp [madeCells, this, Nat.mod_one]
  have HS0 := Lib.hid hS0
  have HP := Lib.hid hp
  have HC := Lib.hid hcell
  have HFN := Lib.hid (And.intro hgn hfn)
  have HN := Lib.hid (And.intro hn hl)
  obtain ⟨RES, hRES⟩ : ∃ RES, bd ns [] L 0 = RES := ⟨_, rfl⟩
  rw [hRES] at HS0 ⊢
  clear hS0 hb1 hp hcell hgn hfn hn hl S hi0 hz0 hz1 hz2 hRES _hB
  go_enter Tryz.func55, Tryz.ntmps55
  go_wp2_with fail
  go_loopg [7, 18] n (fun gk u7 u18 wr => ∃ i last : Nat, u7 = .int .i64 ((last : Nat) : Int) ∧ u18 = .int .i64 ((i : Nat) : Int) ∧ i + gk = n ∧ LoopB W B p m sv ns RES i last wr)
  case atStart => exact ⟨0, 0, rfl, rfl, by omega, HS0.out⟩
  case round =>
    obtain ⟨i, last, rfl, rfl, hgk, hLB⟩ := hrel
    clear HS0 hmk
    obtain ⟨gO, hgO⟩ : ∃ gO, gO = gk := ⟨_, rfl⟩
    subst hgO
    obtain ⟨wA, hwA⟩ : ∃ wA, wA = wr := ⟨_, rfl⟩
    subst hwA
    by_cases hin : i < n
    · obtain ⟨x, hx⟩ : ∃ x, ns[i]? = some x := ⟨_, List.getElem?_eq_getElem (by rw [← HN.out.1]; exact hin)⟩
      obtain ⟨Li, ids, hBd, hil, hids, hbd⟩ := hLB
      have hox := HP.out i x hx
      have hcn : ∀ o, wA.cell? ⟨gn, o, none⟩ = W.cell? ⟨gn, o, none⟩ := hBd.ns HFN.out.1 HFN.out.2
      obtain ⟨f0, f1, f2, f3, f4, f5, f6⟩ := cells_near (fun j u hj => (hcn (i * 7 + j)).trans (HC.out i x hx j u hj))
      have hlgn : gn < wA.heap.size := Nat.lt_of_lt_of_le HFN.out.1 hBd.k.size
      have q1 : ((i : Nat) : Int) < ((n : Nat) : Int) := by omega
      have q0 : (0 : Int) ≤ ((i : Nat) : Int) := by omega
      have r1 : IntKind.i64.wrap (((i : Nat) : Int) + 1) = (((i + 1 : Nat) : Nat) : Int) := by have := HN.out; rw [IntKind.wrap_i64]; omega
      have r2 : wrap64 (((i : Nat) : Int) + 1) = (((i + 1 : Nat) : Nat) : Int) := by unfold wrap64; rw [← IntKind.wrap_i64]; exact r1
      have HR2 := Lib.hid r2
      have HGK := Lib.hid (And.intro hgk hin)
      have HKN : Hid (∀ W : World, Calls Tryz.prog 60 #[.int .u8 ((x.o : Nat) : Int)] W fun e W' => e = .returned (.int .i64 ((kc x.o : Nat) : Int)) ∧ W = W') := fun W => tk_any ⟨hox.lo, hox.hi⟩ W
      have HBD := Lib.hid hBd
      have HIL := Lib.hid hil
      have HIDS := Lib.hid hids
      have HOX := Lib.hid hox
      have hdrop : bd (x :: ns.drop (i + 1)) ids Li last = RES := by
        have e : ns.drop i = x :: ns.drop (i + 1) := by
          rw [List.drop_eq_getElem_cons (by rw [← HN.out.1]; exact hin), (List.getElem?_eq_some_iff.1 hx).2]
        rw [← hbd, e]
      have HDR := Lib.hid hdrop
      clear hBd hil hids hox hcn hx hgk hin hbd hdrop r1 r2
      go_wp2_with (go_at_call 60; refine (HKN.out _).mono ?_; rintro e w2 ⟨rfl, rfl⟩)
      obtain ⟨bx, hbx⟩ : ∃ bx, wA.heap.size = bx := ⟨_, rfl⟩
      have hX0 : NdAt (wA.alloc (.cells x.cells 36)) bx x := by rw [← hbx]; exact NdAt.new wA x _
      have hWb : W.heap.size < bx := by have := HBD.out.id.1; omega
      have hbX := bel_alloc (Below.refl _ wA) (.cells x.cells 36)
      have hBX := HBD.out.call hbX
      have hvX : ∀ v, StoreAt B (wA.alloc (.cells x.cells 36)) p m v Li → v.ownBlock ≠ some bx := by
        intro v S e
        obtain ⟨v0, S0, _, _⟩ := HBD.out.st
        have e1 := (S0.call hbX).c0
        rw [S.c0] at e1
        have e2 : v = v0 := Option.some.inj e1
        rw [e2] at e
        have := (S0.row.lt _ e).2
        omega
      simp only [hbx]
      have HIN : Hid (BdS W B p m sv ns.length Li ids (wA.alloc (.cells x.cells 36)) ∧ NdAt (wA.alloc (.cells x.cells 36)) bx (subK ids x 0) ∧ (∀ v, StoreAt B (wA.alloc (.cells x.cells 36)) p m v Li → v.ownBlock ≠ some bx)) := Lib.hid ⟨hBX, hX0, hvX⟩
      unfold Nd.cells at HIN
      have HWB := Lib.hid hWb
      have HKC : Hid (kc x.o ≤ 3) := Lib.hid (kc_le x.o)
      clear hX0 hBX hvX hbX hWb hbx f0 f1 f2 f3 f4 f5 f6 hlgn HBD
      go_loopg [26] (kc x.o) (fun gk u26 w2 => ∃ k : Nat, u26 = .int .i64 ((k : Nat) : Int) ∧ k + gk = kc x.o ∧ BdS W B p m sv ns.length Li ids w2 ∧ NdAt w2 bx (subK ids x k) ∧ (∀ v, StoreAt B w2 p m v Li → v.ownBlock ≠ some bx))
      case atStart => exact ⟨0, rfl, by omega, HIN.out⟩
      case round =>
        obtain ⟨k, rfl, hgk2, hBd, hNd, hvb⟩ := hrel
        clear HIN
        by_cases hk : k < kc x.o
        · have hk3 : k < 3 := by have := HKC.out; omega
          have hkid := HOX.out.kid k hk
          obtain ⟨pl, hpl⟩ : ∃ pl : Nat, x.kid k = ((pl : Nat) : Int) := ⟨(x.kid k).toNat, by omega⟩
          have hck : wr.cell? ⟨bx, 2 + k, none⟩ = some (.int .i64 ((pl : Nat) : Int)) := by
            have := hNd.kid hk3
            rw [subK_kid ids x k k (by omega) hk3, if_neg (by omega), hpl] at this
            exact this
          have hfz := hNd.2 (2 + k)
          have hpn : pl < n := by have := HGK.out; omega
          have hid := hBd.id.2.1 pl (by rw [← HN.out.1]; exact hpn)
          have q4 : ((k : Nat) : Int) < ((kc x.o : Nat) : Int) := by omega
          have q5 : (0 : Int) ≤ ((k : Nat) : Int) := by omega
          have q6 : ((k : Nat) : Int) < 3 := by omega
          have q7 : (0 : Int) ≤ ((pl : Nat) : Int) := by omega
          have q8 : ((pl : Nat) : Int) < ((n : Nat) : Int) := by omega
          have t1 : IntKind.i64.wrap (((k : Nat) : Int) + 1) = (((k + 1 : Nat) : Nat) : Int) := by rw [IntKind.wrap_i64]; omega
          have t2 : wrap64 (((k : Nat) : Int) + 1) = (((k + 1 : Nat) : Nat) : Int) := by unfold wrap64; rw [← IntKind.wrap_i64]; exact t1
          have HT2 := Lib.hid t2
          have HG2 := Lib.hid (And.intro hgk2 hk)
          have HB2 := Lib.hid hBd
          have HN2 : Hid (NdAt (wr.setCell ⟨bx, 2 + k, none⟩ (.int .i64 (((ids.getD pl 0 : Nat) : Nat) : Int))) bx (subK ids x (k + 1))) := Lib.hid (by
            have e : subK ids x (k + 1) = setKid (subK ids x k) k (((ids.getD pl 0 : Nat) : Nat) : Int) := by simp only [subK]; rw [hpl, Int.toNat_natCast]
            rw [e]
            exact hNd.setKid hk3)
          have HVB := Lib.hid hvb
          obtain ⟨idv, hidv⟩ : ∃ idv, ids.getD pl 0 = idv := ⟨_, rfl⟩
          rw [hidv] at hid HN2
          clear t1 t2 hgk2 hk hBd hNd hvb hk3 hkid hpl hpn hidv
          go_wp2_with fail
          go_roundg (gk - 1)
          case measure => have := HG2.out; omega
          case rel => exact ⟨k + 1, by first | rfl | (rw [HT2.out]) | (congr 1; exact HT2.out), by have := HG2.out; omega, HB2.out.box HWB.out HVB.out, HN2.out, fun v S => by
            obtain ⟨v0, S0, _, _⟩ := (HB2.out.box (i := 2 + k) (u := .int .i64 ((idv : Nat) : Int)) HWB.out HVB.out).st
            have e1 := S0.c0
            rw [S.c0] at e1
            have e2 : v = v0 := Option.some.inj e1
            obtain ⟨v1, S1, _, _⟩ := HB2.out.st
            have e3 : v0 = v1 := by
              have a := S0.c0
              rw [World.cell?_setCell_other _ _ _ _ (by have := HB2.out.pl; have := HWB.out; first | (simp; done) | (simp; omega)), S1.c0] at a
              exact (Option.some.inj a).symm
            rw [e2, e3]
            exact HVB.out v1 S1⟩
        · have hke : k = kc x.o := by omega
          subst hke
          clear hk hgk2
          obtain ⟨y, hy⟩ : ∃ y, subK ids x (kc x.o) = y := ⟨_, rfl⟩
          have hyo : y.o = x.o := by rw [← hy]; exact subK_o ids x _
          have hidl : ∀ j, ids.getD j 0 < 9223372036854775808 := fun j => by
            rw [List.getD_eq_getElem?_getD]
            cases h : ids[j]? with
            | none => simp
            | some a =>
              have h1 := HIDS.out a (List.mem_of_getElem? h)
              obtain ⟨v, S, _, _⟩ := hBd.st
              have h2 := S.good.len
              simp
              omega
          have hyk : y.Ok := by rw [← hy]; exact subK_ok HOX.out.ok hidl _
          have hykid : ∀ j, j < kc y.o → 0 ≤ y.kid j ∧ y.kid j < ((Li.length : Nat) : Int) := by
            intro j hj
            rw [hyo] at hj
            have h1 := HOX.out.kid j hj
            have h3 := HKC.out
            rw [← hy, subK_kid ids x _ j h3 (by omega), if_pos hj]
            have hjl : (x.kid j).toNat < ids.length := by have := HIL.out; omega
            have hm := HIDS.out (ids[(x.kid j).toNat]'hjl) (List.getElem_mem hjl)
            rw [List.getD_eq_getElem?_getD, List.getElem?_eq_getElem hjl]
            simp
            omega
          have hdef : nodeB Li ids x = { y with w := widB Li y } := by unfold nodeB; rw [hy]
          rw [hy] at hNd
          obtain ⟨v, S, hg1, hg2⟩ := hBd.st
          have HWID := Lib.hid (twid_any (x := y) S ⟨by rw [hyo]; exact HOX.out.lo, by rw [hyo]; exact HOX.out.hi⟩ hykid)
          have hwle := widB_le S.good hyk.w
          obtain ⟨wd, hwd⟩ : ∃ wd, widB Li y = wd := ⟨_, rfl⟩
          rw [hwd] at HWID hdef hwle
          have HNB : Hid (nodeB Li ids x = { y with w := wd }) := hdef
          have HY : Hid (Nd.Ok { y with w := wd }) := Lib.hid ⟨hyk.o, hwle, hyk.k0, hyk.k1, hyk.k2, hyk.n, hyk.l⟩
          have HND := Lib.hid hNd
          have HB2 := Lib.hid hBd
          have HVB := Lib.hid hvb
          have a0 := hNd.1.1
          have a1 := hNd.1.2.1
          have a2 := hNd.1.2.2.1
          have a3 := hNd.1.2.2.2.1
          have a4 := hNd.1.2.2.2.2.1
          have a5 := hNd.1.2.2.2.2.2.1
          have a6 := hNd.1.2.2.2.2.2.2
          clear hy hyo hidl hyk hykid hdef hwd hwle S hg1 hg2 hNd hBd hvb
          obtain ⟨yo, yw, y0, y1, y2, yn, yl⟩ := y
          unfold Nd.val at HWID
          go_wp2_with (
             go_at_call 101
             refine HWID.out.mono ?_
             rintro e w5 ⟨rfl, hb5⟩
             have HB5 := Lib.hid (HB2.out.call hb5)
             have HND5 := Lib.hid (HND.out.call hb5)
             have b0 := HND5.out.1.1
             have b1 := HND5.out.1.2.1
             have b2 := HND5.out.1.2.2.1
             have b3 := HND5.out.1.2.2.2.1
             have b4 := HND5.out.1.2.2.2.2.1
             have b5 := HND5.out.1.2.2.2.2.2.1
             have b6 := HND5.out.1.2.2.2.2.2.2
             have bf := HND5.out.2 1
             have HLB := Lib.hid hb5
             clear hb5)
          have hvb5 : ∀ v, StoreAt B w5 p m v Li → v.ownBlock ≠ some bx := by
            intro v S
            obtain ⟨v0, S0, _, _⟩ := HB2.out.st
            have e1 := (S0.call HLB.out).c0
            rw [S.c0] at e1
            rw [Option.some.inj e1]
            exact HVB.out v0 S0
          have hBU := HB5.out.box (i := 1) (u := .int .u8 ((wd : Nat) : Int)) HWB.out hvb5
          have hNU : NdAt (w5.setCell ⟨bx, 1, none⟩ (.int .u8 ((wd : Nat) : Int))) bx ⟨yo, wd, y0, y1, y2, yn, yl⟩ := HND5.out.set (i := 1) (by omega) rfl (by intro j hj hne; rcases j with _ | _ | _ | _ | _ | _ | _ | j <;> first | rfl | omega)
          have hvU : ∀ v, StoreAt B (w5.setCell ⟨bx, 1, none⟩ (.int .u8 ((wd : Nat) : Int))) p m v Li → v.ownBlock ≠ some bx := by
            intro v S
            obtain ⟨v0, S0, _, _⟩ := HB5.out.st
            have a := S.c0
            rw [World.cell?_setCell_other _ _ _ _ (by have := HB5.out.pl; have := HWB.out; first | (simp; done) | (simp; omega)), S0.c0] at a
            rw [← Option.some.inj a]
            exact hvb5 v0 S0
          generalize (w5.setCell ⟨bx, 1, none⟩ (.int .u8 ((wd : Nat) : Int))) = U at hBU hNU hvU ⊢
          obtain ⟨v, S, hg1, hg2⟩ := hBU.st
          have hBW : B ≤ W.heap.size := Nat.le_trans S.bp (Nat.le_of_lt hBU.pl)
          have HMK := Lib.hid (make_any S (Nat.le_trans hBW hBU.k.size) HY.out)
          have HMADE : Hid (∀ w', (∃ v', StoreAt B w' p m v' (mk Li ⟨yo, wd, y0, y1, y2, yn, yl⟩).1 ∧ Kept (foot p m v) U w' ∧ (v'.ownBlock = v.ownBlock ∨ ∃ g, U.heap.size ≤ g ∧ v'.ownBlock = some g)) → BdS W B p m sv ns.length (mk Li ⟨yo, wd, y0, y1, y2, yn, yl⟩).1 ids w' ∧ NdAt w' bx ⟨yo, wd, y0, y1, y2, yn, yl⟩) := Lib.hid (fun w' hm => hBU.made S hg1 hg2 HWB.out hNU.lt (hvU v S) hNU hm)
          unfold Nd.val at HMK
          obtain ⟨id2, hid2⟩ : ∃ id2, (mk Li ⟨yo, wd, y0, y1, y2, yn, yl⟩).2.1 = id2 := ⟨_, rfl⟩
          obtain ⟨er2, her2⟩ : ∃ er2, (mk Li ⟨yo, wd, y0, y1, y2, yn, yl⟩).2.2 = er2 := ⟨_, rfl⟩
          simp only [hid2, her2] at HMK
          clear hvb5 hBU hNU hvU S hg1 hg2 hBW b0 b1 b2 b3 b4 b5 b6 bf HND5 HB5 HLB
          have HM2 := Lib.hid (And.intro hid2 her2)
          clear hid2 her2
          by_cases he : er2 = 0
          · subst he
            go_wp2_with (
               go_at_call 17
               refine HMK.out.mono ?_
               rintro e w6 ⟨rfl, hm⟩
               obtain ⟨hB6, hN6⟩ := HMADE.out w6 hm
               have hg6 := hB6.id.2.1 i (by have := HGK.out; have := HN.out; omega)
               have hz6 := hB6.id.2.2 i
               have HB6 := Lib.hid hB6
               clear hm hB6 hN6)
            go_roundg (gO - 1)
            case measure => have := HGK.out; omega
            case rel => exact ⟨i + 1, id2, by first | rfl, by first | rfl | (rw [HR2.out]) | (congr 1; exact HR2.out), by have := HGK.out; omega, by
              obtain ⟨e1, e2⟩ := HM2.out
              have hmi := mk_id e2
              rw [e1] at hmi
              refine ⟨(mk Li ⟨yo, wd, y0, y1, y2, yn, yl⟩).1, ids ++ [id2], ?_, by simp [HIL.out], ?_, ?_⟩
              · have hs := HB6.out.id.snoc (a := id2) (by rw [HIL.out]; have := HGK.out; have := HN.out; omega)
                rw [HIL.out] at hs
                obtain ⟨v6, S6, h1, h2⟩ := HB6.out.st
                have hk : Kept (fun j => j = W.heap.size) w6 (w6.setCell ⟨W.heap.size, i, none⟩ (.int .i64 ((id2 : Nat) : Int))) := (Kept.refl _ w6).setCell _ _ (fun _ => rfl)
                refine ⟨⟨v6, S6.kept hk (fun j c e => ?_), h1, h2⟩, HB6.out.k.setCell _ _ (fun c => absurd (show W.heap.size < W.heap.size from c) (by omega)), hs, HB6.out.pl, HB6.out.ml⟩
                subst e
                rcases c with c | c | c
                · have := HB6.out.pl; omega
                · have := HB6.out.ml; omega
                · exact h1 c
              · intro a ha
                rcases List.mem_append.1 ha with h | h
                · have := HIDS.out a h; omega
                · simp at h; subst h; exact hmi.1
              · have hd := HDR.out
                simp only [bd] at hd
                rw [HNB.out, show ({ (⟨yo, yw, y0, y1, y2, yn, yl⟩ : Nd) with w := wd } : Nd) = ⟨yo, wd, y0, y1, y2, yn, yl⟩ from rfl, if_pos e2, e1] at hd
                exact hd⟩
          · have d : (((er2 : Nat) : Int) == 0) = false := by simp; omega
            go_wp2_with (
               go_at_call 17
               refine HMK.out.mono ?_
               rintro e w6 ⟨rfl, hm⟩
               obtain ⟨hB6, hN6⟩ := HMADE.out w6 hm
               have HB6 := Lib.hid hB6
               clear hm hB6 hN6)
            refine bodyPost_ret (v := .tuple #[.int .i64 0, .int .i64 ((er2 : Nat) : Int)]) (by simp [results, Tryz.results55, go_sem]) rfl ?_
            obtain ⟨e1, e2⟩ := HM2.out
            have hd := HDR.out
            simp only [bd] at hd
            rw [HNB.out, show ({ (⟨yo, yw, y0, y1, y2, yn, yl⟩ : Nd) with w := wd } : Nd) = ⟨yo, wd, y0, y1, y2, yn, yl⟩ from rfl, if_neg (by rw [e2]; exact he), e2] at hd
            rw [← hd]
            obtain ⟨v6, S6, _, h6⟩ := HB6.out.st
            exact ⟨rfl, v6, S6, HB6.out.k, h6⟩
    · have hie : i = n := by omega
      obtain ⟨Li, ids, hBd, hil, hids, hbd⟩ := hLB
      have hd : RES = (Li, last, 0) := by
        rw [← hbd, hie, List.drop_of_length_le (by have := HN.out; omega)]
        rfl
      have HB := Lib.hid hBd
      have HD := Lib.hid hd
      subst hie
      clear hin hgk hBd hbd hd hids hil
      go_wp2_with fail
      refine bodyPost_ret (v := .tuple #[.int .i64 ((last : Nat) : Int), .int .i64 0]) (by simp [results, Tryz.results55, go_sem]) rfl ?_
      rw [HD.out]
      obtain ⟨v6, S6, _, h6⟩ := HB.out.st
      exact ⟨rfl, v6, S6, HB.out.k, h6⟩
end Tx
end Go.Proofs.YtkiegiofholofaaGreatDoor

namespace Go.Proofs.YtkiegiofholofaaGreatDoor
open Go.RowKit Go.Maps Bv Tm
namespace Tx
set_option maxHeartbeats 3200000
set_option maxRecDepth 100000

theorem rnode_none {F : Nat → Prop} {r : Nat} {s : By} {ns : List Nd} {W : World} (h : RdE F r s ns W) (hE : EnvAt F W) (hs : s.length ≤ 10000) (hnl : ns.length + s.length ≤ 10000) (h35 : has1 35 s = false ∧ aft 35 s = s) (h118 : has1 118 s = false ∧ aft 118 s = s) (h40 : need 40 s = none) :
    Calls Tryz.prog 100 #[.pointer (some ⟨r, 0, none⟩)] W (NodeR F r W none) := by
  have hb0 : Below W.heap.size W (W.alloc (.cells zNd.cells 36)) := bel_alloc (Below.refl _ _) _
  have R0 := h.apart hb0 (Nat.le_refl _) (by simp)
  obtain ⟨bx, hbx⟩ : ∃ bx, W.heap.size = bx := ⟨_, rfl⟩
  obtain ⟨G, hG⟩ : ∃ G : Nat → Prop, G = (fun i => F i ∧ i ≠ bx) := ⟨_, rfl⟩
  rw [hbx, ← hG] at R0
  have HFB : F bx := by obtain ⟨_, _, h⟩ := h; exact h.fn _ (by omega)
  have B0 : BS F G r W bx s ns zNd (W.alloc (.cells #[.int .u8 0, .int .u8 0, .int .i64 0, .int .i64 0, .int .i64 0, .int .u64 0, .int .u8 0] 36)) := ⟨R0, Kept.ofBelow hb0 F, by rw [← hbx]; exact NdAt.new W zNd _, hE.call hb0, fun i c => by rw [hG] at c; exact c.1, fun c => by rw [hG] at c; exact c.2 rfl, HFB⟩
  have HB0 := Lib.hid B0
  have HS := Lib.hid hs
  have HNL := Lib.hid hnl
  clear B0 R0 hG hs hnl h hE HFB hb0
  have HA := Lib.hid h35
  have HB := Lib.hid h118
  have HC := Lib.hid h40
  clear h35 h118 h40
  go_enter Tryz.func100, Tryz.ntmps100
  go_wp2_with fail
  try simp only [hbx]
  generalize (W.alloc (.cells #[.int .u8 0, .int .u8 0, .int .i64 0, .int .i64 0, .int .i64 0, .int .u64 0, .int .u8 0] 36)) = X at HB0 ⊢
  clear hbx
  go_wp2_with (
     go_at_call 127
     refine (rhas_any HB0.out.rd 35).mono ?_
     rintro e a8 ⟨rfl, h7, k7⟩
     rw [HA.out.1]
     rw [HA.out.2] at h7
     have NY := Lib.hid (HB0.out.call h7 k7)
     clear h7 k7
     refine Hid.out ?_)
  refine Lib.hid ?_
  go_wp2_with (
     go_at_call 127
     refine (rhas_any NY.out.rd 118).mono ?_
     rintro e a9 ⟨rfl, h7, k7⟩
     rw [HB.out.1]
     rw [HB.out.2] at h7
     have NZ := Lib.hid (NY.out.call h7 k7)
     clear h7 k7
     refine Hid.out ?_)
  refine Lib.hid ?_
  go_wp2_with (
     go_at_call 129
     refine (rneed_no NZ.out.rd HC.out).mono ?_
     rintro e a0 ⟨rfl, k7⟩
     exact ⟨rfl, rfl, NZ.out.k.trans (k7.mono (fun i _ c => NZ.out.gf i c))⟩)

theorem readsDo (r : Nat) : ∀ f, ReadsDo f r
  | 0 => fun F s ns w _ _ h => by omega
  | f + 1 => by
    have ih := readsDo r f
    intro F s ns w hR hE hf hs hn
    have hnone : ∀ (h35 : has1 35 s = false ∧ aft 35 s = s) (h118 : has1 118 s = false ∧ aft 118 s = s) (h40 : need 40 s = none) (hq : nodeP (f + 1) s ns = none), Calls Tryz.prog 100 #[.pointer (some ⟨r, 0, none⟩)] w (NodeR F r w (nodeP (f + 1) s ns)) := fun h1 h2 h3 h4 => by
      rw [h4]
      exact rnode_none hR hE hs hn h1 h2 h3
    cases s with
    | nil => exact hnone ⟨rfl, rfl⟩ ⟨rfl, rfl⟩ rfl rfl
    | cons c t =>
      by_cases h35 : c = 35
      · subst h35
        exact rnode_const hR hE hs hn rfl
      by_cases h118 : c = 118
      · subst h118
        exact rnode_var hR hE hs hn rfl
      by_cases h40 : c = 40
      · subst h40
        exact rnode_op hR hE hs hn hf ih rfl
      · refine hnone ⟨?_, ?_⟩ ⟨?_, ?_⟩ ?_ ?_
        · simp [has1, h35]
        · simp [aft, h35]
        · simp [has1, h118]
        · simp [aft, h118]
        · simp [need, h40]
        · simp [nodeP, h35, h118, h40]

/-- All of a text. -/
theorem rwhole_any {F : Nat → Prop} {r : Nat} {s : By} {W : World} (h : RdE F r s [] W) (hE : EnvAt F W) (hs0 : s.length ≤ 9223372036854775807) :
    Calls Tryz.prog 54 #[.pointer (some ⟨r, 0, none⟩)] W (Reads F r W (wholeP s) (fun _ => .tuple #[]) (fun _ => []) (fun ns => ns)) := by
  obtain ⟨tx, v, h⟩ := h
  have c0 := h.c0
  have hsz : tx.size = s.length := by rw [size_len, h.tx]
  by_cases hl : 10000 < s.length
  · have hw : wholeP s = none := by unfold wholeP; rw [if_pos hl]
    rw [hw]
    have q : (10000 : Int) < ((tx.size : Nat) : Int) := by omega
    clear h hE hsz hl hw hs0
    go_enter Tryz.func54, Tryz.ntmps54
    go_wp2_with fail
    exact ⟨rfl, rfl, Kept.refl F W⟩
  · have q : ¬ (10000 : Int) < ((tx.size : Nat) : Int) := by omega
    have hnode := readsDo r (s.length + 1) F s [] W ⟨tx, v, h⟩ hE (by omega) (by omega) (by simp; omega)
    unfold wholeP
    rw [if_neg hl]
    cases hq : nodeP (s.length + 1) s [] with
    | none =>
      rw [hq] at hnode
      have HN := Lib.hid hnode
      clear h hE hsz hl hs0 hnode hq
      go_enter Tryz.func54, Tryz.ntmps54
      go_wp2_with (
         go_at_call 100
         refine HN.out.mono ?_
         intro e a1 h7
         unfold NodeR at h7
         obtain ⟨rfl, k7⟩ := h7
         exact ⟨rfl, rfl, k7⟩)
    | some p =>
      obtain ⟨t, ms⟩ := p
      rw [hq] at hnode
      have HN := Lib.hid hnode
      clear h hE hsz hl hs0 hnode hq
      simp only [Option.bind_some]
      by_cases ht : t = []
      · rw [if_pos ht]
        subst ht
        go_enter Tryz.func54, Tryz.ntmps54
        go_wp2_with (
           go_at_call 100
           refine HN.out.mono ?_
           intro e a1 h7
           unfold NodeR at h7
           obtain ⟨rfl, ⟨tx2, v2, h7⟩, k7⟩ := h7
           have g0 := h7.c0
           have hz : tx2 = ⟨#[]⟩ := by
             have := h7.tx
             apply ByteArray.ext
             apply Array.ext'
             exact this
           subst hz
           have H7 := Lib.hid h7
           have K7 := Lib.hid k7
           clear h7 k7)
        exact ⟨rfl, .tuple #[], by simp [results, Tryz.results54, go_sem], rfl, ⟨_, v2, H7.out⟩, K7.out⟩
      · rw [if_neg ht]
        have HT := Lib.hid ht
        clear ht
        go_enter Tryz.func54, Tryz.ntmps54
        go_wp2_with (
           go_at_call 100
           refine HN.out.mono ?_
           intro e a1 h7
           unfold NodeR at h7
           obtain ⟨rfl, ⟨tx2, v2, h7⟩, k7⟩ := h7
           have g0 := h7.c0
           have hz0 : tx2.toList ≠ [] := by rw [Lib.toList_data, h7.tx]; exact HT.out
           have hz1 : ¬ tx2.toList = [] := hz0
           have hz2 : tx2.toList.isEmpty = false := by simpa using hz0
           have hz3 : (!tx2.toList.isEmpty) = true := by rw [hz2]; rfl
           have H7 := Lib.hid h7
           have K7 := Lib.hid k7
           clear h7 k7)
        all_goals exact ⟨rfl, rfl, K7.out⟩
end Tx
end Go.Proofs.YtkiegiofholofaaGreatDoor

namespace Go.Proofs.YtkiegiofholofaaGreatDoor
open Go.RowKit Go.Maps Bv Tm
namespace Tx
set_option maxHeartbeats 3200000
set_option maxRecDepth 100000

theorem WrE.mono {F G : Nat → Prop} {b : Nat} {st : Value} {bs : By} {w : World} (h : WrE F b st bs w) (hG : ∀ i, F i → G i) : WrE G b st bs w := by
  obtain ⟨v, h⟩ := h
  exact ⟨v, h.c0, h.c1, h.fr, h.row, h.gp, hG _ h.fb, fun g e => hG _ (h.fo g e), fun i hi => hG _ (h.fn i hi)⟩
/-- The writer behind what has made memory alone; a block of that is kept apart. -/
theorem WrE.apart {F : Nat → Prop} {b : Nat} {st : Value} {bs : By} {w w3 : World} (h : WrE F b st bs w) (hb : Below w.heap.size w w3) {pb : Nat} (h1 : w.heap.size ≤ pb) (h2 : pb < w3.heap.size) : WrE (fun i => F i ∧ i ≠ pb) b st bs w3 := by
  obtain ⟨v, h⟩ := h
  have k := h.keep (Kept.ofBelow hb (fun _ => False)) (fun _ _ c => c.elim)
  have lb := h.lt
  refine ⟨v, k.c0, k.c1, k.fr, k.row, k.gp, ⟨h.fb, by omega⟩, fun g e => ⟨h.fo g e, ?_⟩, fun i hi => ⟨h.fn i (Nat.le_trans hb.size hi), by omega⟩⟩
  have := own_lt h.row e
  omega
theorem WrE.call {F : Nat → Prop} {b : Nat} {st : Value} {bs : By} {w w3 : World} (h : WrE F b st bs w) (hb : Below w.heap.size w w3) : WrE F b st bs w3 := by
  obtain ⟨v, h⟩ := h
  exact ⟨v, h.keep (Kept.ofBelow hb (fun _ => False)) (fun _ _ c => c.elim)⟩

theorem parts_new {P : List ByteArray} (w : World) (T : TypeId) (i : Nat) (s : ByteArray) (h : P[i]? = some s) : (w.alloc (.cells (P.map Value.string).toArray T)).cell? ⟨w.heap.size, i, none⟩ = some (.string s) := by
  rw [World.cell?_alloc_new]
  simp [h]

/-- Parts in a list that was just made, added. -/
theorem add_step {G : Nat → Prop} {b pb cap n : Nat} {st : Value} {bs : By} {w w3 : World} {P : List ByteArray} (hW : WrE G b st bs w) (hb : Below w.heap.size w w3) (h1 : w.heap.size ≤ pb) (h2 : pb < w3.heap.size)
    (hP : ∀ (i : Nat) (s : ByteArray), P[i]? = some s → w3.cell? ⟨pb, i, none⟩ = some (.string s)) (hn : n = P.length) (hnb : n < 1000) (hlen : bs.length + (flat P).length ≤ 900000) :
    Calls Tryz.prog 57 #[.pointer (some ⟨b, 0, none⟩), .slice (some ⟨pb, 0, none⟩) n cap] w3 (fun e w' =>
      ((bs ++ flat P).length ≤ 10000 ∧ e = .returned (.tuple #[]) ∧ WrE G b st (bs ++ flat P) w' ∧ Kept G w w') ∨ (10000 < (bs ++ flat P).length ∧ e = boom 3 ∧ Kept G w w')) := by
  refine (add_any (hW.apart hb h1 h2) hP (fun c => c.2 rfl) hlen hn h2 hnb).mono ?_
  intro e w' h
  have K : ∀ {w'}, Kept (fun i => G i ∧ i ≠ pb) w3 w' → Kept G w w' := fun k => (Kept.ofBelow hb G).trans (k.mono (fun i _ c => c.1))
  unfold Added1 at h
  split at h
  · exact .inl ⟨‹_›, h.1, h.2.1.mono (fun i c => c.1), K h.2.2⟩
  · exact .inr ⟨by omega, h.1, K h.2⟩

theorem add_fit {G : Nat → Prop} {b pb cap n : Nat} {st : Value} {bs bs' : By} {w w3 : World} {P : List ByteArray} (hf : bs'.length ≤ 10000) (hbs : bs' = bs ++ flat P) (hW : WrE G b st bs w) (hb : Below w.heap.size w w3) (h1 : w.heap.size ≤ pb) (h2 : pb < w3.heap.size)
    (hP : ∀ (i : Nat) (s : ByteArray), P[i]? = some s → w3.cell? ⟨pb, i, none⟩ = some (.string s)) (hn : n = P.length) (hnb : n < 1000) :
    Calls Tryz.prog 57 #[.pointer (some ⟨b, 0, none⟩), .slice (some ⟨pb, 0, none⟩) n cap] w3 (fun e w' => e = .returned (.tuple #[]) ∧ WrE G b st bs' w' ∧ Kept G w w') := by
  subst hbs
  refine (add_step hW hb h1 h2 hP hn hnb (by rw [List.length_append] at hf; omega)).mono ?_
  rintro e w' (⟨_, rfl, h, k⟩ | ⟨h, _⟩)
  · exact ⟨rfl, h, k⟩
  · omega
theorem add_over {G : Nat → Prop} {b pb cap n : Nat} {st : Value} {bs bs' : By} {w w3 : World} {P : List ByteArray} (hf : 10000 < bs'.length) (hl : bs'.length ≤ 900000) (hbs : bs' = bs ++ flat P) (hW : WrE G b st bs w) (hb : Below w.heap.size w w3) (h1 : w.heap.size ≤ pb) (h2 : pb < w3.heap.size)
    (hP : ∀ (i : Nat) (s : ByteArray), P[i]? = some s → w3.cell? ⟨pb, i, none⟩ = some (.string s)) (hn : n = P.length) (hnb : n < 1000) :
    Calls Tryz.prog 57 #[.pointer (some ⟨b, 0, none⟩), .slice (some ⟨pb, 0, none⟩) n cap] w3 (fun e w' => e = boom 3 ∧ Kept G w w') := by
  subst hbs
  refine (add_step hW hb h1 h2 hP hn hnb (by rw [List.length_append] at hl; omega)).mono ?_
  rintro e w' (⟨h, _⟩ | ⟨_, rfl, k⟩)
  · omega
  · exact ⟨rfl, k⟩

theorem dec_len {n : Nat} (h : n < 18446744073709551616) : (dec n).length ≤ 20 := by
  unfold dec
  by_cases h0 : n = 0
  · subst h0; rw [Lib.decDigits_one (by omega)]; simp
  · rw [Lib.decDigits_length]
    have := Lib.numDigits_eq n (by omega) h
    split at this <;> omega
theorem nm_len (o : Nat) : (nm o).length ≤ 7 := by
  by_cases h : o < 26
  · have : ∀ o : Fin 26, (nm o.val).length ≤ 7 := by decide
    exact this ⟨o, h⟩
  · have : nm o = [] := by
      unfold nm
      rw [List.getD_eq_getElem?_getD, List.getElem?_eq_none (show nameL.length ≤ o by simp [nameL]; omega)]
      rfl
    rw [this]; simp

/-- What a call of node has done. -/
def Wrote (F : Nat → Prop) (b : Nat) (st : Value) (bs : By) (w : World) (e : Ending) (w' : World) : Prop :=
  (bs.length ≤ 10000 ∧ e = .returned (.tuple #[]) ∧ WrE F b st bs w' ∧ Kept F w w') ∨ (10000 < bs.length ∧ e = boom 3 ∧ Kept F w w')
end Tx
end Go.Proofs.YtkiegiofholofaaGreatDoor
