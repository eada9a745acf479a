/-
  The document's own Make, for every node, as a fact on one call.
-/
import Derived.Test.YtigjbngedbbdbaaPt21
import Derived.Test.YtigjbngedbbdbaaPt09
namespace Go.Proofs.Ytigjbngedbbdbaa
open Go.RowKit Go.Maps Bv
namespace Tm
set_option maxHeartbeats 2000000
set_option maxRecDepth 100000

theorem mk_found {L : List Nd} {x : Nd} {i : Nat} (hm : mayN L x = true) (hw : ¬ (x.o = 2 ∧ ¬ wdOf L x.n = 0 ∧ ¬ wdOf L x.n = x.w)) (hi : L[i]? = some x) (hb : ∀ j, j < i → L[j]? ≠ some x) : mk L x = (L, i, 0) := by
  have hin : x ∈ L := List.mem_of_getElem? hi
  have he : idx L x = i := by
    have h1 := idx_at hin
    have h2 : ¬ idx L x < i := fun c => hb _ c h1
    have h3 : ¬ i < idx L x := fun c => by
      have hl := (List.getElem?_eq_some_iff.1 hi).1
      have := List.not_of_lt_findIdx (p := fun y => decide (y = x)) (xs := L) c
      rw [(List.getElem?_eq_some_iff.1 hi).2] at this
      simp at this
    omega
  unfold mk
  rw [if_neg (by simp [hm]), if_neg hw, if_pos hin, he]
theorem not_in {L : List Nd} {x : Nd} (hb : ∀ j, j < L.length → L[j]? ≠ some x) : ¬ x ∈ L := by
  intro h
  obtain ⟨i, hi, e⟩ := List.getElem_of_mem h
  exact hb i hi (by rw [List.getElem?_eq_getElem hi, e])
theorem mk_full {L : List Nd} {x : Nd} (hm : mayN L x = true) (hw : ¬ (x.o = 2 ∧ ¬ wdOf L x.n = 0 ∧ ¬ wdOf L x.n = x.w)) (hn : ¬ x ∈ L) (hl : 200000 ≤ L.length) : mk L x = (L, 0, 3) := by
  unfold mk
  rw [if_neg (by simp [hm]), if_neg hw, if_neg hn, if_pos hl]

/-- The document's store with widths f beside its list. -/
structure RefP (B : Nat) (w : World) (p : Nat) (rv : Value) (L : List Nd) (f : Nat → Nat) : Prop where
  bp : B ≤ p
  lt : p < w.heap.size
  c0 : w.cell? ⟨p, 0, none⟩ = some rv
  cw : ∀ v, v < 256 → w.cell? ⟨p, 1 + v, none⟩ = some (.int .u8 ((f v : Nat) : Int))
  fr : ∀ o, w.frozen? ⟨p, o, none⟩ = false
  row : w.ownsRow B 57 7 rv L.length (rowOf L)
  gp : rv.ownBlock ≠ some p
theorem RefAt.pre {B : Nat} {w : World} {p : Nat} {rv : Value} {L : List Nd} (h : RefAt B w p rv L) : RefP B w p rv L (wdOf L) := ⟨h.bp, h.lt, h.c0, h.cw, h.fr, h.row, h.gp⟩
theorem RefP.kept {B : Nat} {w w' : World} {p : Nat} {rv : Value} {L : List Nd} {f : Nat → Nat} {F : Nat → Prop} (h : RefP B w p rv L f) (k : Kept F w w') (hF : ∀ i, rfoot p rv i → ¬ F i) : RefP B w' p rv L f := by
  have fp := hF p (.inl rfl)
  exact ⟨h.bp, Nat.lt_of_lt_of_le h.lt k.size, (k.cell (x := ⟨p, 0, none⟩) h.lt fp).trans h.c0, fun v hv => (k.cell (x := ⟨p, 1 + v, none⟩) h.lt fp).trans (h.cw v hv), fun o => (k.frozen (x := ⟨p, o, none⟩) h.lt fp).trans (h.fr o),
    row_kept h.row k (fun g e => hF g (.inr e)), h.gp⟩
theorem RefP.call {B : Nat} {w w' : World} {p : Nat} {rv : Value} {L : List Nd} {f : Nat → Nat} (h : RefP B w p rv L f) (k : Below w.heap.size w w') : RefP B w' p rv L f := h.kept (Kept.ofBelow k (fun _ => False)) (fun _ _ c => c)
theorem RefP.setw {B : Nat} {w : World} {p : Nat} {rv : Value} {L : List Nd} {f : Nat → Nat} (h : RefP B w p rv L f) (n v : Nat) (hn : n < 256) :
    RefP B (w.setCell ⟨p, 1 + n, none⟩ (.int .u8 ((v : Nat) : Int))) p rv L (fun i => if i = n then v else f i) := by
  refine ⟨h.bp, by simpa [World.setCell] using h.lt, ?_, fun i hi => ?_, fun o => ?_, row_setCell h.row _ h.gp, h.gp⟩
  · rw [World.cell?_setCell_other _ _ _ _ (by simp; try omega)]; exact h.c0
  · by_cases e : i = n
    · subst e
      simp only [if_pos]
      exact World.cell?_setCell_same' _ _ _ (by rw [h.cw _ hi]; rfl)
    · simp only [if_neg e]
      rw [World.cell?_setCell_other _ _ _ _ (by simp; try omega)]
      exact h.cw i hi
  · rw [World.frozen?_setCell]; exact h.fr o

/-- Behind the append and the store of the list. -/
theorem RefP.more {B : Nat} {W w w2 : World} {p : Nat} {rv v : Value} {L : List Nd} {x : Nd} {f : Nat → Nat} (h : RefP B w p rv L f) (k : Kept (rfoot p rv) W w)
    (hrow : w2.ownsRow B 57 7 v (L.length + 1) (rowOf L ++ x.cells.toList)) (hg : w.grownBy w2 rv.ownBlock) (hloc : v.ownBlock = rv.ownBlock ∨ v.ownBlock = some w.heap.size)
    (hf : ∀ i, i < 256 → f i = wdOf (L ++ [x]) i) (hG : Gd (L ++ [x])) :
    RefAt B (w2.setCell ⟨p, 0, none⟩ v) p v (L ++ [x]) ∧ Kept (rfoot p rv) W (w2.setCell ⟨p, 0, none⟩ v) ∧ (v.ownBlock = rv.ownBlock ∨ ∃ g, W.heap.size ≤ g ∧ v.ownBlock = some g) := by
  have hp : some p ≠ rv.ownBlock := fun e => h.gp e.symm
  have hc2 : ∀ o, w2.cell? ⟨p, o, none⟩ = w.cell? ⟨p, o, none⟩ := fun o => World.cell?_of_block (w := w) (hg.block p h.lt hp)
  have hf2 : ∀ o, w2.frozen? ⟨p, o, none⟩ = w.frozen? ⟨p, o, none⟩ := fun o => World.frozen?_of_block (w := w) (hg.block p h.lt hp)
  have hvp : v.ownBlock ≠ some p := by
    rcases hloc with e | e
    · rw [e]; exact h.gp
    · rw [e]; intro c; have := h.lt; simp at c; omega
  have kk : Kept (rfoot p rv) W (w2.setCell ⟨p, 0, none⟩ v) := (k.grown hg (fun i e _ => .inr e)).setCell ⟨p, 0, none⟩ v (fun _ => .inl rfl)
  refine ⟨⟨h.bp, ?_, ?_, fun i hi => ?_, fun o => ?_, ?_, hvp, hG⟩, kk, hloc.imp id (fun e => ⟨_, k.size, e⟩)⟩
  · simpa [World.setCell] using Nat.lt_of_lt_of_le h.lt hg.size
  · exact World.cell?_setCell_same' _ _ _ (by rw [hc2, h.c0]; rfl)
  · rw [World.cell?_setCell_other _ _ _ _ (by simp; try omega), hc2, h.cw i hi, hf i hi]
  · rw [World.frozen?_setCell, hf2]; exact h.fr o
  · rw [rowOf_append]
    have := row_setCell hrow (a := ⟨p, 0, none⟩) v hvp
    simpa using this

theorem RefAt.drewN {B : Nat} {w : World} {p : Nat} {rv : Value} {L : List Nd} (h : RefAt B w p rv L) (n : Nat) : RefAt B (w.drewN n) p rv L :=
  h.kept (F := fun _ => False) ⟨rfl, rfl, rfl, Nat.le_refl _, fun _ _ _ => rfl⟩ (fun _ _ c => c)
theorem RefP.nxt {B : Nat} {w : World} {p : Nat} {rv : Value} {L : List Nd} {f : Nat → Nat} (h : RefP B w p rv L f) (o : Obj) : RefP B (w.alloc o) p rv L f :=
  h.kept ((Kept.refl (fun _ => False) w).alloc o) (fun _ _ c => c)
theorem RefP.drewN {B : Nat} {w : World} {p : Nat} {rv : Value} {L : List Nd} {f : Nat → Nat} (h : RefP B w p rv L f) (n : Nat) : RefP B (w.drewN n) p rv L f :=
  h.kept (F := fun _ => False) ⟨rfl, rfl, rfl, Nat.le_refl _, fun _ _ _ => rfl⟩ (fun _ _ c => c)
theorem RefP.drew {B : Nat} {w : World} {p : Nat} {rv : Value} {L : List Nd} {f : Nat → Nat} (h : RefP B w p rv L f) : RefP B w.drew p rv L f :=
  h.kept (F := fun _ => False) ⟨rfl, rfl, rfl, Nat.le_refl _, fun _ _ _ => rfl⟩ (fun _ _ c => c)
theorem RefP.after {B : Nat} {w w2 : World} {p : Nat} {rv : Value} {L : List Nd} {f : Nat → Nat} (h : RefP B w p rv L f) (hg : w.grownBy w2 rv.ownBlock) :
    w2.cell? ⟨p, 0, none⟩ = some rv ∧ w2.frozen? ⟨p, 0, none⟩ = false := by
  have hp : some p ≠ rv.ownBlock := fun e => h.gp e.symm
  exact ⟨hg.cell h.c0 hp, (World.frozen?_of_block (w := w) (hg.block p h.lt hp)).trans (h.fr 0)⟩
theorem nodeCells (w : World) (x : Nd) (t : TypeId) : ∀ j u, x.cells.toList[j]? = some u → (w.alloc (.cells x.cells t)).cell? ((⟨w.heap.size, 0, none⟩ : Addr).add j) = some u :=
  cell_new7 w _ _ _ _ _ _ _ t

theorem wd_same {L : List Nd} {x : Nd} (hG : Gd (L ++ [x])) (ho : x.o = 2) (i : Nat) : (if i = x.n then x.w else wdOf L i) = wdOf (L ++ [x]) i := by
  by_cases e : i = x.n
  · rw [if_pos e, e, hG.wd x (by simp) ho]
  · rw [if_neg e, wdOf_append, if_neg (fun c => e c.2.2.1.symm)]
theorem wd_plain {L : List Nd} {x : Nd} (ho : ¬ x.o = 2) (i : Nat) : wdOf L i = wdOf (L ++ [x]) i := by rw [wdOf_append, if_neg (fun c => ho c.2.1)]
theorem rk_nn {x : Nat} (h : 1 ≤ x ∧ x ≤ 25) : decide (rk x < 0) = false := by rw [rk_kc h]; exact decide_eq_false (by omega)

/-- No other width is told of the variable. -/
def NoTw (L : List Nd) (x : Nd) : Prop := ¬ (x.o = 2 ∧ ¬ wdOf L x.n = 0 ∧ ¬ wdOf L x.n = x.w)
def RMade (B : Nat) (W : World) (p : Nat) (rv : Value) (q : List Nd × Nat × Nat) (e : Ending) (W' : World) : Prop :=
  e = .returned (.tuple #[.int .i64 ((q.2.1 : Nat) : Int), .int .i64 ((q.2.2 : Nat) : Int)]) ∧ ∃ v, RefAt B W' p v q.1 ∧ Kept (rfoot p rv) W W' ∧ (v.ownBlock = rv.ownBlock ∨ ∃ g, W.heap.size ≤ g ∧ v.ownBlock = some g)

theorem rmake_bad {B p : Nat} {rv : Value} {L : List Nd} {x : Nd} {W : World} (S : RefAt B W p rv L) (hB : B ≤ W.heap.size) (hx : x.Ok) (hm : mayN L x = false) :
    Calls Try.prog 14 #[.pointer (some ⟨p, 0, none⟩), .agg #[.int .u8 ((x.o : Nat) : Int), .int .u8 ((x.w : Nat) : Int), .int .i64 x.k0, .int .i64 x.k1, .int .i64 x.k2, .int .u64 ((x.n : Nat) : Int), .int .u8 ((x.l : Nat) : Int)]] W (RMade B W p rv (L, 0, 2)) := by
  have A := At7.new W (.int .u8 ((x.o : Nat) : Int)) (.int .u8 ((x.w : Nat) : Int)) (.int .i64 x.k0) (.int .i64 x.k1) (.int .i64 x.k2) (.int .u64 ((x.n : Nat) : Int)) (.int .u8 ((x.l : Nat) : Int)) 57
  have S1 := S.pre.call (bel_alloc (Below.refl _ _) (.cells #[.int .u8 ((x.o : Nat) : Int), .int .u8 ((x.w : Nat) : Int), .int .i64 x.k0, .int .i64 x.k1, .int .i64 x.k2, .int .u64 ((x.n : Nat) : Int), .int .u8 ((x.l : Nat) : Int)] 57))
  have SA := S.call (bel_alloc (Below.refl _ _) (.cells #[.int .u8 ((x.o : Nat) : Int), .int .u8 ((x.w : Nat) : Int), .int .i64 x.k0, .int .i64 x.k1, .int .i64 x.k2, .int .u64 ((x.n : Nat) : Int), .int .u8 ((x.l : Nat) : Int)] 57))
  have HW1 := Lib.hid (rwidth_any (x := x) SA hx)
  have HMAY := Lib.hid hm
  rw [hm] at HW1
  have HS := Lib.hid SA
  have lpS := S.lt
  have HB := Lib.hid hB
  have HX := Lib.hid hx
  clear S1 hB hm SA
  go_enter Try.func14, Try.ntmps14
  go_wp2_with (first | (go_at_call 26; refine HW1.out.mono ?_; rintro e w1 ⟨⟨ry, rfl⟩, hb⟩; have S2 := HS.out.call hb; replace A := A.keep hb; have la := A.lt; unfold At7 at A))
  exact bodyPost_ret (v := .tuple #[.int .i64 0, .int .i64 2]) (by simp [results, Try.results14, go_sem]) rfl ⟨rfl, rv, S2, ((Kept.refl _ W).alloc _).call hb, .inl rfl⟩

theorem rmake_t {B p : Nat} {rv : Value} {L : List Nd} {w n l : Nat} {k0 k1 k2 : Int} {W : World} (S : RefAt B W p rv L) (hB : B ≤ W.heap.size) (hx : (Nd.mk 2 w k0 k1 k2 n l).Ok) (hm : mayN L (Nd.mk 2 w k0 k1 k2 n l) = true) (hn2 : n < 256) (dz : (((wdOf L n : Nat) : Int) != 0) = true) (ds : (((wdOf L n : Nat) : Int) != ((w : Nat) : Int)) = true) :
    Calls Try.prog 14 #[.pointer (some ⟨p, 0, none⟩), .agg #[.int .u8 2, .int .u8 ((w : Nat) : Int), .int .i64 k0, .int .i64 k1, .int .i64 k2, .int .u64 ((n : Nat) : Int), .int .u8 ((l : Nat) : Int)]] W (RMade B W p rv (L, 0, 7)) := by
  have A := At7.new W (.int .u8 2) (.int .u8 ((w : Nat) : Int)) (.int .i64 k0) (.int .i64 k1) (.int .i64 k2) (.int .u64 ((n : Nat) : Int)) (.int .u8 ((l : Nat) : Int)) 57
  have S1 := S.pre.call (bel_alloc (Below.refl _ _) (.cells #[.int .u8 2, .int .u8 ((w : Nat) : Int), .int .i64 k0, .int .i64 k1, .int .i64 k2, .int .u64 ((n : Nat) : Int), .int .u8 ((l : Nat) : Int)] 57))
  have SA := S.call (bel_alloc (Below.refl _ _) (.cells #[.int .u8 2, .int .u8 ((w : Nat) : Int), .int .i64 k0, .int .i64 k1, .int .i64 k2, .int .u64 ((n : Nat) : Int), .int .u8 ((l : Nat) : Int)] 57))
  have HW1 := Lib.hid (rwidth_any (x := (Nd.mk 2 w k0 k1 k2 n l)) SA hx)
  have HMAY := Lib.hid hm
  rw [hm] at HW1
  have HS := Lib.hid SA
  have lpS := S.lt
  have HB := Lib.hid hB
  have HX := Lib.hid hx
  have HKI : Hid (∀ W : World, Calls Try.prog 27 #[.int .u8 2] W fun e W' => e = .returned (.int .i64 0) ∧ W = W') := fun W => by have h := rkids_any 2 W; rw [show rk 2 = 0 by decide] at h; exact h
  clear S1 hB hm SA
  go_enter Try.func14, Try.ntmps14
  go_wp2_with (first | (go_at_call 26; refine HW1.out.mono ?_; rintro e w1 ⟨⟨ry, rfl⟩, hb⟩; have S2 := HS.out.call hb; replace A := A.keep hb; have la := A.lt; unfold At7 at A) | (go_at_call 27; refine (HKI.out _).mono ?_; rintro e z ⟨rfl, rfl⟩))
  have K2 := (((Kept.refl (rfoot p rv) W).alloc (.cells #[.int .u8 2, .int .u8 ((w : Nat) : Int), .int .i64 k0, .int .i64 k1, .int .i64 k2, .int .u64 ((n : Nat) : Int), .int .u8 ((l : Nat) : Int)] 57))).call hb
  have lpW := S2.lt
  have Cw := S2.cw n hn2
  have Fw := S2.fr (1 + n)
  have hn3 : ((n : Nat) : Int) < 256 := by omega
  have hn4 : (0 : Int) ≤ ((n : Nat) : Int) := by omega
  have HK2 := Lib.hid K2
  have HS2 := Lib.hid S2
  have c0 := S2.c0
  clear K2 S2
  go_quiet (fail)
  go_wp2_with fail
  exact bodyPost_ret (v := .tuple #[.int .i64 0, .int .i64 7]) (by simp [results, Try.results14, go_sem]) rfl ⟨rfl, rv, HS2.out.drewN _, HK2.out.drewN _, .inl rfl⟩

theorem rmake_p {B p : Nat} {rv : Value} {L : List Nd} {x : Nd} {W : World} (S : RefAt B W p rv L) (hB : B ≤ W.heap.size) (hx : x.Ok) (hm : mayN L x = true) (d2 : (((x.o : Nat) : Int) == 2) = false) (ho : ¬ x.o = 2) (hw : ¬ (x.o = 2 ∧ ¬ wdOf L x.n = 0 ∧ ¬ wdOf L x.n = x.w)) :
    Calls Try.prog 14 #[.pointer (some ⟨p, 0, none⟩), .agg #[.int .u8 ((x.o : Nat) : Int), .int .u8 ((x.w : Nat) : Int), .int .i64 x.k0, .int .i64 x.k1, .int .i64 x.k2, .int .u64 ((x.n : Nat) : Int), .int .u8 ((x.l : Nat) : Int)]] W (RMade B W p rv (mk L x)) := by
  have A := At7.new W (.int .u8 ((x.o : Nat) : Int)) (.int .u8 ((x.w : Nat) : Int)) (.int .i64 x.k0) (.int .i64 x.k1) (.int .i64 x.k2) (.int .u64 ((x.n : Nat) : Int)) (.int .u8 ((x.l : Nat) : Int)) 57
  have S1 := S.pre.call (bel_alloc (Below.refl _ _) (.cells #[.int .u8 ((x.o : Nat) : Int), .int .u8 ((x.w : Nat) : Int), .int .i64 x.k0, .int .i64 x.k1, .int .i64 x.k2, .int .u64 ((x.n : Nat) : Int), .int .u8 ((x.l : Nat) : Int)] 57))
  have SA := S.call (bel_alloc (Below.refl _ _) (.cells #[.int .u8 ((x.o : Nat) : Int), .int .u8 ((x.w : Nat) : Int), .int .i64 x.k0, .int .i64 x.k1, .int .i64 x.k2, .int .u64 ((x.n : Nat) : Int), .int .u8 ((x.l : Nat) : Int)] 57))
  have HW1 := Lib.hid (rwidth_any (x := x) SA hx)
  have HMAY := Lib.hid hm
  rw [hm] at HW1
  have HS := Lib.hid SA
  have lpS := S.lt
  have HB := Lib.hid hB
  have HX := Lib.hid hx
  have HKI : Hid (∀ W : World, Calls Try.prog 27 #[.int .u8 ((x.o : Nat) : Int)] W fun e W' => e = .returned (.int .i64 (rk x.o)) ∧ W = W') := fun W => rkids_any x.o W
  have hk := rk_nn (mayN_op hm)
  have HWW := Lib.hid (show NoTw L x from hw)
  clear hw
  clear S1 hB hm SA
  go_enter Try.func14, Try.ntmps14
  go_wp2_with (first | (go_at_call 26; refine HW1.out.mono ?_; rintro e w1 ⟨⟨ry, rfl⟩, hb⟩; have S2 := HS.out.call hb; replace A := A.keep hb; have la := A.lt; unfold At7 at A) | (go_at_call 27; refine (HKI.out _).mono ?_; rintro e z ⟨rfl, rfl⟩))
  have K2 := (((Kept.refl (rfoot p rv) W).alloc (.cells #[.int .u8 ((x.o : Nat) : Int), .int .u8 ((x.w : Nat) : Int), .int .i64 x.k0, .int .i64 x.k1, .int .i64 x.k2, .int .u64 ((x.n : Nat) : Int), .int .u8 ((x.l : Nat) : Int)] 57))).call hb
  have lpW := S2.lt
  have HK2 := Lib.hid K2
  have HS2 := Lib.hid S2
  have c0 := S2.c0
  clear K2 S2
  go_quiet (fail)
  go_wp2_with fail
  obtain ⟨a, c, rfl⟩ := HS2.out.shape
  go_loopg [8] L.length (fun gk u8 wr => ∃ i q : Nat, u8 = .int .i64 ((i : Nat) : Int) ∧ i + gk = L.length ∧ (∀ j, j < i → L[j]? ≠ some x) ∧ wr = w1.drewN q)
  case atStart => exact ⟨0, _, rfl, by omega, fun j hj => by omega, rfl⟩
  case round =>
    obtain ⟨i, q, rfl, hg, hbf, rfl⟩ := hrel
    have HG := Lib.hid hg
    have HBF := Lib.hid hbf
    clear hbf
    by_cases hi : i < L.length
    case pos =>
      obtain ⟨y, hy⟩ : ∃ y, L[i]? = some y := ⟨_, List.getElem?_eq_getElem hi⟩
      obtain ⟨g, gc, hsg, hcg⟩ := row_nd_at HS2.out.row hy
      simp only [Value.slice.injEq] at hsg
      obtain ⟨rfl, _, rfl⟩ := hsg
      obtain ⟨m0, m1, m2, m3, m4, m5, m6⟩ := cells_near (fun j u hj => hcg i y hy j u hj)
      have hyok := HS2.out.good.ok y (List.mem_of_getElem? hy)
      have p1 : ((i : Nat) : Int) < ((L.length : Nat) : Int) := by omega
      have p0 : (0 : Int) ≤ ((i : Nat) : Int) := by omega
      have r1 : IntKind.i64.wrap (((i : Nat) : Int) + 1) = (((i + 1 : Nat) : Nat) : Int) := by have := HS2.out.good.len; rw [IntKind.wrap_i64]; omega
      have r2 : wrap64 (((i : Nat) : Int) + 1) = (((i + 1 : Nat) : Nat) : Int) := by unfold wrap64; rw [← IntKind.wrap_i64]; exact r1
      have HR2 := Lib.hid r2
      obtain ⟨bb, hbb⟩ : ∃ bb : Bool, bb = decide (y = x) := ⟨_, rfl⟩
      have he : ∀ W : World, (binOp .eql 57 (.agg #[.int .u8 ((y.o : Nat) : Int), .int .u8 ((y.w : Nat) : Int), .int .i64 y.k0, .int .i64 y.k1, .int .i64 y.k2, .int .u64 ((y.n : Nat) : Int), .int .u8 ((y.l : Nat) : Int)]) (.agg #[.int .u8 ((x.o : Nat) : Int), .int .u8 ((x.w : Nat) : Int), .int .i64 x.k0, .int .i64 x.k1, .int .i64 x.k2, .int .u64 ((x.n : Nat) : Int), .int .u8 ((x.l : Nat) : Int)])).run Try.prog W = .ok (.bool bb) W := fun W => by
        have := eql_nd y x hyok HX.out W
        rw [hbb]
        exact this
      have HY := Lib.hid hy
      have HBBB := Lib.hid hbb
      have lg : g < w1.heap.size := World.block_lt_of_cell? w1 _ m0
      have HI := Lib.hid hi
      clear hy hyok r1 r2 hg hbb hcg hi
      cases bb
      case true =>
        have hxy : L[i]? = some x := by have e : y = x := of_decide_eq_true HBBB.out.symm; rw [← e]; exact HY.out
        have hmk := Lib.hid (mk_found HMAY.out HWW.out hxy HBF.out)
        go_wp2_with fail
        go_quiet (fail)
        go_wp2_with fail
        rw [hmk.out]
        exact bodyPost_ret (v := .tuple #[.int .i64 ((i : Nat) : Int), .int .i64 0]) (by simp [results, Try.results14, go_sem]) rfl ⟨rfl, _, by first | exact HS2.out.drewN _ | exact (HS2.out.drewN _).drewN _, by first | exact HK2.out.drewN _ | exact (HK2.out.drewN _).drewN _, .inl rfl⟩
      case false =>
        have hxy : ¬ y = x := of_decide_eq_false HBBB.out.symm
        have HXY := Lib.hid hxy
        clear hxy
        go_wp2_with fail
        go_quiet (fail)
        go_wp2_with fail
        go_roundg (gk - 1)
        case measure => have := HG.out; have := HI.out; omega
        case rel => exact ⟨i + 1, _, by first | rfl | (rw [HR2.out]) | (congr 1; exact HR2.out), by have := HG.out; have := HI.out; omega, fun j hj e => by
          by_cases c : j = i
          · subst c; rw [HY.out] at e; exact HXY.out (by simpa using e)
          · exact HBF.out j (by omega) e, by first | rfl | (rw [World.drewN_drewN])⟩
    case neg =>
      have hie : i = L.length := by omega
      subst hie
      have hni := Lib.hid (not_in HBF.out)
      clear hi hg
      by_cases hl : 200000 ≤ L.length
      · have dl : decide ((200000 : Int) ≤ (L.length : Int)) = true := decide_eq_true (by omega)
        have hmk := Lib.hid (mk_full HMAY.out HWW.out hni.out hl)
        clear hl
        go_wp2_with fail
        rw [hmk.out]
        exact bodyPost_ret (v := .tuple #[.int .i64 0, .int .i64 3]) (by simp [results, Try.results14, go_sem]) rfl ⟨rfl, _, by first | exact HS2.out.drewN _ | exact (HS2.out.drewN _).drewN _, by first | exact HK2.out.drewN _ | exact (HK2.out.drewN _).drewN _, .inl rfl⟩
      · have dl : decide ((200000 : Int) ≤ (L.length : Int)) = false := decide_eq_false (by omega)
        have hmk := Lib.hid (mk_new HMAY.out hni.out (by omega) HWW.out)
        have hG := Lib.hid (Added.good HS2.out.good HX.out HMAY.out hni.out (by omega) HWW.out)
        have HL := Lib.hid (show L.length < 200000 by omega)
        clear hl
        go_wp2_with fail
        obtain ⟨ti, tz, hti, htz, htzs, htsz, htby⟩ := info_nd_parts
        have HT0 := Lib.hid (HS2.out.pre.drewN (q + 1))
        have HT := Lib.hid (HT0.out.nxt (.cells x.cells 57))
        have HKT := Lib.hid ((HK2.out.drewN (q + 1)).alloc (.cells x.cells 57))
        have hs0 : (w1.drewN (q + 1)).heap.size = w1.heap.size := by simp
        have hcn : ∀ j u, x.cells.toList[j]? = some u → (((w1.drewN (q + 1)).alloc (.cells x.cells 57))).cell? ((⟨w1.heap.size, 0, none⟩ : Addr).add j) = some u := by rw [← hs0]; exact nodeCells (w1.drewN (q + 1)) x 57
        have HHN := Lib.hid hcn
        have hls := Lib.hid hs0
        have HB1 := Lib.hid (show B ≤ (((w1.drewN (q + 1)).alloc (.cells x.cells 57))).heap.size from Nat.le_of_lt (Nat.lt_of_le_of_lt HT.out.bp HT.out.lt))
        have cz0 : ∀ o, (((w1.drewN (q + 1))).alloc o).cell? ⟨p, 0, none⟩ = some (.slice a L.length c) := fun o => (HT0.out.nxt o).c0
        clear hcn hs0
        go_region_law (refine step_append_at rfl (.tmp 88) (.tmp 90) 22 rfl B 57 ti tz 7 48 Try.underlying22 hti htz htsz htby htzs (by decide) (.slice a L.length c) L.length (rowOf L) (by simp [Act.eval]) HT.out.row ⟨w1.heap.size, 0, none⟩ 1 1 x.cells.toList (by simp [Act.eval]) rfl HHN.out (one7 _) (by have := HL.out; unfold maxLen; omega) (by have := HL.out; omega) HB1.out ?_; intro v' w2 hrow hgr hloc; obtain ⟨g', c', rfl, hBg, hg'⟩ := row_slice hrow; obtain ⟨C0, F0⟩ := HT.out.after hgr)
        all_goals
          have HR := Lib.hid (HT.out.more HKT.out hrow hgr hloc (fun i _ => wd_plain ho i) hG.out)
          clear hrow hgr hloc
          have hwl := Lib.hid (show wrap64 ((L.length : Nat) : Int) = ((L.length : Nat) : Int) by have := HL.out; unfold wrap64; rw [← IntKind.wrap_i64]; rw [IntKind.wrap_i64]; omega)
          go_wp2_with fail
          rw [hmk.out]
          exact bodyPost_ret (v := .tuple #[.int .i64 (wrap64 ((L.length : Nat) : Int)), .int .i64 0]) (by simp [results, Try.results14, go_sem]) rfl ⟨by rw [hwl.out]; rfl, _, HR.out⟩

theorem rmake_z {B p : Nat} {rv : Value} {L : List Nd} {w n l : Nat} {k0 k1 k2 : Int} {W : World} (S : RefAt B W p rv L) (hB : B ≤ W.heap.size) (hx : (Nd.mk 2 w k0 k1 k2 n l).Ok) (hm : mayN L (Nd.mk 2 w k0 k1 k2 n l) = true) (hn2 : n < 256) (dz : (((wdOf L n : Nat) : Int) != 0) = false) (hw : ¬ (2 = 2 ∧ ¬ wdOf L n = 0 ∧ ¬ wdOf L n = w)) :
    Calls Try.prog 14 #[.pointer (some ⟨p, 0, none⟩), .agg #[.int .u8 2, .int .u8 ((w : Nat) : Int), .int .i64 k0, .int .i64 k1, .int .i64 k2, .int .u64 ((n : Nat) : Int), .int .u8 ((l : Nat) : Int)]] W (RMade B W p rv (mk L (Nd.mk 2 w k0 k1 k2 n l))) := by
  have A := At7.new W (.int .u8 2) (.int .u8 ((w : Nat) : Int)) (.int .i64 k0) (.int .i64 k1) (.int .i64 k2) (.int .u64 ((n : Nat) : Int)) (.int .u8 ((l : Nat) : Int)) 57
  have S1 := S.pre.call (bel_alloc (Below.refl _ _) (.cells #[.int .u8 2, .int .u8 ((w : Nat) : Int), .int .i64 k0, .int .i64 k1, .int .i64 k2, .int .u64 ((n : Nat) : Int), .int .u8 ((l : Nat) : Int)] 57))
  have SA := S.call (bel_alloc (Below.refl _ _) (.cells #[.int .u8 2, .int .u8 ((w : Nat) : Int), .int .i64 k0, .int .i64 k1, .int .i64 k2, .int .u64 ((n : Nat) : Int), .int .u8 ((l : Nat) : Int)] 57))
  have HW1 := Lib.hid (rwidth_any (x := (Nd.mk 2 w k0 k1 k2 n l)) SA hx)
  have HMAY := Lib.hid hm
  rw [hm] at HW1
  have HS := Lib.hid SA
  have lpS := S.lt
  have HB := Lib.hid hB
  have HX := Lib.hid hx
  have HKI : Hid (∀ W : World, Calls Try.prog 27 #[.int .u8 2] W fun e W' => e = .returned (.int .i64 0) ∧ W = W') := fun W => by have h := rkids_any 2 W; rw [show rk 2 = 0 by decide] at h; exact h
  have HWW := Lib.hid (show NoTw L (Nd.mk 2 w k0 k1 k2 n l) from hw)
  clear hw
  clear S1 hB hm SA
  go_enter Try.func14, Try.ntmps14
  go_wp2_with (first | (go_at_call 26; refine HW1.out.mono ?_; rintro e w1 ⟨⟨ry, rfl⟩, hb⟩; have S2 := HS.out.call hb; replace A := A.keep hb; have la := A.lt; unfold At7 at A) | (go_at_call 27; refine (HKI.out _).mono ?_; rintro e z ⟨rfl, rfl⟩))
  have K2 := (((Kept.refl (rfoot p rv) W).alloc (.cells #[.int .u8 2, .int .u8 ((w : Nat) : Int), .int .i64 k0, .int .i64 k1, .int .i64 k2, .int .u64 ((n : Nat) : Int), .int .u8 ((l : Nat) : Int)] 57))).call hb
  have lpW := S2.lt
  have Cw := S2.cw n hn2
  have Fw := S2.fr (1 + n)
  have hn3 : ((n : Nat) : Int) < 256 := by omega
  have hn4 : (0 : Int) ≤ ((n : Nat) : Int) := by omega
  have HK2 := Lib.hid K2
  have HS2 := Lib.hid S2
  have c0 := S2.c0
  clear K2 S2
  go_quiet (fail)
  go_wp2_with fail
  obtain ⟨a, c, rfl⟩ := HS2.out.shape
  go_loopg [8] L.length (fun gk u8 wr => ∃ i q : Nat, u8 = .int .i64 ((i : Nat) : Int) ∧ i + gk = L.length ∧ (∀ j, j < i → L[j]? ≠ some (Nd.mk 2 w k0 k1 k2 n l)) ∧ wr = w1.drewN q)
  case atStart => exact ⟨0, _, rfl, by omega, fun j hj => by omega, rfl⟩
  case round =>
    obtain ⟨i, q, rfl, hg, hbf, rfl⟩ := hrel
    have HG := Lib.hid hg
    have HBF := Lib.hid hbf
    clear hbf
    by_cases hi : i < L.length
    case pos =>
      obtain ⟨y, hy⟩ : ∃ y, L[i]? = some y := ⟨_, List.getElem?_eq_getElem hi⟩
      obtain ⟨g, gc, hsg, hcg⟩ := row_nd_at HS2.out.row hy
      simp only [Value.slice.injEq] at hsg
      obtain ⟨rfl, _, rfl⟩ := hsg
      obtain ⟨m0, m1, m2, m3, m4, m5, m6⟩ := cells_near (fun j u hj => hcg i y hy j u hj)
      have hyok := HS2.out.good.ok y (List.mem_of_getElem? hy)
      have p1 : ((i : Nat) : Int) < ((L.length : Nat) : Int) := by omega
      have p0 : (0 : Int) ≤ ((i : Nat) : Int) := by omega
      have r1 : IntKind.i64.wrap (((i : Nat) : Int) + 1) = (((i + 1 : Nat) : Nat) : Int) := by have := HS2.out.good.len; rw [IntKind.wrap_i64]; omega
      have r2 : wrap64 (((i : Nat) : Int) + 1) = (((i + 1 : Nat) : Nat) : Int) := by unfold wrap64; rw [← IntKind.wrap_i64]; exact r1
      have HR2 := Lib.hid r2
      obtain ⟨bb, hbb⟩ : ∃ bb : Bool, bb = decide (y = (Nd.mk 2 w k0 k1 k2 n l)) := ⟨_, rfl⟩
      have he : ∀ W : World, (binOp .eql 57 (.agg #[.int .u8 ((y.o : Nat) : Int), .int .u8 ((y.w : Nat) : Int), .int .i64 y.k0, .int .i64 y.k1, .int .i64 y.k2, .int .u64 ((y.n : Nat) : Int), .int .u8 ((y.l : Nat) : Int)]) (.agg #[.int .u8 2, .int .u8 ((w : Nat) : Int), .int .i64 k0, .int .i64 k1, .int .i64 k2, .int .u64 ((n : Nat) : Int), .int .u8 ((l : Nat) : Int)])).run Try.prog W = .ok (.bool bb) W := fun W => by
        have := eql_nd y (Nd.mk 2 w k0 k1 k2 n l) hyok HX.out W
        rw [hbb]
        exact this
      have HY := Lib.hid hy
      have HBBB := Lib.hid hbb
      have lg : g < w1.heap.size := World.block_lt_of_cell? w1 _ m0
      have HI := Lib.hid hi
      clear hy hyok r1 r2 hg hbb hcg hi
      cases bb
      case true =>
        have hxy : L[i]? = some (Nd.mk 2 w k0 k1 k2 n l) := by have e : y = (Nd.mk 2 w k0 k1 k2 n l) := of_decide_eq_true HBBB.out.symm; rw [← e]; exact HY.out
        have hmk := Lib.hid (mk_found HMAY.out HWW.out hxy HBF.out)
        go_wp2_with fail
        go_quiet (fail)
        go_wp2_with fail
        rw [hmk.out]
        exact bodyPost_ret (v := .tuple #[.int .i64 ((i : Nat) : Int), .int .i64 0]) (by simp [results, Try.results14, go_sem]) rfl ⟨rfl, _, by first | exact HS2.out.drewN _ | exact (HS2.out.drewN _).drewN _, by first | exact HK2.out.drewN _ | exact (HK2.out.drewN _).drewN _, .inl rfl⟩
      case false =>
        have hxy : ¬ y = (Nd.mk 2 w k0 k1 k2 n l) := of_decide_eq_false HBBB.out.symm
        have HXY := Lib.hid hxy
        clear hxy
        go_wp2_with fail
        go_quiet (fail)
        go_wp2_with fail
        go_roundg (gk - 1)
        case measure => have := HG.out; have := HI.out; omega
        case rel => exact ⟨i + 1, _, by first | rfl | (rw [HR2.out]) | (congr 1; exact HR2.out), by have := HG.out; have := HI.out; omega, fun j hj e => by
          by_cases c : j = i
          · subst c; rw [HY.out] at e; exact HXY.out (by simpa using e)
          · exact HBF.out j (by omega) e, by first | rfl | (rw [World.drewN_drewN])⟩
    case neg =>
      have hie : i = L.length := by omega
      subst hie
      have hni := Lib.hid (not_in HBF.out)
      clear hi hg
      by_cases hl : 200000 ≤ L.length
      · have dl : decide ((200000 : Int) ≤ (L.length : Int)) = true := decide_eq_true (by omega)
        have hmk := Lib.hid (mk_full HMAY.out HWW.out hni.out hl)
        clear hl
        go_wp2_with fail
        rw [hmk.out]
        exact bodyPost_ret (v := .tuple #[.int .i64 0, .int .i64 3]) (by simp [results, Try.results14, go_sem]) rfl ⟨rfl, _, by first | exact HS2.out.drewN _ | exact (HS2.out.drewN _).drewN _, by first | exact HK2.out.drewN _ | exact (HK2.out.drewN _).drewN _, .inl rfl⟩
      · have dl : decide ((200000 : Int) ≤ (L.length : Int)) = false := decide_eq_false (by omega)
        have hmk := Lib.hid (mk_new HMAY.out hni.out (by omega) HWW.out)
        have hG := Lib.hid (Added.good HS2.out.good HX.out HMAY.out hni.out (by omega) HWW.out)
        have HL := Lib.hid (show L.length < 200000 by omega)
        clear hl
        go_wp2_with fail
        go_region
        all_goals go_wp2_with fail
        obtain ⟨ti, tz, hti, htz, htzs, htsz, htby⟩ := info_nd_parts
        have HT0 := Lib.hid ((HS2.out.pre.drewN (q + 1)).setw n w hn2)
        have HT := Lib.hid (HT0.out.nxt (.cells (Nd.mk 2 w k0 k1 k2 n l).cells 57)).drew
        have HKT := Lib.hid (((HK2.out.drewN (q + 1)).setCell ⟨p, 1 + n, none⟩ (.int .u8 ((w : Nat) : Int)) (fun _ => .inl rfl)).alloc (.cells (Nd.mk 2 w k0 k1 k2 n l).cells 57)).drew
        have hs0 : ((w1.drewN (q + 1)).setCell ⟨p, 1 + n, none⟩ (.int .u8 ((w : Nat) : Int))).heap.size = w1.heap.size := by simp [World.setCell]
        have hcn : ∀ j u, (Nd.mk 2 w k0 k1 k2 n l).cells.toList[j]? = some u → ((((w1.drewN (q + 1)).setCell ⟨p, 1 + n, none⟩ (.int .u8 ((w : Nat) : Int))).alloc (.cells (Nd.mk 2 w k0 k1 k2 n l).cells 57)).drew).cell? ((⟨w1.heap.size, 0, none⟩ : Addr).add j) = some u := by rw [← hs0]; exact nodeCells ((w1.drewN (q + 1)).setCell ⟨p, 1 + n, none⟩ (.int .u8 ((w : Nat) : Int))) (Nd.mk 2 w k0 k1 k2 n l) 57
        have HHN := Lib.hid hcn
        have hls := Lib.hid hs0
        have HB1 := Lib.hid (show B ≤ ((((w1.drewN (q + 1)).setCell ⟨p, 1 + n, none⟩ (.int .u8 ((w : Nat) : Int))).alloc (.cells (Nd.mk 2 w k0 k1 k2 n l).cells 57)).drew).heap.size from Nat.le_of_lt (Nat.lt_of_le_of_lt HT.out.bp HT.out.lt))
        have cz0 : ∀ o, ((((w1.drewN (q + 1)).setCell ⟨p, 1 + n, none⟩ (.int .u8 ((w : Nat) : Int)))).alloc o).cell? ⟨p, 0, none⟩ = some (.slice a L.length c) := fun o => (HT0.out.nxt o).c0
        clear hcn hs0
        go_region_law (refine step_append_at rfl (.tmp 88) (.tmp 90) 22 rfl B 57 ti tz 7 48 Try.underlying22 hti htz htsz htby htzs (by decide) (.slice a L.length c) L.length (rowOf L) (by simp [Act.eval]) HT.out.row ⟨w1.heap.size, 0, none⟩ 1 1 (Nd.mk 2 w k0 k1 k2 n l).cells.toList (by simp [Act.eval]) rfl HHN.out (one7 _) (by have := HL.out; unfold maxLen; omega) (by have := HL.out; omega) HB1.out ?_; intro v' w2 hrow hgr hloc; obtain ⟨g', c', rfl, hBg, hg'⟩ := row_slice hrow; obtain ⟨C0, F0⟩ := HT.out.after hgr)
        all_goals
          have HR := Lib.hid (HT.out.more HKT.out hrow hgr hloc (fun i _ => wd_same hG.out rfl i) hG.out)
          clear hrow hgr hloc
          have hwl := Lib.hid (show wrap64 ((L.length : Nat) : Int) = ((L.length : Nat) : Int) by have := HL.out; unfold wrap64; rw [← IntKind.wrap_i64]; rw [IntKind.wrap_i64]; omega)
          go_wp2_with fail
          rw [hmk.out]
          exact bodyPost_ret (v := .tuple #[.int .i64 (wrap64 ((L.length : Nat) : Int)), .int .i64 0]) (by simp [results, Try.results14, go_sem]) rfl ⟨by rw [hwl.out]; rfl, _, HR.out⟩

theorem rmake_s {B p : Nat} {rv : Value} {L : List Nd} {w n l : Nat} {k0 k1 k2 : Int} {W : World} (S : RefAt B W p rv L) (hB : B ≤ W.heap.size) (hx : (Nd.mk 2 w k0 k1 k2 n l).Ok) (hm : mayN L (Nd.mk 2 w k0 k1 k2 n l) = true) (hn2 : n < 256) (dz : (((wdOf L n : Nat) : Int) != 0) = true) (ds : (((wdOf L n : Nat) : Int) != ((w : Nat) : Int)) = false) (hw : ¬ (2 = 2 ∧ ¬ wdOf L n = 0 ∧ ¬ wdOf L n = w)) :
    Calls Try.prog 14 #[.pointer (some ⟨p, 0, none⟩), .agg #[.int .u8 2, .int .u8 ((w : Nat) : Int), .int .i64 k0, .int .i64 k1, .int .i64 k2, .int .u64 ((n : Nat) : Int), .int .u8 ((l : Nat) : Int)]] W (RMade B W p rv (mk L (Nd.mk 2 w k0 k1 k2 n l))) := by
  have A := At7.new W (.int .u8 2) (.int .u8 ((w : Nat) : Int)) (.int .i64 k0) (.int .i64 k1) (.int .i64 k2) (.int .u64 ((n : Nat) : Int)) (.int .u8 ((l : Nat) : Int)) 57
  have S1 := S.pre.call (bel_alloc (Below.refl _ _) (.cells #[.int .u8 2, .int .u8 ((w : Nat) : Int), .int .i64 k0, .int .i64 k1, .int .i64 k2, .int .u64 ((n : Nat) : Int), .int .u8 ((l : Nat) : Int)] 57))
  have SA := S.call (bel_alloc (Below.refl _ _) (.cells #[.int .u8 2, .int .u8 ((w : Nat) : Int), .int .i64 k0, .int .i64 k1, .int .i64 k2, .int .u64 ((n : Nat) : Int), .int .u8 ((l : Nat) : Int)] 57))
  have HW1 := Lib.hid (rwidth_any (x := (Nd.mk 2 w k0 k1 k2 n l)) SA hx)
  have HMAY := Lib.hid hm
  rw [hm] at HW1
  have HS := Lib.hid SA
  have lpS := S.lt
  have HB := Lib.hid hB
  have HX := Lib.hid hx
  have HKI : Hid (∀ W : World, Calls Try.prog 27 #[.int .u8 2] W fun e W' => e = .returned (.int .i64 0) ∧ W = W') := fun W => by have h := rkids_any 2 W; rw [show rk 2 = 0 by decide] at h; exact h
  have HWW := Lib.hid (show NoTw L (Nd.mk 2 w k0 k1 k2 n l) from hw)
  clear hw
  clear S1 hB hm SA
  go_enter Try.func14, Try.ntmps14
  go_wp2_with (first | (go_at_call 26; refine HW1.out.mono ?_; rintro e w1 ⟨⟨ry, rfl⟩, hb⟩; have S2 := HS.out.call hb; replace A := A.keep hb; have la := A.lt; unfold At7 at A) | (go_at_call 27; refine (HKI.out _).mono ?_; rintro e z ⟨rfl, rfl⟩))
  have K2 := (((Kept.refl (rfoot p rv) W).alloc (.cells #[.int .u8 2, .int .u8 ((w : Nat) : Int), .int .i64 k0, .int .i64 k1, .int .i64 k2, .int .u64 ((n : Nat) : Int), .int .u8 ((l : Nat) : Int)] 57))).call hb
  have lpW := S2.lt
  have Cw := S2.cw n hn2
  have Fw := S2.fr (1 + n)
  have hn3 : ((n : Nat) : Int) < 256 := by omega
  have hn4 : (0 : Int) ≤ ((n : Nat) : Int) := by omega
  have HK2 := Lib.hid K2
  have HS2 := Lib.hid S2
  have c0 := S2.c0
  clear K2 S2
  go_quiet (fail)
  go_wp2_with fail
  obtain ⟨a, c, rfl⟩ := HS2.out.shape
  go_loopg [8] L.length (fun gk u8 wr => ∃ i q : Nat, u8 = .int .i64 ((i : Nat) : Int) ∧ i + gk = L.length ∧ (∀ j, j < i → L[j]? ≠ some (Nd.mk 2 w k0 k1 k2 n l)) ∧ wr = w1.drewN q)
  case atStart => exact ⟨0, _, rfl, by omega, fun j hj => by omega, rfl⟩
  case round =>
    obtain ⟨i, q, rfl, hg, hbf, rfl⟩ := hrel
    have HG := Lib.hid hg
    have HBF := Lib.hid hbf
    clear hbf
    by_cases hi : i < L.length
    case pos =>
      obtain ⟨y, hy⟩ : ∃ y, L[i]? = some y := ⟨_, List.getElem?_eq_getElem hi⟩
      obtain ⟨g, gc, hsg, hcg⟩ := row_nd_at HS2.out.row hy
      simp only [Value.slice.injEq] at hsg
      obtain ⟨rfl, _, rfl⟩ := hsg
      obtain ⟨m0, m1, m2, m3, m4, m5, m6⟩ := cells_near (fun j u hj => hcg i y hy j u hj)
      have hyok := HS2.out.good.ok y (List.mem_of_getElem? hy)
      have p1 : ((i : Nat) : Int) < ((L.length : Nat) : Int) := by omega
      have p0 : (0 : Int) ≤ ((i : Nat) : Int) := by omega
      have r1 : IntKind.i64.wrap (((i : Nat) : Int) + 1) = (((i + 1 : Nat) : Nat) : Int) := by have := HS2.out.good.len; rw [IntKind.wrap_i64]; omega
      have r2 : wrap64 (((i : Nat) : Int) + 1) = (((i + 1 : Nat) : Nat) : Int) := by unfold wrap64; rw [← IntKind.wrap_i64]; exact r1
      have HR2 := Lib.hid r2
      obtain ⟨bb, hbb⟩ : ∃ bb : Bool, bb = decide (y = (Nd.mk 2 w k0 k1 k2 n l)) := ⟨_, rfl⟩
      have he : ∀ W : World, (binOp .eql 57 (.agg #[.int .u8 ((y.o : Nat) : Int), .int .u8 ((y.w : Nat) : Int), .int .i64 y.k0, .int .i64 y.k1, .int .i64 y.k2, .int .u64 ((y.n : Nat) : Int), .int .u8 ((y.l : Nat) : Int)]) (.agg #[.int .u8 2, .int .u8 ((w : Nat) : Int), .int .i64 k0, .int .i64 k1, .int .i64 k2, .int .u64 ((n : Nat) : Int), .int .u8 ((l : Nat) : Int)])).run Try.prog W = .ok (.bool bb) W := fun W => by
        have := eql_nd y (Nd.mk 2 w k0 k1 k2 n l) hyok HX.out W
        rw [hbb]
        exact this
      have HY := Lib.hid hy
      have HBBB := Lib.hid hbb
      have lg : g < w1.heap.size := World.block_lt_of_cell? w1 _ m0
      have HI := Lib.hid hi
      clear hy hyok r1 r2 hg hbb hcg hi
      cases bb
      case true =>
        have hxy : L[i]? = some (Nd.mk 2 w k0 k1 k2 n l) := by have e : y = (Nd.mk 2 w k0 k1 k2 n l) := of_decide_eq_true HBBB.out.symm; rw [← e]; exact HY.out
        have hmk := Lib.hid (mk_found HMAY.out HWW.out hxy HBF.out)
        go_wp2_with fail
        go_quiet (fail)
        go_wp2_with fail
        rw [hmk.out]
        exact bodyPost_ret (v := .tuple #[.int .i64 ((i : Nat) : Int), .int .i64 0]) (by simp [results, Try.results14, go_sem]) rfl ⟨rfl, _, by first | exact HS2.out.drewN _ | exact (HS2.out.drewN _).drewN _, by first | exact HK2.out.drewN _ | exact (HK2.out.drewN _).drewN _, .inl rfl⟩
      case false =>
        have hxy : ¬ y = (Nd.mk 2 w k0 k1 k2 n l) := of_decide_eq_false HBBB.out.symm
        have HXY := Lib.hid hxy
        clear hxy
        go_wp2_with fail
        go_quiet (fail)
        go_wp2_with fail
        go_roundg (gk - 1)
        case measure => have := HG.out; have := HI.out; omega
        case rel => exact ⟨i + 1, _, by first | rfl | (rw [HR2.out]) | (congr 1; exact HR2.out), by have := HG.out; have := HI.out; omega, fun j hj e => by
          by_cases c : j = i
          · subst c; rw [HY.out] at e; exact HXY.out (by simpa using e)
          · exact HBF.out j (by omega) e, by first | rfl | (rw [World.drewN_drewN])⟩
    case neg =>
      have hie : i = L.length := by omega
      subst hie
      have hni := Lib.hid (not_in HBF.out)
      clear hi hg
      by_cases hl : 200000 ≤ L.length
      · have dl : decide ((200000 : Int) ≤ (L.length : Int)) = true := decide_eq_true (by omega)
        have hmk := Lib.hid (mk_full HMAY.out HWW.out hni.out hl)
        clear hl
        go_wp2_with fail
        rw [hmk.out]
        exact bodyPost_ret (v := .tuple #[.int .i64 0, .int .i64 3]) (by simp [results, Try.results14, go_sem]) rfl ⟨rfl, _, by first | exact HS2.out.drewN _ | exact (HS2.out.drewN _).drewN _, by first | exact HK2.out.drewN _ | exact (HK2.out.drewN _).drewN _, .inl rfl⟩
      · have dl : decide ((200000 : Int) ≤ (L.length : Int)) = false := decide_eq_false (by omega)
        have hmk := Lib.hid (mk_new HMAY.out hni.out (by omega) HWW.out)
        have hG := Lib.hid (Added.good HS2.out.good HX.out HMAY.out hni.out (by omega) HWW.out)
        have HL := Lib.hid (show L.length < 200000 by omega)
        clear hl
        go_wp2_with fail
        go_region
        all_goals go_wp2_with fail
        obtain ⟨ti, tz, hti, htz, htzs, htsz, htby⟩ := info_nd_parts
        have HT0 := Lib.hid ((HS2.out.pre.drewN (q + 1)).setw n w hn2)
        have HT := Lib.hid (HT0.out.nxt (.cells (Nd.mk 2 w k0 k1 k2 n l).cells 57)).drew
        have HKT := Lib.hid (((HK2.out.drewN (q + 1)).setCell ⟨p, 1 + n, none⟩ (.int .u8 ((w : Nat) : Int)) (fun _ => .inl rfl)).alloc (.cells (Nd.mk 2 w k0 k1 k2 n l).cells 57)).drew
        have hs0 : ((w1.drewN (q + 1)).setCell ⟨p, 1 + n, none⟩ (.int .u8 ((w : Nat) : Int))).heap.size = w1.heap.size := by simp [World.setCell]
        have hcn : ∀ j u, (Nd.mk 2 w k0 k1 k2 n l).cells.toList[j]? = some u → ((((w1.drewN (q + 1)).setCell ⟨p, 1 + n, none⟩ (.int .u8 ((w : Nat) : Int))).alloc (.cells (Nd.mk 2 w k0 k1 k2 n l).cells 57)).drew).cell? ((⟨w1.heap.size, 0, none⟩ : Addr).add j) = some u := by rw [← hs0]; exact nodeCells ((w1.drewN (q + 1)).setCell ⟨p, 1 + n, none⟩ (.int .u8 ((w : Nat) : Int))) (Nd.mk 2 w k0 k1 k2 n l) 57
        have HHN := Lib.hid hcn
        have hls := Lib.hid hs0
        have HB1 := Lib.hid (show B ≤ ((((w1.drewN (q + 1)).setCell ⟨p, 1 + n, none⟩ (.int .u8 ((w : Nat) : Int))).alloc (.cells (Nd.mk 2 w k0 k1 k2 n l).cells 57)).drew).heap.size from Nat.le_of_lt (Nat.lt_of_le_of_lt HT.out.bp HT.out.lt))
        have cz0 : ∀ o, ((((w1.drewN (q + 1)).setCell ⟨p, 1 + n, none⟩ (.int .u8 ((w : Nat) : Int)))).alloc o).cell? ⟨p, 0, none⟩ = some (.slice a L.length c) := fun o => (HT0.out.nxt o).c0
        clear hcn hs0
        go_region_law (refine step_append_at rfl (.tmp 88) (.tmp 90) 22 rfl B 57 ti tz 7 48 Try.underlying22 hti htz htsz htby htzs (by decide) (.slice a L.length c) L.length (rowOf L) (by simp [Act.eval]) HT.out.row ⟨w1.heap.size, 0, none⟩ 1 1 (Nd.mk 2 w k0 k1 k2 n l).cells.toList (by simp [Act.eval]) rfl HHN.out (one7 _) (by have := HL.out; unfold maxLen; omega) (by have := HL.out; omega) HB1.out ?_; intro v' w2 hrow hgr hloc; obtain ⟨g', c', rfl, hBg, hg'⟩ := row_slice hrow; obtain ⟨C0, F0⟩ := HT.out.after hgr)
        all_goals
          have HR := Lib.hid (HT.out.more HKT.out hrow hgr hloc (fun i _ => wd_same hG.out rfl i) hG.out)
          clear hrow hgr hloc
          have hwl := Lib.hid (show wrap64 ((L.length : Nat) : Int) = ((L.length : Nat) : Int) by have := HL.out; unfold wrap64; rw [← IntKind.wrap_i64]; rw [IntKind.wrap_i64]; omega)
          go_wp2_with fail
          rw [hmk.out]
          exact bodyPost_ret (v := .tuple #[.int .i64 (wrap64 ((L.length : Nat) : Int)), .int .i64 0]) (by simp [results, Try.results14, go_sem]) rfl ⟨by rw [hwl.out]; rfl, _, HR.out⟩

/-- The document's Make, for every node. -/
theorem rmake_any {B p : Nat} {rv : Value} {L : List Nd} {x : Nd} {W : World} (S : RefAt B W p rv L) (hB : B ≤ W.heap.size) (hx : x.Ok) :
    Calls Try.prog 14 #[.pointer (some ⟨p, 0, none⟩), x.val] W (RMade B W p rv (mk L x)) := by
  cases hm : mayN L x with
  | false =>
    have e : mk L x = (L, 0, 2) := by unfold mk; rw [if_pos hm]
    rw [e]
    exact rmake_bad S hB hx hm
  | true =>
    have hv := fun h => mayN_var hm h
    by_cases ht : x.o = 2 ∧ ¬ wdOf L x.n = 0 ∧ ¬ wdOf L x.n = x.w
    · have e : mk L x = (L, 0, 7) := by unfold mk; rw [if_neg (by simp [hm]), if_pos ht]
      rw [e]
      obtain ⟨o, w, k0, k1, k2, n, l⟩ := x
      simp only at ht hv
      obtain ⟨rfl, h1, h2⟩ := ht
      exact rmake_t S hB hx hm (hv rfl) (by simp; omega) (by simp; omega)
    · by_cases ho : x.o = 2
      · have ht' := ht
        obtain ⟨o, w, k0, k1, k2, n, l⟩ := x
        simp only at ht hv ho
        subst ho
        by_cases hz : wdOf L n = 0
        · exact rmake_z S hB hx hm (hv rfl) (by simp; omega) ht'
        · exact rmake_s S hB hx hm (hv rfl) (by simp; omega) (by simp; by_cases e : wdOf L n = w; omega; exact absurd ⟨rfl, hz, e⟩ ht) ht'
      · exact rmake_p S hB hx hm (by simp; omega) ho ht

end Tm
end Go.Proofs.Ytigjbngedbbdbaa
