/-
  A node as a key of a map, two nodes compared: what the model makes of them, in terms of the seven numbers.
-/
import Derived.Test.YthelkbdiedfmfaaGreatProg
import Derived.KernelRfl
import Derived.Test.YthelkbdiedfmfaaGreatTmMath
import Derived.WalkKit
import Derived.Outline
import Derived.DeepKeys4
import Derived.Maps.Own
import Derived.Maps.OwnOps
import Derived.Maps.OwnSet
import Derived.Maps.Views
import Derived.Laws.Cover3
namespace Go.Proofs.YthelkbdiedfmfaaGreat
open Go.RowKit Go.Maps Bv
namespace Tm
set_option maxHeartbeats 400000
set_option maxRecDepth 100000

theorem cells_nd : Tryz.prog.cellsOf 56 = 7 := by kernel_rfl
theorem cells_kids : Tryz.prog.cellsOf 53 = 3 := by kernel_rfl
theorem cells_op : Tryz.prog.cellsOf 52 = 1 := by kernel_rfl
theorem cells_u8 : Tryz.prog.cellsOf 5 = 1 := by kernel_rfl
theorem cells_int : Tryz.prog.cellsOf 3 = 1 := by kernel_rfl
theorem cells_u64 : Tryz.prog.cellsOf 54 = 1 := by kernel_rfl

def Nd.lits (x : Nd) : List Lit := [.int .u8 x.o, .int .u8 x.w, .int .i64 x.k0, .int .i64 x.k1, .int .i64 x.k2, .int .u64 x.n, .int .u8 x.l]
theorem Nd.lits_inj {x y : Nd} (h : x.lits = y.lits) : x = y := by
  simp only [Nd.lits, List.cons.injEq, Lit.int.injEq, Int.natCast_inj, true_and, and_true] at h
  exact Nd.same h.1 h.2.1 h.2.2.1 h.2.2.2.1 h.2.2.2.2.1 h.2.2.2.2.2.1 h.2.2.2.2.2.2

theorem wf_u8 {n : Nat} (h : n ≤ 255) : (Lit.int .u8 (n : Int)).wf = true := by
  simp [Lit.wf, IntKind.min, IntKind.max, IntKind.signed, IntKind.bits]; omega
theorem wf_u64 {n : Nat} (h : n < 18446744073709551616) : (Lit.int .u64 (n : Int)).wf = true := by
  simp [Lit.wf, IntKind.min, IntKind.max, IntKind.signed, IntKind.bits]; omega
theorem wf_i64 {n : Int} (h : I64 n) : (Lit.int .i64 n).wf = true := by
  unfold I64 at h
  simp [Lit.wf, IntKind.min, IntKind.max, IntKind.signed, IntKind.bits]; omega

theorem lits_at (d : Nat) (x : Nd) (hx : x.Ok) : Tryz.prog.keyLits (d + 3) 56 x.val.cells.toList = some x.lits := by
  have a0 := wf_u8 hx.o
  have a1 := wf_u8 hx.w
  have a2 := wf_i64 hx.k0
  have a3 := wf_i64 hx.k1
  have a4 := wf_i64 hx.k2
  have a5 := wf_u64 hx.n
  have a6 := wf_u8 hx.l
  simp [Program.keyLits, Tryz.underlying56, Tryz.underlying53, Tryz.underlying52, Tryz.underlying5, Tryz.underlying3, Tryz.underlying54, cells_nd, cells_kids, cells_op, cells_u8, cells_int, cells_u64,
    Nd.val, Value.cells, Nd.lits, List.range, List.range.loop, a0, a1, a2, a3, a4, a5, a6]

theorem deep_nd : Tryz.prog.keyTypeAt 3 56 = true := by kernel_rfl
theorem wide_nd : (match Tryz.prog.underlying 56 with | some (.array _ _) | some (.struct _) => true | _ => false) = true := by rw [Tryz.underlying56]
theorem row_nd : (56 : TypeId) < Tryz.prog.types.size := of_decide_eq_true (by kernel_rfl)
theorem law_nd : Keyed Tryz.prog 56 := Keyed.of_law (deep_law_laid (by kernel_rfl) (m := 3) (by omega) row_nd deep_nd wide_nd)
theorem formed_nd (x : Nd) : x.val.formed Tryz.prog 56 = true := by simp [Nd.val, Value.formed, Tryz.underlying56, cells_nd]

def Nd.key (x : Nd) : Lit := .string (keyBytes x.lits)
theorem keyType_nd : Tryz.prog.keyType 56 = true := by kernel_rfl
theorem size_types : Tryz.prog.types.size + 1 = (Tryz.prog.types.size - 2) + 3 := by
  have : 3 ≤ Tryz.prog.types.size := of_decide_eq_true (by kernel_rfl)
  omega
theorem key_nd (x : Nd) (hx : x.Ok) : keyOf Tryz.prog 56 x.val = some x.key := by
  unfold keyOf
  rw [Tryz.underlying56]
  simp only [keyType_nd, formed_nd, Bool.and_self, if_true]
  rw [size_types, lits_at _ x hx]
  rfl
theorem key_inj {x y : Nd} (hx : x.Ok) (hy : y.Ok) (h : x.key = y.key) : x = y :=
  Nd.val_inj (law_nd.inj (key_nd x hx) (by rw [h]; exact key_nd y hy))

theorem equal_nd (x y : Nd) (hx : x.Ok) (hy : y.Ok) (W : World) : (Op.equalIn 10000 56 x.val y.val).run Tryz.prog W = .ok (decide (x = y)) W := by
  obtain ⟨r, hr, hi⟩ := run_equalIn_deep 9997 3 56 deep_nd W 3 3 x.val y.val x.lits y.lits (formed_nd x) (formed_nd y) (lits_at 0 x hx) (lits_at 0 y hy)
  have : r = decide (x = y) := by
    by_cases e : x = y
    · subst e; simp [hi.2 rfl]
    · have : ¬ r = true := fun h => e (Nd.lits_inj (hi.1 h))
      simp [e, this]
  rw [this] at hr
  exact hr
theorem eql_nd (x y : Nd) (hx : x.Ok) (hy : y.Ok) (W : World) : (binOp .eql 56 x.val y.val).run Tryz.prog W = .ok (.bool (decide (x = y))) W := by
  have h := equal_nd x y hx hy W
  unfold Nd.val at h ⊢
  rw [run_eql_struct, h]
  rfl
theorem neq_nd (x y : Nd) (hx : x.Ok) (hy : y.Ok) (W : World) : (binOp .neq 56 x.val y.val).run Tryz.prog W = .ok (.bool (decide (¬ x = y))) W := by
  have h := equal_nd x y hx hy W
  unfold Nd.val at h ⊢
  rw [run_neq_struct, h]
  simp

theorem eql_map (r : Option Nat) (W : World) : (binOp .eql 25 (.map r) (.map none)).run Tryz.prog W = .ok (.bool r.isNone) W := by
  simp only [binOp]
  simp [Op.equal, Op.maxDepth, run_equalIn_map_nil _ _ _ _ _ _ Tryz.underlying25]
theorem zero_int (W : World) : (zeroValue 3).run Tryz.prog W = .ok (.int .i64 0) W := by kernel_rfl

/-- What the map of the store reads as. -/
structure Table {H : Type} (L : List Nd) (D : DataW H) : Prop where
  isMap : IsMap D
  has : ∀ x : Nd, x.Ok → Maps.has D x.key = decide (x ∈ L)
  get : ∀ x : Nd, x.Ok → x ∈ L → ∀ z, D.atKey x.key z = .lit (.int .i64 ((idx L x : Nat) : Int))

theorem table_nil {H : Type} : Table [] (.map [] : DataW H) := ⟨isMap_empty, fun x _ => by simp [has_eq], fun x _ h => by simp at h⟩

theorem idx_lt {L : List Nd} {x : Nd} (h : x ∈ L) : idx L x < L.length := by
  unfold idx
  exact List.findIdx_lt_length_of_exists ⟨x, h, by simp⟩
theorem idx_append_old {L : List Nd} {x y : Nd} (h : x ∈ L) : idx (L ++ [y]) x = idx L x := by
  unfold idx
  rw [List.findIdx_append, if_pos]
  exact List.findIdx_lt_length_of_exists ⟨x, h, by simp⟩
theorem idx_append_new {L : List Nd} {x : Nd} (h : ¬ x ∈ L) : idx (L ++ [x]) x = L.length := by
  unfold idx
  rw [List.findIdx_append, if_neg]
  · simp [List.findIdx_cons]
  · intro hc
    have := (List.findIdx_lt_length).1 hc
    obtain ⟨y, hy, e⟩ := this
    simp at e
    subst e
    exact h hy

theorem Table.add {H : Type} {L : List Nd} {D : DataW H} (h : Table L D) (_hL : ∀ x ∈ L, x.Ok) {x : Nd} (hx : x.Ok) (hn : ¬ x ∈ L) :
    Table (L ++ [x]) (D.put x.key (.lit (.int .i64 ((L.length : Nat) : Int)))) := by
  have hk : WideAt.IsKeyLit x.key := law_nd.key (key_nd x hx)
  refine ⟨h.isMap.put _ _, ?_, ?_⟩
  · intro y hy
    by_cases e : y = x
    · subst e; rw [has_put_same h.isMap hk]; simp
    · rw [has_put_other (fun c => e (key_inj hy hx c)), h.has y hy]; simp [e]
  · intro y hy hm z
    by_cases e : y = x
    · subst e; rw [atKey_put_same h.isMap hk, idx_append_new hn]
    · have hm' : y ∈ L := by simpa [e] using hm
      rw [atKey_put_other (fun c => e (key_inj hy hx c)), h.get y hy hm', idx_append_old hm']

end Tm
end Go.Proofs.YthelkbdiedfmfaaGreat
