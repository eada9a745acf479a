/-
  A node as a key of a map, two nodes compared: what the model makes of them, in terms of the seven numbers.
-/
import Derived.Test.YtbemkaninedonaaProg
import Derived.KernelRfl
import Derived.Test.YtbemkaninedonaaTmMath
import Derived.WalkKit
import Derived.Outline
import Derived.DeepKeys4
import Derived.Maps.Own
import Derived.Maps.OwnOps
import Derived.Maps.OwnSet
import Derived.Maps.Views
import Derived.Laws.Cover3
namespace Go.Proofs.Ytbemkaninedonaa
open Go.RowKit Go.Maps Bv
namespace Tm
set_option maxHeartbeats 400000
set_option maxRecDepth 100000

theorem cells_nd : Try.prog.cellsOf 57 = 7 := by kernel_rfl
theorem cells_kids : Try.prog.cellsOf 55 = 3 := by kernel_rfl
theorem cells_op : Try.prog.cellsOf 54 = 1 := by kernel_rfl
theorem cells_u8 : Try.prog.cellsOf 5 = 1 := by kernel_rfl
theorem cells_int : Try.prog.cellsOf 3 = 1 := by kernel_rfl
theorem cells_u64 : Try.prog.cellsOf 27 = 1 := by kernel_rfl

def Nd.lits (x : Nd) : List Lit := [.int .u8 x.o, .int .u8 x.w, .int .i64 x.k0, .int .i64 x.k1, .int .i64 x.k2, .int .u64 x.n, .int .u8 x.l]
theorem Nd.lits_inj {x y : Nd} (h : x.lits = y.lits) : x = y := by
  simp only [Nd.lits, List.cons.injEq, Lit.int.injEq, Int.natCast_inj, true_and, and_true] at h
  exact Nd.same h.1 h.2.1 h.2.2.1 h.2.2.2.1 h.2.2.2.2.1 h.2.2.2.2.2.1 h.2.2.2.2.2.2

theorem wf_u8 {n : Nat} (h : n ≤ 255) : (Lit.int .u8 (n : Int)).wf = true := by
  simp [Lit.wf, IntKind.min, IntKind.max, IntKind.signed, IntKind.bits]; omega
theorem wf_u64 {n : Nat} (h : n < 18446744073709551616) : (Lit.int .u64 (n : Int)).wf = true := by
  simp [Lit.wf, IntKind.min, IntKind.max, IntKind.signed, IntKind.bits]; omega
theorem wf_i64 {n : Int} (h : I64 n) : (Lit.int .i64 n).wf = true := by
  unfold I64 at h
  simp [Lit.wf, IntKind.min, IntKind.max, IntKind.signed, IntKind.bits]; omega

theorem lits_at (d : Nat) (x : Nd) (hx : x.Ok) : Try.prog.keyLits (d + 3) 57 x.val.cells.toList = some x.lits := by
  have a0 := wf_u8 hx.o
  have a1 := wf_u8 hx.w
  have a2 := wf_i64 hx.k0
  have a3 := wf_i64 hx.k1
  have a4 := wf_i64 hx.k2
  have a5 := wf_u64 hx.n
  have a6 := wf_u8 hx.l
  simp [Program.keyLits, Try.underlying57, Try.underlying55, Try.underlying54, Try.underlying5, Try.underlying3, Try.underlying27, cells_nd, cells_kids, cells_op, cells_u8, cells_int, cells_u64,
    Nd.val, Value.cells, Nd.lits, List.range, List.range.loop, a0, a1, a2, a3, a4, a5, a6]

theorem deep_nd : Try.prog.keyTypeAt 3 57 = true := by kernel_rfl
theorem wide_nd : (match Try.prog.underlying 57 with | some (.array _ _) | some (.struct _) => true | _ => false) = true := by rw [Try.underlying57]
theorem row_nd : (57 : TypeId) < Try.prog.types.size := of_decide_eq_true (by kernel_rfl)
theorem law_nd : Keyed Try.prog 57 := Keyed.of_law (deep_law_laid (by kernel_rfl) (m := 3) (by omega) row_nd deep_nd wide_nd)
theorem formed_nd (x : Nd) : x.val.formed Try.prog 57 = true := by simp [Nd.val, Value.formed, Try.underlying57, cells_nd]

def Nd.key (x : Nd) : Lit := .string (keyBytes x.lits)
theorem keyType_nd : Try.prog.keyType 57 = true := by kernel_rfl
theorem size_types : Try.prog.types.size + 1 = (Try.prog.types.size - 2) + 3 := by
  have : 3 ≤ Try.prog.types.size := of_decide_eq_true (by kernel_rfl)
  omega
theorem key_nd (x : Nd) (hx : x.Ok) : keyOf Try.prog 57 x.val = some x.key := by
  unfold keyOf
  rw [Try.underlying57]
  simp only [keyType_nd, formed_nd, Bool.and_self, if_true]
  rw [size_types, lits_at _ x hx]
  rfl
theorem key_inj {x y : Nd} (hx : x.Ok) (hy : y.Ok) (h : x.key = y.key) : x = y :=
  Nd.val_inj (law_nd.inj (key_nd x hx) (by rw [h]; exact key_nd y hy))

theorem equal_nd (x y : Nd) (hx : x.Ok) (hy : y.Ok) (W : World) : (Op.equalIn 10000 57 x.val y.val).run Try.prog W = .ok (decide (x = y)) W := by
  obtain ⟨r, hr, hi⟩ := run_equalIn_deep 9997 3 57 deep_nd W 3 3 x.val y.val x.lits y.lits (formed_nd x) (formed_nd y) (lits_at 0 x hx) (lits_at 0 y hy)
  have : r = decide (x = y) := by
    by_cases e : x = y
    · subst e; simp [hi.2 rfl]
    · have : ¬ r = true := fun h => e (Nd.lits_inj (hi.1 h))
      simp [e, this]
  rw [this] at hr
  exact hr
theorem eql_nd (x y : Nd) (hx : x.Ok) (hy : y.Ok) (W : World) : (binOp .eql 57 x.val y.val).run Try.prog W = .ok (.bool (decide (x = y))) W := by
  have h := equal_nd x y hx hy W
  unfold Nd.val at h ⊢
  rw [run_eql_struct, h]
  rfl
theorem neq_nd (x y : Nd) (hx : x.Ok) (hy : y.Ok) (W : World) : (binOp .neq 57 x.val y.val).run Try.prog W = .ok (.bool (decide (¬ x = y))) W := by
  have h := equal_nd x y hx hy W
  unfold Nd.val at h ⊢
  rw [run_neq_struct, h]
  simp

theorem eql_map (r : Option Nat) (W : World) : (binOp .eql 47 (.map r) (.map none)).run Try.prog W = .ok (.bool r.isNone) W := by
  simp only [binOp]
  simp [Op.equal, Op.maxDepth, run_equalIn_map_nil _ _ _ _ _ _ Try.underlying47]
theorem zero_int (W : World) : (zeroValue 3).run Try.prog W = .ok (.int .i64 0) W := by kernel_rfl

/-- What the map of the store reads as. -/
structure Table {H : Type} (L : List Nd) (D : DataW H) : Prop where
  isMap : IsMap D
  has : ∀ x : Nd, x.Ok → Maps.has D x.key = decide (x ∈ L)
  get : ∀ x : Nd, x.Ok → x ∈ L → ∀ z, D.atKey x.key z = .lit (.int .i64 ((idx L x : Nat) : Int))

theorem table_nil {H : Type} : Table [] (.map [] : DataW H) := ⟨isMap_empty, fun x _ => by simp [has_eq], fun x _ h => by simp at h⟩

theorem idx_lt {L : List Nd} {x : Nd} (h : x ∈ L) : idx L x < L.length := by
  unfold idx
  exact List.findIdx_lt_length_of_exists ⟨x, h, by simp⟩
theorem idx_append_old {L : List Nd} {x y : Nd} (h : x ∈ L) : idx (L ++ [y]) x = idx L x := by
  unfold idx
  rw [List.findIdx_append, if_pos]
  exact List.findIdx_lt_length_of_exists ⟨x, h, by simp⟩
theorem idx_append_new {L : List Nd} {x : Nd} (h : ¬ x ∈ L) : idx (L ++ [x]) x = L.length := by
  unfold idx
  rw [List.findIdx_append, if_neg]
  · simp [List.findIdx_cons]
  · intro hc
    have := (List.findIdx_lt_length).1 hc
    obtain ⟨y, hy, e⟩ := this
    simp at e
    subst e
    exact h hy

theorem Table.add {H : Type} {L : List Nd} {D : DataW H} (h : Table L D) (_hL : ∀ x ∈ L, x.Ok) {x : Nd} (hx : x.Ok) (hn : ¬ x ∈ L) :
    Table (L ++ [x]) (D.put x.key (.lit (.int .i64 ((L.length : Nat) : Int)))) := by
  have hk : WideAt.IsKeyLit x.key := law_nd.key (key_nd x hx)
  refine ⟨h.isMap.put _ _, ?_, ?_⟩
  · intro y hy
    by_cases e : y = x
    · subst e; rw [has_put_same h.isMap hk]; simp
    · rw [has_put_other (fun c => e (key_inj hy hx c)), h.has y hy]; simp [e]
  · intro y hy hm z
    by_cases e : y = x
    · subst e; rw [atKey_put_same h.isMap hk, idx_append_new hn]
    · have hm' : y ∈ L := by simpa [e] using hm
      rw [atKey_put_other (fun c => e (key_inj hy hx c)), h.get y hy hm', idx_append_old hm']

end Tm
end Go.Proofs.Ytbemkaninedonaa
