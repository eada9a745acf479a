/-
  What the statement's own words on package-level variables give: the program's tables.
-/
import Derived.Test.YtbgcgomefdblpaaDoorDqEnv
import Derived.Test.YtbgcgomefdblpaaDoorTie
import Derived.Lib.LaidTab
import Derived.Lib.LaidU8
import Derived.LaidMore
import Derived.ProofKit
import Derived.OpenShut
namespace Go.Proofs.YtbgcgomefdblpaaDoor
open Go.RowKit
namespace De
set_option maxHeartbeats 1600000
set_option maxRecDepth 100000

def laidL : List (String × DataW Unit) := [("augury/decode.rows", Rows.laid_augury_decode_rows), ("augury/decode.names", Rows.laid_augury_decode_names), ("augury/decode.forms", Rows.laid_augury_decode_forms)]
theorem gRW : Tryd.prog.globalNamed "augury/decode.rows" = some 0 := by kernel_rfl
theorem gNM : Tryd.prog.globalNamed "augury/decode.names" = some 1 := by kernel_rfl
theorem gFM : Tryd.prog.globalNamed "augury/decode.forms" = some 2 := by kernel_rfl
theorem yRW : (Tryd.prog.globals[0]?).map (·.type) = some 38 := by kernel_rfl
theorem yNM : (Tryd.prog.globals[1]?).map (·.type) = some 47 := by kernel_rfl
theorem yFM : (Tryd.prog.globals[2]?).map (·.type) = some 54 := by kernel_rfl
theorem cRow : Tryd.prog.cellsOf 37 = 4 := by kernel_rfl
theorem cRows : Tryd.prog.cellsOf 38 = 156 := by kernel_rfl
theorem cForm : Tryd.prog.cellsOf 53 = 15 := by kernel_rfl
theorem cPcs : Tryd.prog.cellsOf 51 = 12 := by kernel_rfl
theorem cPc : Tryd.prog.cellsOf 50 = 3 := by kernel_rfl
theorem cStr : Tryd.prog.cellsOf 9 = 1 := by kernel_rfl
theorem cU32 : Tryd.prog.cellsOf 22 = 1 := by kernel_rfl
theorem cU8 : Tryd.prog.cellsOf 5 = 1 := by kernel_rfl
theorem cIop : Tryd.prog.cellsOf 23 = 1 := by kernel_rfl
def Qr.datum (q : Qr) : DataW Unit := .agg [.lit (.int .u8 q.lo), .lit (.int .u8 q.hi), .lit (.int .u8 q.form), .lit (.int .u32 q.word)]
def Pc.datum (p : Pc) : DataW Unit := .agg [.lit (.int .u8 p.a), .lit (.int .u8 p.b), .lit (.int .u8 p.n)]
def Fm.datum (f : Fm) : DataW Unit := .agg [.lit (.int .u32 f.fixed), .lit (.int .u8 f.has), .lit (.int .u8 f.spare), .agg [f.p0.datum, f.p1.datum, f.p2.datum, f.p3.datum]]
theorem rows_data : (Rows.laid_augury_decode_rows : DataW Unit) = .agg (rowsQ.map Qr.datum) := by kernel_rfl
theorem forms_data : (Rows.laid_augury_decode_forms : DataW Unit) = .agg (formsQ.map Fm.datum) := by kernel_rfl
theorem names_data : (Rows.laid_augury_decode_names : DataW Unit) = .agg (namesQ.map fun s => .lit (.string s.data.toList)) := by kernel_rfl
section
variable {W : World} {base : Nat} {sp : Nat → Bool} {hd : Bool} {fuel : Nat} {cs : List Value} {y : DataW Unit × List MemPlace} {enc : TypeId × Value → Unit}
theorem row_open (h : DataW.trod enc Tryd.prog W base sp hd fuel 37 cs = some y) : ∃ a b c d : Int, cs = [.int .u8 a, .int .u8 b, .int .u8 c, .int .u32 d] ∧ y.1 = .agg [.lit (.int .u8 a), .lit (.int .u8 b), .lit (.int .u8 c), .lit (.int .u32 d)] := by
  obtain ⟨xs, n, _, rfl, hl, hlen, hf⟩ := DataW.trod_struct Tryd.underlying37 h
  rw [cRow] at hl
  match cs, hl with
  | [c0, c1, c2, c3], _ =>
  match xs, hlen with
  | [y0, y1, y2, y3], _ =>
  have h0 := hf 0 _ rfl
  have h1 := hf 1 _ rfl
  have h2 := hf 2 _ rfl
  have h3 := hf 3 _ rfl
  simp [cIop, cU8, cU32] at h0 h1 h2 h3
  obtain ⟨a0, e0, z0, w0⟩ := DataW.trod_int Tryd.underlying23 h0
  obtain ⟨a1, e1, z1, w1⟩ := DataW.trod_int Tryd.underlying23 h1
  obtain ⟨a2, e2, z2, w2⟩ := DataW.trod_int Tryd.underlying5 h2
  obtain ⟨a3, e3, z3, w3⟩ := DataW.trod_int Tryd.underlying22 h3
  simp only [List.cons.injEq, and_true] at e0 e1 e2 e3
  subst e0 e1 e2 e3 z0 z1 z2 z3
  exact ⟨a0, a1, a2, a3, rfl, rfl⟩
theorem pc_open (h : DataW.trod enc Tryd.prog W base sp hd fuel 50 cs = some y) : ∃ a b c : Int, cs = [.int .u8 a, .int .u8 b, .int .u8 c] ∧ y.1 = .agg [.lit (.int .u8 a), .lit (.int .u8 b), .lit (.int .u8 c)] := by
  obtain ⟨xs, n, _, rfl, hl, hlen, hf⟩ := DataW.trod_struct Tryd.underlying50 h
  rw [cPc] at hl
  match cs, hl with
  | [c0, c1, c2], _ =>
  match xs, hlen with
  | [y0, y1, y2], _ =>
  have h0 := hf 0 _ rfl
  have h1 := hf 1 _ rfl
  have h2 := hf 2 _ rfl
  simp [cU8] at h0 h1 h2
  obtain ⟨a0, e0, z0, w0⟩ := DataW.trod_int Tryd.underlying5 h0
  obtain ⟨a1, e1, z1, w1⟩ := DataW.trod_int Tryd.underlying5 h1
  obtain ⟨a2, e2, z2, w2⟩ := DataW.trod_int Tryd.underlying5 h2
  simp only [List.cons.injEq, and_true] at e0 e1 e2
  subst e0 e1 e2 z0 z1 z2
  exact ⟨a0, a1, a2, rfl, rfl⟩
theorem pc_at {p : Pc} {q : List MemPlace} (h : DataW.trod enc Tryd.prog W base sp hd fuel 50 cs = some (p.datum, q)) : cs = (pcV p).toList := by
  obtain ⟨a, b, c, rfl, e⟩ := pc_open h
  simp [Pc.datum] at e
  obtain ⟨rfl, rfl, rfl⟩ := e
  rfl
theorem row_at {r : Qr} {q : List MemPlace} (h : DataW.trod enc Tryd.prog W base sp hd fuel 37 cs = some (r.datum, q)) : cs = (qrV r).toList := by
  obtain ⟨a, b, c, d, rfl, e⟩ := row_open h
  simp [Qr.datum] at e
  obtain ⟨rfl, rfl, rfl, rfl⟩ := e
  rfl
theorem form_at {f : Fm} {q : List MemPlace} (h : DataW.trod enc Tryd.prog W base sp hd fuel 53 cs = some (f.datum, q)) : cs = (fmV f).toList := by
  obtain ⟨xs, n, _, hx, hl, hlen, hf⟩ := DataW.trod_struct Tryd.underlying53 h
  rw [cForm] at hl
  match xs, hlen with
  | [y0, y1, y2, y3], _ =>
  have h0 := hf 0 _ rfl
  have h1 := hf 1 _ rfl
  have h2 := hf 2 _ rfl
  have h3 := hf 3 _ rfl
  match cs, hl with
  | [c0, c1, c2, c3, c4, c5, c6, c7, c8, c9, c10, c11, c12, c13, c14], _ =>
  simp [cU8, cU32, cPcs] at h0 h1 h2 h3
  simp [Fm.datum] at hx
  obtain ⟨⟨x0, x1, x2, x3⟩, -⟩ := hx
  obtain ⟨a0, e0, z0, w0⟩ := DataW.trod_int Tryd.underlying22 h0
  obtain ⟨a1, e1, z1, w1⟩ := DataW.trod_int Tryd.underlying5 h1
  obtain ⟨a2, e2, z2, w2⟩ := DataW.trod_int Tryd.underlying5 h2
  simp only [List.cons.injEq, and_true] at e0 e1 e2
  subst e0 e1 e2 z0 z1 z2
  simp at x0 x1 x2
  subst x0 x1 x2
  obtain ⟨d3, q3⟩ := y3
  simp only [] at x3
  subst x3
  obtain ⟨f0, d0, p0, i0, t0⟩ := Lib.array_elem Tryd.underlying51 h3 0 (by decide)
  obtain ⟨f1, d1, p1, i1, t1⟩ := Lib.array_elem Tryd.underlying51 h3 1 (by decide)
  obtain ⟨f2, d2, p2, i2, t2⟩ := Lib.array_elem Tryd.underlying51 h3 2 (by decide)
  obtain ⟨f3, d3, p3, i3, t3⟩ := Lib.array_elem Tryd.underlying51 h3 3 (by decide)
  simp [cPc] at i0 i1 i2 i3 t0 t1 t2 t3
  subst i0 i1 i2 i3
  have k0 := pc_at t0
  have k1 := pc_at t1
  have k2 := pc_at t2
  have k3 := pc_at t3
  simp [pcV] at k0 k1 k2 k3
  obtain ⟨rfl, rfl, rfl⟩ := k0
  obtain ⟨rfl, rfl, rfl⟩ := k1
  obtain ⟨rfl, rfl, rfl⟩ := k2
  obtain ⟨rfl, rfl, rfl⟩ := k3
  rfl
theorem arr_len {t e : TypeId} {n : Nat} (ht : Tryd.prog.underlying t = some (.array n e)) (h : DataW.trod enc Tryd.prog W base sp hd fuel t cs = some y) : cs.length = Tryd.prog.cellsOf t := by
  cases fuel with
  | zero => simp [DataW.trod] at h
  | succ fuel =>
    simp only [DataW.trod, ht] at h
    split at h
    · assumption
    · cases h
end
theorem heap_of_var {W : World} {n : String} {g : Nat} {cs : Array Value} (hg : Tryd.prog.globalNamed n = some g) (h : W.var? Tryd.prog n = some cs) : ∃ t fr, W.heap[g]? = some (.cells cs t fr) := by
  unfold World.var? at h
  rw [hg] at h
  simp only [Option.bind_some] at h
  split at h
  · rename_i c t fr hh
    simp only [Option.some.injEq] at h
    subst h
    exact ⟨t, fr, hh⟩
  · cases h
theorem env_of_laid {W : World} (h : laidMet Tryd.prog laidL W) : EnvAt W := by
  have hR : (∃ cs t fr, W.heap[0]? = some (.cells cs t fr) ∧ cs.size = 156 ∧ ∀ i q, rowsQ[i]? = some q → cs.extract (i * 4) (i * 4 + 4) = qrV q) := by
    obtain ⟨g, t, cs, fuel, p, hg, ht, hv, hd⟩ := Lib.laidMet.reads h (n := "augury/decode.rows") (d := Rows.laid_augury_decode_rows) (by unfold laidL; simp)
    obtain rfl := Option.some.inj (gRW.symm.trans hg)
    obtain rfl := Option.some.inj (yRW.symm.trans ht)
    obtain ⟨t, fr, hh⟩ := heap_of_var gRW hv
    have hs : cs.size = 156 := by
      have := arr_len Tryd.underlying38 hd
      rw [cRows] at this
      simpa using this
    refine ⟨cs, t, fr, hh, hs, fun i q hq => ?_⟩
    have hi : i < 39 := (List.getElem?_eq_some_iff.1 hq).1
    rw [rows_data] at hd
    obtain ⟨f2, d, q2, hd1, hd2⟩ := Lib.array_elem Tryd.underlying38 hd i hi
    rw [List.getElem?_map, hq] at hd1
    simp only [Option.map_some, Option.some.injEq] at hd1
    subst hd1
    rw [cRow] at hd2
    have hr := row_at hd2
    apply Array.toList_inj.1
    rw [← hr]
    simp [Array.toList_extract, List.extract]
  have hF : ∀ i f, formsQ[i]? = some f → ∀ j v, (fmV f)[j]? = some v → W.cell? ⟨2, i * 15 + j, none⟩ = some v := by
    intro i f hf j v hj
    have hi : i < 13 := (List.getElem?_eq_some_iff.1 hf).1
    obtain ⟨g, t, cs, fuel, p, hg, ht, hv, hd⟩ := Lib.laidMet.reads h (n := "augury/decode.forms") (d := Rows.laid_augury_decode_forms) (by unfold laidL; simp)
    obtain rfl := Option.some.inj (gFM.symm.trans hg)
    obtain rfl := Option.some.inj (yFM.symm.trans ht)
    rw [forms_data] at hd
    obtain ⟨f2, d, q2, hd1, hd2⟩ := Lib.array_elem Tryd.underlying54 hd i hi
    rw [List.getElem?_map, hf] at hd1
    simp only [Option.map_some, Option.some.injEq] at hd1
    subst hd1
    rw [cForm] at hd2
    have hr := form_at hd2
    have hl : j < 15 := by
      have := (Array.getElem?_eq_some_iff.1 hj).1
      simpa [fmV] using this
    rw [World.var?_cell gFM hv]
    have h1 : (fmV f).toList[j]? = some v := by simpa using hj
    rw [← hr, List.getElem?_take_of_lt hl, List.getElem?_drop] at h1
    simpa using h1
  have hN : ∀ o s, namesQ[o]? = some s → W.cell? ⟨1, o, none⟩ = some (.string s) := by
    intro o s hs
    have ho : o < 69 := (List.getElem?_eq_some_iff.1 hs).1
    obtain ⟨g, t, cs, fuel, p, hg, ht, hv, hd⟩ := Lib.laidMet.reads h (n := "augury/decode.names") (d := Rows.laid_augury_decode_names) (by unfold laidL; simp)
    obtain rfl := Option.some.inj (gNM.symm.trans hg)
    obtain rfl := Option.some.inj (yNM.symm.trans ht)
    rw [names_data] at hd
    obtain ⟨f2, d, q, hd1, hd2⟩ := Lib.array_elem Tryd.underlying47 hd o ho
    rw [cStr] at hd2
    obtain ⟨sv, hcs, hx, _⟩ := DataW.trod_string Tryd.underlying9 hd2
    rw [List.getElem?_map, hs] at hd1
    simp only [Option.map_some, Option.some.injEq] at hd1
    subst hd1
    have hsv : sv = s := by
      have h9 := hx.symm
      simp at h9
      have h10 := h9.1
      cases sv
      cases s
      simp only [] at h10
      congr 1
    have hat : cs.toList[o]? = some (.string sv) := by
      have := congrArg (·[0]?) hcs
      simpa [List.getElem?_take, List.getElem?_drop] using this
    rw [World.var?_cell gNM hv o]
    have : cs[o]? = some (.string sv) := by simpa using hat
    rw [this, hsv]
  refine ⟨hR, hF, hN, ?_, ?_, ?_⟩
  · obtain ⟨cs, t, fr, hh, _⟩ := hR
    exact (Array.getElem?_eq_some_iff.1 hh).1
  · exact World.block_lt_of_cell? W _ (hF 0 _ rfl 0 _ rfl)
  · exact World.block_lt_of_cell? W _ (hN 0 _ rfl)
end De
end Go.Proofs.YtbgcgomefdblpaaDoor
