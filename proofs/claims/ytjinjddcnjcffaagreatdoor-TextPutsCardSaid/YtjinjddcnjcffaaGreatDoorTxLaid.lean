/-
  What the statement's own words on package-level variables give: their cells.
-/
import Derived.Test.YtjinjddcnjcffaaGreatDoorPt10
import Derived.Test.YtjinjddcnjcffaaGreatDoorTie
import Derived.Lib.LaidTab
import Derived.Lib.LaidU8
import Derived.Stop.LaidErr
import Derived.LaidMore
namespace Go.Proofs.YtjinjddcnjcffaaGreatDoor
open Go.RowKit Go.Maps Bv Tm
namespace Tx
set_option maxHeartbeats 1600000
set_option maxRecDepth 100000

def laidL : List (String × DataW Unit) := [("math/bits.deBruijn32tab", Rows.laid_math_bits_deBruijn32tab), ("math/bits.deBruijn64tab", Rows.laid_math_bits_deBruijn64tab), ("internal/strconv.uint64pow10", Rows.laid_internal_strconv_uint64pow10), ("strconv.ErrRange", Rows.laid_strconv_ErrRange), ("strconv.ErrSyntax", Rows.laid_strconv_ErrSyntax), ("augury/text.names", Rows.laid_augury_text_names)]

theorem gER : Tryz.prog.globalNamed "strconv.ErrRange" = some 5 := by kernel_rfl
theorem gES : Tryz.prog.globalNamed "strconv.ErrSyntax" = some 4 := by kernel_rfl
theorem gNM : Tryz.prog.globalNamed "augury/text.names" = some 0 := by kernel_rfl
theorem yER : (Tryz.prog.globals[5]?).map (·.type) = some 121 := by kernel_rfl
theorem yES : (Tryz.prog.globals[4]?).map (·.type) = some 121 := by kernel_rfl
theorem yPW : (Tryz.prog.globals[1]?).map (·.type) = some 130 := by kernel_rfl
theorem yNM : (Tryz.prog.globals[0]?).map (·.type) = some 56 := by kernel_rfl
theorem cU : Tryz.prog.cellsOf 46 = 1 := by kernel_rfl
theorem cP : Tryz.prog.cellsOf 130 = 20 := by kernel_rfl
theorem cS : Tryz.prog.cellsOf 9 = 1 := by kernel_rfl
theorem cE : Tryz.prog.cellsOf 152 = 1 := by kernel_rfl
theorem starE : "*" ++ "errors.errorString" = "*errors.errorString" := by decide
theorem rowE (u : TypeId) (h : Tryz.prog.typeName? 3 u = some "*errors.errorString") : u = 150 :=
  typeName_ptr_named (nm := "errors.errorString") (by rw [starE]; kernel_rfl) (by kernel_rfl) (by decide) u (by rw [starE]; exact h)

theorem names_data : (Rows.laid_augury_text_names : DataW Unit) = .agg (nameL.map fun l => .lit (.string l)) := rfl

theorem env_of_laid {W : World} (h : laidMet Tryz.prog laidL W) : EnvAt (fun i => W.heap.size ≤ i) W := by
  have h2 : laidMet Tryz.prog (("internal/strconv.uint64pow10", Lib.tabData .u64 Lib.pow10Tab) :: laidL.tail.tail.tail) W := h.tail.tail
  have hp : Lib.TabIs Tryz.prog W "internal/strconv.uint64pow10" .u64 Lib.pow10Tab := Lib.tabIs_of_head gpow yPW Tryz.underlying130 Tryz.underlying46 cU cP h2
  obtain ⟨a3, s3, hv3, -, -, -⟩ := laid_sentinel (h.tail.tail.tail) gER yER Tryz.underlying121 rowE Tryz.underlying150 Tryz.underlying152 rfl rfl Tryz.underlying9 cE cS
  obtain ⟨a4, s4, hv4, -, -, -⟩ := laid_sentinel (h.tail.tail.tail.tail) gES yES Tryz.underlying121 rowE Tryz.underlying150 Tryz.underlying152 rfl rfl Tryz.underlying9 cE cS
  have cer : W.cell? ⟨5, 0, none⟩ = some (.iface 150 (.pointer (some a3))) := by have h0 := World.var?_cell gER hv3 0; simpa using h0
  have ces : W.cell? ⟨4, 0, none⟩ = some (.iface 150 (.pointer (some a4))) := by have h0 := World.var?_cell gES hv4 0; simpa using h0
  have cpw := Lib.TabIs.cell hp gpow 0 (by decide)
  have lpw := World.block_lt_of_cell? W _ cpw
  have hnames : ∀ (o : Nat) (s : By), nameL[o]? = some s → W.cell? ⟨0, o, none⟩ = some (.string ⟨s.toArray⟩) := by
    intro o s hs
    have ho : o < 26 := (List.getElem?_eq_some_iff.1 hs).1
    obtain ⟨g, t, cs, fuel, p, hg, ht, hv, hd⟩ := Lib.laidMet.reads h (n := "augury/text.names") (d := Rows.laid_augury_text_names) (by unfold laidL; simp)
    obtain rfl := Option.some.inj (gNM.symm.trans hg)
    obtain rfl := Option.some.inj (yNM.symm.trans ht)
    rw [names_data] at hd
    obtain ⟨f2, d, q, hd1, hd2⟩ := Lib.array_elem Tryz.underlying56 hd o ho
    rw [cS] at hd2
    obtain ⟨sv, hcs, hx, _⟩ := DataW.trod_string Tryz.underlying9 hd2
    have hds : d = .lit (.string s) := by
      rw [List.getElem?_map, hs] at hd1
      simpa using hd1.symm
    rw [hds] at hx
    have hsv : sv.data.toList = s := by
      have h9 := hx.symm
      simp at h9
      exact h9.1
    have hat : cs.toList[o]? = some (.string sv) := by
      have := congrArg (·[0]?) hcs
      simpa [List.getElem?_take, List.getElem?_drop] using this
    have hc := World.var?_cell gNM hv o
    rw [hc]
    have : cs[o]? = some (.string sv) := by simpa using hat
    rw [this, ← hsv]
  have lnm := World.block_lt_of_cell? W _ (hnames 0 [] rfl)
  have les := World.block_lt_of_cell? W _ ces
  have ler := World.block_lt_of_cell? W _ cer
  exact ⟨hnames, hp, ⟨_, _, ces⟩, ⟨_, _, cer⟩, lpw, fun c => absurd (Nat.lt_of_lt_of_le lnm c) (Nat.lt_irrefl _), fun c => absurd (Nat.lt_of_lt_of_le lpw c) (Nat.lt_irrefl _), fun c => absurd (Nat.lt_of_lt_of_le les c) (Nat.lt_irrefl _), fun c => absurd (Nat.lt_of_lt_of_le ler c) (Nat.lt_irrefl _)⟩
end Tx
end Go.Proofs.YtjinjddcnjcffaaGreatDoor
