/-
  The program's tables in memory; how a piece, a form and a row lie there.
-/
import Derived.Test.YtbgcgomefdblpaaDoorDqPutM
import Derived.Test.YtbgcgomefdblpaaDoorDeIns
import Derived.Test.YtbgcgomefdblpaaDoorDeName
namespace Go.Proofs.YtbgcgomefdblpaaDoor
open Go.RowKit
namespace De
set_option maxHeartbeats 1600000
set_option maxRecDepth 100000

def pcV (p : Pc) : Array Value := #[.int .u8 ((p.a : Nat) : Int), .int .u8 ((p.b : Nat) : Int), .int .u8 ((p.n : Nat) : Int)]
def fmV (f : Fm) : Array Value := #[.int .u32 ((f.fixed : Nat) : Int), .int .u8 ((f.has : Nat) : Int), .int .u8 ((f.spare : Nat) : Int), .int .u8 ((f.p0.a : Nat) : Int), .int .u8 ((f.p0.b : Nat) : Int), .int .u8 ((f.p0.n : Nat) : Int),
  .int .u8 ((f.p1.a : Nat) : Int), .int .u8 ((f.p1.b : Nat) : Int), .int .u8 ((f.p1.n : Nat) : Int), .int .u8 ((f.p2.a : Nat) : Int), .int .u8 ((f.p2.b : Nat) : Int), .int .u8 ((f.p2.n : Nat) : Int), .int .u8 ((f.p3.a : Nat) : Int), .int .u8 ((f.p3.b : Nat) : Int), .int .u8 ((f.p3.n : Nat) : Int)]
def qrV (q : Qr) : Array Value := #[.int .u8 ((q.lo : Nat) : Int), .int .u8 ((q.hi : Nat) : Int), .int .u8 ((q.form : Nat) : Int), .int .u32 ((q.word : Nat) : Int)]
def namesQ : List ByteArray := noName :: namesP
/-- The package's tables. -/
structure EnvAt (w : World) : Prop where
  rows : ∃ cs t fr, w.heap[0]? = some (.cells cs t fr) ∧ cs.size = 156 ∧ ∀ i q, rowsQ[i]? = some q → cs.extract (i * 4) (i * 4 + 4) = qrV q
  forms : ∀ i f, formsQ[i]? = some f → ∀ j v, (fmV f)[j]? = some v → w.cell? ⟨2, i * 15 + j, none⟩ = some v
  names : ∀ o s, namesQ[o]? = some s → w.cell? ⟨1, o, none⟩ = some (.string s)
  lrow : 0 < w.heap.size
  lform : 2 < w.heap.size
  lname : 1 < w.heap.size
theorem EnvAt.below {w w' : World} (h : EnvAt w) (hb : Below w.heap.size w w') : EnvAt w' := by
  refine ⟨?_, fun i f hi j v hv => ?_, fun o s hs => ?_, Nat.lt_of_lt_of_le h.lrow hb.size, Nat.lt_of_lt_of_le h.lform hb.size, Nat.lt_of_lt_of_le h.lname hb.size⟩
  · obtain ⟨cs, t, fr, h1, h2, h3⟩ := h.rows
    exact ⟨cs, t, fr, (hb.block _ h.lrow).trans h1, h2, h3⟩
  · exact (hb.cell (p := ⟨_, _, none⟩) h.lform).trans (h.forms i f hi j v hv)
  · exact (hb.cell (p := ⟨_, _, none⟩) h.lname).trans (h.names o s hs)
theorem fmQ_get (k : Nat) (h : k ≤ 12) : formsQ[k]? = some (fmQ k) := by
  have h2 : ∀ k : Fin 13, formsQ[k.1]? = some (fmQ k.1) := by decide
  exact h2 ⟨k, by omega⟩
end De
end Go.Proofs.YtbgcgomefdblpaaDoor
