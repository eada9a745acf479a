/-
  The program's tables of instructions and of forms as plain data, and what its functions make of a word. Plain facts.
-/
import Derived.Test.YtbgcgomefdblpaaDoorDeMore
import Derived.Laws.BitsAllLaws
namespace Go.Proofs.YtbgcgomefdblpaaDoor
namespace De
set_option maxHeartbeats 3200000
set_option maxRecDepth 100000

/-- A piece: where its lowest bit stands in the word, in the number, how many bits. -/
structure Pc where
  a : Nat
  b : Nat
  n : Nat
  deriving DecidableEq
/-- A form. -/
structure Fm where
  fixed : Nat
  has : Nat
  spare : Nat
  p0 : Pc
  p1 : Pc
  p2 : Pc
  p3 : Pc
  deriving DecidableEq
/-- A row of the program's: from which instruction to which, its form, the first one's word. -/
structure Qr where
  lo : Nat
  hi : Nat
  form : Nat
  word : Nat
  deriving DecidableEq
def pz : Pc := ⟨0, 0, 0⟩
def formsQ : List Fm := [⟨127, 1, 0, ⟨12, 12, 20⟩, pz, pz, pz⟩, ⟨127, 1, 11, ⟨31, 20, 1⟩, ⟨21, 1, 10⟩, ⟨20, 11, 1⟩, ⟨12, 12, 8⟩⟩, ⟨28799, 3, 20, ⟨20, 0, 12⟩, pz, pz, pz⟩, ⟨4261441663, 3, 0, ⟨20, 0, 5⟩, pz, pz, pz⟩,
  ⟨28799, 6, 20, ⟨25, 5, 7⟩, ⟨7, 0, 5⟩, pz, pz⟩, ⟨28799, 6, 19, ⟨31, 12, 1⟩, ⟨25, 5, 6⟩, ⟨8, 1, 4⟩, ⟨7, 11, 1⟩⟩, ⟨4261441663, 7, 0, pz, pz, pz, pz⟩, ⟨4193284223, 3, 0, pz, pz, pz, pz⟩, ⟨4160778367, 7, 0, pz, pz, pz, pz⟩,
  ⟨28799, 11, 0, pz, pz, pz, pz⟩, ⟨28799, 9, 0, ⟨15, 0, 5⟩, pz, pz, pz⟩, ⟨28799, 0, 0, pz, pz, pz, pz⟩, ⟨4294967295, 0, 0, pz, pz, pz, pz⟩]
def rowsQ : List Qr := [⟨1, 1, 0, 55⟩, ⟨2, 2, 0, 23⟩, ⟨3, 3, 1, 111⟩, ⟨4, 4, 2, 103⟩, ⟨5, 7, 2, 3⟩, ⟨8, 9, 2, 16387⟩, ⟨10, 10, 2, 19⟩, ⟨11, 13, 2, 8211⟩, ⟨14, 15, 2, 24595⟩, ⟨16, 16, 3, 4115⟩, ⟨17, 17, 3, 20499⟩, ⟨18, 18, 3, 1073762323⟩, ⟨19, 21, 4, 35⟩,
  ⟨22, 23, 5, 99⟩, ⟨24, 27, 5, 16483⟩, ⟨28, 28, 6, 51⟩, ⟨29, 29, 6, 1073741875⟩, ⟨30, 34, 6, 4147⟩, ⟨35, 35, 6, 1073762355⟩, ⟨36, 37, 6, 24627⟩, ⟨38, 45, 6, 33554483⟩, ⟨46, 46, 7, 268443695⟩, ⟨47, 47, 8, 402661423⟩, ⟨48, 48, 8, 134225967⟩, ⟨49, 49, 8, 8239⟩,
  ⟨50, 50, 8, 536879151⟩, ⟨51, 51, 8, 1610620975⟩, ⟨52, 52, 8, 1073750063⟩, ⟨53, 53, 8, 2147491887⟩, ⟨54, 54, 8, 2684362799⟩, ⟨55, 55, 8, 3221233711⟩, ⟨56, 56, 8, 3758104623⟩, ⟨57, 59, 9, 4211⟩, ⟨60, 62, 10, 20595⟩, ⟨63, 64, 11, 15⟩, ⟨65, 65, 12, 115⟩, ⟨66, 66, 12, 1048691⟩, ⟨67, 67, 12, 807403635⟩, ⟨68, 68, 12, 273678451⟩]
def fmQ (k : Nat) : Fm := formsQ.getD k ⟨0, 0, 0, pz, pz, pz, pz⟩
/-- A piece of a word, in the number; a piece of a number, in the word. -/
def pcP (w : Nat) (p : Pc) : Nat := w / 2 ^ p.a % 2 ^ p.n * 2 ^ p.b
def scP (n : Nat) (p : Pc) : Nat := n / 2 ^ p.b % 2 ^ p.n * 2 ^ p.a
def orP (f : Fm) (w : Nat) : Nat := (((0 ||| pcP w f.p0) ||| pcP w f.p1) ||| pcP w f.p2) ||| pcP w f.p3
def scatP (f : Fm) (n : Nat) : Nat := (((0 ||| scP n f.p0) ||| scP n f.p1) ||| scP n f.p2) ||| scP n f.p3
def numP (f : Fm) (w : Nat) : Int := IntKind.i32.wrap ((orP f w * 2 ^ f.spare % 4294967296 : Nat) : Int) / 2 ^ f.spare
def fieldsP (f : Fm) (w : Nat) : Ins :=
  ⟨0, if f.has % 2 = 1 then w / 128 % 32 else 0, if f.has / 2 % 2 = 1 then w / 32768 % 32 else 0, if f.has / 4 % 2 = 1 then w / 1048576 % 32 else 0, numP f w, if f.has / 8 % 2 = 1 then w / 1048576 else 0⟩
def bitsP (f : Fm) (i : Ins) : Nat := ((((i.rd * 128) ||| (i.a * 32768)) ||| (i.b * 1048576)) ||| (i.csr * 1048576 % 4294967296)) ||| scatP f (u32 i.imm)
def aboveP (q : Qr) (w : Nat) : Nat := ((w &&& (fmQ q.form).fixed) + 4294967296 - q.word) % 4294967296
def hasP (q : Qr) (w : Nat) : Bool := decide (aboveP q w % 4096 = 0 ∧ aboveP q w / 4096 ≤ q.hi - q.lo)
def instrP (q : Qr) (w : Nat) : Ins := { fieldsP (fmQ q.form) w with op := (q.lo + aboveP q w / 4096) % 256 }
def putW (q : Qr) (i : Ins) : Nat := (q.word + 4096 * (i.op - q.lo)) ||| bitsP (fmQ q.form) i
def putQ (q : Qr) (i : Ins) : Option Nat := if instrP q (putW q i) = i then some (putW q i) else none

/-- Which form of the program's a row of the document's has; what its fixed bits are. -/
def formOf (r : Row) : Nat :=
  if r.fm = 85 then 0 else if r.fm = 74 then 1 else if r.fm = 73 then 2 else if r.fm = 72 then 3 else if r.fm = 83 then 4 else if r.fm = 66 then 5 else if r.fm = 82 then 6 else
  if r.fm = 65 then (if r.op = 46 then 7 else 8) else if r.fm = 67 then 9 else if r.fm = 68 then 10 else if r.fm = 70 then 11 else 12
def wOf (r : Row) : Nat := if r.fm = 88 then r.code else if r.fm = 65 then r.code + 4096 * r.f3 + 134217728 * r.f7 else if r.fm = 72 ∨ r.fm = 82 then r.code + 4096 * r.f3 + 33554432 * r.f7 else r.code + 4096 * r.f3
def fitQ (q : Qr) (r : Row) : Bool := decide (q.form = formOf r ∧ q.lo ≤ r.op ∧ r.op ≤ q.hi ∧ wOf r = q.word + 4096 * (r.op - q.lo))
theorem row_fit : ∀ r ∈ rowsP, ∃ q ∈ rowsQ, fitQ q r = true := by decide +kernel
theorem fit_row : ∀ q ∈ rowsQ, ∀ k, k ≤ q.hi - q.lo → ∃ r ∈ rowsP, r.op = q.lo + k ∧ fitQ q r = true := by
  have h : ∀ q ∈ rowsQ, ∀ k ∈ List.range (q.hi - q.lo + 1), ∃ r ∈ rowsP, r.op = q.lo + k ∧ fitQ q r = true := by decide +kernel
  intro q hq k hk
  exact h q hq k (List.mem_range.2 (by omega))
theorem rowQ_ok : ∀ q ∈ rowsQ, 1 ≤ q.lo ∧ q.lo ≤ q.hi ∧ q.hi ≤ 68 ∧ q.form ≤ 12 ∧ q.word + 4096 * (q.hi - q.lo) < 4294967296 := by decide +kernel
theorem rowQ_one : ∀ q ∈ rowsQ, ∀ s ∈ rowsQ, q.lo ≤ s.hi → s.lo ≤ q.hi → q = s := by decide +kernel

/-- The fixed bits. -/
theorem or_mid (x v j m : Nat) (h : x / 2 ^ j % 2 ^ m = 0) (hv : v < 2 ^ m) : x ||| v * 2 ^ j = x + v * 2 ^ j := by
  have hl : x % 2 ^ j < 2 ^ j := Nat.mod_lt _ (Nat.two_pow_pos j)
  have e1 : x = 2 ^ j * (x / 2 ^ j) + x % 2 ^ j := (Nat.div_add_mod x (2 ^ j)).symm
  have e2 : x / 2 ^ j = 2 ^ m * (x / 2 ^ j / 2 ^ m) := by have := Nat.div_add_mod (x / 2 ^ j) (2 ^ m); omega
  obtain ⟨t, ht⟩ : ∃ t, t = x / 2 ^ j / 2 ^ m := ⟨_, rfl⟩
  obtain ⟨l, hl0⟩ : ∃ l, l = x % 2 ^ j := ⟨_, rfl⟩
  rw [← ht] at e2
  rw [← hl0] at e1 hl
  have e3 : x = 2 ^ (j + m) * t + l := by rw [e1, e2, Nat.pow_add, Nat.mul_assoc]
  have h1 : 2 ^ (j + m) * t ||| l = 2 ^ (j + m) * t + l := nat_join j _ _ (by rw [Nat.pow_add, Nat.mul_assoc]; exact Nat.mul_mod_right _ _) hl
  have h2 : v * 2 ^ j ||| l = v * 2 ^ j + l := nat_join j _ _ (Nat.mul_mod_left _ _) hl
  have h3 : v * 2 ^ j + l < 2 ^ (j + m) := by
    have : (v + 1) * 2 ^ j ≤ 2 ^ m * 2 ^ j := Nat.mul_le_mul_right _ hv
    rw [Nat.add_mul, Nat.one_mul, Nat.mul_comm (2 ^ m), ← Nat.pow_add] at this
    omega
  have h4 : 2 ^ (j + m) * t ||| (v * 2 ^ j + l) = 2 ^ (j + m) * t + (v * 2 ^ j + l) := nat_join (j + m) _ _ (Nat.mul_mod_right _ _) h3
  rw [e3, ← h1, Nat.or_assoc, Nat.or_comm l, h2, h4, h1]
  omega
theorem msk7 (w : Nat) : w &&& 127 = w % 128 := nat_mask7 w
theorem mskI (w : Nat) : w &&& 28799 = w % 128 + 4096 * (w / 4096 % 8) := by
  rw [show (28799 : Nat) = 28672 ||| 127 from by decide, Nat.and_or_distrib_left, msk7, show w &&& 28672 = w % 2 ^ 15 / 2 ^ 12 * 2 ^ 12 from nat_midmask 15 12 w (by decide)]
  rw [nat_join 12 _ _ (Nat.mul_mod_left _ _) (by omega)]
  omega
theorem mskR (w : Nat) (hw : w < 4294967296) : w &&& 4261441663 = w % 128 + 4096 * (w / 4096 % 8) + 33554432 * (w / 33554432) := by
  rw [show (4261441663 : Nat) = 4261412864 ||| 28799 from by decide, Nat.and_or_distrib_left, mskI, show w &&& 4261412864 = w % 2 ^ 32 / 2 ^ 25 * 2 ^ 25 from nat_midmask 32 25 w (by decide)]
  rw [nat_join 25 _ _ (Nat.mul_mod_left _ _) (by omega)]
  omega
theorem mskA (w : Nat) (hw : w < 4294967296) : w &&& 4160778367 = w % 128 + 4096 * (w / 4096 % 8) + 134217728 * (w / 134217728) := by
  rw [show (4160778367 : Nat) = 4160749568 ||| 28799 from by decide, Nat.and_or_distrib_left, mskI, show w &&& 4160749568 = w % 2 ^ 32 / 2 ^ 27 * 2 ^ 27 from nat_midmask 32 27 w (by decide)]
  rw [nat_join 27 _ _ (Nat.mul_mod_left _ _) (by omega)]
  omega
theorem mskL (w : Nat) (hw : w < 4294967296) : w &&& 4193284223 = w % 128 + 4096 * (w / 4096 % 8) + 1048576 * (w / 1048576 % 32) + 134217728 * (w / 134217728) := by
  rw [show (4193284223 : Nat) = 4160749568 ||| (32505856 ||| 28799) from by decide, Nat.and_or_distrib_left, Nat.and_or_distrib_left, mskI, show w &&& 4160749568 = w % 2 ^ 32 / 2 ^ 27 * 2 ^ 27 from nat_midmask 32 27 w (by decide),
    show w &&& 32505856 = w % 2 ^ 25 / 2 ^ 20 * 2 ^ 20 from nat_midmask 25 20 w (by decide)]
  rw [nat_join 20 _ _ (Nat.mul_mod_left _ _) (by omega), nat_join 27 _ _ (Nat.mul_mod_left _ _) (by omega)]
  omega
theorem mskX (w : Nat) (hw : w < 4294967296) : w &&& 4294967295 = w := by rw [nat_mask32]; omega
end De
end Go.Proofs.YtbgcgomefdblpaaDoor
