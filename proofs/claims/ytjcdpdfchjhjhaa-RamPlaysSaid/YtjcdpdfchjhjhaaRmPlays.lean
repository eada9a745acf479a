/-
  RamPlays: what the walk stands on; no memory of such a size.
-/
import Derived.Test.YtjcdpdfchjhjhaaRmApi
import Derived.Deep.RegionHeld3
namespace Go.Proofs.Ytjcdpdfchjhjhaa
open Go.RowKit
namespace Rm
set_option maxHeartbeats 3200000
set_option maxRecDepth 100000

/-- An act, handed in. -/
structure Ac where
  a : Nat
  n : Int
  v : Nat
  c : Bool
def ActsAt (W : World) (al : Option Addr) (X : List Ac) : Prop := X = [] ∨ ∃ bl ol, al = some ⟨bl, ol, none⟩ ∧ bl < W.heap.size ∧ ∀ i x, X[i]? = some x → x.a < 4294967296 ∧ x.v < 4294967296 ∧ W.cell? ⟨bl, ol + i * 4, none⟩ = some (.int .u32 ((x.a : Nat) : Int)) ∧ W.cell? ⟨bl, ol + i * 4 + 1, none⟩ = some (.int .i64 x.n) ∧ W.cell? ⟨bl, ol + i * 4 + 2, none⟩ = some (.int .u32 ((x.v : Nat) : Int)) ∧ W.cell? ⟨bl, ol + i * 4 + 3, none⟩ = some (.bool x.c)
def U32At (W : World) (al : Option Addr) (X : List Nat) : Prop := X = [] ∨ ∃ bl ol, al = some ⟨bl, ol, none⟩ ∧ bl < W.heap.size ∧ ∀ i x, X[i]? = some x → x < 4294967296 ∧ W.cell? ⟨bl, ol + i, none⟩ = some (.int .u32 ((x : Nat) : Int))
def I64At (W : World) (al : Option Addr) (X : List Int) : Prop := X = [] ∨ ∃ bl ol, al = some ⟨bl, ol, none⟩ ∧ bl < W.heap.size ∧ ∀ i x, X[i]? = some x → W.cell? ⟨bl, ol + i, none⟩ = some (.int .i64 x)
theorem ActsAt.call {W w : World} {al : Option Addr} {X : List Ac} (h : ActsAt W al X) (hb : Below W.heap.size W w) : ActsAt w al X := by
  rcases h with h | ⟨b, o, e, hl, hc⟩
  · exact .inl h
  · refine .inr ⟨b, o, e, Nat.lt_of_lt_of_le hl hb.size, fun i x hx => ?_⟩
    obtain ⟨h1, h2, h3, h4, h5, h6⟩ := hc i x hx
    exact ⟨h1, h2, (hb.cell (p := ⟨b, _, none⟩) hl).trans h3, (hb.cell (p := ⟨b, _, none⟩) hl).trans h4, (hb.cell (p := ⟨b, _, none⟩) hl).trans h5, (hb.cell (p := ⟨b, _, none⟩) hl).trans h6⟩
theorem U32At.call {W w : World} {al : Option Addr} {X : List Nat} (h : U32At W al X) (hb : Below W.heap.size W w) : U32At w al X := by
  rcases h with h | ⟨b, o, e, hl, hc⟩
  · exact .inl h
  · exact .inr ⟨b, o, e, Nat.lt_of_lt_of_le hl hb.size, fun i x hx => ⟨(hc i x hx).1, (hb.cell (p := ⟨b, _, none⟩) hl).trans (hc i x hx).2⟩⟩
theorem I64At.call {W w : World} {al : Option Addr} {X : List Int} (h : I64At W al X) (hb : Below W.heap.size W w) : I64At w al X := by
  rcases h with h | ⟨b, o, e, hl, hc⟩
  · exact .inl h
  · exact .inr ⟨b, o, e, Nat.lt_of_lt_of_le hl hb.size, fun i x hx => (hb.cell (p := ⟨b, _, none⟩) hl).trans (hc i x hx)⟩
section
variable {At : World → Nat → List Nat → Nat → (Nat → Nat) → Prop}
/-- Both memories, from block B on. -/
structure Two (At : World → Nat → List Nat → Nat → (Nat → Nat) → Prop) (B : Nat) (w : World) (p : Nat) (bs : List Nat) (pm bm z : Nat) (f : Nat → Nat) : Prop where
  h : At w p bs z f
  r : RfAt w pm bm z f
  b : (∀ k ∈ bs, B ≤ k) ∧ B ≤ pm ∧ B ≤ bm
  d : pm ∉ bs ∧ bm ∉ bs
theorem Two.same (A : Api At) {B : Nat} {w w' : World} {p pm bm z : Nat} {bs : List Nat} {f : Nat → Nat} (h : Two At B w p bs pm bm z f) (o : Only [] w w') : Two At B w' p bs pm bm z f :=
  ⟨A.keep h.h o (by simp), h.r.only o (by simp) (by simp), h.b, h.d⟩
/-- One Store done to both. -/
theorem Two.stored (A : Api At) {B : Nat} {w w1 w2 : World} {p pm bm z : Nat} {bs : List Nat} {f g : Nat → Nat} (h : Two At B w p bs pm bm z f) (h1 : At w1 p bs z g) (h2 : RfAt w2 pm bm z g) (o2 : Only [bm] w1 w2) : Two At B w2 p bs pm bm z g :=
  ⟨A.keep h1 o2 (fun k hk c => by simp at c; subst c; exact h.d.2 hk), h2, h.b, h.d⟩
theorem Two.copied (A : Api At) {B : Nat} {w w3 w4 : World} {p q pm bm z : Nat} {bs cs : List Nat} {f : Nat → Nat} (h : Two At B w p bs pm bm z f) (hB : B ≤ w.heap.size) (hq : At w3 q cs z f) (hc : ∀ k ∈ cs, w.heap.size ≤ k) (o3 : Only [] w w3) (o4 : Only bs w3 w4) : Two At B w4 q cs pm bm z f :=
  ⟨A.keep hq o4 (fun k hk c => by have := hc k hk; have := A.own h.h k c; omega), (h.r.only o3 (by simp) (by simp)).only o4 h.d.1 h.d.2, ⟨fun k hk => Nat.le_trans hB (hc k hk), h.b.2⟩, ⟨fun c => by have := hc _ c; have := h.r.lt; omega, fun c => by have := hc _ c; have := h.r.lt; omega⟩⟩
theorem plays_no (A : Api At) {n : Int} (h : ¬ sizeP n) {al a2 a3 : Option Addr} {len cap l2 c2 l3 c3 : Nat} (W : World) : Calls Try.prog 3 #[.int .i64 n, .slice al len cap, .slice a2 l2 c2, .slice a3 l3 c3] W fun e w => e = .returned (.bool true) ∧ Below W.heap.size W w := by
  have HA := Lib.hid A
  have HN := Lib.hid (A.newNo n W h)
  have HR := Lib.hid (fun w => rnew_no h w)
  clear A h
  go_enter Try.func3, Try.ntmps3
  go_wp2_with fail
  refine HN.out.mono ?_
  rintro e w1 ⟨rfl, ho⟩
  have HB1 : Hid (Below W.heap.size W w1) := Lib.hid (ho.below (by simp) (Nat.le_refl _))
  clear ho HN
  go_wp2_with fail
  refine (HR.out _).mono ?_
  rintro e w1 ⟨rfl, rfl⟩
  go_wp2_with fail
  refine (lives_any HA.out _).mono ?_
  rintro e w2 ⟨rfl, hb⟩
  have HB2 : Hid (Below W.heap.size W w2) := Lib.hid (HB1.out.trans (hb.mono HB1.out.size))
  clear hb
  go_wp2_with fail
  go_ret
  exact ⟨rfl, HB2.out⟩
end
end Rm
end Go.Proofs.Ytjcdpdfchjhjhaa
