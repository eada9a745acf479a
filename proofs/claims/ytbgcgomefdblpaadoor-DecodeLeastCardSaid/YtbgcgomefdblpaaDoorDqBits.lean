/-
  The word in which an instruction's fields stand: the program's bits, walked.
-/
import Derived.Test.YtbgcgomefdblpaaDoorDqNumB
import Derived.Test.YtbgcgomefdblpaaDoorDqInsA
namespace Go.Proofs.YtbgcgomefdblpaaDoor
open Go.RowKit
namespace De
set_option maxHeartbeats 6400000
set_option maxRecDepth 100000

/-- A form in memory. -/
structure FmAt (w : World) (b : Nat) (f : Fm) : Prop where
  f0 : w.cell? ⟨b, 0, none⟩ = some (.int .u32 ((f.fixed : Nat) : Int))
  f1 : w.cell? ⟨b, 1, none⟩ = some (.int .u8 ((f.has : Nat) : Int))
  f2 : w.cell? ⟨b, 2, none⟩ = some (.int .u8 ((f.spare : Nat) : Int))
  f3 : w.cell? ⟨b, 3, none⟩ = some (.int .u8 ((f.p0.a : Nat) : Int))
  f4 : w.cell? ⟨b, 4, none⟩ = some (.int .u8 ((f.p0.b : Nat) : Int))
  f5 : w.cell? ⟨b, 5, none⟩ = some (.int .u8 ((f.p0.n : Nat) : Int))
  f6 : w.cell? ⟨b, 6, none⟩ = some (.int .u8 ((f.p1.a : Nat) : Int))
  f7 : w.cell? ⟨b, 7, none⟩ = some (.int .u8 ((f.p1.b : Nat) : Int))
  f8 : w.cell? ⟨b, 8, none⟩ = some (.int .u8 ((f.p1.n : Nat) : Int))
  f9 : w.cell? ⟨b, 9, none⟩ = some (.int .u8 ((f.p2.a : Nat) : Int))
  f10 : w.cell? ⟨b, 10, none⟩ = some (.int .u8 ((f.p2.b : Nat) : Int))
  f11 : w.cell? ⟨b, 11, none⟩ = some (.int .u8 ((f.p2.n : Nat) : Int))
  f12 : w.cell? ⟨b, 12, none⟩ = some (.int .u8 ((f.p3.a : Nat) : Int))
  f13 : w.cell? ⟨b, 13, none⟩ = some (.int .u8 ((f.p3.b : Nat) : Int))
  f14 : w.cell? ⟨b, 14, none⟩ = some (.int .u8 ((f.p3.n : Nat) : Int))
  lt : b < w.heap.size
theorem FmAt.below {w w' : World} {b : Nat} {f : Fm} (h : FmAt w b f) (hb : Below w.heap.size w w') : FmAt w' b f := by
  have k := fun (j : Nat) => hb.cell (p := ⟨b, j, none⟩) h.lt
  exact ⟨(k _).trans h.f0, (k _).trans h.f1, (k _).trans h.f2, (k _).trans h.f3, (k _).trans h.f4, (k _).trans h.f5, (k _).trans h.f6, (k _).trans h.f7, (k _).trans h.f8, (k _).trans h.f9, (k _).trans h.f10, (k _).trans h.f11, (k _).trans h.f12, (k _).trans h.f13, (k _).trans h.f14, Nat.lt_of_lt_of_le h.lt hb.size⟩
theorem FmAt.new (w : World) (f : Fm) (t : TypeId) : FmAt (w.alloc (.cells (fmV f) t)) w.heap.size f := by
  refine ⟨?_, ?_, ?_, ?_, ?_, ?_, ?_, ?_, ?_, ?_, ?_, ?_, ?_, ?_, ?_, by simp⟩ <;> (rw [new_cell]; rfl)
/-- What bits has made. -/
structure BiAt (W w : World) (f : Fm) (i : Ins) : Prop where
  f : FmAt w W.heap.size f
  x : InsAt w (W.heap.size + 1) i
  bw : Below W.heap.size W w
theorem BiAt.on {W w w' : World} {f : Fm} {i : Ins} (h : BiAt W w f i) (hb : Below w.heap.size w w') : BiAt W w' f i := ⟨h.f.below hb, h.x.below hb, De.on h.bw hb⟩
theorem BiAt.new (W : World) (f : Fm) (i : Ins) (t1 t2 : TypeId) : BiAt W ((W.alloc (.cells (fmV f) t1)).alloc (.cells (insV i) t2)) f i := by
  have h := InsAt.new (W.alloc (.cells (fmV f) t1)) i t2
  rw [show (W.alloc (.cells (fmV f) t1)).heap.size = W.heap.size + 1 by simp] at h
  exact ⟨(FmAt.new W f t1).below (alloc_below _ _), h, De.on (alloc_below W _) (alloc_below _ _)⟩
theorem BiAt.keep {W w' : World} {f : Fm} {i : Ins} (h : BiAt W w' f i) : w'.cell? ⟨W.heap.size, 0, none⟩ = some (.int .u32 ((f.fixed : Nat) : Int)) ∧ w'.cell? ⟨W.heap.size, 1, none⟩ = some (.int .u8 ((f.has : Nat) : Int)) ∧ w'.cell? ⟨W.heap.size, 2, none⟩ = some (.int .u8 ((f.spare : Nat) : Int)) ∧ w'.cell? ⟨W.heap.size, 3, none⟩ = some (.int .u8 ((f.p0.a : Nat) : Int)) ∧ w'.cell? ⟨W.heap.size, 4, none⟩ = some (.int .u8 ((f.p0.b : Nat) : Int)) ∧ w'.cell? ⟨W.heap.size, 5, none⟩ = some (.int .u8 ((f.p0.n : Nat) : Int)) ∧ w'.cell? ⟨W.heap.size, 6, none⟩ = some (.int .u8 ((f.p1.a : Nat) : Int)) ∧ w'.cell? ⟨W.heap.size, 7, none⟩ = some (.int .u8 ((f.p1.b : Nat) : Int)) ∧ w'.cell? ⟨W.heap.size, 8, none⟩ = some (.int .u8 ((f.p1.n : Nat) : Int)) ∧ w'.cell? ⟨W.heap.size, 9, none⟩ = some (.int .u8 ((f.p2.a : Nat) : Int)) ∧ w'.cell? ⟨W.heap.size, 10, none⟩ = some (.int .u8 ((f.p2.b : Nat) : Int)) ∧ w'.cell? ⟨W.heap.size, 11, none⟩ = some (.int .u8 ((f.p2.n : Nat) : Int)) ∧ w'.cell? ⟨W.heap.size, 12, none⟩ = some (.int .u8 ((f.p3.a : Nat) : Int)) ∧ w'.cell? ⟨W.heap.size, 13, none⟩ = some (.int .u8 ((f.p3.b : Nat) : Int)) ∧ w'.cell? ⟨W.heap.size, 14, none⟩ = some (.int .u8 ((f.p3.n : Nat) : Int)) ∧ w'.cell? ⟨W.heap.size + 1, 4, none⟩ = some (.int .i32 i.imm) ∧ w'.cell? ⟨W.heap.size + 1, 5, none⟩ = some (.int .u16 ((i.csr : Nat) : Int)) :=
  ⟨h.f.f0, h.f.f1, h.f.f2, h.f.f3, h.f.f4, h.f.f5, h.f.f6, h.f.f7, h.f.f8, h.f.f9, h.f.f10, h.f.f11, h.f.f12, h.f.f13, h.f.f14, h.x.i4, h.x.i5⟩
theorem bits_any {f : Fm} (hf : f.Ok) {i : Ins} (hi : i.Ok) (W : World) :
    Calls Tryd.prog 27 #[.agg (fmV f), .agg (insV i)] W fun e W' => e = .returned (.int .u32 ((bitsP f i : Nat) : Int)) ∧ Below W.heap.size W W' := by
  have h1 := hi.rd
  have h2 := hi.a
  have h3 := hi.b
  have h4 := hi.csr
  have HB := Lib.hid (BiAt.new W f i 53 26)
  have hul : u32 i.imm < 4294967296 := by unfold u32; omega
  have HS := Lib.hid (fun W => scat_any hf hul W)
  have HP : Hid (bitsP f i = ((((i.rd * 128) ||| (i.a * 32768)) ||| (i.b * 1048576)) ||| (i.csr * 1048576 % 4294967296)) ||| scatP f (u32 i.imm)) := Lib.hid rfl
  have hsl := scat_lt hf (u32 i.imm)
  have g4 : IntKind.u32.wrap i.imm = ((u32 i.imm : Nat) : Int) := by rw [IntKind.wrap_u32]; unfold u32; omega
  generalize bitsP f i = r at HP ⊢
  generalize u32 i.imm = v at HS HP hsl g4 hul
  generalize scatP f v = s at HS HP hsl
  have a1 := u32_or_nat (i.rd * 128) (i.a * 32768) (by omega) (by omega)
  have l1 := or_lt (a := i.rd * 128) (b := i.a * 32768) (by omega) (by omega)
  generalize (i.rd * 128) ||| (i.a * 32768) = m1 at a1 l1 HP
  have a2 := u32_or_nat m1 (i.b * 1048576) l1 (by omega)
  have l2 := or_lt l1 (b := i.b * 1048576) (by omega)
  generalize m1 ||| (i.b * 1048576) = m2 at a2 l2 HP
  obtain ⟨cs, hcs⟩ : ∃ cs, cs = i.csr * 1048576 % 4294967296 := ⟨_, rfl⟩
  rw [← hcs] at HP
  have a3 := u32_or_nat m2 cs l2 (by omega)
  have l3 := or_lt l2 (b := cs) (by omega)
  generalize m2 ||| cs = m3 at a3 l3 HP
  have a4 := u32_or_nat m3 s l3 hsl
  rw [← HP.out] at a4
  have g1 : IntKind.u32.wrap ((i.csr : Nat) : Int) = ((i.csr : Nat) : Int) := by rw [IntKind.wrap_u32]; omega
  have g2 : IntKind.u32.wrap (((i.csr : Nat) : Int) * 1048576) = ((cs : Nat) : Int) := by rw [IntKind.wrap_u32]; omega
  have a1 : bits .or .u32 (((i.rd : Nat) : Int) * 128) (((i.a : Nat) : Int) * 32768) = ((m1 : Nat) : Int) := by rw [← a1]; rfl
  have a2 : bits .or .u32 ((m1 : Nat) : Int) (((i.b : Nat) : Int) * 1048576) = ((m2 : Nat) : Int) := by rw [← a2]; rfl
  clear hcs HP hsl hul l1 l2 l3 hf hi h4
  unfold fmV insV at *
  go_enter Tryd.func27, Tryd.ntmps27
  go_upto_region 1 with fail
  generalize World.alloc _ _ = w0 at HB ⊢
  have i1 := HB.out.x.i1
  have i2 := HB.out.x.i2
  have i3 := HB.out.x.i3
  go_upto_region 2 with fail
  have HK := HB.out.keep
  have XD := Lib.hid (HB.out.on (below_drewN (Below.refl _ w0) 1))
  clear i1 i2 i3 h1 h2 h3
  go_region_held3 (fun w' => w'.cell? ⟨W.heap.size, 0, none⟩ = some (.int .u32 ((f.fixed : Nat) : Int)) ∧ w'.cell? ⟨W.heap.size, 1, none⟩ = some (.int .u8 ((f.has : Nat) : Int)) ∧ w'.cell? ⟨W.heap.size, 2, none⟩ = some (.int .u8 ((f.spare : Nat) : Int)) ∧ w'.cell? ⟨W.heap.size, 3, none⟩ = some (.int .u8 ((f.p0.a : Nat) : Int)) ∧ w'.cell? ⟨W.heap.size, 4, none⟩ = some (.int .u8 ((f.p0.b : Nat) : Int)) ∧ w'.cell? ⟨W.heap.size, 5, none⟩ = some (.int .u8 ((f.p0.n : Nat) : Int)) ∧ w'.cell? ⟨W.heap.size, 6, none⟩ = some (.int .u8 ((f.p1.a : Nat) : Int)) ∧ w'.cell? ⟨W.heap.size, 7, none⟩ = some (.int .u8 ((f.p1.b : Nat) : Int)) ∧ w'.cell? ⟨W.heap.size, 8, none⟩ = some (.int .u8 ((f.p1.n : Nat) : Int)) ∧ w'.cell? ⟨W.heap.size, 9, none⟩ = some (.int .u8 ((f.p2.a : Nat) : Int)) ∧ w'.cell? ⟨W.heap.size, 10, none⟩ = some (.int .u8 ((f.p2.b : Nat) : Int)) ∧ w'.cell? ⟨W.heap.size, 11, none⟩ = some (.int .u8 ((f.p2.n : Nat) : Int)) ∧ w'.cell? ⟨W.heap.size, 12, none⟩ = some (.int .u8 ((f.p3.a : Nat) : Int)) ∧ w'.cell? ⟨W.heap.size, 13, none⟩ = some (.int .u8 ((f.p3.b : Nat) : Int)) ∧ w'.cell? ⟨W.heap.size, 14, none⟩ = some (.int .u8 ((f.p3.n : Nat) : Int)) ∧ w'.cell? ⟨W.heap.size + 1, 4, none⟩ = some (.int .i32 i.imm) ∧ w'.cell? ⟨W.heap.size + 1, 5, none⟩ = some (.int .u16 ((i.csr : Nat) : Int)))
    (first | exact XD.out.keep | exact H5.out.keep | (go_keep; done))
    (first | (go_at_call 29; refine (HS.out _).mono ?_; rintro e w5 ⟨rfl, hb⟩; have H5 := Lib.hid (XD.out.on hb)) | fail)
  all_goals go_wp2_with fail
  go_ret
  exact ⟨rfl, H5.out.bw⟩
end De
end Go.Proofs.YtbgcgomefdblpaaDoor
