/-
  The statement that no two nodes are the same, as a fact on the call.
-/
import Derived.Test.YtkfnekhjmnjloaaTmRkids
import Derived.Deep.LoopGhost
import Derived.BigQuiet
namespace Go.Proofs.Ytkfnekhjmnjloaa
open Go.RowKit Go.Maps Bv
namespace Tm
set_option maxHeartbeats 4000000
set_option maxRecDepth 100000

theorem cells_far {w : World} {i : Nat} {x : Nd} {b ol : Nat} (hf : ∀ j u, x.cells.toList[j]? = some u → w.cell? ⟨b, ol + i * 7 + j, none⟩ = some u) :
    w.cell? ⟨b, ol + i * 7, none⟩ = some (.int .u8 ((x.o : Nat) : Int)) ∧ w.cell? ⟨b, ol + i * 7 + 1, none⟩ = some (.int .u8 ((x.w : Nat) : Int)) ∧ w.cell? ⟨b, ol + i * 7 + 2, none⟩ = some (.int .i64 x.k0) ∧ w.cell? ⟨b, ol + i * 7 + 3, none⟩ = some (.int .i64 x.k1) ∧ w.cell? ⟨b, ol + i * 7 + 4, none⟩ = some (.int .i64 x.k2) ∧ w.cell? ⟨b, ol + i * 7 + 5, none⟩ = some (.int .u64 ((x.n : Nat) : Int)) ∧ w.cell? ⟨b, ol + i * 7 + 6, none⟩ = some (.int .u8 ((x.l : Nat) : Int)) :=
  ⟨hf 0 _ rfl, hf 1 _ rfl, hf 2 _ rfl, hf 3 _ rfl, hf 4 _ rfl, hf 5 _ rfl, hf 6 _ rfl⟩

theorem cells_near {w : World} {i : Nat} {x : Nd} {b : Nat} (hf : ∀ j u, x.cells.toList[j]? = some u → w.cell? ⟨b, i * 7 + j, none⟩ = some u) :
    w.cell? ⟨b, i * 7, none⟩ = some (.int .u8 ((x.o : Nat) : Int)) ∧ w.cell? ⟨b, i * 7 + 1, none⟩ = some (.int .u8 ((x.w : Nat) : Int)) ∧ w.cell? ⟨b, i * 7 + 2, none⟩ = some (.int .i64 x.k0) ∧ w.cell? ⟨b, i * 7 + 3, none⟩ = some (.int .i64 x.k1) ∧ w.cell? ⟨b, i * 7 + 4, none⟩ = some (.int .i64 x.k2) ∧ w.cell? ⟨b, i * 7 + 5, none⟩ = some (.int .u64 ((x.n : Nat) : Int)) ∧ w.cell? ⟨b, i * 7 + 6, none⟩ = some (.int .u8 ((x.l : Nat) : Int)) :=
  ⟨hf 0 _ rfl, hf 1 _ rfl, hf 2 _ rfl, hf 3 _ rfl, hf 4 _ rfl, hf 5 _ rfl, hf 6 _ rfl⟩

theorem row_nd_at {w : World} {base : Nat} {v : Value} {N : List Nd} {i : Nat} {x : Nd} (h : w.ownsRow base 36 7 v N.length (rowOf N)) (hx : N[i]? = some x) :
    ∃ g c, v = .slice (some ⟨g, 0, none⟩) N.length c ∧ ∀ (i : Nat) (x : Nd), N[i]? = some x → ∀ j u, x.cells.toList[j]? = some u → w.cell? ⟨g, i * 7 + j, none⟩ = some u := by
  have hlt := (List.getElem?_eq_some_iff.1 hx).1
  have hr := h
  rcases h with ⟨_, ⟨h1, h2⟩ | ⟨g, cap, cur, hv, _⟩⟩
  · omega
  · refine ⟨g, cap, hv, fun i x hx j u hj => ?_⟩
    have hj7 : j < 7 := by have := (List.getElem?_eq_some_iff.1 hj).1; simpa [Nd.cells] using this
    have := hr.cells (g := g) (by rw [hv]; rfl) (i * 7 + j) u (by rw [rowOf_at hx j hj7]; exact hj)
    have e : (⟨g, 0, none⟩ : Addr).add (i * 7 + j) = ⟨g, i * 7 + j, none⟩ := by
      unfold Addr.add
      split <;> simp_all
    rw [e] at this
    exact this

theorem len_q {B p m : Nat} {sv : Value} {L : List Nd} {W : World} (S : StoreAt B W p m sv L) :
    Calls Try.prog 15 #[.pointer (some ⟨p, 0, none⟩)] W fun e W1 => e = .returned (.int .i64 ((L.length : Nat) : Int)) ∧ ∃ n, W1 = W.drewN n := by
  refine (len_any S).mono ?_
  rintro e w1 ⟨rfl, rfl⟩
  exact ⟨rfl, 0, rfl⟩

theorem rk_le (o : Nat) : rk o ≤ ((kc o : Nat) : Int) := by
  by_cases h : 1 ≤ o ∧ o ≤ 25
  · rw [rk_kc h]; omega
  · have : rk o = -1 := by unfold rk; rw [if_neg (by omega), if_neg (by omega), if_neg (by omega), if_neg (by omega)]
    omega

theorem nodup_at {L : List Nd} (nd : L.Nodup) {i j : Nat} {x : Nd} (hi : L[i]? = some x) (hj : L[j]? = some x) : i = j := by
  obtain ⟨li, ei⟩ := List.getElem?_eq_some_iff.1 hi
  obtain ⟨lj, ej⟩ := List.getElem?_eq_some_iff.1 hj
  have nd := List.pairwise_iff_getElem.1 nd
  rcases Nat.lt_trichotomy i j with c | c | c
  · exact absurd (ei.trans ej.symm) (nd i j li lj c)
  · exact c
  · exact absurd (ej.trans ei.symm) (nd j i lj li c)

theorem once_any {W : World} {al : Option Addr} {X : List Nd} {cl n : Nat} (hX : ArgAt W al X) (hok : ∀ x ∈ X, x.Ok) (hn : n = X.length) :
    Calls Try.prog 5 #[.slice al n cl] W fun e W' => e = .returned (.bool true) ∧ Below W.heap.size W W' := by
  obtain ⟨i3, hinfo3, hy0, hy1, hy2⟩ := info_parts info_int
  obtain ⟨i7, z7, hi7, hz7, hzs7, hsz7, hby7⟩ := info_nd_parts
  have H3 := Lib.hid (And.intro hinfo3 (And.intro hy0 (And.intro hy1 hy2)))
  have H7 := Lib.hid (And.intro hi7 (And.intro hz7 (And.intro hzs7 (And.intro hsz7 hby7))))
  clear hinfo3 hy0 hy1 hy2 hi7 hz7 hzs7 hsz7 hby7
  have HX := Lib.hid hX
  have HOK := Lib.hid hok
  have HN := Lib.hid hn
  clear hX hok hn
  go_enter Try.func5, Try.ntmps5
  go_wp2_with (go_at_call 7; refine (new_at W).mono ?_; rintro e v0 ⟨rfl, S0, hb0⟩)
  go_loopg [4, 5, 6] (min n 100) (fun gk u4 u5 u6 wr => ∃ i : Nat, u6 = .int .i64 ((i : Nat) : Int) ∧ i + gk = min n 100 ∧ Loop1 W (W.heap.size + 1) W.heap.size n i u4 u5 wr)
  case atStart => exact ⟨0, rfl, by omega, loop1_start S0 hb0⟩
  case round =>
    obtain ⟨i, rfl, hgk, h1⟩ := hrel
    obtain ⟨⟨L, ids, N, hst, htold, hlen, hNok⟩, hle, hle100⟩ := h1
    clear S0 hb0
    by_cases hin : i < n ∧ i < 100
    case neg =>
      have hgd := hst.good
      have hb := hst.b
      have HST := Lib.hid hst
      have HT := Lib.hid htold
      have HNO := Lib.hid hNok
      obtain ⟨a4, c4, rfl⟩ : ∃ a c, u4 = .slice a ids.length c := by
        rcases hst.r4 with ⟨_, ⟨e1, e2⟩ | ⟨g, cap, cur, e1, _⟩⟩
        · exact ⟨none, 0, by rw [e1, e2]⟩
        · exact ⟨_, _, e1⟩
      have g1 : decide (((i : Nat) : Int) < ((n : Nat) : Int)) = decide (i < n) := by simp
      have hlen100 : ids.length ≤ 100 := by omega
      clear hst htold hNok hgk hlen hle hle100
      have ex : (n ≤ i) ∨ (i < n ∧ (100 : Int) ≤ ((i : Nat) : Int)) := by omega
      clear g1 hin
      rcases ex with ex | ⟨ex1, ex2⟩
      · go_wp2_with fail
        go_loopg [9] ids.length (fun gk2 u9 w2 => ∃ i2 : Nat, u9 = .int .i64 ((i2 : Nat) : Int) ∧ i2 + gk2 = ids.length ∧ Below wr.heap.size wr w2)
        case atStart => exact ⟨0, rfl, by omega, Below.refl _ _⟩
        case round =>
          obtain ⟨i2, rfl, hg2, hb2⟩ := hrel
          have st2 := HST.out.call hb2
          have hbw := st2.b
          by_cases hi2 : i2 < ids.length
          case neg =>
            have e3 : ids.length ≤ i2 := by omega
            have HBW := Lib.hid hbw
            clear st2 hbw hb2 hg2 hgd hb hi2
            go_wp2_with (go_at_call 17; refine (works_any _).mono ?_; rintro e v6 ⟨rfl, hb6⟩)
            go_ret
            exact ⟨rfl, bel_call HBW.out hb6⟩
          case pos =>
            obtain ⟨gB, hgB⟩ : ∃ g, g = gk := ⟨_, rfl⟩
            obtain ⟨ia, hia⟩ : ∃ a, ids[i2]? = some a := ⟨_, List.getElem?_eq_getElem hi2⟩
            obtain ⟨x, hx⟩ : ∃ x, N[i2]? = some x := ⟨_, List.getElem?_eq_getElem (by rw [← HT.out.len]; exact hi2)⟩
            have hLa := HT.out.at1 i2 ia x hia hx
            have hxok := HNO.out x (List.mem_of_getElem? hx)
            obtain ⟨sv, s⟩ := st2
            obtain ⟨g4, c4', e4, hc4⟩ := row_at s.r4 (by omega)
            simp only [Value.slice.injEq] at e4
            obtain ⟨rfl, _, rfl⟩ := e4
            obtain ⟨g5, c5, rfl, hc5⟩ := row_nd_at s.r5 hx
            have lg4 : g4 < wr.heap.size := World.block_lt_of_cell? wr _ (hc4 i2 ia hia)
            have lg5 : g5 < wr.heap.size := World.block_lt_of_cell? wr _ (hc5 i2 x hx 0 _ rfl)
            have HC4 := Lib.hid hc4
            have HC5 := Lib.hid hc5
            have f4 := hc4 i2 ia hia
            have hnode := node_yes s.s hLa
            unfold Nd.val at hnode
            have HNODE := Lib.hid hnode
            have HS := Lib.hid s.s
            have hnl := HT.out.len
            have qi1 : ((i2 : Nat) : Int) < ((ids.length : Nat) : Int) := by omega
            have qi2 : ((i2 : Nat) : Int) < ((N.length : Nat) : Int) := by omega
            have qi3 : i2 < ids.length := hi2
            have qi0 : (0 : Int) ≤ ((i2 : Nat) : Int) := by omega
            have qa : ia < L.length := (List.getElem?_eq_some_iff.1 hLa).1
            have hkid := hgd.kid ia x hLa
            have hq : ∀ W : World, (binOp .neq 36 (.agg #[.int .u8 ((x.o : Nat) : Int), .int .u8 ((x.w : Nat) : Int), .int .i64 x.k0, .int .i64 x.k1, .int .i64 x.k2, .int .u64 ((x.n : Nat) : Int), .int .u8 ((x.l : Nat) : Int)]) (.agg #[.int .u8 ((x.o : Nat) : Int), .int .u8 ((x.w : Nat) : Int), .int .i64 x.k0, .int .i64 x.k1, .int .i64 x.k2, .int .u64 ((x.n : Nat) : Int), .int .u8 ((x.l : Nat) : Int)])).run Try.prog W = .ok (.bool false) W := fun W => by
              have := neq_nd x x hxok hxok W
              simpa [Nd.val] using this
            have hgu := guard_nd
            have HKID := Lib.hid hkid
            have HLA := Lib.hid hLa
            have HIA := Lib.hid hia
            have HXX := Lib.hid hx
            have HXOK := Lib.hid hxok
            have HGB := Lib.hid hgB
            have HG2 := Lib.hid hg2
            have HB2 := Lib.hid hb2
            have HGD := Lib.hid hgd
            have HBW := Lib.hid hbw
            clear hbw hb2 hg2 hgd hb hi2 hgB hia hx hLa hxok hc4 hc5 hnode hnl hkid s
            go_wp2_with (go_at_call 10; refine HNODE.out.mono ?_; rintro e w1 ⟨rfl, hb1⟩; have f4w : w1.cell? ⟨g4, i2, none⟩ = some (.int .i64 ((ia : Nat) : Int)) := (hb1.cell (p := ⟨g4, i2, none⟩) lg4).trans f4; obtain ⟨h0, h1, h2, h3, h4, h5, h6⟩ := cells_near (fun j u hj => (hb1.cell (p := ⟨g5, i2 * 7 + j, none⟩) lg5).trans (HC5.out i2 x HXX.out j u hj)); have lw4 : g4 < w1.heap.size := Nat.lt_of_lt_of_le lg4 hb1.size; have lw5 : g5 < w1.heap.size := Nat.lt_of_lt_of_le lg5 hb1.size; have HB1 := Lib.hid hb1; clear hb1)
            have HSB := Lib.hid ((HS.out.call HB1.out).alloc (.cells #[.int .u8 ((x.o : Nat) : Int), .int .u8 ((x.w : Nat) : Int), .int .i64 x.k0, .int .i64 x.k1, .int .i64 x.k2, .int .u64 ((x.n : Nat) : Int), .int .u8 ((x.l : Nat) : Int)] 36))
            have HBB := Lib.hid (bel_alloc (bel_call HB2.out HB1.out) (.cells #[.int .u8 ((x.o : Nat) : Int), .int .u8 ((x.w : Nat) : Int), .int .i64 x.k0, .int .i64 x.k1, .int .i64 x.k2, .int .u64 ((x.n : Nat) : Int), .int .u8 ((x.l : Nat) : Int)] 36))
            clear f4
            go_quiet (first | (go_at_call 15; refine Calls.quiet_of (len_q (L := L) (B := W.heap.size) (m := W.heap.size) (sv := sv) ?_); exact HSB.out.drewN _) | (go_at_call 15; refine Calls.quiet_of (len_q (L := L) (B := W.heap.size) (m := W.heap.size) (sv := sv) ?_); exact HSB.out))
            go_wp2_with fail
            simp only [show decide (L.length ≤ ia) = false from decide_eq_false (by omega), show decide (((ia : Nat) : Int) < 0) = false from decide_eq_false (by omega), Bool.or_false]
            go_loopg [12] (kc x.o) (fun gk3 u12 w3 => ∃ j q : Nat, u12 = .int .i64 ((j : Nat) : Int) ∧ j + gk3 = kc x.o ∧ w3 = (w1.alloc (.cells #[.int .u8 ((x.o : Nat) : Int), .int .u8 ((x.w : Nat) : Int), .int .i64 x.k0, .int .i64 x.k1, .int .i64 x.k2, .int .u64 ((x.n : Nat) : Int), .int .u8 ((x.l : Nat) : Int)] 36)).drewN q)
            case atStart => exact ⟨0, _, rfl, by omega, rfl⟩
            case round =>
              obtain ⟨j, q, rfl, hj, rfl⟩ := hrel
              by_cases hjr : ((j : Nat) : Int) < rk x.o
              case pos =>
                have hjk : j < kc x.o := by have := rk_le x.o; omega
                have hkk := kc_le x.o
                have hkj := (HKID.out j hjk).2
                obtain ⟨kj, hkj0⟩ : ∃ kj, x.kid j = kj := ⟨_, rfl⟩
                rw [hkj0] at hkj
                have fk : (w1.alloc (.cells #[.int .u8 ((x.o : Nat) : Int), .int .u8 ((x.w : Nat) : Int), .int .i64 x.k0, .int .i64 x.k1, .int .i64 x.k2, .int .u64 ((x.n : Nat) : Int), .int .u8 ((x.l : Nat) : Int)] 36)).cell? ⟨w1.heap.size, 2 + j, none⟩ = some (.int .i64 kj) := by
                  have A := At7.new w1 (.int .u8 ((x.o : Nat) : Int)) (.int .u8 ((x.w : Nat) : Int)) (.int .i64 x.k0) (.int .i64 x.k1) (.int .i64 x.k2) (.int .u64 ((x.n : Nat) : Int)) (.int .u8 ((x.l : Nat) : Int)) 36
                  unfold At7 at A
                  rcases (by omega : j = 0 ∨ j = 1 ∨ j = 2) with e | e | e
                  · subst e; rw [← hkj0]; exact A.2.2.1
                  · subst e; rw [← hkj0]; exact A.2.2.2.1
                  · subst e; rw [← hkj0]; exact A.2.2.2.2.1
                have q3 : ((j : Nat) : Int) < 3 := by omega
                have q0 : (0 : Int) ≤ ((j : Nat) : Int) := by omega
                have r1 : IntKind.i64.wrap (((j : Nat) : Int) + 1) = (((j + 1 : Nat) : Nat) : Int) := by rw [IntKind.wrap_i64]; omega
                have r2 : wrap64 (((j : Nat) : Int) + 1) = (((j + 1 : Nat) : Nat) : Int) := by unfold wrap64; rw [← IntKind.wrap_i64]; exact r1
                have HR2 := Lib.hid r2
                have HJ := Lib.hid (And.intro hj hjk)
                clear hj hjk hkk hkj0 r1 r2
                go_wp2_with (go_at_call 20; refine (rkids_any _ _).mono ?_; rintro e z ⟨rfl, rfl⟩)
                go_quiet (fail)
                go_wp2_with fail
                go_roundg (gk - 1)
                case measure => have := HJ.out; omega
                case rel => exact ⟨j + 1, _, by first | rfl | (rw [HR2.out]) | (congr 1; exact HR2.out), by have := HJ.out; omega, by first | rfl | (rw [World.drewN_drewN])⟩
              case neg =>
                have hjr2 : rk x.o ≤ ((j : Nat) : Int) := by omega
                clear hjr hj
                go_wp2_with (go_at_call 20; refine (rkids_any _ _).mono ?_; rintro e z ⟨rfl, rfl⟩)
                go_loopg [13] i2 (fun gk4 u13 w4 => ∃ j2 q2 : Nat, u13 = .int .i64 ((j2 : Nat) : Int) ∧ j2 + gk4 = i2 ∧ w4 = (w1.alloc (.cells #[.int .u8 ((x.o : Nat) : Int), .int .u8 ((x.w : Nat) : Int), .int .i64 x.k0, .int .i64 x.k1, .int .i64 x.k2, .int .u64 ((x.n : Nat) : Int), .int .u8 ((x.l : Nat) : Int)] 36)).drewN q2)
                case atStart => exact ⟨0, _, rfl, by omega, rfl⟩
                case round =>
                  obtain ⟨j2, q2, rfl, hj2, rfl⟩ := hrel
                  by_cases hlt : j2 < i2
                  case pos =>
                    obtain ⟨ib, hib⟩ : ∃ b, ids[j2]? = some b := ⟨_, List.getElem?_eq_getElem (by omega)⟩
                    obtain ⟨y, hy⟩ : ∃ y, N[j2]? = some y := ⟨_, List.getElem?_eq_getElem (by rw [← HT.out.len]; omega)⟩
                    have hLb := HT.out.at1 j2 ib y hib hy
                    have hyok := HNO.out y (List.mem_of_getElem? hy)
                    have l4 : w1.cell? ⟨g4, j2, none⟩ = some (.int .i64 ((ib : Nat) : Int)) := (HB1.out.cell (p := ⟨g4, j2, none⟩) lg4).trans (HC4.out j2 ib hib)
                    obtain ⟨m0, m1, m2, m3, m4, m5, m6⟩ := cells_near (fun j u hj => (HB1.out.cell (p := ⟨g5, j2 * 7 + j, none⟩) lg5).trans (HC5.out j2 y hy j u hj))
                    have p1 : ((j2 : Nat) : Int) < ((ids.length : Nat) : Int) := by omega
                    have p2 : ((j2 : Nat) : Int) < ((N.length : Nat) : Int) := by omega
                    have p0 : (0 : Int) ≤ ((j2 : Nat) : Int) := by omega
                    have r1 : IntKind.i64.wrap (((j2 : Nat) : Int) + 1) = (((j2 + 1 : Nat) : Nat) : Int) := by rw [IntKind.wrap_i64]; omega
                    have r2 : wrap64 (((j2 : Nat) : Int) + 1) = (((j2 + 1 : Nat) : Nat) : Int) := by unfold wrap64; rw [← IntKind.wrap_i64]; exact r1
                    obtain ⟨bb, hbb⟩ : ∃ bb : Bool, bb = decide (x = y) := ⟨_, rfl⟩
                    have he : ∀ W : World, (binOp .eql 36 (.agg #[.int .u8 ((x.o : Nat) : Int), .int .u8 ((x.w : Nat) : Int), .int .i64 x.k0, .int .i64 x.k1, .int .i64 x.k2, .int .u64 ((x.n : Nat) : Int), .int .u8 ((x.l : Nat) : Int)]) (.agg #[.int .u8 ((y.o : Nat) : Int), .int .u8 ((y.w : Nat) : Int), .int .i64 y.k0, .int .i64 y.k1, .int .i64 y.k2, .int .u64 ((y.n : Nat) : Int), .int .u8 ((y.l : Nat) : Int)])).run Try.prog W = .ok (.bool bb) W := fun W => by
                      have := eql_nd x y HXOK.out hyok W
                      rw [hbb]
                      exact this
                    have hd : (((ia : Nat) : Int) == ((ib : Nat) : Int)) = bb := by
                      rw [hbb]
                      by_cases e : x = y
                      · have : ia = ib := nodup_at HGD.out.nodup HLA.out (e ▸ hLb)
                        simp [e, this]
                      · have : ia ≠ ib := fun c => e (by have := HLA.out; rw [c] at this; simpa [this] using hLb)
                        simp [e]; omega
                    have HR2 := Lib.hid r2
                    have HJ := Lib.hid hj2
                    have HBBB := Lib.hid hbb
                    clear hib hy hLb hyok r1 r2 hj2 hbb
                    cases bb
                    all_goals
                      go_wp2_with fail
                      go_quiet (fail)
                      go_wp2_with fail
                      go_roundg (gk - 1)
                      case measure => have := HJ.out; omega
                      case rel => exact ⟨j2 + 1, _, by first | rfl | (rw [HR2.out]) | (congr 1; exact HR2.out), by have := HJ.out; omega, by first | rfl | (rw [World.drewN_drewN])⟩
                  case neg =>
                    have hge : i2 ≤ j2 := by omega
                    have r1 : IntKind.i64.wrap (((i2 : Nat) : Int) + 1) = (((i2 + 1 : Nat) : Nat) : Int) := by rw [IntKind.wrap_i64]; omega
                    have r2 : wrap64 (((i2 : Nat) : Int) + 1) = (((i2 + 1 : Nat) : Nat) : Int) := by unfold wrap64; rw [← IntKind.wrap_i64]; exact r1
                    have HR2 := Lib.hid r2
                    clear r1 r2 hlt hj2
                    go_wp2_with fail
                    go_roundg (gB - 1)
                    case measure => have := HGB.out; have := HG2.out; omega
                    case rel => exact ⟨i2 + 1, by first | rfl | (rw [HR2.out]) | (congr 1; exact HR2.out), by have := HGB.out; have := HG2.out; omega, bel_drewN HBB.out _⟩
      · go_wp2_with fail
        go_loopg [9] ids.length (fun gk2 u9 w2 => ∃ i2 : Nat, u9 = .int .i64 ((i2 : Nat) : Int) ∧ i2 + gk2 = ids.length ∧ Below wr.heap.size wr w2)
        case atStart => exact ⟨0, rfl, by omega, Below.refl _ _⟩
        case round =>
          obtain ⟨i2, rfl, hg2, hb2⟩ := hrel
          have st2 := HST.out.call hb2
          have hbw := st2.b
          by_cases hi2 : i2 < ids.length
          case neg =>
            have e3 : ids.length ≤ i2 := by omega
            have HBW := Lib.hid hbw
            clear st2 hbw hb2 hg2 hgd hb hi2
            go_wp2_with (go_at_call 17; refine (works_any _).mono ?_; rintro e v6 ⟨rfl, hb6⟩)
            go_ret
            exact ⟨rfl, bel_call HBW.out hb6⟩
          case pos =>
            obtain ⟨gB, hgB⟩ : ∃ g, g = gk := ⟨_, rfl⟩
            obtain ⟨ia, hia⟩ : ∃ a, ids[i2]? = some a := ⟨_, List.getElem?_eq_getElem hi2⟩
            obtain ⟨x, hx⟩ : ∃ x, N[i2]? = some x := ⟨_, List.getElem?_eq_getElem (by rw [← HT.out.len]; exact hi2)⟩
            have hLa := HT.out.at1 i2 ia x hia hx
            have hxok := HNO.out x (List.mem_of_getElem? hx)
            obtain ⟨sv, s⟩ := st2
            obtain ⟨g4, c4', e4, hc4⟩ := row_at s.r4 (by omega)
            simp only [Value.slice.injEq] at e4
            obtain ⟨rfl, _, rfl⟩ := e4
            obtain ⟨g5, c5, rfl, hc5⟩ := row_nd_at s.r5 hx
            have lg4 : g4 < wr.heap.size := World.block_lt_of_cell? wr _ (hc4 i2 ia hia)
            have lg5 : g5 < wr.heap.size := World.block_lt_of_cell? wr _ (hc5 i2 x hx 0 _ rfl)
            have HC4 := Lib.hid hc4
            have HC5 := Lib.hid hc5
            have f4 := hc4 i2 ia hia
            have hnode := node_yes s.s hLa
            unfold Nd.val at hnode
            have HNODE := Lib.hid hnode
            have HS := Lib.hid s.s
            have hnl := HT.out.len
            have qi1 : ((i2 : Nat) : Int) < ((ids.length : Nat) : Int) := by omega
            have qi2 : ((i2 : Nat) : Int) < ((N.length : Nat) : Int) := by omega
            have qi3 : i2 < ids.length := hi2
            have qi0 : (0 : Int) ≤ ((i2 : Nat) : Int) := by omega
            have qa : ia < L.length := (List.getElem?_eq_some_iff.1 hLa).1
            have hkid := hgd.kid ia x hLa
            have hq : ∀ W : World, (binOp .neq 36 (.agg #[.int .u8 ((x.o : Nat) : Int), .int .u8 ((x.w : Nat) : Int), .int .i64 x.k0, .int .i64 x.k1, .int .i64 x.k2, .int .u64 ((x.n : Nat) : Int), .int .u8 ((x.l : Nat) : Int)]) (.agg #[.int .u8 ((x.o : Nat) : Int), .int .u8 ((x.w : Nat) : Int), .int .i64 x.k0, .int .i64 x.k1, .int .i64 x.k2, .int .u64 ((x.n : Nat) : Int), .int .u8 ((x.l : Nat) : Int)])).run Try.prog W = .ok (.bool false) W := fun W => by
              have := neq_nd x x hxok hxok W
              simpa [Nd.val] using this
            have hgu := guard_nd
            have HKID := Lib.hid hkid
            have HLA := Lib.hid hLa
            have HIA := Lib.hid hia
            have HXX := Lib.hid hx
            have HXOK := Lib.hid hxok
            have HGB := Lib.hid hgB
            have HG2 := Lib.hid hg2
            have HB2 := Lib.hid hb2
            have HGD := Lib.hid hgd
            have HBW := Lib.hid hbw
            clear hbw hb2 hg2 hgd hb hi2 hgB hia hx hLa hxok hc4 hc5 hnode hnl hkid s
            go_wp2_with (go_at_call 10; refine HNODE.out.mono ?_; rintro e w1 ⟨rfl, hb1⟩; have f4w : w1.cell? ⟨g4, i2, none⟩ = some (.int .i64 ((ia : Nat) : Int)) := (hb1.cell (p := ⟨g4, i2, none⟩) lg4).trans f4; obtain ⟨h0, h1, h2, h3, h4, h5, h6⟩ := cells_near (fun j u hj => (hb1.cell (p := ⟨g5, i2 * 7 + j, none⟩) lg5).trans (HC5.out i2 x HXX.out j u hj)); have lw4 : g4 < w1.heap.size := Nat.lt_of_lt_of_le lg4 hb1.size; have lw5 : g5 < w1.heap.size := Nat.lt_of_lt_of_le lg5 hb1.size; have HB1 := Lib.hid hb1; clear hb1)
            have HSB := Lib.hid ((HS.out.call HB1.out).alloc (.cells #[.int .u8 ((x.o : Nat) : Int), .int .u8 ((x.w : Nat) : Int), .int .i64 x.k0, .int .i64 x.k1, .int .i64 x.k2, .int .u64 ((x.n : Nat) : Int), .int .u8 ((x.l : Nat) : Int)] 36))
            have HBB := Lib.hid (bel_alloc (bel_call HB2.out HB1.out) (.cells #[.int .u8 ((x.o : Nat) : Int), .int .u8 ((x.w : Nat) : Int), .int .i64 x.k0, .int .i64 x.k1, .int .i64 x.k2, .int .u64 ((x.n : Nat) : Int), .int .u8 ((x.l : Nat) : Int)] 36))
            clear f4
            go_quiet (first | (go_at_call 15; refine Calls.quiet_of (len_q (L := L) (B := W.heap.size) (m := W.heap.size) (sv := sv) ?_); exact HSB.out.drewN _) | (go_at_call 15; refine Calls.quiet_of (len_q (L := L) (B := W.heap.size) (m := W.heap.size) (sv := sv) ?_); exact HSB.out))
            go_wp2_with fail
            simp only [show decide (L.length ≤ ia) = false from decide_eq_false (by omega), show decide (((ia : Nat) : Int) < 0) = false from decide_eq_false (by omega), Bool.or_false]
            go_loopg [12] (kc x.o) (fun gk3 u12 w3 => ∃ j q : Nat, u12 = .int .i64 ((j : Nat) : Int) ∧ j + gk3 = kc x.o ∧ w3 = (w1.alloc (.cells #[.int .u8 ((x.o : Nat) : Int), .int .u8 ((x.w : Nat) : Int), .int .i64 x.k0, .int .i64 x.k1, .int .i64 x.k2, .int .u64 ((x.n : Nat) : Int), .int .u8 ((x.l : Nat) : Int)] 36)).drewN q)
            case atStart => exact ⟨0, _, rfl, by omega, rfl⟩
            case round =>
              obtain ⟨j, q, rfl, hj, rfl⟩ := hrel
              by_cases hjr : ((j : Nat) : Int) < rk x.o
              case pos =>
                have hjk : j < kc x.o := by have := rk_le x.o; omega
                have hkk := kc_le x.o
                have hkj := (HKID.out j hjk).2
                obtain ⟨kj, hkj0⟩ : ∃ kj, x.kid j = kj := ⟨_, rfl⟩
                rw [hkj0] at hkj
                have fk : (w1.alloc (.cells #[.int .u8 ((x.o : Nat) : Int), .int .u8 ((x.w : Nat) : Int), .int .i64 x.k0, .int .i64 x.k1, .int .i64 x.k2, .int .u64 ((x.n : Nat) : Int), .int .u8 ((x.l : Nat) : Int)] 36)).cell? ⟨w1.heap.size, 2 + j, none⟩ = some (.int .i64 kj) := by
                  have A := At7.new w1 (.int .u8 ((x.o : Nat) : Int)) (.int .u8 ((x.w : Nat) : Int)) (.int .i64 x.k0) (.int .i64 x.k1) (.int .i64 x.k2) (.int .u64 ((x.n : Nat) : Int)) (.int .u8 ((x.l : Nat) : Int)) 36
                  unfold At7 at A
                  rcases (by omega : j = 0 ∨ j = 1 ∨ j = 2) with e | e | e
                  · subst e; rw [← hkj0]; exact A.2.2.1
                  · subst e; rw [← hkj0]; exact A.2.2.2.1
                  · subst e; rw [← hkj0]; exact A.2.2.2.2.1
                have q3 : ((j : Nat) : Int) < 3 := by omega
                have q0 : (0 : Int) ≤ ((j : Nat) : Int) := by omega
                have r1 : IntKind.i64.wrap (((j : Nat) : Int) + 1) = (((j + 1 : Nat) : Nat) : Int) := by rw [IntKind.wrap_i64]; omega
                have r2 : wrap64 (((j : Nat) : Int) + 1) = (((j + 1 : Nat) : Nat) : Int) := by unfold wrap64; rw [← IntKind.wrap_i64]; exact r1
                have HR2 := Lib.hid r2
                have HJ := Lib.hid (And.intro hj hjk)
                clear hj hjk hkk hkj0 r1 r2
                go_wp2_with (go_at_call 20; refine (rkids_any _ _).mono ?_; rintro e z ⟨rfl, rfl⟩)
                go_quiet (fail)
                go_wp2_with fail
                go_roundg (gk - 1)
                case measure => have := HJ.out; omega
                case rel => exact ⟨j + 1, _, by first | rfl | (rw [HR2.out]) | (congr 1; exact HR2.out), by have := HJ.out; omega, by first | rfl | (rw [World.drewN_drewN])⟩
              case neg =>
                have hjr2 : rk x.o ≤ ((j : Nat) : Int) := by omega
                clear hjr hj
                go_wp2_with (go_at_call 20; refine (rkids_any _ _).mono ?_; rintro e z ⟨rfl, rfl⟩)
                go_loopg [13] i2 (fun gk4 u13 w4 => ∃ j2 q2 : Nat, u13 = .int .i64 ((j2 : Nat) : Int) ∧ j2 + gk4 = i2 ∧ w4 = (w1.alloc (.cells #[.int .u8 ((x.o : Nat) : Int), .int .u8 ((x.w : Nat) : Int), .int .i64 x.k0, .int .i64 x.k1, .int .i64 x.k2, .int .u64 ((x.n : Nat) : Int), .int .u8 ((x.l : Nat) : Int)] 36)).drewN q2)
                case atStart => exact ⟨0, _, rfl, by omega, rfl⟩
                case round =>
                  obtain ⟨j2, q2, rfl, hj2, rfl⟩ := hrel
                  by_cases hlt : j2 < i2
                  case pos =>
                    obtain ⟨ib, hib⟩ : ∃ b, ids[j2]? = some b := ⟨_, List.getElem?_eq_getElem (by omega)⟩
                    obtain ⟨y, hy⟩ : ∃ y, N[j2]? = some y := ⟨_, List.getElem?_eq_getElem (by rw [← HT.out.len]; omega)⟩
                    have hLb := HT.out.at1 j2 ib y hib hy
                    have hyok := HNO.out y (List.mem_of_getElem? hy)
                    have l4 : w1.cell? ⟨g4, j2, none⟩ = some (.int .i64 ((ib : Nat) : Int)) := (HB1.out.cell (p := ⟨g4, j2, none⟩) lg4).trans (HC4.out j2 ib hib)
                    obtain ⟨m0, m1, m2, m3, m4, m5, m6⟩ := cells_near (fun j u hj => (HB1.out.cell (p := ⟨g5, j2 * 7 + j, none⟩) lg5).trans (HC5.out j2 y hy j u hj))
                    have p1 : ((j2 : Nat) : Int) < ((ids.length : Nat) : Int) := by omega
                    have p2 : ((j2 : Nat) : Int) < ((N.length : Nat) : Int) := by omega
                    have p0 : (0 : Int) ≤ ((j2 : Nat) : Int) := by omega
                    have r1 : IntKind.i64.wrap (((j2 : Nat) : Int) + 1) = (((j2 + 1 : Nat) : Nat) : Int) := by rw [IntKind.wrap_i64]; omega
                    have r2 : wrap64 (((j2 : Nat) : Int) + 1) = (((j2 + 1 : Nat) : Nat) : Int) := by unfold wrap64; rw [← IntKind.wrap_i64]; exact r1
                    obtain ⟨bb, hbb⟩ : ∃ bb : Bool, bb = decide (x = y) := ⟨_, rfl⟩
                    have he : ∀ W : World, (binOp .eql 36 (.agg #[.int .u8 ((x.o : Nat) : Int), .int .u8 ((x.w : Nat) : Int), .int .i64 x.k0, .int .i64 x.k1, .int .i64 x.k2, .int .u64 ((x.n : Nat) : Int), .int .u8 ((x.l : Nat) : Int)]) (.agg #[.int .u8 ((y.o : Nat) : Int), .int .u8 ((y.w : Nat) : Int), .int .i64 y.k0, .int .i64 y.k1, .int .i64 y.k2, .int .u64 ((y.n : Nat) : Int), .int .u8 ((y.l : Nat) : Int)])).run Try.prog W = .ok (.bool bb) W := fun W => by
                      have := eql_nd x y HXOK.out hyok W
                      rw [hbb]
                      exact this
                    have hd : (((ia : Nat) : Int) == ((ib : Nat) : Int)) = bb := by
                      rw [hbb]
                      by_cases e : x = y
                      · have : ia = ib := nodup_at HGD.out.nodup HLA.out (e ▸ hLb)
                        simp [e, this]
                      · have : ia ≠ ib := fun c => e (by have := HLA.out; rw [c] at this; simpa [this] using hLb)
                        simp [e]; omega
                    have HR2 := Lib.hid r2
                    have HJ := Lib.hid hj2
                    have HBBB := Lib.hid hbb
                    clear hib hy hLb hyok r1 r2 hj2 hbb
                    cases bb
                    all_goals
                      go_wp2_with fail
                      go_quiet (fail)
                      go_wp2_with fail
                      go_roundg (gk - 1)
                      case measure => have := HJ.out; omega
                      case rel => exact ⟨j2 + 1, _, by first | rfl | (rw [HR2.out]) | (congr 1; exact HR2.out), by have := HJ.out; omega, by first | rfl | (rw [World.drewN_drewN])⟩
                  case neg =>
                    have hge : i2 ≤ j2 := by omega
                    have r1 : IntKind.i64.wrap (((i2 : Nat) : Int) + 1) = (((i2 + 1 : Nat) : Nat) : Int) := by rw [IntKind.wrap_i64]; omega
                    have r2 : wrap64 (((i2 : Nat) : Int) + 1) = (((i2 + 1 : Nat) : Nat) : Int) := by unfold wrap64; rw [← IntKind.wrap_i64]; exact r1
                    have HR2 := Lib.hid r2
                    clear r1 r2 hlt hj2
                    go_wp2_with fail
                    go_roundg (gB - 1)
                    case measure => have := HGB.out; have := HG2.out; omega
                    case rel => exact ⟨i2 + 1, by first | rfl | (rw [HR2.out]) | (congr 1; exact HR2.out), by have := HGB.out; have := HG2.out; omega, bel_drewN HBB.out _⟩
    case pos =>
      obtain ⟨x, hx⟩ : ∃ x, X[i]? = some x := ⟨_, List.getElem?_eq_getElem (by rw [← HN.out]; exact hin.1)⟩
      obtain ⟨bl, ol, rfl, lbl, hcell⟩ := HX.out.at' hx
      have hxok := HOK.out x (List.mem_of_getElem? hx)
      have hb := hst.b
      obtain ⟨f0, f1, f2, f3, f4, f5, f6⟩ := cells_far (hcell wr hb)
      have q1 : ((i : Nat) : Int) < ((n : Nat) : Int) := by omega
      have q2 : ((i : Nat) : Int) < 100 := by omega
      have q0 : (0 : Int) ≤ ((i : Nat) : Int) := by omega
      have r1 : IntKind.i64.wrap (((i : Nat) : Int) + 1) = (((i + 1 : Nat) : Nat) : Int) := by rw [IntKind.wrap_i64]; omega
      have r2 : wrap64 (((i : Nat) : Int) + 1) = (((i + 1 : Nat) : Nat) : Int) := by unfold wrap64; rw [← IntKind.wrap_i64]; exact r1
      have HR2 := Lib.hid r2
      obtain ⟨a, ha⟩ : ∃ a, (mk L x).2.1 = a := ⟨_, rfl⟩
      obtain ⟨er, he⟩ : ∃ er, (mk L x).2.2 = er := ⟨_, rfl⟩
      have HM := Lib.hid (st_make hst hxok a er ha he)
      unfold Nd.val at HM
      obtain ⟨R, hR⟩ := mk_prefix L x
      have HT := Lib.hid (htold.more hR)
      have HNO := Lib.hid hNok
      have HXO := Lib.hid hxok
      have HLEN := Lib.hid hlen
      have HC := Lib.hid hcell
      have HGK := Lib.hid hgk
      by_cases hz : er = 0
      case neg =>
        have dz : (((er : Nat) : Int) == 0) = false := by simp; omega
        clear hst htold hNok hgk hlen hle hle100 hx hcell hxok ha he hR r1 r2 hb
        go_wp2_with (go_at_call 8; refine HM.out.mono ?_; rintro e w1 ⟨rfl, hs1⟩)
        go_roundg (gk - 1)
        case measure => have := HGK.out; omega
        case rel => exact ⟨i + 1, by first | rfl | (rw [HR2.out]) | (congr 1; exact HR2.out), by have := HGK.out; omega, ⟨_, ids, N, hs1, HT.out, by have := HLEN.out; omega, HNO.out⟩, by omega, by omega⟩
      case pos =>
        subst hz
        have hLa : (mk L x).1[a]? = some x := by rw [← ha]; exact mk_ok he
        have HLA := Lib.hid hLa
        have hl5 : N.length ≤ 100 := by rw [← htold.len]; omega
        have hl4 : ids.length ≤ 100 := by omega
        clear hst htold hNok hgk hlen hle hle100 hx hcell hxok ha he hR r1 r2 hb hLa
        go_wp2_with (first | (go_at_call 8; refine HM.out.mono ?_; rintro e w1 ⟨rfl, hs1⟩; have HS1 := Lib.hid hs1; clear hs1) | (at_builtin; refine wpList_append_own_at _ rfl (.tmp 36) (.tmp 38) 39 rfl W.heap.size 3 i3 (.int .i64 0) 1 8 Try.underlying39 H3.out.1 H3.out.2.1 H3.out.2.2.1 H3.out.2.2.2 rfl (by decide) u4 ids.length (todoRow ids) rfl (HS1.out.r4.alloc _) ⟨w1.heap.size, 0, none⟩ 1 1 [.int .i64 ((a : Nat) : Int)] rfl rfl (cell_one_new _ _ _) (by intro u hu; simp at hu; subst hu; rfl) (by unfold maxLen; omega) (by omega) (by rw [size_alloc]; have := HS1.out.b.size; omega) ?_; intro v4 w2 hrow4 hgr4 _ hloc4; have HS2 := Lib.hid (HS1.out.push4 hrow4 hgr4 hloc4); clear hrow4 hgr4 hloc4; obtain ⟨f0, f1, f2, f3, f4, f5, f6⟩ := cells_far (HC.out w2 HS2.out.b)) | (at_builtin; refine wpList_append_own_at _ rfl (.tmp 40) (.tmp 45) 22 rfl W.heap.size 36 i7 z7 7 48 Try.underlying22 H7.out.1 H7.out.2.1 H7.out.2.2.2.1 H7.out.2.2.2.2 H7.out.2.2.1 (by decide) u5 N.length (rowOf N) rfl (HS2.out.r5.alloc _) ⟨w2.heap.size, 0, none⟩ 1 1 x.cells.toList rfl rfl (cell_new7 _ _ _ _ _ _ _ _ _) (one7 x) (by unfold maxLen; omega) (by omega) (by rw [size_alloc]; have := HS2.out.b.size; omega) ?_; intro v5 w3 hrow5 hgr5 _ hloc5; have HS3 := Lib.hid (HS2.out.push5 hrow5 hgr5 hloc5); clear hrow5 hgr5 hloc5))
        go_roundg (gk - 1)
        case measure => have := HGK.out; omega
        case rel => exact ⟨i + 1, by first | rfl | (rw [HR2.out]) | (congr 1; exact HR2.out), by have := HGK.out; omega, ⟨_, ids ++ [a], N ++ [x], HS3.out, HT.out.push HLA.out, by have := HLEN.out; simp; omega, fun y hy => by
          rcases List.mem_append.1 hy with h | h
          · exact HNO.out y h
          · simp at h; subst h; exact HXO.out⟩, by omega, by omega⟩
end Tm
end Go.Proofs.Ytkfnekhjmnjloaa
