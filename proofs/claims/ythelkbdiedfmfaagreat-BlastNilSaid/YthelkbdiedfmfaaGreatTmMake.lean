/-
  Make of layer term, case by case, as a fact on one call.
-/
import Derived.Test.YthelkbdiedfmfaaGreatTmAdd
import Derived.BigQuiet
namespace Go.Proofs.YthelkbdiedfmfaaGreat
open Go.RowKit Go.Maps Bv
namespace Tm
set_option maxHeartbeats 1000000
set_option maxRecDepth 100000

theorem StoreAt.drewN {B : Nat} {w : World} {p m : Nat} {sv : Value} {L : List Nd} (h : StoreAt B w p m sv L) (n : Nat) : StoreAt B (w.drewN n) p m sv L :=
  h.kept (F := fun _ => False) ⟨rfl, rfl, rfl, Nat.le_refl _, fun _ _ _ => rfl⟩ (fun _ _ x => x)
theorem Kept.drewN {F : Nat → Prop} {a b : World} (h : Kept F a b) (n : Nat) : Kept F a (b.drewN n) := ⟨h.os, h.tape, h.output, h.size, h.block⟩

theorem look_yes {B : Nat} {w : World} {p m : Nat} {sv : Value} {L : List Nd} {x : Nd} (S : StoreAt B w p m sv L) (hx : x.Ok) (h : x ∈ L) :
    (Instr.lookup 25 (.map (some m)) x.val true).run Tryz.prog w = .ok (.tuple #[.int .i64 ((idx L x : Nat) : Int), .bool true]) w := by
  obtain ⟨D, hD, hT⟩ := S.tab
  obtain ⟨v, ps, hrun, hv⟩ := hD.look_ok law_nd Tryz.underlying25 (zero_int w) (plainElem_int (H := Unit) Tryz.underlying3 (a := 0) (by decide)) (key_nd x hx)
  rw [hT.get x hx h] at hv
  obtain ⟨c, rfl, hc, _⟩ := plainElem_int_inv Tryz.underlying3 hv
  simp at hc
  rw [hrun, hT.has x hx, decide_eq_true h, hc.1]
theorem look_no {B : Nat} {w : World} {p m : Nat} {sv : Value} {L : List Nd} {x : Nd} (S : StoreAt B w p m sv L) (hx : x.Ok) (h : ¬ x ∈ L) :
    (Instr.lookup 25 (.map (some m)) x.val true).run Tryz.prog w = .ok (.tuple #[.int .i64 0, .bool false]) w := by
  obtain ⟨D, hD, hT⟩ := S.tab
  obtain ⟨v, ps, hrun, hv⟩ := hD.look_ok law_nd Tryz.underlying25 (zero_int w) (plainElem_int (H := Unit) Tryz.underlying3 (a := 0) (by decide)) (key_nd x hx)
  have hn := hT.has x hx
  rw [decide_eq_false h] at hn
  rw [atKey_of_not_has hn] at hv
  obtain ⟨c, rfl, hc, _⟩ := plainElem_int_inv Tryz.underlying3 hv
  simp at hc
  rw [hrun, hn, ← hc.1]

theorem make_bad (o w n l : Nat) (k0 k1 k2 : Int) (B p m : Nat) (sv : Value) (L : List Nd) (W : World) (S : StoreAt B W p m sv L) (hB : B ≤ W.heap.size) (hx : Nd.Ok ⟨o, w, k0, k1, k2, n, l⟩) (hm : mayN L ⟨o, w, k0, k1, k2, n, l⟩ = false) :
    Calls Tryz.prog 43 #[.pointer (some ⟨p, 0, none⟩), .agg #[.int .u8 o, .int .u8 w, .int .i64 k0, .int .i64 k1, .int .i64 k2, .int .u64 n, .int .u8 l]] W fun e W' => e = .returned (.tuple #[.int .i64 0, .int .i64 2]) ∧
      ∃ v, StoreAt B W' p m v L ∧ Kept (foot p m sv) W W' ∧ (v.ownBlock = sv.ownBlock ∨ ∃ g, W.heap.size ≤ g ∧ v.ownBlock = some g) := by
  have A := At7.new W (.int .u8 o) (.int .u8 w) (.int .i64 k0) (.int .i64 k1) (.int .i64 k2) (.int .u64 n) (.int .u8 l) 56
  have S1 := S.alloc (.cells #[.int .u8 o, .int .u8 w, .int .i64 k0, .int .i64 k1, .int .i64 k2, .int .u64 n, .int .u8 l] 56)
  have C1 := S1.c1
  have HM := Lib.hid (may_any' (x := ⟨o, w, k0, k1, k2, n, l⟩) S1 hx)
  rw [hm] at HM
  have HS := Lib.hid S1
  have HB := Lib.hid hB
  clear S1 hB hm
  go_enter Tryz.func43, Tryz.ntmps43
  go_wp2_with (first | (go_at_call 19; refine (none_made p m _ C1).mono ?_; rintro e w1 ⟨rfl, rfl⟩) | (go_at_call 59; refine HM.out.mono ?_; rintro e w1 ⟨rfl, hb⟩; have S2 := HS.out.call hb; replace A := A.keep hb; have la := A.lt; unfold At7 at A))
  exact bodyPost_ret (v := .tuple #[.int .i64 0, .int .i64 2]) (by simp [results, Tryz.results43, go_sem]) rfl ⟨rfl, sv, S2, ((Kept.refl _ W).alloc _).call hb, .inl rfl⟩

theorem make_twice (w n l : Nat) (k0 k1 k2 : Int) (B p m : Nat) (sv : Value) (L : List Nd) (W : World) (S : StoreAt B W p m sv L) (hB : B ≤ W.heap.size) (hx : Nd.Ok ⟨2, w, k0, k1, k2, n, l⟩) (hm : mayN L ⟨2, w, k0, k1, k2, n, l⟩ = true) (hn2 : n < 256) (dz : (((wdOf L n : Nat) : Int) != 0) = true) (ds : (((wdOf L n : Nat) : Int) != ((w : Nat) : Int)) = true) :
    Calls Tryz.prog 43 #[.pointer (some ⟨p, 0, none⟩), .agg #[.int .u8 2, .int .u8 w, .int .i64 k0, .int .i64 k1, .int .i64 k2, .int .u64 n, .int .u8 l]] W fun e W' => e = .returned (.tuple #[.int .i64 0, .int .i64 7]) ∧
      ∃ v, StoreAt B W' p m v L ∧ Kept (foot p m sv) W W' ∧ (v.ownBlock = sv.ownBlock ∨ ∃ g, W.heap.size ≤ g ∧ v.ownBlock = some g) := by
  have A := At7.new W (.int .u8 2) (.int .u8 w) (.int .i64 k0) (.int .i64 k1) (.int .i64 k2) (.int .u64 n) (.int .u8 l) 56
  have S1 := S.alloc (.cells #[.int .u8 2, .int .u8 w, .int .i64 k0, .int .i64 k1, .int .i64 k2, .int .u64 n, .int .u8 l] 56)
  have C1 := S1.c1
  have HM := Lib.hid (may_any' (x := ⟨2, w, k0, k1, k2, n, l⟩) S1 hx)
  rw [hm] at HM
  have HS := Lib.hid S1
  have HB := Lib.hid hB
  clear S1 hB hm
  go_enter Tryz.func43, Tryz.ntmps43
  go_wp2_with (first | (go_at_call 19; refine (none_made p m _ C1).mono ?_; rintro e w1 ⟨rfl, rfl⟩) | (go_at_call 59; refine HM.out.mono ?_; rintro e w1 ⟨rfl, hb⟩; have S2 := HS.out.call hb; replace A := A.keep hb; have la := A.lt; unfold At7 at A))
  have K2 := (((Kept.refl (foot p m sv) W).alloc (.cells #[.int .u8 2, .int .u8 w, .int .i64 k0, .int .i64 k1, .int .i64 k2, .int .u64 n, .int .u8 l] 56))).call hb
  have Cw := S2.cw n hn2
  have hn3 : (n : Int) < 256 := by omega
  have HK2 := Lib.hid K2
  have HS2 := Lib.hid S2
  have c0 := S2.c0
  have c1 := S2.c1
  clear K2 S2
  go_quiet (fail)
  go_wp2_with fail
  exact bodyPost_ret (v := .tuple #[.int .i64 0, .int .i64 7]) (by simp [results, Tryz.results43, go_sem]) rfl ⟨rfl, sv, by first | exact HS2.out.drewN _ | exact (HS2.out.drewN _).drewN _, by first | exact HK2.out.drewN _ | exact (HK2.out.drewN _).drewN _, .inl rfl⟩

theorem make_there_p (o w n l : Nat) (k0 k1 k2 : Int) (B p m : Nat) (sv : Value) (L : List Nd) (W : World) (S : StoreAt B W p m sv L) (hB : B ≤ W.heap.size) (hx : Nd.Ok ⟨o, w, k0, k1, k2, n, l⟩) (hm : mayN L ⟨o, w, k0, k1, k2, n, l⟩ = true) (d2 : ((o : Int) == 2) = false) (hin : Nd.mk o w k0 k1 k2 n l ∈ L) :
    Calls Tryz.prog 43 #[.pointer (some ⟨p, 0, none⟩), .agg #[.int .u8 o, .int .u8 w, .int .i64 k0, .int .i64 k1, .int .i64 k2, .int .u64 n, .int .u8 l]] W fun e W' => e = .returned (.tuple #[.int .i64 ((idx L ⟨o, w, k0, k1, k2, n, l⟩ : Nat) : Int), .int .i64 0]) ∧
      ∃ v, StoreAt B W' p m v L ∧ Kept (foot p m sv) W W' ∧ (v.ownBlock = sv.ownBlock ∨ ∃ g, W.heap.size ≤ g ∧ v.ownBlock = some g) := by
  have A := At7.new W (.int .u8 o) (.int .u8 w) (.int .i64 k0) (.int .i64 k1) (.int .i64 k2) (.int .u64 n) (.int .u8 l) 56
  have S1 := S.alloc (.cells #[.int .u8 o, .int .u8 w, .int .i64 k0, .int .i64 k1, .int .i64 k2, .int .u64 n, .int .u8 l] 56)
  have C1 := S1.c1
  have HM := Lib.hid (may_any' (x := ⟨o, w, k0, k1, k2, n, l⟩) S1 hx)
  rw [hm] at HM
  have HS := Lib.hid S1
  have HB := Lib.hid hB
  clear S1 hB hm
  go_enter Tryz.func43, Tryz.ntmps43
  go_wp2_with (first | (go_at_call 19; refine (none_made p m _ C1).mono ?_; rintro e w1 ⟨rfl, rfl⟩) | (go_at_call 59; refine HM.out.mono ?_; rintro e w1 ⟨rfl, hb⟩; have S2 := HS.out.call hb; replace A := A.keep hb; have la := A.lt; unfold At7 at A))
  have K2 := (((Kept.refl (foot p m sv) W).alloc (.cells #[.int .u8 o, .int .u8 w, .int .i64 k0, .int .i64 k1, .int .i64 k2, .int .u64 n, .int .u8 l] 56))).call hb
  have HK2 := Lib.hid K2
  have HS2 := Lib.hid S2
  have c0 := S2.c0
  have c1 := S2.c1
  clear K2 S2
  go_quiet (fail)
  go_wp2_with fail
  have hlk : ∀ q, (Instr.lookup 25 (.map (some m)) (.agg #[.int .u8 o, .int .u8 w, .int .i64 k0, .int .i64 k1, .int .i64 k2, .int .u64 n, .int .u8 l]) true).run Tryz.prog (w1.drewN q) = .ok (.tuple #[.int .i64 ((idx L ⟨o, w, k0, k1, k2, n, l⟩ : Nat) : Int), .bool true]) (w1.drewN q) := fun q => look_yes (x := ⟨o, w, k0, k1, k2, n, l⟩) (HS2.out.drewN q) hx hin
  go_quiet (fail)
  go_wp2_with fail
  exact bodyPost_ret (v := .tuple #[.int .i64 ((idx L ⟨o, w, k0, k1, k2, n, l⟩ : Nat) : Int), .int .i64 0]) (by simp [results, Tryz.results43, go_sem]) rfl ⟨rfl, sv, by first | exact HS2.out.drewN _ | exact (HS2.out.drewN _).drewN _, by first | exact HK2.out.drewN _ | exact (HK2.out.drewN _).drewN _, .inl rfl⟩

theorem make_full_p (o w n l : Nat) (k0 k1 k2 : Int) (B p m : Nat) (sv : Value) (L : List Nd) (W : World) (S : StoreAt B W p m sv L) (hB : B ≤ W.heap.size) (hx : Nd.Ok ⟨o, w, k0, k1, k2, n, l⟩) (hm : mayN L ⟨o, w, k0, k1, k2, n, l⟩ = true) (d2 : ((o : Int) == 2) = false) (hin : ¬ Nd.mk o w k0 k1 k2 n l ∈ L) (hlen : 200000 ≤ L.length) :
    Calls Tryz.prog 43 #[.pointer (some ⟨p, 0, none⟩), .agg #[.int .u8 o, .int .u8 w, .int .i64 k0, .int .i64 k1, .int .i64 k2, .int .u64 n, .int .u8 l]] W fun e W' => e = .returned (.tuple #[.int .i64 0, .int .i64 3]) ∧
      ∃ v, StoreAt B W' p m v L ∧ Kept (foot p m sv) W W' ∧ (v.ownBlock = sv.ownBlock ∨ ∃ g, W.heap.size ≤ g ∧ v.ownBlock = some g) := by
  have A := At7.new W (.int .u8 o) (.int .u8 w) (.int .i64 k0) (.int .i64 k1) (.int .i64 k2) (.int .u64 n) (.int .u8 l) 56
  have S1 := S.alloc (.cells #[.int .u8 o, .int .u8 w, .int .i64 k0, .int .i64 k1, .int .i64 k2, .int .u64 n, .int .u8 l] 56)
  have C1 := S1.c1
  have HM := Lib.hid (may_any' (x := ⟨o, w, k0, k1, k2, n, l⟩) S1 hx)
  rw [hm] at HM
  have HS := Lib.hid S1
  have HB := Lib.hid hB
  clear S1 hB hm
  go_enter Tryz.func43, Tryz.ntmps43
  go_wp2_with (first | (go_at_call 19; refine (none_made p m _ C1).mono ?_; rintro e w1 ⟨rfl, rfl⟩) | (go_at_call 59; refine HM.out.mono ?_; rintro e w1 ⟨rfl, hb⟩; have S2 := HS.out.call hb; replace A := A.keep hb; have la := A.lt; unfold At7 at A))
  have K2 := (((Kept.refl (foot p m sv) W).alloc (.cells #[.int .u8 o, .int .u8 w, .int .i64 k0, .int .i64 k1, .int .i64 k2, .int .u64 n, .int .u8 l] 56))).call hb
  have HK2 := Lib.hid K2
  have HS2 := Lib.hid S2
  have c0 := S2.c0
  have c1 := S2.c1
  clear K2 S2
  go_quiet (fail)
  go_wp2_with fail
  have hlk : ∀ q, (Instr.lookup 25 (.map (some m)) (.agg #[.int .u8 o, .int .u8 w, .int .i64 k0, .int .i64 k1, .int .i64 k2, .int .u64 n, .int .u8 l]) true).run Tryz.prog (w1.drewN q) = .ok (.tuple #[.int .i64 0, .bool false]) (w1.drewN q) := fun q => look_no (x := ⟨o, w, k0, k1, k2, n, l⟩) (HS2.out.drewN q) hx hin
  go_quiet (fail)
  have hsh := HS2.out.shape
  obtain ⟨a, c, hsv⟩ := hsh
  rw [hsv] at c0
  have dl : decide ((200000 : Int) ≤ (L.length : Int)) = true := decide_eq_true (by omega)
  go_wp2_with fail
  exact bodyPost_ret (v := .tuple #[.int .i64 0, .int .i64 3]) (by simp [results, Tryz.results43, go_sem]) rfl ⟨rfl, sv, by first | exact HS2.out.drewN _ | exact (HS2.out.drewN _).drewN _, by first | exact HK2.out.drewN _ | exact (HK2.out.drewN _).drewN _, .inl rfl⟩

theorem make_more_p (o w n l : Nat) (k0 k1 k2 : Int) (B p m : Nat) (sv : Value) (L : List Nd) (W : World) (S : StoreAt B W p m sv L) (hB : B ≤ W.heap.size) (hx : Nd.Ok ⟨o, w, k0, k1, k2, n, l⟩) (hm : mayN L ⟨o, w, k0, k1, k2, n, l⟩ = true) (d2 : ((o : Int) == 2) = false) (hin : ¬ Nd.mk o w k0 k1 k2 n l ∈ L) (hlen : L.length < 200000) (hw : Hid (¬ ((Nd.mk o w k0 k1 k2 n l).o = 2 ∧ ¬ wdOf L (Nd.mk o w k0 k1 k2 n l).n = 0 ∧ ¬ wdOf L (Nd.mk o w k0 k1 k2 n l).n = (Nd.mk o w k0 k1 k2 n l).w))) :
    Calls Tryz.prog 43 #[.pointer (some ⟨p, 0, none⟩), .agg #[.int .u8 o, .int .u8 w, .int .i64 k0, .int .i64 k1, .int .i64 k2, .int .u64 n, .int .u8 l]] W fun e W' => e = .returned (.tuple #[.int .i64 ((L.length : Nat) : Int), .int .i64 0]) ∧
      ∃ v, StoreAt B W' p m v (L ++ [⟨o, w, k0, k1, k2, n, l⟩]) ∧ Kept (foot p m sv) W W' ∧ (v.ownBlock = sv.ownBlock ∨ ∃ g, W.heap.size ≤ g ∧ v.ownBlock = some g) := by
  have A := At7.new W (.int .u8 o) (.int .u8 w) (.int .i64 k0) (.int .i64 k1) (.int .i64 k2) (.int .u64 n) (.int .u8 l) 56
  have S1 := S.alloc (.cells #[.int .u8 o, .int .u8 w, .int .i64 k0, .int .i64 k1, .int .i64 k2, .int .u64 n, .int .u8 l] 56)
  have C1 := S1.c1
  have HM := Lib.hid (may_any' (x := ⟨o, w, k0, k1, k2, n, l⟩) S1 hx)
  have HMAY := Lib.hid hm
  rw [hm] at HM
  have HS := Lib.hid S1
  have HB := Lib.hid hB
  clear S1 hB hm
  go_enter Tryz.func43, Tryz.ntmps43
  go_wp2_with (first | (go_at_call 19; refine (none_made p m _ C1).mono ?_; rintro e w1 ⟨rfl, rfl⟩) | (go_at_call 59; refine HM.out.mono ?_; rintro e w1 ⟨rfl, hb⟩; have S2 := HS.out.call hb; replace A := A.keep hb; have la := A.lt; unfold At7 at A))
  have K2 := (((Kept.refl (foot p m sv) W).alloc (.cells #[.int .u8 o, .int .u8 w, .int .i64 k0, .int .i64 k1, .int .i64 k2, .int .u64 n, .int .u8 l] 56))).call hb
  have HK2 := Lib.hid K2
  have HS2 := Lib.hid S2
  have c0 := S2.c0
  have c1 := S2.c1
  clear K2 S2
  go_quiet (fail)
  go_wp2_with fail
  have hlk : ∀ q, (Instr.lookup 25 (.map (some m)) (.agg #[.int .u8 o, .int .u8 w, .int .i64 k0, .int .i64 k1, .int .i64 k2, .int .u64 n, .int .u8 l]) true).run Tryz.prog (w1.drewN q) = .ok (.tuple #[.int .i64 0, .bool false]) (w1.drewN q) := fun q => look_no (x := ⟨o, w, k0, k1, k2, n, l⟩) (HS2.out.drewN q) hx hin
  go_quiet (fail)
  have hsh := HS2.out.shape
  obtain ⟨a, c, hsv⟩ := hsh
  rw [hsv] at c0
  have dl : decide ((200000 : Int) ≤ (L.length : Int)) = false := decide_eq_false (by omega)
  have HD := Lib.hid (fun q => add_any (x := ⟨o, w, k0, k1, k2, n, l⟩) (HS2.out.drewN q) (Nat.le_trans HB.out HK2.out.size) hx HMAY.out hin hlen (by have := hw.out; simpa using this))
  go_wp2_with (go_at_call 60; refine (HD.out _).mono ?_; rintro e w2 ⟨rfl, v, S3, K3, hloc⟩)
  exact bodyPost_ret (v := .tuple #[.int .i64 ((L.length : Nat) : Int), .int .i64 0]) (by simp [results, Tryz.results43, go_sem]) rfl ⟨rfl, v, S3, by first | exact (HK2.out.drewN _).thenNew K3 (fun _ _ x => x) | exact ((HK2.out.drewN _).drewN _).thenNew K3 (fun _ _ x => x), hloc.imp id (fun ⟨g, hg, e⟩ => ⟨g, Nat.le_trans HK2.out.size hg, e⟩)⟩

theorem make_there_z (w n l : Nat) (k0 k1 k2 : Int) (B p m : Nat) (sv : Value) (L : List Nd) (W : World) (S : StoreAt B W p m sv L) (hB : B ≤ W.heap.size) (hx : Nd.Ok ⟨2, w, k0, k1, k2, n, l⟩) (hm : mayN L ⟨2, w, k0, k1, k2, n, l⟩ = true) (hn2 : n < 256) (dz : (((wdOf L n : Nat) : Int) != 0) = false) (hin : Nd.mk 2 w k0 k1 k2 n l ∈ L) :
    Calls Tryz.prog 43 #[.pointer (some ⟨p, 0, none⟩), .agg #[.int .u8 2, .int .u8 w, .int .i64 k0, .int .i64 k1, .int .i64 k2, .int .u64 n, .int .u8 l]] W fun e W' => e = .returned (.tuple #[.int .i64 ((idx L ⟨2, w, k0, k1, k2, n, l⟩ : Nat) : Int), .int .i64 0]) ∧
      ∃ v, StoreAt B W' p m v L ∧ Kept (foot p m sv) W W' ∧ (v.ownBlock = sv.ownBlock ∨ ∃ g, W.heap.size ≤ g ∧ v.ownBlock = some g) := by
  have A := At7.new W (.int .u8 2) (.int .u8 w) (.int .i64 k0) (.int .i64 k1) (.int .i64 k2) (.int .u64 n) (.int .u8 l) 56
  have S1 := S.alloc (.cells #[.int .u8 2, .int .u8 w, .int .i64 k0, .int .i64 k1, .int .i64 k2, .int .u64 n, .int .u8 l] 56)
  have C1 := S1.c1
  have HM := Lib.hid (may_any' (x := ⟨2, w, k0, k1, k2, n, l⟩) S1 hx)
  rw [hm] at HM
  have HS := Lib.hid S1
  have HB := Lib.hid hB
  clear S1 hB hm
  go_enter Tryz.func43, Tryz.ntmps43
  go_wp2_with (first | (go_at_call 19; refine (none_made p m _ C1).mono ?_; rintro e w1 ⟨rfl, rfl⟩) | (go_at_call 59; refine HM.out.mono ?_; rintro e w1 ⟨rfl, hb⟩; have S2 := HS.out.call hb; replace A := A.keep hb; have la := A.lt; unfold At7 at A))
  have K2 := (((Kept.refl (foot p m sv) W).alloc (.cells #[.int .u8 2, .int .u8 w, .int .i64 k0, .int .i64 k1, .int .i64 k2, .int .u64 n, .int .u8 l] 56))).call hb
  have Cw := S2.cw n hn2
  have hn3 : (n : Int) < 256 := by omega
  have HK2 := Lib.hid K2
  have HS2 := Lib.hid S2
  have c0 := S2.c0
  have c1 := S2.c1
  clear K2 S2
  go_quiet (fail)
  go_wp2_with fail
  have hlk : ∀ q, (Instr.lookup 25 (.map (some m)) (.agg #[.int .u8 2, .int .u8 w, .int .i64 k0, .int .i64 k1, .int .i64 k2, .int .u64 n, .int .u8 l]) true).run Tryz.prog (w1.drewN q) = .ok (.tuple #[.int .i64 ((idx L ⟨2, w, k0, k1, k2, n, l⟩ : Nat) : Int), .bool true]) (w1.drewN q) := fun q => look_yes (x := ⟨2, w, k0, k1, k2, n, l⟩) (HS2.out.drewN q) hx hin
  go_quiet (fail)
  go_wp2_with fail
  exact bodyPost_ret (v := .tuple #[.int .i64 ((idx L ⟨2, w, k0, k1, k2, n, l⟩ : Nat) : Int), .int .i64 0]) (by simp [results, Tryz.results43, go_sem]) rfl ⟨rfl, sv, by first | exact HS2.out.drewN _ | exact (HS2.out.drewN _).drewN _, by first | exact HK2.out.drewN _ | exact (HK2.out.drewN _).drewN _, .inl rfl⟩

theorem make_full_z (w n l : Nat) (k0 k1 k2 : Int) (B p m : Nat) (sv : Value) (L : List Nd) (W : World) (S : StoreAt B W p m sv L) (hB : B ≤ W.heap.size) (hx : Nd.Ok ⟨2, w, k0, k1, k2, n, l⟩) (hm : mayN L ⟨2, w, k0, k1, k2, n, l⟩ = true) (hn2 : n < 256) (dz : (((wdOf L n : Nat) : Int) != 0) = false) (hin : ¬ Nd.mk 2 w k0 k1 k2 n l ∈ L) (hlen : 200000 ≤ L.length) :
    Calls Tryz.prog 43 #[.pointer (some ⟨p, 0, none⟩), .agg #[.int .u8 2, .int .u8 w, .int .i64 k0, .int .i64 k1, .int .i64 k2, .int .u64 n, .int .u8 l]] W fun e W' => e = .returned (.tuple #[.int .i64 0, .int .i64 3]) ∧
      ∃ v, StoreAt B W' p m v L ∧ Kept (foot p m sv) W W' ∧ (v.ownBlock = sv.ownBlock ∨ ∃ g, W.heap.size ≤ g ∧ v.ownBlock = some g) := by
  have A := At7.new W (.int .u8 2) (.int .u8 w) (.int .i64 k0) (.int .i64 k1) (.int .i64 k2) (.int .u64 n) (.int .u8 l) 56
  have S1 := S.alloc (.cells #[.int .u8 2, .int .u8 w, .int .i64 k0, .int .i64 k1, .int .i64 k2, .int .u64 n, .int .u8 l] 56)
  have C1 := S1.c1
  have HM := Lib.hid (may_any' (x := ⟨2, w, k0, k1, k2, n, l⟩) S1 hx)
  rw [hm] at HM
  have HS := Lib.hid S1
  have HB := Lib.hid hB
  clear S1 hB hm
  go_enter Tryz.func43, Tryz.ntmps43
  go_wp2_with (first | (go_at_call 19; refine (none_made p m _ C1).mono ?_; rintro e w1 ⟨rfl, rfl⟩) | (go_at_call 59; refine HM.out.mono ?_; rintro e w1 ⟨rfl, hb⟩; have S2 := HS.out.call hb; replace A := A.keep hb; have la := A.lt; unfold At7 at A))
  have K2 := (((Kept.refl (foot p m sv) W).alloc (.cells #[.int .u8 2, .int .u8 w, .int .i64 k0, .int .i64 k1, .int .i64 k2, .int .u64 n, .int .u8 l] 56))).call hb
  have Cw := S2.cw n hn2
  have hn3 : (n : Int) < 256 := by omega
  have HK2 := Lib.hid K2
  have HS2 := Lib.hid S2
  have c0 := S2.c0
  have c1 := S2.c1
  clear K2 S2
  go_quiet (fail)
  go_wp2_with fail
  have hlk : ∀ q, (Instr.lookup 25 (.map (some m)) (.agg #[.int .u8 2, .int .u8 w, .int .i64 k0, .int .i64 k1, .int .i64 k2, .int .u64 n, .int .u8 l]) true).run Tryz.prog (w1.drewN q) = .ok (.tuple #[.int .i64 0, .bool false]) (w1.drewN q) := fun q => look_no (x := ⟨2, w, k0, k1, k2, n, l⟩) (HS2.out.drewN q) hx hin
  go_quiet (fail)
  have hsh := HS2.out.shape
  obtain ⟨a, c, hsv⟩ := hsh
  rw [hsv] at c0
  have dl : decide ((200000 : Int) ≤ (L.length : Int)) = true := decide_eq_true (by omega)
  go_wp2_with fail
  exact bodyPost_ret (v := .tuple #[.int .i64 0, .int .i64 3]) (by simp [results, Tryz.results43, go_sem]) rfl ⟨rfl, sv, by first | exact HS2.out.drewN _ | exact (HS2.out.drewN _).drewN _, by first | exact HK2.out.drewN _ | exact (HK2.out.drewN _).drewN _, .inl rfl⟩

theorem make_more_z (w n l : Nat) (k0 k1 k2 : Int) (B p m : Nat) (sv : Value) (L : List Nd) (W : World) (S : StoreAt B W p m sv L) (hB : B ≤ W.heap.size) (hx : Nd.Ok ⟨2, w, k0, k1, k2, n, l⟩) (hm : mayN L ⟨2, w, k0, k1, k2, n, l⟩ = true) (hn2 : n < 256) (dz : (((wdOf L n : Nat) : Int) != 0) = false) (hin : ¬ Nd.mk 2 w k0 k1 k2 n l ∈ L) (hlen : L.length < 200000) (hw : Hid (¬ ((Nd.mk 2 w k0 k1 k2 n l).o = 2 ∧ ¬ wdOf L (Nd.mk 2 w k0 k1 k2 n l).n = 0 ∧ ¬ wdOf L (Nd.mk 2 w k0 k1 k2 n l).n = (Nd.mk 2 w k0 k1 k2 n l).w))) :
    Calls Tryz.prog 43 #[.pointer (some ⟨p, 0, none⟩), .agg #[.int .u8 2, .int .u8 w, .int .i64 k0, .int .i64 k1, .int .i64 k2, .int .u64 n, .int .u8 l]] W fun e W' => e = .returned (.tuple #[.int .i64 ((L.length : Nat) : Int), .int .i64 0]) ∧
      ∃ v, StoreAt B W' p m v (L ++ [⟨2, w, k0, k1, k2, n, l⟩]) ∧ Kept (foot p m sv) W W' ∧ (v.ownBlock = sv.ownBlock ∨ ∃ g, W.heap.size ≤ g ∧ v.ownBlock = some g) := by
  have A := At7.new W (.int .u8 2) (.int .u8 w) (.int .i64 k0) (.int .i64 k1) (.int .i64 k2) (.int .u64 n) (.int .u8 l) 56
  have S1 := S.alloc (.cells #[.int .u8 2, .int .u8 w, .int .i64 k0, .int .i64 k1, .int .i64 k2, .int .u64 n, .int .u8 l] 56)
  have C1 := S1.c1
  have HM := Lib.hid (may_any' (x := ⟨2, w, k0, k1, k2, n, l⟩) S1 hx)
  have HMAY := Lib.hid hm
  rw [hm] at HM
  have HS := Lib.hid S1
  have HB := Lib.hid hB
  clear S1 hB hm
  go_enter Tryz.func43, Tryz.ntmps43
  go_wp2_with (first | (go_at_call 19; refine (none_made p m _ C1).mono ?_; rintro e w1 ⟨rfl, rfl⟩) | (go_at_call 59; refine HM.out.mono ?_; rintro e w1 ⟨rfl, hb⟩; have S2 := HS.out.call hb; replace A := A.keep hb; have la := A.lt; unfold At7 at A))
  have K2 := (((Kept.refl (foot p m sv) W).alloc (.cells #[.int .u8 2, .int .u8 w, .int .i64 k0, .int .i64 k1, .int .i64 k2, .int .u64 n, .int .u8 l] 56))).call hb
  have Cw := S2.cw n hn2
  have hn3 : (n : Int) < 256 := by omega
  have HK2 := Lib.hid K2
  have HS2 := Lib.hid S2
  have c0 := S2.c0
  have c1 := S2.c1
  clear K2 S2
  go_quiet (fail)
  go_wp2_with fail
  have hlk : ∀ q, (Instr.lookup 25 (.map (some m)) (.agg #[.int .u8 2, .int .u8 w, .int .i64 k0, .int .i64 k1, .int .i64 k2, .int .u64 n, .int .u8 l]) true).run Tryz.prog (w1.drewN q) = .ok (.tuple #[.int .i64 0, .bool false]) (w1.drewN q) := fun q => look_no (x := ⟨2, w, k0, k1, k2, n, l⟩) (HS2.out.drewN q) hx hin
  go_quiet (fail)
  have hsh := HS2.out.shape
  obtain ⟨a, c, hsv⟩ := hsh
  rw [hsv] at c0
  have dl : decide ((200000 : Int) ≤ (L.length : Int)) = false := decide_eq_false (by omega)
  have HD := Lib.hid (fun q => add_any (x := ⟨2, w, k0, k1, k2, n, l⟩) (HS2.out.drewN q) (Nat.le_trans HB.out HK2.out.size) hx HMAY.out hin hlen (by have := hw.out; simpa using this))
  go_wp2_with (go_at_call 60; refine (HD.out _).mono ?_; rintro e w2 ⟨rfl, v, S3, K3, hloc⟩)
  exact bodyPost_ret (v := .tuple #[.int .i64 ((L.length : Nat) : Int), .int .i64 0]) (by simp [results, Tryz.results43, go_sem]) rfl ⟨rfl, v, S3, by first | exact (HK2.out.drewN _).thenNew K3 (fun _ _ x => x) | exact ((HK2.out.drewN _).drewN _).thenNew K3 (fun _ _ x => x), hloc.imp id (fun ⟨g, hg, e⟩ => ⟨g, Nat.le_trans HK2.out.size hg, e⟩)⟩

theorem make_there_s (w n l : Nat) (k0 k1 k2 : Int) (B p m : Nat) (sv : Value) (L : List Nd) (W : World) (S : StoreAt B W p m sv L) (hB : B ≤ W.heap.size) (hx : Nd.Ok ⟨2, w, k0, k1, k2, n, l⟩) (hm : mayN L ⟨2, w, k0, k1, k2, n, l⟩ = true) (hn2 : n < 256) (dz : (((wdOf L n : Nat) : Int) != 0) = true) (ds : (((wdOf L n : Nat) : Int) != ((w : Nat) : Int)) = false) (hin : Nd.mk 2 w k0 k1 k2 n l ∈ L) :
    Calls Tryz.prog 43 #[.pointer (some ⟨p, 0, none⟩), .agg #[.int .u8 2, .int .u8 w, .int .i64 k0, .int .i64 k1, .int .i64 k2, .int .u64 n, .int .u8 l]] W fun e W' => e = .returned (.tuple #[.int .i64 ((idx L ⟨2, w, k0, k1, k2, n, l⟩ : Nat) : Int), .int .i64 0]) ∧
      ∃ v, StoreAt B W' p m v L ∧ Kept (foot p m sv) W W' ∧ (v.ownBlock = sv.ownBlock ∨ ∃ g, W.heap.size ≤ g ∧ v.ownBlock = some g) := by
  have A := At7.new W (.int .u8 2) (.int .u8 w) (.int .i64 k0) (.int .i64 k1) (.int .i64 k2) (.int .u64 n) (.int .u8 l) 56
  have S1 := S.alloc (.cells #[.int .u8 2, .int .u8 w, .int .i64 k0, .int .i64 k1, .int .i64 k2, .int .u64 n, .int .u8 l] 56)
  have C1 := S1.c1
  have HM := Lib.hid (may_any' (x := ⟨2, w, k0, k1, k2, n, l⟩) S1 hx)
  rw [hm] at HM
  have HS := Lib.hid S1
  have HB := Lib.hid hB
  clear S1 hB hm
  go_enter Tryz.func43, Tryz.ntmps43
  go_wp2_with (first | (go_at_call 19; refine (none_made p m _ C1).mono ?_; rintro e w1 ⟨rfl, rfl⟩) | (go_at_call 59; refine HM.out.mono ?_; rintro e w1 ⟨rfl, hb⟩; have S2 := HS.out.call hb; replace A := A.keep hb; have la := A.lt; unfold At7 at A))
  have K2 := (((Kept.refl (foot p m sv) W).alloc (.cells #[.int .u8 2, .int .u8 w, .int .i64 k0, .int .i64 k1, .int .i64 k2, .int .u64 n, .int .u8 l] 56))).call hb
  have Cw := S2.cw n hn2
  have hn3 : (n : Int) < 256 := by omega
  have HK2 := Lib.hid K2
  have HS2 := Lib.hid S2
  have c0 := S2.c0
  have c1 := S2.c1
  clear K2 S2
  go_quiet (fail)
  go_wp2_with fail
  have hlk : ∀ q, (Instr.lookup 25 (.map (some m)) (.agg #[.int .u8 2, .int .u8 w, .int .i64 k0, .int .i64 k1, .int .i64 k2, .int .u64 n, .int .u8 l]) true).run Tryz.prog (w1.drewN q) = .ok (.tuple #[.int .i64 ((idx L ⟨2, w, k0, k1, k2, n, l⟩ : Nat) : Int), .bool true]) (w1.drewN q) := fun q => look_yes (x := ⟨2, w, k0, k1, k2, n, l⟩) (HS2.out.drewN q) hx hin
  go_quiet (fail)
  go_wp2_with fail
  exact bodyPost_ret (v := .tuple #[.int .i64 ((idx L ⟨2, w, k0, k1, k2, n, l⟩ : Nat) : Int), .int .i64 0]) (by simp [results, Tryz.results43, go_sem]) rfl ⟨rfl, sv, by first | exact HS2.out.drewN _ | exact (HS2.out.drewN _).drewN _, by first | exact HK2.out.drewN _ | exact (HK2.out.drewN _).drewN _, .inl rfl⟩

theorem make_full_s (w n l : Nat) (k0 k1 k2 : Int) (B p m : Nat) (sv : Value) (L : List Nd) (W : World) (S : StoreAt B W p m sv L) (hB : B ≤ W.heap.size) (hx : Nd.Ok ⟨2, w, k0, k1, k2, n, l⟩) (hm : mayN L ⟨2, w, k0, k1, k2, n, l⟩ = true) (hn2 : n < 256) (dz : (((wdOf L n : Nat) : Int) != 0) = true) (ds : (((wdOf L n : Nat) : Int) != ((w : Nat) : Int)) = false) (hin : ¬ Nd.mk 2 w k0 k1 k2 n l ∈ L) (hlen : 200000 ≤ L.length) :
    Calls Tryz.prog 43 #[.pointer (some ⟨p, 0, none⟩), .agg #[.int .u8 2, .int .u8 w, .int .i64 k0, .int .i64 k1, .int .i64 k2, .int .u64 n, .int .u8 l]] W fun e W' => e = .returned (.tuple #[.int .i64 0, .int .i64 3]) ∧
      ∃ v, StoreAt B W' p m v L ∧ Kept (foot p m sv) W W' ∧ (v.ownBlock = sv.ownBlock ∨ ∃ g, W.heap.size ≤ g ∧ v.ownBlock = some g) := by
  have A := At7.new W (.int .u8 2) (.int .u8 w) (.int .i64 k0) (.int .i64 k1) (.int .i64 k2) (.int .u64 n) (.int .u8 l) 56
  have S1 := S.alloc (.cells #[.int .u8 2, .int .u8 w, .int .i64 k0, .int .i64 k1, .int .i64 k2, .int .u64 n, .int .u8 l] 56)
  have C1 := S1.c1
  have HM := Lib.hid (may_any' (x := ⟨2, w, k0, k1, k2, n, l⟩) S1 hx)
  rw [hm] at HM
  have HS := Lib.hid S1
  have HB := Lib.hid hB
  clear S1 hB hm
  go_enter Tryz.func43, Tryz.ntmps43
  go_wp2_with (first | (go_at_call 19; refine (none_made p m _ C1).mono ?_; rintro e w1 ⟨rfl, rfl⟩) | (go_at_call 59; refine HM.out.mono ?_; rintro e w1 ⟨rfl, hb⟩; have S2 := HS.out.call hb; replace A := A.keep hb; have la := A.lt; unfold At7 at A))
  have K2 := (((Kept.refl (foot p m sv) W).alloc (.cells #[.int .u8 2, .int .u8 w, .int .i64 k0, .int .i64 k1, .int .i64 k2, .int .u64 n, .int .u8 l] 56))).call hb
  have Cw := S2.cw n hn2
  have hn3 : (n : Int) < 256 := by omega
  have HK2 := Lib.hid K2
  have HS2 := Lib.hid S2
  have c0 := S2.c0
  have c1 := S2.c1
  clear K2 S2
  go_quiet (fail)
  go_wp2_with fail
  have hlk : ∀ q, (Instr.lookup 25 (.map (some m)) (.agg #[.int .u8 2, .int .u8 w, .int .i64 k0, .int .i64 k1, .int .i64 k2, .int .u64 n, .int .u8 l]) true).run Tryz.prog (w1.drewN q) = .ok (.tuple #[.int .i64 0, .bool false]) (w1.drewN q) := fun q => look_no (x := ⟨2, w, k0, k1, k2, n, l⟩) (HS2.out.drewN q) hx hin
  go_quiet (fail)
  have hsh := HS2.out.shape
  obtain ⟨a, c, hsv⟩ := hsh
  rw [hsv] at c0
  have dl : decide ((200000 : Int) ≤ (L.length : Int)) = true := decide_eq_true (by omega)
  go_wp2_with fail
  exact bodyPost_ret (v := .tuple #[.int .i64 0, .int .i64 3]) (by simp [results, Tryz.results43, go_sem]) rfl ⟨rfl, sv, by first | exact HS2.out.drewN _ | exact (HS2.out.drewN _).drewN _, by first | exact HK2.out.drewN _ | exact (HK2.out.drewN _).drewN _, .inl rfl⟩

theorem make_more_s (w n l : Nat) (k0 k1 k2 : Int) (B p m : Nat) (sv : Value) (L : List Nd) (W : World) (S : StoreAt B W p m sv L) (hB : B ≤ W.heap.size) (hx : Nd.Ok ⟨2, w, k0, k1, k2, n, l⟩) (hm : mayN L ⟨2, w, k0, k1, k2, n, l⟩ = true) (hn2 : n < 256) (dz : (((wdOf L n : Nat) : Int) != 0) = true) (ds : (((wdOf L n : Nat) : Int) != ((w : Nat) : Int)) = false) (hin : ¬ Nd.mk 2 w k0 k1 k2 n l ∈ L) (hlen : L.length < 200000) (hw : Hid (¬ ((Nd.mk 2 w k0 k1 k2 n l).o = 2 ∧ ¬ wdOf L (Nd.mk 2 w k0 k1 k2 n l).n = 0 ∧ ¬ wdOf L (Nd.mk 2 w k0 k1 k2 n l).n = (Nd.mk 2 w k0 k1 k2 n l).w))) :
    Calls Tryz.prog 43 #[.pointer (some ⟨p, 0, none⟩), .agg #[.int .u8 2, .int .u8 w, .int .i64 k0, .int .i64 k1, .int .i64 k2, .int .u64 n, .int .u8 l]] W fun e W' => e = .returned (.tuple #[.int .i64 ((L.length : Nat) : Int), .int .i64 0]) ∧
      ∃ v, StoreAt B W' p m v (L ++ [⟨2, w, k0, k1, k2, n, l⟩]) ∧ Kept (foot p m sv) W W' ∧ (v.ownBlock = sv.ownBlock ∨ ∃ g, W.heap.size ≤ g ∧ v.ownBlock = some g) := by
  have A := At7.new W (.int .u8 2) (.int .u8 w) (.int .i64 k0) (.int .i64 k1) (.int .i64 k2) (.int .u64 n) (.int .u8 l) 56
  have S1 := S.alloc (.cells #[.int .u8 2, .int .u8 w, .int .i64 k0, .int .i64 k1, .int .i64 k2, .int .u64 n, .int .u8 l] 56)
  have C1 := S1.c1
  have HM := Lib.hid (may_any' (x := ⟨2, w, k0, k1, k2, n, l⟩) S1 hx)
  have HMAY := Lib.hid hm
  rw [hm] at HM
  have HS := Lib.hid S1
  have HB := Lib.hid hB
  clear S1 hB hm
  go_enter Tryz.func43, Tryz.ntmps43
  go_wp2_with (first | (go_at_call 19; refine (none_made p m _ C1).mono ?_; rintro e w1 ⟨rfl, rfl⟩) | (go_at_call 59; refine HM.out.mono ?_; rintro e w1 ⟨rfl, hb⟩; have S2 := HS.out.call hb; replace A := A.keep hb; have la := A.lt; unfold At7 at A))
  have K2 := (((Kept.refl (foot p m sv) W).alloc (.cells #[.int .u8 2, .int .u8 w, .int .i64 k0, .int .i64 k1, .int .i64 k2, .int .u64 n, .int .u8 l] 56))).call hb
  have Cw := S2.cw n hn2
  have hn3 : (n : Int) < 256 := by omega
  have HK2 := Lib.hid K2
  have HS2 := Lib.hid S2
  have c0 := S2.c0
  have c1 := S2.c1
  clear K2 S2
  go_quiet (fail)
  go_wp2_with fail
  have hlk : ∀ q, (Instr.lookup 25 (.map (some m)) (.agg #[.int .u8 2, .int .u8 w, .int .i64 k0, .int .i64 k1, .int .i64 k2, .int .u64 n, .int .u8 l]) true).run Tryz.prog (w1.drewN q) = .ok (.tuple #[.int .i64 0, .bool false]) (w1.drewN q) := fun q => look_no (x := ⟨2, w, k0, k1, k2, n, l⟩) (HS2.out.drewN q) hx hin
  go_quiet (fail)
  have hsh := HS2.out.shape
  obtain ⟨a, c, hsv⟩ := hsh
  rw [hsv] at c0
  have dl : decide ((200000 : Int) ≤ (L.length : Int)) = false := decide_eq_false (by omega)
  have HD := Lib.hid (fun q => add_any (x := ⟨2, w, k0, k1, k2, n, l⟩) (HS2.out.drewN q) (Nat.le_trans HB.out HK2.out.size) hx HMAY.out hin hlen (by have := hw.out; simpa using this))
  go_wp2_with (go_at_call 60; refine (HD.out _).mono ?_; rintro e w2 ⟨rfl, v, S3, K3, hloc⟩)
  exact bodyPost_ret (v := .tuple #[.int .i64 ((L.length : Nat) : Int), .int .i64 0]) (by simp [results, Tryz.results43, go_sem]) rfl ⟨rfl, v, S3, by first | exact (HK2.out.drewN _).thenNew K3 (fun _ _ x => x) | exact ((HK2.out.drewN _).drewN _).thenNew K3 (fun _ _ x => x), hloc.imp id (fun ⟨g, hg, e⟩ => ⟨g, Nat.le_trans HK2.out.size hg, e⟩)⟩

/-- Make, for every node. -/
theorem make_any {B p m : Nat} {sv : Value} {L : List Nd} {x : Nd} {W : World} (S : StoreAt B W p m sv L) (hB : B ≤ W.heap.size) (hx : x.Ok) :
    Calls Tryz.prog 43 #[.pointer (some ⟨p, 0, none⟩), x.val] W fun e W' => e = .returned (.tuple #[.int .i64 (((mk L x).2.1 : Nat) : Int), .int .i64 (((mk L x).2.2 : Nat) : Int)]) ∧
      ∃ v, StoreAt B W' p m v (mk L x).1 ∧ Kept (foot p m sv) W W' ∧ (v.ownBlock = sv.ownBlock ∨ ∃ g, W.heap.size ≤ g ∧ v.ownBlock = some g) := by
  cases hm : mayN L x
  · rw [show mk L x = (L, 0, 2) by unfold mk; rw [if_pos hm]]
    obtain ⟨o, w, k0, k1, k2, n, l⟩ := x
    exact make_bad o w n l k0 k1 k2 B p m sv L W S hB hx hm
  have hv := fun h => mayN_var hm h
  by_cases ht : x.o = 2 ∧ ¬ wdOf L x.n = 0 ∧ ¬ wdOf L x.n = x.w
  · rw [show mk L x = (L, 0, 7) by unfold mk; rw [if_neg (by simp [hm]), if_pos ht]]
    obtain ⟨o, w, k0, k1, k2, n, l⟩ := x
    obtain ⟨h1, h2, h3⟩ := ht
    simp only at h1 h2 h3 hv
    subst h1
    exact make_twice w n l k0 k1 k2 B p m sv L W S hB hx hm (hv rfl) (by simp; omega) (by simp; omega)
  have key : ∀ (P : List Nd × Nat × Nat → Prop), (∀ (h : x ∈ L), P (L, idx L x, 0)) → (∀ (h : ¬ x ∈ L) (hl : 200000 ≤ L.length), P (L, 0, 3)) → (∀ (h : ¬ x ∈ L) (hl : L.length < 200000), P (L ++ [x], L.length, 0)) → P (mk L x) := by
    intro P h1 h2 h3
    unfold mk
    rw [if_neg (by simp [hm]), if_neg ht]
    by_cases hin : x ∈ L
    · rw [if_pos hin]; exact h1 hin
    · rw [if_neg hin]
      by_cases hl : 200000 ≤ L.length
      · rw [if_pos hl]; exact h2 hin hl
      · rw [if_neg hl]; exact h3 hin (by omega)
  refine key (fun q => Calls Tryz.prog 43 #[.pointer (some ⟨p, 0, none⟩), x.val] W fun e W' => e = .returned (.tuple #[.int .i64 ((q.2.1 : Nat) : Int), .int .i64 ((q.2.2 : Nat) : Int)]) ∧
      ∃ v, StoreAt B W' p m v q.1 ∧ Kept (foot p m sv) W W' ∧ (v.ownBlock = sv.ownBlock ∨ ∃ g, W.heap.size ≤ g ∧ v.ownBlock = some g)) ?_ ?_ ?_
  all_goals intro hin
  case refine_1 =>
    obtain ⟨o, w, k0, k1, k2, n, l⟩ := x
    simp only at ht hv
    by_cases ho : o = 2
    · subst ho
      by_cases hz : wdOf L n = 0
      · exact make_there_z w n l k0 k1 k2 B p m sv L W S hB hx hm (hv rfl) (by simp; omega) hin
      · exact make_there_s w n l k0 k1 k2 B p m sv L W S hB hx hm (hv rfl) (by simp; omega) (by simp; by_cases e : wdOf L n = w; omega; exact absurd ⟨rfl, hz, e⟩ ht) hin
    · exact make_there_p o w n l k0 k1 k2 B p m sv L W S hB hx hm (by simp; omega) hin
  all_goals intro hl
  case refine_2 =>
    obtain ⟨o, w, k0, k1, k2, n, l⟩ := x
    simp only at ht hv
    by_cases ho : o = 2
    · subst ho
      by_cases hz : wdOf L n = 0
      · exact make_full_z w n l k0 k1 k2 B p m sv L W S hB hx hm (hv rfl) (by simp; omega) hin hl
      · exact make_full_s w n l k0 k1 k2 B p m sv L W S hB hx hm (hv rfl) (by simp; omega) (by simp; by_cases e : wdOf L n = w; omega; exact absurd ⟨rfl, hz, e⟩ ht) hin hl
    · exact make_full_p o w n l k0 k1 k2 B p m sv L W S hB hx hm (by simp; omega) hin hl
  case refine_3 =>
    have ht' := ht
    obtain ⟨o, w, k0, k1, k2, n, l⟩ := x
    simp only at ht hv
    by_cases ho : o = 2
    · subst ho
      by_cases hz : wdOf L n = 0
      · exact make_more_z w n l k0 k1 k2 B p m sv L W S hB hx hm (hv rfl) (by simp; omega) hin hl ht'
      · exact make_more_s w n l k0 k1 k2 B p m sv L W S hB hx hm (hv rfl) (by simp; omega) (by simp; by_cases e : wdOf L n = w; omega; exact absurd ⟨rfl, hz, e⟩ ht) hin hl ht'
    · exact make_more_p o w n l k0 k1 k2 B p m sv L W S hB hx hm (by simp; omega) hin hl ht'
end Tm
end Go.Proofs.YthelkbdiedfmfaaGreat
