/- The document's machine: loads and stores. Conditions: each theorem's. The document's machine: stores. Conditions: each theorem's. -/
import Derived.Test.YtppcbommaddkgaaDoorMrgJ
import Derived.StillTailTactics
namespace Go.Proofs.YtppcbommaddkgaaDoor
open Go.RowKit Go.Maps
set_option linter.unusedVariables false
set_option linter.unusedSimpArgs false
set_option maxRecDepth 10000
open Pm Pc Pl
/-- What stands in the boxes of a load or a store. -/
structure Mb (w X : World) (cs rv : Array Value) (op rd r1 r2 n : Int) : Prop where
  b0 : X.heap[w.heap.size]? = some (.cells cs 34)
  b1 : X.heap[w.heap.size + 1]? = some (.cells rv 71)
  b2 : X.heap[w.heap.size + 2]? = some (.cells #[.int .i64 op, .int .i64 rd, .int .i64 r1, .int .i64 r2, .int .i64 n] 49)
  b3 : ∃ old : Array Value, old.size = 36 ∧ X.heap[w.heap.size + 3]? = some (.cells old 34)
  b4 : ∃ old : Array Value, old.size = 4 ∧ X.heap[w.heap.size + 4]? = some (.cells old 71)
  below : Below w.heap.size w X
theorem Mb.grow {w X X' : World} {cs rv : Array Value} {op rd r1 r2 n : Int} (h : Mb w X cs rv op rd r1 r2 n) (hb : Below X.heap.size X X') : Mb w X' cs rv op rd r1 r2 n := by
  obtain ⟨o3, z3, h3⟩ := h.b3
  obtain ⟨o4, z4, h4⟩ := h.b4
  exact ⟨row_at hb (lt_of_at h.b0) h.b0, row_at hb (lt_of_at h.b1) h.b1, row_at hb (lt_of_at h.b2) h.b2, ⟨o3, z3, row_at hb (lt_of_at h3) h3⟩, ⟨o4, z4, row_at hb (lt_of_at h4) h4⟩, h.below.trans (hb.mono h.below.size)⟩
set_option maxHeartbeats 3000000 in
theorem rmem_no38 {m : Ma} {q base : Nat} {w : World} {R : Ru} {A : Option Addr} {c : Nat} {oA sA : Option Addr} {on oc sn sc : Nat} (n : Int) (rd r1 r2 : Nat) (hn : -9223372036854775808 ≤ n ∧ n < 9223372036854775808) (h1 : r1 < 32) (h2 : r2 < 32) (hd : rd < 32) (h : Rd w base q m R A c (.slice oA on oc) (.slice sA sn sc)) (hb : hasB (m.ad r1 n) 1 m.mem.length = false)  :
    Calls Tryd.prog 34 #[.agg (mcs m q), .agg #[.slice A R.inp.length c, .slice oA on oc, .int .i64 R.checks, .slice sA sn sc], ins 38 rd r1 r2 n] w (RTo w base q m R none) := by
  have hx := h.ok.1
  have cr1 := mcs_x hx q h1
  have hr1 := reg_range h.ok r1
  have had : (m.ad r1 n) = IntKind.u64.wrap (m.x.getD r1 0 + n % 18446744073709551616) := by unfold Ma.ad Ma.reg; rw [IntKind.wrap_u64]
  have hadr : 0 ≤ m.ad r1 n ∧ m.ad r1 n < 18446744073709551616 := by unfold Ma.ad; omega
  have hX1 : ∀ Z, ((w.alloc (Obj.cells (mcs m q) 34)).alloc Z).cell? ⟨w.heap.size, 1 + r1, none⟩ = some (.int .u64 (m.x.getD r1 0)) := fun Z => by rw [cell_of_row _ _ (1 + r1) _ _ _ (aa0 _ _ _)]; exact cr1
  have HH := Lib.hid h
  have HA := Lib.hid hadr
  generalize m.ad r1 n = AT at *
  have hat := had.symm
  unfold Ma.reg at hr1
  generalize m.x.getD r1 0 = x1 at *
  generalize hcs0 : mcs m q = cs0 at *
  have HC0 := Lib.hid hcs0
  clear h hcs0 cr1 hx had hadr
  have hwk : IntKind.i64.wrap (r1 : Int) = r1 := IntWalk.i64_in _ (by omega)
  go_enter Tryd.func34, Tryd.ntmps34
  go_wp2_with fail
  have HI : Hid (∀ k : Nat, ∀ W : World, Calls Tryd.prog 31 #[.int .i64 n] (W.drewN k) fun e w' => e = .returned (.int .u64 (n % 18446744073709551616)) ∧ W.drewN k = w') := Lib.hid fun k W => rimm_any n _ hn
  go_quiet (with_reducible refine (HI.out _ _).mono ?_; rintro e w9 ⟨rfl, rfl⟩; exact ⟨rfl, _, rfl⟩)
  clear HI hX1
  generalize hX : World.drewN (((((w.alloc _).alloc _).alloc _).alloc _).alloc _) nq = X
  have mb : Mb w X cs0 #[.slice A R.inp.length c, .slice oA on oc, .int .i64 R.checks, .slice sA sn sc] 38 rd r1 r2 n := by
    rw [← hX]
    exact ⟨a5_0 _ _ _ _ _ _, a5_1 _ _ _ _ _ _, a5_2 _ _ _ _ _ _, ⟨_, rfl, a5_3 _ _ _ _ _ _⟩, ⟨_, rfl, a5_4 _ _ _ _ _ _⟩, ⟨rfl, rfl, rfl, (bw5 w _ _ _ _ _).size, (bw5 w _ _ _ _ _).block⟩⟩
  clear hX
  have hp := rplace_any (q := q) (w := X) HH.out.ok.1 HH.out.ok.2.1 AT 1 HA.out (Or.inl rfl)
  have hz := mcs_size HH.out.ok.1 q
  have ha := mcs_all m q
  rw [HC0.out] at hp hz ha
  rw [hb] at hp
  have HP := Lib.hid hp; have HZ := Lib.hid hz; have HMB := Lib.hid mb
  clear hp hz mb hb
  go_wp2_with (first
    | ((with_reducible refine ld36 w.heap.size cs0 ?_ ?_ HZ.out ?_); rfl; exact HMB.out.b0)
    | (go_at_call 28; (with_reducible refine HP.out.mono ?_); rintro e X1 ⟨rfl, bp⟩; have HM1 := Lib.hid (HMB.out.grow bp); clear bp)
    | fail)
  obtain ⟨o3, z3, k3⟩ := HM1.out.b3
  obtain ⟨o4, z4, k4⟩ := HM1.out.b4
  have hlb := HH.out.lb
  refine tail7 w.heap.size (w.heap.size + 1) (w.heap.size + 3) (w.heap.size + 4) cs0 #[.slice A R.inp.length c, .slice oA on oc, .int .i64 R.checks, .slice sA sn sc] o3 o4 (.bool false) (by kernel_rfl) (by kernel_rfl) (by kernel_rfl) (by kernel_rfl) (by kernel_rfl) (by kernel_rfl) (by kernel_rfl) (by kernel_rfl) rfl rfl rfl rfl rfl rfl rfl rfl rfl rfl rfl rfl HM1.out.b0 HM1.out.b1 k3 k4 HZ.out rfl z3 z4 ha (by simp [Value.oneCell']) (by omega) (by omega) (HH.out.below HM1.out.below) (w0 := w) (Fw.below HM1.out.below) (by omega) (by omega) ?_
  intro Y y1 y2 y3 y4
  go_wp2_with fail
  exact bodyPost_ret (v := .tuple #[.agg cs0, .agg #[.slice A R.inp.length c, .slice oA on oc, .int .i64 R.checks, .slice sA sn sc], .bool false]) (res_cct Tryd.results34 _ _ _ _ _ _ _ rfl rfl rfl y1 HZ.out y2 rfl) rfl ⟨m, R, A, c, oA, on, oc, sA, sn, sc, false, rfl, fun _ => ⟨rfl, rfl⟩, by rw [HC0.out], y3, y4⟩
set_option maxHeartbeats 3000000 in
theorem rmem_no39 {m : Ma} {q base : Nat} {w : World} {R : Ru} {A : Option Addr} {c : Nat} {oA sA : Option Addr} {on oc sn sc : Nat} (n : Int) (rd r1 r2 : Nat) (hn : -9223372036854775808 ≤ n ∧ n < 9223372036854775808) (h1 : r1 < 32) (h2 : r2 < 32) (hd : rd < 32) (h : Rd w base q m R A c (.slice oA on oc) (.slice sA sn sc)) (hb : hasB (m.ad r1 n) 1 m.mem.length = false)  :
    Calls Tryd.prog 34 #[.agg (mcs m q), .agg #[.slice A R.inp.length c, .slice oA on oc, .int .i64 R.checks, .slice sA sn sc], ins 39 rd r1 r2 n] w (RTo w base q m R none) := by
  have hx := h.ok.1
  have cr1 := mcs_x hx q h1
  have hr1 := reg_range h.ok r1
  have had : (m.ad r1 n) = IntKind.u64.wrap (m.x.getD r1 0 + n % 18446744073709551616) := by unfold Ma.ad Ma.reg; rw [IntKind.wrap_u64]
  have hadr : 0 ≤ m.ad r1 n ∧ m.ad r1 n < 18446744073709551616 := by unfold Ma.ad; omega
  have hX1 : ∀ Z, ((w.alloc (Obj.cells (mcs m q) 34)).alloc Z).cell? ⟨w.heap.size, 1 + r1, none⟩ = some (.int .u64 (m.x.getD r1 0)) := fun Z => by rw [cell_of_row _ _ (1 + r1) _ _ _ (aa0 _ _ _)]; exact cr1
  have HH := Lib.hid h
  have HA := Lib.hid hadr
  generalize m.ad r1 n = AT at *
  have hat := had.symm
  unfold Ma.reg at hr1
  generalize m.x.getD r1 0 = x1 at *
  generalize hcs0 : mcs m q = cs0 at *
  have HC0 := Lib.hid hcs0
  clear h hcs0 cr1 hx had hadr
  have hwk : IntKind.i64.wrap (r1 : Int) = r1 := IntWalk.i64_in _ (by omega)
  go_enter Tryd.func34, Tryd.ntmps34
  go_wp2_with fail
  have HI : Hid (∀ k : Nat, ∀ W : World, Calls Tryd.prog 31 #[.int .i64 n] (W.drewN k) fun e w' => e = .returned (.int .u64 (n % 18446744073709551616)) ∧ W.drewN k = w') := Lib.hid fun k W => rimm_any n _ hn
  go_quiet (with_reducible refine (HI.out _ _).mono ?_; rintro e w9 ⟨rfl, rfl⟩; exact ⟨rfl, _, rfl⟩)
  clear HI hX1
  generalize hX : World.drewN (((((w.alloc _).alloc _).alloc _).alloc _).alloc _) nq = X
  have mb : Mb w X cs0 #[.slice A R.inp.length c, .slice oA on oc, .int .i64 R.checks, .slice sA sn sc] 39 rd r1 r2 n := by
    rw [← hX]
    exact ⟨a5_0 _ _ _ _ _ _, a5_1 _ _ _ _ _ _, a5_2 _ _ _ _ _ _, ⟨_, rfl, a5_3 _ _ _ _ _ _⟩, ⟨_, rfl, a5_4 _ _ _ _ _ _⟩, ⟨rfl, rfl, rfl, (bw5 w _ _ _ _ _).size, (bw5 w _ _ _ _ _).block⟩⟩
  clear hX
  have hp := rplace_any (q := q) (w := X) HH.out.ok.1 HH.out.ok.2.1 AT 1 HA.out (Or.inl rfl)
  have hz := mcs_size HH.out.ok.1 q
  have ha := mcs_all m q
  rw [HC0.out] at hp hz ha
  rw [hb] at hp
  have HP := Lib.hid hp; have HZ := Lib.hid hz; have HMB := Lib.hid mb
  clear hp hz mb hb
  go_wp2_with (first
    | ((with_reducible refine ld36 w.heap.size cs0 ?_ ?_ HZ.out ?_); rfl; exact HMB.out.b0)
    | (go_at_call 28; (with_reducible refine HP.out.mono ?_); rintro e X1 ⟨rfl, bp⟩; have HM1 := Lib.hid (HMB.out.grow bp); clear bp)
    | fail)
  obtain ⟨o3, z3, k3⟩ := HM1.out.b3
  obtain ⟨o4, z4, k4⟩ := HM1.out.b4
  have hlb := HH.out.lb
  refine tail7 w.heap.size (w.heap.size + 1) (w.heap.size + 3) (w.heap.size + 4) cs0 #[.slice A R.inp.length c, .slice oA on oc, .int .i64 R.checks, .slice sA sn sc] o3 o4 (.bool false) (by kernel_rfl) (by kernel_rfl) (by kernel_rfl) (by kernel_rfl) (by kernel_rfl) (by kernel_rfl) (by kernel_rfl) (by kernel_rfl) rfl rfl rfl rfl rfl rfl rfl rfl rfl rfl rfl rfl HM1.out.b0 HM1.out.b1 k3 k4 HZ.out rfl z3 z4 ha (by simp [Value.oneCell']) (by omega) (by omega) (HH.out.below HM1.out.below) (w0 := w) (Fw.below HM1.out.below) (by omega) (by omega) ?_
  intro Y y1 y2 y3 y4
  go_wp2_with fail
  exact bodyPost_ret (v := .tuple #[.agg cs0, .agg #[.slice A R.inp.length c, .slice oA on oc, .int .i64 R.checks, .slice sA sn sc], .bool false]) (res_cct Tryd.results34 _ _ _ _ _ _ _ rfl rfl rfl y1 HZ.out y2 rfl) rfl ⟨m, R, A, c, oA, on, oc, sA, sn, sc, false, rfl, fun _ => ⟨rfl, rfl⟩, by rw [HC0.out], y3, y4⟩
set_option maxHeartbeats 3000000 in
theorem rmem_no40 {m : Ma} {q base : Nat} {w : World} {R : Ru} {A : Option Addr} {c : Nat} {oA sA : Option Addr} {on oc sn sc : Nat} (n : Int) (rd r1 r2 : Nat) (hn : -9223372036854775808 ≤ n ∧ n < 9223372036854775808) (h1 : r1 < 32) (h2 : r2 < 32) (hd : rd < 32) (h : Rd w base q m R A c (.slice oA on oc) (.slice sA sn sc)) (hb : hasB (m.ad r1 n) 4 m.mem.length = false)  :
    Calls Tryd.prog 34 #[.agg (mcs m q), .agg #[.slice A R.inp.length c, .slice oA on oc, .int .i64 R.checks, .slice sA sn sc], ins 40 rd r1 r2 n] w (RTo w base q m R none) := by
  have hx := h.ok.1
  have cr1 := mcs_x hx q h1
  have hr1 := reg_range h.ok r1
  have had : (m.ad r1 n) = IntKind.u64.wrap (m.x.getD r1 0 + n % 18446744073709551616) := by unfold Ma.ad Ma.reg; rw [IntKind.wrap_u64]
  have hadr : 0 ≤ m.ad r1 n ∧ m.ad r1 n < 18446744073709551616 := by unfold Ma.ad; omega
  have hX1 : ∀ Z, ((w.alloc (Obj.cells (mcs m q) 34)).alloc Z).cell? ⟨w.heap.size, 1 + r1, none⟩ = some (.int .u64 (m.x.getD r1 0)) := fun Z => by rw [cell_of_row _ _ (1 + r1) _ _ _ (aa0 _ _ _)]; exact cr1
  have HH := Lib.hid h
  have HA := Lib.hid hadr
  generalize m.ad r1 n = AT at *
  have hat := had.symm
  unfold Ma.reg at hr1
  generalize m.x.getD r1 0 = x1 at *
  generalize hcs0 : mcs m q = cs0 at *
  have HC0 := Lib.hid hcs0
  clear h hcs0 cr1 hx had hadr
  have hwk : IntKind.i64.wrap (r1 : Int) = r1 := IntWalk.i64_in _ (by omega)
  go_enter Tryd.func34, Tryd.ntmps34
  go_wp2_with fail
  have HI : Hid (∀ k : Nat, ∀ W : World, Calls Tryd.prog 31 #[.int .i64 n] (W.drewN k) fun e w' => e = .returned (.int .u64 (n % 18446744073709551616)) ∧ W.drewN k = w') := Lib.hid fun k W => rimm_any n _ hn
  go_quiet (with_reducible refine (HI.out _ _).mono ?_; rintro e w9 ⟨rfl, rfl⟩; exact ⟨rfl, _, rfl⟩)
  clear HI hX1
  generalize hX : World.drewN (((((w.alloc _).alloc _).alloc _).alloc _).alloc _) nq = X
  have mb : Mb w X cs0 #[.slice A R.inp.length c, .slice oA on oc, .int .i64 R.checks, .slice sA sn sc] 40 rd r1 r2 n := by
    rw [← hX]
    exact ⟨a5_0 _ _ _ _ _ _, a5_1 _ _ _ _ _ _, a5_2 _ _ _ _ _ _, ⟨_, rfl, a5_3 _ _ _ _ _ _⟩, ⟨_, rfl, a5_4 _ _ _ _ _ _⟩, ⟨rfl, rfl, rfl, (bw5 w _ _ _ _ _).size, (bw5 w _ _ _ _ _).block⟩⟩
  clear hX
  have hp := rplace_any (q := q) (w := X) HH.out.ok.1 HH.out.ok.2.1 AT 4 HA.out (Or.inr (Or.inl rfl))
  have hz := mcs_size HH.out.ok.1 q
  have ha := mcs_all m q
  rw [HC0.out] at hp hz ha
  rw [hb] at hp
  have HP := Lib.hid hp; have HZ := Lib.hid hz; have HMB := Lib.hid mb
  clear hp hz mb hb
  go_wp2_with (first
    | ((with_reducible refine ld36 w.heap.size cs0 ?_ ?_ HZ.out ?_); rfl; exact HMB.out.b0)
    | (go_at_call 28; (with_reducible refine HP.out.mono ?_); rintro e X1 ⟨rfl, bp⟩; have HM1 := Lib.hid (HMB.out.grow bp); clear bp)
    | fail)
  obtain ⟨o3, z3, k3⟩ := HM1.out.b3
  obtain ⟨o4, z4, k4⟩ := HM1.out.b4
  have hlb := HH.out.lb
  refine tail7 w.heap.size (w.heap.size + 1) (w.heap.size + 3) (w.heap.size + 4) cs0 #[.slice A R.inp.length c, .slice oA on oc, .int .i64 R.checks, .slice sA sn sc] o3 o4 (.bool false) (by kernel_rfl) (by kernel_rfl) (by kernel_rfl) (by kernel_rfl) (by kernel_rfl) (by kernel_rfl) (by kernel_rfl) (by kernel_rfl) rfl rfl rfl rfl rfl rfl rfl rfl rfl rfl rfl rfl HM1.out.b0 HM1.out.b1 k3 k4 HZ.out rfl z3 z4 ha (by simp [Value.oneCell']) (by omega) (by omega) (HH.out.below HM1.out.below) (w0 := w) (Fw.below HM1.out.below) (by omega) (by omega) ?_
  intro Y y1 y2 y3 y4
  go_wp2_with fail
  exact bodyPost_ret (v := .tuple #[.agg cs0, .agg #[.slice A R.inp.length c, .slice oA on oc, .int .i64 R.checks, .slice sA sn sc], .bool false]) (res_cct Tryd.results34 _ _ _ _ _ _ _ rfl rfl rfl y1 HZ.out y2 rfl) rfl ⟨m, R, A, c, oA, on, oc, sA, sn, sc, false, rfl, fun _ => ⟨rfl, rfl⟩, by rw [HC0.out], y3, y4⟩
set_option maxHeartbeats 3000000 in
theorem rmem_no41 {m : Ma} {q base : Nat} {w : World} {R : Ru} {A : Option Addr} {c : Nat} {oA sA : Option Addr} {on oc sn sc : Nat} (n : Int) (rd r1 r2 : Nat) (hn : -9223372036854775808 ≤ n ∧ n < 9223372036854775808) (h1 : r1 < 32) (h2 : r2 < 32) (hd : rd < 32) (h : Rd w base q m R A c (.slice oA on oc) (.slice sA sn sc)) (hb : hasB (m.ad r1 n) 8 m.mem.length = false)  :
    Calls Tryd.prog 34 #[.agg (mcs m q), .agg #[.slice A R.inp.length c, .slice oA on oc, .int .i64 R.checks, .slice sA sn sc], ins 41 rd r1 r2 n] w (RTo w base q m R none) := by
  have hx := h.ok.1
  have cr1 := mcs_x hx q h1
  have hr1 := reg_range h.ok r1
  have had : (m.ad r1 n) = IntKind.u64.wrap (m.x.getD r1 0 + n % 18446744073709551616) := by unfold Ma.ad Ma.reg; rw [IntKind.wrap_u64]
  have hadr : 0 ≤ m.ad r1 n ∧ m.ad r1 n < 18446744073709551616 := by unfold Ma.ad; omega
  have hX1 : ∀ Z, ((w.alloc (Obj.cells (mcs m q) 34)).alloc Z).cell? ⟨w.heap.size, 1 + r1, none⟩ = some (.int .u64 (m.x.getD r1 0)) := fun Z => by rw [cell_of_row _ _ (1 + r1) _ _ _ (aa0 _ _ _)]; exact cr1
  have HH := Lib.hid h
  have HA := Lib.hid hadr
  generalize m.ad r1 n = AT at *
  have hat := had.symm
  unfold Ma.reg at hr1
  generalize m.x.getD r1 0 = x1 at *
  generalize hcs0 : mcs m q = cs0 at *
  have HC0 := Lib.hid hcs0
  clear h hcs0 cr1 hx had hadr
  have hwk : IntKind.i64.wrap (r1 : Int) = r1 := IntWalk.i64_in _ (by omega)
  go_enter Tryd.func34, Tryd.ntmps34
  go_wp2_with fail
  have HI : Hid (∀ k : Nat, ∀ W : World, Calls Tryd.prog 31 #[.int .i64 n] (W.drewN k) fun e w' => e = .returned (.int .u64 (n % 18446744073709551616)) ∧ W.drewN k = w') := Lib.hid fun k W => rimm_any n _ hn
  go_quiet (with_reducible refine (HI.out _ _).mono ?_; rintro e w9 ⟨rfl, rfl⟩; exact ⟨rfl, _, rfl⟩)
  clear HI hX1
  generalize hX : World.drewN (((((w.alloc _).alloc _).alloc _).alloc _).alloc _) nq = X
  have mb : Mb w X cs0 #[.slice A R.inp.length c, .slice oA on oc, .int .i64 R.checks, .slice sA sn sc] 41 rd r1 r2 n := by
    rw [← hX]
    exact ⟨a5_0 _ _ _ _ _ _, a5_1 _ _ _ _ _ _, a5_2 _ _ _ _ _ _, ⟨_, rfl, a5_3 _ _ _ _ _ _⟩, ⟨_, rfl, a5_4 _ _ _ _ _ _⟩, ⟨rfl, rfl, rfl, (bw5 w _ _ _ _ _).size, (bw5 w _ _ _ _ _).block⟩⟩
  clear hX
  have hp := rplace_any (q := q) (w := X) HH.out.ok.1 HH.out.ok.2.1 AT 8 HA.out (Or.inr (Or.inr rfl))
  have hz := mcs_size HH.out.ok.1 q
  have ha := mcs_all m q
  rw [HC0.out] at hp hz ha
  rw [hb] at hp
  have HP := Lib.hid hp; have HZ := Lib.hid hz; have HMB := Lib.hid mb
  clear hp hz mb hb
  go_wp2_with (first
    | ((with_reducible refine ld36 w.heap.size cs0 ?_ ?_ HZ.out ?_); rfl; exact HMB.out.b0)
    | (go_at_call 28; (with_reducible refine HP.out.mono ?_); rintro e X1 ⟨rfl, bp⟩; have HM1 := Lib.hid (HMB.out.grow bp); clear bp)
    | fail)
  obtain ⟨o3, z3, k3⟩ := HM1.out.b3
  obtain ⟨o4, z4, k4⟩ := HM1.out.b4
  have hlb := HH.out.lb
  refine tail7 w.heap.size (w.heap.size + 1) (w.heap.size + 3) (w.heap.size + 4) cs0 #[.slice A R.inp.length c, .slice oA on oc, .int .i64 R.checks, .slice sA sn sc] o3 o4 (.bool false) (by kernel_rfl) (by kernel_rfl) (by kernel_rfl) (by kernel_rfl) (by kernel_rfl) (by kernel_rfl) (by kernel_rfl) (by kernel_rfl) rfl rfl rfl rfl rfl rfl rfl rfl rfl rfl rfl rfl HM1.out.b0 HM1.out.b1 k3 k4 HZ.out rfl z3 z4 ha (by simp [Value.oneCell']) (by omega) (by omega) (HH.out.below HM1.out.below) (w0 := w) (Fw.below HM1.out.below) (by omega) (by omega) ?_
  intro Y y1 y2 y3 y4
  go_wp2_with fail
  exact bodyPost_ret (v := .tuple #[.agg cs0, .agg #[.slice A R.inp.length c, .slice oA on oc, .int .i64 R.checks, .slice sA sn sc], .bool false]) (res_cct Tryd.results34 _ _ _ _ _ _ _ rfl rfl rfl y1 HZ.out y2 rfl) rfl ⟨m, R, A, c, oA, on, oc, sA, sn, sc, false, rfl, fun _ => ⟨rfl, rfl⟩, by rw [HC0.out], y3, y4⟩
set_option maxHeartbeats 3000000 in
theorem rmem_no42 {m : Ma} {q base : Nat} {w : World} {R : Ru} {A : Option Addr} {c : Nat} {oA sA : Option Addr} {on oc sn sc : Nat} (n : Int) (rd r1 r2 : Nat) (hn : -9223372036854775808 ≤ n ∧ n < 9223372036854775808) (h1 : r1 < 32) (h2 : r2 < 32) (hd : rd < 32) (h : Rd w base q m R A c (.slice oA on oc) (.slice sA sn sc)) (hb : hasB (m.ad r1 n) 1 m.mem.length = false)  :
    Calls Tryd.prog 34 #[.agg (mcs m q), .agg #[.slice A R.inp.length c, .slice oA on oc, .int .i64 R.checks, .slice sA sn sc], ins 42 rd r1 r2 n] w (RTo w base q m R none) := by
  have hx := h.ok.1
  have cr1 := mcs_x hx q h1
  have hr1 := reg_range h.ok r1
  have had : (m.ad r1 n) = IntKind.u64.wrap (m.x.getD r1 0 + n % 18446744073709551616) := by unfold Ma.ad Ma.reg; rw [IntKind.wrap_u64]
  have hadr : 0 ≤ m.ad r1 n ∧ m.ad r1 n < 18446744073709551616 := by unfold Ma.ad; omega
  have hX1 : ∀ Z, ((w.alloc (Obj.cells (mcs m q) 34)).alloc Z).cell? ⟨w.heap.size, 1 + r1, none⟩ = some (.int .u64 (m.x.getD r1 0)) := fun Z => by rw [cell_of_row _ _ (1 + r1) _ _ _ (aa0 _ _ _)]; exact cr1
  have HH := Lib.hid h
  have HA := Lib.hid hadr
  generalize m.ad r1 n = AT at *
  have hat := had.symm
  unfold Ma.reg at hr1
  generalize m.x.getD r1 0 = x1 at *
  generalize hcs0 : mcs m q = cs0 at *
  have HC0 := Lib.hid hcs0
  clear h hcs0 cr1 hx had hadr
  have hwk : IntKind.i64.wrap (r1 : Int) = r1 := IntWalk.i64_in _ (by omega)
  go_enter Tryd.func34, Tryd.ntmps34
  go_wp2_with fail
  have HI : Hid (∀ k : Nat, ∀ W : World, Calls Tryd.prog 31 #[.int .i64 n] (W.drewN k) fun e w' => e = .returned (.int .u64 (n % 18446744073709551616)) ∧ W.drewN k = w') := Lib.hid fun k W => rimm_any n _ hn
  go_quiet (with_reducible refine (HI.out _ _).mono ?_; rintro e w9 ⟨rfl, rfl⟩; exact ⟨rfl, _, rfl⟩)
  clear HI hX1
  generalize hX : World.drewN (((((w.alloc _).alloc _).alloc _).alloc _).alloc _) nq = X
  have mb : Mb w X cs0 #[.slice A R.inp.length c, .slice oA on oc, .int .i64 R.checks, .slice sA sn sc] 42 rd r1 r2 n := by
    rw [← hX]
    exact ⟨a5_0 _ _ _ _ _ _, a5_1 _ _ _ _ _ _, a5_2 _ _ _ _ _ _, ⟨_, rfl, a5_3 _ _ _ _ _ _⟩, ⟨_, rfl, a5_4 _ _ _ _ _ _⟩, ⟨rfl, rfl, rfl, (bw5 w _ _ _ _ _).size, (bw5 w _ _ _ _ _).block⟩⟩
  clear hX
  have hp := rplace_any (q := q) (w := X) HH.out.ok.1 HH.out.ok.2.1 AT 1 HA.out (Or.inl rfl)
  have hz := mcs_size HH.out.ok.1 q
  have ha := mcs_all m q
  rw [HC0.out] at hp hz ha
  rw [hb] at hp
  have HP := Lib.hid hp; have HZ := Lib.hid hz; have HMB := Lib.hid mb
  clear hp hz mb hb
  go_wp2_with (first
    | ((with_reducible refine ld36 w.heap.size cs0 ?_ ?_ HZ.out ?_); rfl; exact HMB.out.b0)
    | (go_at_call 28; (with_reducible refine HP.out.mono ?_); rintro e X1 ⟨rfl, bp⟩; have HM1 := Lib.hid (HMB.out.grow bp); clear bp)
    | fail)
  obtain ⟨o3, z3, k3⟩ := HM1.out.b3
  obtain ⟨o4, z4, k4⟩ := HM1.out.b4
  have hlb := HH.out.lb
  refine tail7 w.heap.size (w.heap.size + 1) (w.heap.size + 3) (w.heap.size + 4) cs0 #[.slice A R.inp.length c, .slice oA on oc, .int .i64 R.checks, .slice sA sn sc] o3 o4 (.bool false) (by kernel_rfl) (by kernel_rfl) (by kernel_rfl) (by kernel_rfl) (by kernel_rfl) (by kernel_rfl) (by kernel_rfl) (by kernel_rfl) rfl rfl rfl rfl rfl rfl rfl rfl rfl rfl rfl rfl HM1.out.b0 HM1.out.b1 k3 k4 HZ.out rfl z3 z4 ha (by simp [Value.oneCell']) (by omega) (by omega) (HH.out.below HM1.out.below) (w0 := w) (Fw.below HM1.out.below) (by omega) (by omega) ?_
  intro Y y1 y2 y3 y4
  go_wp2_with fail
  exact bodyPost_ret (v := .tuple #[.agg cs0, .agg #[.slice A R.inp.length c, .slice oA on oc, .int .i64 R.checks, .slice sA sn sc], .bool false]) (res_cct Tryd.results34 _ _ _ _ _ _ _ rfl rfl rfl y1 HZ.out y2 rfl) rfl ⟨m, R, A, c, oA, on, oc, sA, sn, sc, false, rfl, fun _ => ⟨rfl, rfl⟩, by rw [HC0.out], y3, y4⟩
set_option maxHeartbeats 3000000 in
theorem rmem_no43 {m : Ma} {q base : Nat} {w : World} {R : Ru} {A : Option Addr} {c : Nat} {oA sA : Option Addr} {on oc sn sc : Nat} (n : Int) (rd r1 r2 : Nat) (hn : -9223372036854775808 ≤ n ∧ n < 9223372036854775808) (h1 : r1 < 32) (h2 : r2 < 32) (hd : rd < 32) (h : Rd w base q m R A c (.slice oA on oc) (.slice sA sn sc)) (hb : hasB (m.ad r1 n) 4 m.mem.length = false)  :
    Calls Tryd.prog 34 #[.agg (mcs m q), .agg #[.slice A R.inp.length c, .slice oA on oc, .int .i64 R.checks, .slice sA sn sc], ins 43 rd r1 r2 n] w (RTo w base q m R none) := by
  have hx := h.ok.1
  have cr1 := mcs_x hx q h1
  have hr1 := reg_range h.ok r1
  have had : (m.ad r1 n) = IntKind.u64.wrap (m.x.getD r1 0 + n % 18446744073709551616) := by unfold Ma.ad Ma.reg; rw [IntKind.wrap_u64]
  have hadr : 0 ≤ m.ad r1 n ∧ m.ad r1 n < 18446744073709551616 := by unfold Ma.ad; omega
  have hX1 : ∀ Z, ((w.alloc (Obj.cells (mcs m q) 34)).alloc Z).cell? ⟨w.heap.size, 1 + r1, none⟩ = some (.int .u64 (m.x.getD r1 0)) := fun Z => by rw [cell_of_row _ _ (1 + r1) _ _ _ (aa0 _ _ _)]; exact cr1
  have HH := Lib.hid h
  have HA := Lib.hid hadr
  generalize m.ad r1 n = AT at *
  have hat := had.symm
  unfold Ma.reg at hr1
  generalize m.x.getD r1 0 = x1 at *
  generalize hcs0 : mcs m q = cs0 at *
  have HC0 := Lib.hid hcs0
  clear h hcs0 cr1 hx had hadr
  have hwk : IntKind.i64.wrap (r1 : Int) = r1 := IntWalk.i64_in _ (by omega)
  go_enter Tryd.func34, Tryd.ntmps34
  go_wp2_with fail
  have HI : Hid (∀ k : Nat, ∀ W : World, Calls Tryd.prog 31 #[.int .i64 n] (W.drewN k) fun e w' => e = .returned (.int .u64 (n % 18446744073709551616)) ∧ W.drewN k = w') := Lib.hid fun k W => rimm_any n _ hn
  go_quiet (with_reducible refine (HI.out _ _).mono ?_; rintro e w9 ⟨rfl, rfl⟩; exact ⟨rfl, _, rfl⟩)
  clear HI hX1
  generalize hX : World.drewN (((((w.alloc _).alloc _).alloc _).alloc _).alloc _) nq = X
  have mb : Mb w X cs0 #[.slice A R.inp.length c, .slice oA on oc, .int .i64 R.checks, .slice sA sn sc] 43 rd r1 r2 n := by
    rw [← hX]
    exact ⟨a5_0 _ _ _ _ _ _, a5_1 _ _ _ _ _ _, a5_2 _ _ _ _ _ _, ⟨_, rfl, a5_3 _ _ _ _ _ _⟩, ⟨_, rfl, a5_4 _ _ _ _ _ _⟩, ⟨rfl, rfl, rfl, (bw5 w _ _ _ _ _).size, (bw5 w _ _ _ _ _).block⟩⟩
  clear hX
  have hp := rplace_any (q := q) (w := X) HH.out.ok.1 HH.out.ok.2.1 AT 4 HA.out (Or.inr (Or.inl rfl))
  have hz := mcs_size HH.out.ok.1 q
  have ha := mcs_all m q
  rw [HC0.out] at hp hz ha
  rw [hb] at hp
  have HP := Lib.hid hp; have HZ := Lib.hid hz; have HMB := Lib.hid mb
  clear hp hz mb hb
  go_wp2_with (first
    | ((with_reducible refine ld36 w.heap.size cs0 ?_ ?_ HZ.out ?_); rfl; exact HMB.out.b0)
    | (go_at_call 28; (with_reducible refine HP.out.mono ?_); rintro e X1 ⟨rfl, bp⟩; have HM1 := Lib.hid (HMB.out.grow bp); clear bp)
    | fail)
  obtain ⟨o3, z3, k3⟩ := HM1.out.b3
  obtain ⟨o4, z4, k4⟩ := HM1.out.b4
  have hlb := HH.out.lb
  refine tail7 w.heap.size (w.heap.size + 1) (w.heap.size + 3) (w.heap.size + 4) cs0 #[.slice A R.inp.length c, .slice oA on oc, .int .i64 R.checks, .slice sA sn sc] o3 o4 (.bool false) (by kernel_rfl) (by kernel_rfl) (by kernel_rfl) (by kernel_rfl) (by kernel_rfl) (by kernel_rfl) (by kernel_rfl) (by kernel_rfl) rfl rfl rfl rfl rfl rfl rfl rfl rfl rfl rfl rfl HM1.out.b0 HM1.out.b1 k3 k4 HZ.out rfl z3 z4 ha (by simp [Value.oneCell']) (by omega) (by omega) (HH.out.below HM1.out.below) (w0 := w) (Fw.below HM1.out.below) (by omega) (by omega) ?_
  intro Y y1 y2 y3 y4
  go_wp2_with fail
  exact bodyPost_ret (v := .tuple #[.agg cs0, .agg #[.slice A R.inp.length c, .slice oA on oc, .int .i64 R.checks, .slice sA sn sc], .bool false]) (res_cct Tryd.results34 _ _ _ _ _ _ _ rfl rfl rfl y1 HZ.out y2 rfl) rfl ⟨m, R, A, c, oA, on, oc, sA, sn, sc, false, rfl, fun _ => ⟨rfl, rfl⟩, by rw [HC0.out], y3, y4⟩
set_option maxHeartbeats 3000000 in
theorem rmem_no44 {m : Ma} {q base : Nat} {w : World} {R : Ru} {A : Option Addr} {c : Nat} {oA sA : Option Addr} {on oc sn sc : Nat} (n : Int) (rd r1 r2 : Nat) (hn : -9223372036854775808 ≤ n ∧ n < 9223372036854775808) (h1 : r1 < 32) (h2 : r2 < 32) (hd : rd < 32) (h : Rd w base q m R A c (.slice oA on oc) (.slice sA sn sc)) (hb : hasB (m.ad r1 n) 8 m.mem.length = false)  :
    Calls Tryd.prog 34 #[.agg (mcs m q), .agg #[.slice A R.inp.length c, .slice oA on oc, .int .i64 R.checks, .slice sA sn sc], ins 44 rd r1 r2 n] w (RTo w base q m R none) := by
  have hx := h.ok.1
  have cr1 := mcs_x hx q h1
  have hr1 := reg_range h.ok r1
  have had : (m.ad r1 n) = IntKind.u64.wrap (m.x.getD r1 0 + n % 18446744073709551616) := by unfold Ma.ad Ma.reg; rw [IntKind.wrap_u64]
  have hadr : 0 ≤ m.ad r1 n ∧ m.ad r1 n < 18446744073709551616 := by unfold Ma.ad; omega
  have hX1 : ∀ Z, ((w.alloc (Obj.cells (mcs m q) 34)).alloc Z).cell? ⟨w.heap.size, 1 + r1, none⟩ = some (.int .u64 (m.x.getD r1 0)) := fun Z => by rw [cell_of_row _ _ (1 + r1) _ _ _ (aa0 _ _ _)]; exact cr1
  have HH := Lib.hid h
  have HA := Lib.hid hadr
  generalize m.ad r1 n = AT at *
  have hat := had.symm
  unfold Ma.reg at hr1
  generalize m.x.getD r1 0 = x1 at *
  generalize hcs0 : mcs m q = cs0 at *
  have HC0 := Lib.hid hcs0
  clear h hcs0 cr1 hx had hadr
  have hwk : IntKind.i64.wrap (r1 : Int) = r1 := IntWalk.i64_in _ (by omega)
  go_enter Tryd.func34, Tryd.ntmps34
  go_wp2_with fail
  have HI : Hid (∀ k : Nat, ∀ W : World, Calls Tryd.prog 31 #[.int .i64 n] (W.drewN k) fun e w' => e = .returned (.int .u64 (n % 18446744073709551616)) ∧ W.drewN k = w') := Lib.hid fun k W => rimm_any n _ hn
  go_quiet (with_reducible refine (HI.out _ _).mono ?_; rintro e w9 ⟨rfl, rfl⟩; exact ⟨rfl, _, rfl⟩)
  clear HI hX1
  generalize hX : World.drewN (((((w.alloc _).alloc _).alloc _).alloc _).alloc _) nq = X
  have mb : Mb w X cs0 #[.slice A R.inp.length c, .slice oA on oc, .int .i64 R.checks, .slice sA sn sc] 44 rd r1 r2 n := by
    rw [← hX]
    exact ⟨a5_0 _ _ _ _ _ _, a5_1 _ _ _ _ _ _, a5_2 _ _ _ _ _ _, ⟨_, rfl, a5_3 _ _ _ _ _ _⟩, ⟨_, rfl, a5_4 _ _ _ _ _ _⟩, ⟨rfl, rfl, rfl, (bw5 w _ _ _ _ _).size, (bw5 w _ _ _ _ _).block⟩⟩
  clear hX
  have hp := rplace_any (q := q) (w := X) HH.out.ok.1 HH.out.ok.2.1 AT 8 HA.out (Or.inr (Or.inr rfl))
  have hz := mcs_size HH.out.ok.1 q
  have ha := mcs_all m q
  rw [HC0.out] at hp hz ha
  rw [hb] at hp
  have HP := Lib.hid hp; have HZ := Lib.hid hz; have HMB := Lib.hid mb
  clear hp hz mb hb
  go_wp2_with (first
    | ((with_reducible refine ld36 w.heap.size cs0 ?_ ?_ HZ.out ?_); rfl; exact HMB.out.b0)
    | (go_at_call 28; (with_reducible refine HP.out.mono ?_); rintro e X1 ⟨rfl, bp⟩; have HM1 := Lib.hid (HMB.out.grow bp); clear bp)
    | fail)
  obtain ⟨o3, z3, k3⟩ := HM1.out.b3
  obtain ⟨o4, z4, k4⟩ := HM1.out.b4
  have hlb := HH.out.lb
  refine tail7 w.heap.size (w.heap.size + 1) (w.heap.size + 3) (w.heap.size + 4) cs0 #[.slice A R.inp.length c, .slice oA on oc, .int .i64 R.checks, .slice sA sn sc] o3 o4 (.bool false) (by kernel_rfl) (by kernel_rfl) (by kernel_rfl) (by kernel_rfl) (by kernel_rfl) (by kernel_rfl) (by kernel_rfl) (by kernel_rfl) rfl rfl rfl rfl rfl rfl rfl rfl rfl rfl rfl rfl HM1.out.b0 HM1.out.b1 k3 k4 HZ.out rfl z3 z4 ha (by simp [Value.oneCell']) (by omega) (by omega) (HH.out.below HM1.out.below) (w0 := w) (Fw.below HM1.out.below) (by omega) (by omega) ?_
  intro Y y1 y2 y3 y4
  go_wp2_with fail
  exact bodyPost_ret (v := .tuple #[.agg cs0, .agg #[.slice A R.inp.length c, .slice oA on oc, .int .i64 R.checks, .slice sA sn sc], .bool false]) (res_cct Tryd.results34 _ _ _ _ _ _ _ rfl rfl rfl y1 HZ.out y2 rfl) rfl ⟨m, R, A, c, oA, on, oc, sA, sn, sc, false, rfl, fun _ => ⟨rfl, rfl⟩, by rw [HC0.out], y3, y4⟩
end Go.Proofs.YtppcbommaddkgaaDoor
namespace Go.Proofs.YtppcbommaddkgaaDoor
open Go.RowKit Go.Maps
set_option linter.unusedVariables false
set_option linter.unusedSimpArgs false
set_option maxRecDepth 10000
open Pm Pc Pl
/-- The rows of the boxes alone. -/
structure Mr (w X : World) (cs rv : Array Value) (op rd r1 r2 n : Int) : Prop where
  b0 : X.heap[w.heap.size]? = some (.cells cs 34)
  b1 : X.heap[w.heap.size + 1]? = some (.cells rv 71)
  b2 : X.heap[w.heap.size + 2]? = some (.cells #[.int .i64 op, .int .i64 rd, .int .i64 r1, .int .i64 r2, .int .i64 n] 49)
  b3 : ∃ old : Array Value, old.size = 36 ∧ X.heap[w.heap.size + 3]? = some (.cells old 34)
  b4 : ∃ old : Array Value, old.size = 4 ∧ X.heap[w.heap.size + 4]? = some (.cells old 71)
theorem Mr.keep {w X X' : World} {cs rv : Array Value} {op rd r1 r2 n : Int} (h : Mr w X cs rv op rd r1 r2 n) (hk : ∀ i, i < 5 → X'.heap[w.heap.size + i]? = X.heap[w.heap.size + i]?) : Mr w X' cs rv op rd r1 r2 n := by
  obtain ⟨o3, z3, h3⟩ := h.b3
  obtain ⟨o4, z4, h4⟩ := h.b4
  exact ⟨(hk 0 (by omega)).trans h.b0, (hk 1 (by omega)).trans h.b1, (hk 2 (by omega)).trans h.b2, ⟨o3, z3, (hk 3 (by omega)).trans h3⟩, ⟨o4, z4, (hk 4 (by omega)).trans h4⟩⟩
theorem Mr.cell {w X : World} {cs rv rv' : Array Value} {op rd r1 r2 n : Int} {i : Nat} {x : Value} (h : Mr w X cs rv op rd r1 r2 n) (hrv : rv.setIfInBounds i x = rv') : Mr w (X.setCell ⟨w.heap.size + 1, i, none⟩ x) cs rv' op rd r1 r2 n := by
  obtain ⟨o3, z3, h3⟩ := h.b3
  obtain ⟨o4, z4, h4⟩ := h.b4
  have ho : ∀ g, g ≠ w.heap.size + 1 → (X.setCell ⟨w.heap.size + 1, i, none⟩ x).heap[g]? = X.heap[g]? := fun g hne => Below.heap_setCell _ _ _ _ hne
  exact ⟨(ho _ (by omega)).trans h.b0, by rw [heap_setCell_same _ _ _ _ _ _ h.b1, hrv], (ho _ (by omega)).trans h.b2, ⟨o3, z3, (ho _ (by omega)).trans h3⟩, ⟨o4, z4, (ho _ (by omega)).trans h4⟩⟩
theorem Mb.rows {w X : World} {cs rv : Array Value} {op rd r1 r2 n : Int} (h : Mb w X cs rv op rd r1 r2 n) : Mr w X cs rv op rd r1 r2 n := ⟨h.b0, h.b1, h.b2, h.b3, h.b4⟩
theorem rd_seen {w X w1 : World} {base q : Nat} {m : Ma} {R : Ru} {A : Option Addr} {c : Nat} {ov sv sv' : Value} {a : Ac} (h : Rd w base q m R A c ov sv) (hb : Below w.heap.size w X) (hg : X.grownBy w1 sv.ownBlock) (ho : w1.ownsRow base 81 4 sv' (R.seen.length + 1) (accs R.seen ++ accs [a])) (hl : R.seen.length + 1 < 1099511627776) :
    Rd w1 base q m (R.note a) A c ov sv' ∧ Fw base q w w1 := by
  have hX := h.below hb
  have hn : R.note a = { R with seen := R.seen ++ [a] } := by unfold Ru.note; rw [h.wat]; rfl
  rw [hn]
  have hlow : ∀ g, g < X.heap.size → g < base → w1.heap[g]? = X.heap[g]? := fun g h1 h2 => hg.block g h1 fun e => own_base h.seen h2 e.symm
  refine ⟨⟨(hlow q (lt_of_at hX.mem) h.lq).trans hX.mem, h.ok, ?_, ?_, hX.inp.at_ fun g h1 h2 _ _ => hlow g h1 h2, h.cap, h.wat, h.lq, Nat.le_trans hX.lb hg.size, h.lo, by simpa using hl⟩, ⟨hg.os.trans hb.os, hg.tape.trans hb.tape, hg.output.trans hb.output, Nat.le_trans hb.size hg.size, fun k h1 h2 _ _ => (hlow k (Nat.lt_of_lt_of_le h1 hb.size) h2).trans (hb.block k h1)⟩, fun k h1 hx => by
    obtain ⟨cs, t, t1, t2, hk⟩ := hx
    have hc := (hb.block k h1).trans hk
    exact (hg.block k (lt_of_at hc) (fun e => own_ne hX.seen hc (fun cur' he => by injection he with he1 he2; exact t2 he2) e.symm)).trans (hb.block k h1)⟩
  · exact ownsRow_at2 hX.out fun g cur _ hc => (hg.block g (lt_of_at hc) (fun e => own_ne hX.seen hc (fun cur' he => by injection he with _ he; exact absurd he (by decide)) e.symm)).trans hc
  · have e1 : accs (R.seen ++ [a]) = accs R.seen ++ accs [a] := by simp [accs]
    have e2 : (R.seen ++ [a]).length = R.seen.length + 1 := by simp
    show w1.ownsRow base _ 4 sv' (R.seen ++ [a]).length (accs (R.seen ++ [a]))
    rw [e1, e2]; exact ho
theorem mcs_mem {m : Ma} {l : List Int} (h : l.length = m.mem.length) (q : Nat) : mcs { m with mem := l } q = mcs m q := by unfold mcs Ma.cells; rw [h]
theorem put_ok {m : Ma} (h : m.ok) (a : Nat) (x : Int) (k : Nat) : Ma.ok { m with mem := putV m.mem a x k } := by
  refine ⟨h.1, by show (putV m.mem a x k).length ≤ _; rw [putV_len]; exact h.2.1, h.2.2.1, ?_, h.2.2.2.2⟩
  show ∀ b ∈ putV m.mem a x k, 0 ≤ b ∧ b < 256
  induction k with
  | zero => exact h.2.2.2.1
  | succ k ih =>
    intro b hb
    rw [putV] at hb
    rcases List.mem_or_eq_of_mem_set hb with hb | rfl
    · exact ih b hb
    · omega
theorem note_inp (R : Ru) (a : Ac) : (R.note a).inp = R.inp ∧ (R.note a).checks = R.checks := by unfold Ru.note; split <;> exact ⟨rfl, rfl⟩
theorem rd_store {w w' : World} {base q : Nat} {m m' : Ma} {R : Ru} {A : Option Addr} {c : Nat} {ov sv : Value} (h : Rd w base q m R A c ov sv) (hf : Fr [q] w w') (hm : w'.heap[q]? = some (.cells (u8s m'.mem).toArray 5)) (hok : m'.ok) : Rd w' base q m' R A c ov sv := by
  have hq := h.lq
  exact ⟨hm, hok, ownsRow_at2 h.out fun g cur hg hc => hf.at_ hc (by simp; omega), ownsRow_at2 h.seen fun g cur hg hc => hf.at_ hc (by simp; omega), h.inp.at_ fun g h1 h2 h3 _ => hf.block g h1 (by simpa using h3), h.cap, h.wat, h.lq, Nat.le_trans h.lb hf.size, h.lo, h.ls⟩
set_option maxHeartbeats 3000000 in
theorem rmem_st42 {m : Ma} {q base : Nat} {w : World} {R : Ru} {A : Option Addr} {c : Nat} {oA sA : Option Addr} {on oc sn sc : Nat} (n : Int) (rd r1 r2 : Nat) (hn : -9223372036854775808 ≤ n ∧ n < 9223372036854775808) (h1 : r1 < 32) (h2 : r2 < 32) (hd : rd < 32) (h : Rd w base q m R A c (.slice oA on oc) (.slice sA sn sc)) (hb : hasB (m.ad r1 n) 1 m.mem.length = true) (hls : R.seen.length + 1 < 1099511627776)  :
    Calls Tryd.prog 34 #[.agg (mcs m q), .agg #[.slice A R.inp.length c, .slice oA on oc, .int .i64 R.checks, .slice sA sn sc], ins 42 rd r1 r2 n] w (RTo w base q m R (some ({ m with mem := putV m.mem (m.ad r1 n).toNat (m.reg r2) 1 }, R.note ⟨m.pl, m.ad r1 n, 1, true⟩))) := by
  have hx := h.ok.1
  have cr1 := mcs_x hx q h1
  have hr1 := reg_range h.ok r1
  have had : (m.ad r1 n) = IntKind.u64.wrap (m.x.getD r1 0 + n % 18446744073709551616) := by unfold Ma.ad Ma.reg; rw [IntKind.wrap_u64]
  have hadr : 0 ≤ m.ad r1 n ∧ m.ad r1 n < 18446744073709551616 := by unfold Ma.ad; omega
  have hX1 : ∀ Z, ((w.alloc (Obj.cells (mcs m q) 34)).alloc Z).cell? ⟨w.heap.size, 1 + r1, none⟩ = some (.int .u64 (m.x.getD r1 0)) := fun Z => by rw [cell_of_row _ _ (1 + r1) _ _ _ (aa0 _ _ _)]; exact cr1
  have HH := Lib.hid h
  have HA := Lib.hid hadr
  generalize m.ad r1 n = AT at *
  have hat := had.symm
  unfold Ma.reg at hr1
  generalize m.x.getD r1 0 = x1 at *
  generalize hcs0 : mcs m q = cs0 at *
  have HC0 := Lib.hid hcs0
  clear h hcs0 cr1 hx had hadr
  have hwk : IntKind.i64.wrap (r1 : Int) = r1 := IntWalk.i64_in _ (by omega)
  go_enter Tryd.func34, Tryd.ntmps34
  go_wp2_with fail
  have HI : Hid (∀ k : Nat, ∀ W : World, Calls Tryd.prog 31 #[.int .i64 n] (W.drewN k) fun e w' => e = .returned (.int .u64 (n % 18446744073709551616)) ∧ W.drewN k = w') := Lib.hid fun k W => rimm_any n _ hn
  go_quiet (with_reducible refine (HI.out _ _).mono ?_; rintro e w9 ⟨rfl, rfl⟩; exact ⟨rfl, _, rfl⟩)
  clear HI hX1
  generalize hX : World.drewN (((((w.alloc _).alloc _).alloc _).alloc _).alloc _) nq = X
  have mb : Mb w X cs0 #[.slice A R.inp.length c, .slice oA on oc, .int .i64 R.checks, .slice sA sn sc] 42 rd r1 r2 n := by
    rw [← hX]
    exact ⟨a5_0 _ _ _ _ _ _, a5_1 _ _ _ _ _ _, a5_2 _ _ _ _ _ _, ⟨_, rfl, a5_3 _ _ _ _ _ _⟩, ⟨_, rfl, a5_4 _ _ _ _ _ _⟩, ⟨rfl, rfl, rfl, (bw5 w _ _ _ _ _).size, (bw5 w _ _ _ _ _).block⟩⟩
  clear hX
  have cr2 := mcs_x HH.out.ok.1 q h2
  rw [HC0.out] at cr2
  have hrx := reg_range HH.out.ok r2
  have hreg : m.reg r2 = m.x.getD r2 0 := rfl
  rw [hreg] at hrx
  generalize hx2 : m.x.getD r2 0 = x2 at *
  have HX2 := Lib.hid hx2
  clear hx2
  have hwk2 : IntKind.i64.wrap (r2 : Int) = r2 := IntWalk.i64_in _ (by omega)
  have hfit : AT + 1 ≤ m.mem.length := by unfold hasB at hb; exact (of_decide_eq_true hb).2
  obtain ⟨AN, rfl⟩ := Int.eq_ofNat_of_zero_le HA.out.1
  have hp := rplace_any (q := q) (w := X) HH.out.ok.1 HH.out.ok.2.1 (AN : Int) 1 HA.out (Or.inl rfl)
  have hz := mcs_size HH.out.ok.1 q
  have ha := mcs_all m q
  rw [HC0.out] at hp hz ha
  rw [hb] at hp
  have HP := Lib.hid hp; have HZ := Lib.hid hz; have HMB := Lib.hid mb
  clear hp hz mb hb
  go_wp2_with (first
    | ((with_reducible refine ld36 w.heap.size cs0 ?_ ?_ HZ.out ?_); rfl; exact HMB.out.b0)
    | fail)
  with_reducible refine HP.out.mono ?_
  rintro e X1 ⟨rfl, bp⟩
  have HM1 := Lib.hid (HMB.out.grow bp)
  clear bp HP HMB
  obtain ⟨i0, hi0, hz0, hz1, hz2⟩ := info_parts infoAcc
  have c33 := mcs_33 HH.out.ok.1 q
  rw [HC0.out] at c33
  have HV := Lib.hid (own_lt HH.out.seen)
  have hown := ownsRow_at2 HH.out.seen fun g cur _ hg => (HM1.out.below.block g (lt_of_at hg)).trans hg
  have q3 : X1.cell? ⟨w.heap.size + 1, 3, none⟩ = some (.slice sA sn sc) := by rw [cell_of_row _ _ 3 _ _ _ HM1.out.b1]; rfl
  have q33 : X1.cell? ⟨w.heap.size, 33, none⟩ = some (.int .u64 m.pl) := by rw [cell_of_row _ _ 33 _ _ _ HM1.out.b0]; exact c33
  have q0 : X1.cell? ⟨w.heap.size + 2, 0, none⟩ = some (.int .i64 42) := by rw [cell_of_row _ _ 0 _ _ _ HM1.out.b2]; rfl
  have hlb := HH.out.lb
  have hsz := HM1.out.below.size
  have hb4 := lt_of_at HM1.out.b4.choose_spec.2
  generalize hpl : m.pl = PL at *
  have HPL := Lib.hid hpl
  clear c33 hpl
  go_wp2_with (at_builtin; refine wpList_append_lies (o := ⟨some 58, _, _, _, _, _⟩) _ rfl (.tmp 48) (.tmp 57) 41 rfl base 81 i0 _ 4 32 Tryd.underlying41 hi0 hz0 hz1 hz2 rfl (by omega) (.slice sA sn sc) R.seen.length (accs R.seen) rfl (hown.alloc _) ⟨X1.heap.size, 0, none⟩ 1 1 [.int .u64 PL, .int .u64 (AN : Int), .int .i64 1, .bool true] rfl rfl (World.news_of_block (cs := #[.int .u64 PL, .int .u64 (AN : Int), .int .i64 1, .bool true]) (t := 81) (fr := (0, 0)) (heap_alloc_new X1 _)) (by simp [Value.oneCell']) (by omega) (by unfold maxLen; omega) (by omega) (by simp only [szA]; omega) (X1.heap.size + 1) (szA _ _) ?_; intro g cap w2 hown2 hgrow hat2 hlt; have HM2 : Hid (Mr w w2 cs0 #[.slice A R.inp.length c, .slice oA on oc, .int .i64 R.checks, .slice sA sn sc] 42 rd r1 r2 n) := Lib.hid (HM1.out.rows.keep fun i hi => (by rw [hgrow.block (w.heap.size + i) (by simp only [szA]; omega) (fun e => HV.out _ (by omega) e.symm), Below.heap_alloc _ _ _ (by omega)])); have u1 : w2.cell? ⟨w.heap.size + 1, 3, none⟩ = some (.slice sA sn sc) := (by rw [cell_of_row _ _ 3 _ _ _ HM2.out.b1]; rfl); have u2 : w2.frozen? ⟨w.heap.size + 1, 3, none⟩ = false := frozen_of_row _ _ 3 _ _ HM2.out.b1; have v0 : (w2.setCell ⟨w.heap.size + 1, 3, none⟩ (.slice (some ⟨g, 0, none⟩) (R.seen.length + 1) cap)).cell? ⟨w.heap.size + 2, 0, none⟩ = some (.int .i64 42) := (by rw [cell_of_row _ _ 0 _ _ _ (HM2.out.cell (i := 3) rfl).b2]; rfl); have v3 : (w2.setCell ⟨w.heap.size + 1, 3, none⟩ (.slice (some ⟨g, 0, none⟩) (R.seen.length + 1) cap)).cell? ⟨w.heap.size + 2, 3, none⟩ = some (.int .i64 r2) := (by rw [cell_of_row _ _ 3 _ _ _ (HM2.out.cell (i := 3) rfl).b2]; rfl); have vx : (w2.setCell ⟨w.heap.size + 1, 3, none⟩ (.slice (some ⟨g, 0, none⟩) (R.seen.length + 1) cap)).cell? ⟨w.heap.size, 1 + r2, none⟩ = some (.int .u64 x2) := (by rw [cell_of_row _ _ (1 + r2) _ _ _ (HM2.out.cell (i := 3) rfl).b0]; exact cr2))
  obtain ⟨hR2, hF2⟩ := rd_seen (a := ⟨PL, AN, 1, true⟩) HH.out (HM1.out.below.alloc HM1.out.below.size _) hgrow hown2 hls
  have hR3 := rd_cell (i := 3) (x := .slice (some ⟨g, 0, none⟩) (R.seen.length + 1) cap) hR2 HM2.out.b1 (by omega)
  have hF3 := fb_cell (i := 3) (x := .slice (some ⟨g, 0, none⟩) (R.seen.length + 1) cap) hF2 (b := w.heap.size + 1) (by omega)
  have hM3 : Mr w (w2.setCell ⟨w.heap.size + 1, 3, none⟩ (.slice (some ⟨g, 0, none⟩) (R.seen.length + 1) cap)) cs0 #[.slice A R.inp.length c, .slice oA on oc, .int .i64 R.checks, .slice (some ⟨g, 0, none⟩) (R.seen.length + 1) cap] 42 rd r1 r2 n := HM2.out.cell rfl
  generalize hw3 : w2.setCell ⟨w.heap.size + 1, 3, none⟩ (.slice (some ⟨g, 0, none⟩) (R.seen.length + 1) cap) = w3 at *
  have HR3 := Lib.hid hR3; have HF3 := Lib.hid hF3; have HM3 := Lib.hid hM3
  have HFIT := Lib.hid hfit
  have c0 := mcs_0 m q
  rw [HC0.out] at c0
  have hN := HH.out.ok.2.1
  obtain ⟨N, hNe⟩ : ∃ N, m.mem.length = N := ⟨_, rfl⟩
  have HN := Lib.hid hNe
  rw [hNe] at c0 hN hfit
  have hlq := HH.out.lq
  clear hR3 hF3 hM3 hR2 hF2 u1 u2 v0 v3 vx hown hown2 hgrow q3 q33 q0 hNe
  go_loopw [11, 12] (fun x k wr => ∃ j : Nat, j ≤ 1 ∧ k = .int .i64 j ∧ x = .int .u64 (x2 / 256 ^ j) ∧ wr.heap[q]? = some (.cells (u8s (putV m.mem AN x2 j)).toArray 5) ∧ Fr [q] w3 wr) (fun _ k _ => 1 - (intOf k).toNat)
  case atStart => exact ⟨0, Nat.zero_le _, rfl, by simp, HR3.out.mem, Fr.refl _ _⟩
  case round =>
    obtain ⟨j, hj, rfl, rfl, hq, hf⟩ := hrel
    have hb0 := hf.at_ HM3.out.b0 (by simp; omega)
    have d0 : wr.cell? ⟨w.heap.size, 0, none⟩ = some (.slice (some ⟨q, 0, none⟩) N N) := by rw [cell_of_row _ _ 0 _ _ _ hb0]; exact c0
    have hxr : 0 ≤ x2 / 256 ^ j ∧ x2 / 256 ^ j ≤ x2 := ⟨Int.ediv_nonneg hrx.1 (Int.le_of_lt (Int.pow_pos (by decide))), Int.ediv_le_self _ hrx.1⟩
    by_cases hlt : j < 1
    · have hjn : (AN : Nat) + j < N := by omega
      have d1 : wr.cell? ⟨q, AN + j, none⟩ = some (.int .u8 ((putV m.mem AN x2 j).getD (AN + j) 0)) := by rw [cell_of_row wr _ (AN + j) _ _ _ hq]; exact u8s_at _ _ (by rw [putV_len, HN.out]; omega)
      have d2 : wr.frozen? ⟨q, AN + j, none⟩ = false := frozen_of_row wr _ (AN + j) _ _ hq
      generalize (putV m.mem AN x2 j).getD (AN + j) 0 = old at *
      have hst : (u8s (putV m.mem AN x2 j)).toArray.setIfInBounds (AN + j) (.int .u8 (x2 / 256 ^ j % 256)) = (u8s (putV m.mem AN x2 (j + 1))).toArray := by rw [u8s_set, putV]
      have hdv : x2 / 256 ^ (j + 1) = x2 / 256 ^ j / 256 := by rw [Int.pow_succ, Int.ediv_ediv_of_nonneg (by exact Int.le_of_lt (Int.pow_pos (by decide)))]
      have HDV := Lib.hid hdv; have HST := Lib.hid hst; have HQ := Lib.hid hq; have HF := Lib.hid hf
      clear hdv hst hq hf hb0
      generalize x2 / 256 ^ j = xv at *
      go_wp2_with fail
      go_roundw
      case rel => exact ⟨j + 1, by omega, by go_num, by rw [HDV.out], by rw [heap_setCell_same _ _ _ _ _ _ HQ.out, HST.out], HF.out.trans (Fr.set _ _ _ _ (by simp))⟩
      case measure => simp [intOf]; omega
    · obtain rfl : j = 1 := by omega
      have hm4 : Mr w wr cs0 #[.slice A R.inp.length c, .slice oA on oc, .int .i64 R.checks, .slice (some ⟨g, 0, none⟩) (R.seen.length + 1) cap] 42 rd r1 r2 n := HM3.out.keep fun i hi => hf.block (w.heap.size + i) (by
        have h5 := lt_of_at HM3.out.b4.choose_spec.2
        omega) (by simp; omega)
      have hok4 : Ma.ok { m with mem := putV m.mem AN x2 1 } := put_ok HH.out.ok AN x2 1
      have hR4 : Rd wr base q { m with mem := putV m.mem AN x2 1 } (R.note ⟨PL, AN, 1, true⟩) A c (.slice oA on oc) (.slice (some ⟨g, 0, none⟩) (R.seen.length + 1) cap) := rd_store HR3.out hf hq hok4
      have hF4 : Fw base q w wr := HF3.out.trans (Fw.of hf HR3.out.mem)
      have hcs : mcs { m with mem := putV m.mem AN x2 1 } q = cs0 := (mcs_mem (putV_len _ _ _ _) q).trans HC0.out
      have HM4 := Lib.hid hm4; have HR4 := Lib.hid hR4; have HF4 := Lib.hid hF4; have HCS := Lib.hid hcs
      obtain ⟨o3, z3, k3⟩ := HM4.out.b3
      obtain ⟨o4, z4, k4⟩ := HM4.out.b4
      have K3 := Lib.hid k3; have K4 := Lib.hid k4
      clear hm4 hR4 hF4 hcs hq hf hb0 d0 hok4 k3 k4
      go_wp2_with fail
      refine tail7 w.heap.size (w.heap.size + 1) (w.heap.size + 3) (w.heap.size + 4) cs0 #[.slice A R.inp.length c, .slice oA on oc, .int .i64 R.checks, .slice (some ⟨g, 0, none⟩) (R.seen.length + 1) cap] o3 o4 (.bool true) (by kernel_rfl) (by kernel_rfl) (by kernel_rfl) (by kernel_rfl) (by kernel_rfl) (by kernel_rfl) (by kernel_rfl) (by kernel_rfl) rfl rfl rfl rfl rfl rfl rfl rfl rfl rfl rfl rfl HM4.out.b0 HM4.out.b1 K3.out K4.out HZ.out rfl z3 z4 ha (by simp [Value.oneCell']) (by omega) (by omega) HR4.out (w0 := w) HF4.out (by omega) (by omega) ?_
      intro Y y1 y2 y3 y4
      go_wp2_with fail
      exact bodyPost_ret (v := .tuple #[.agg cs0, .agg #[.slice A R.inp.length c, .slice oA on oc, .int .i64 R.checks, .slice (some ⟨g, 0, none⟩) (R.seen.length + 1) cap], .bool true]) (res_cct Tryd.results34 _ _ _ _ _ _ _ rfl rfl rfl y1 HZ.out y2 rfl) rfl ⟨{ m with mem := putV m.mem AN x2 1 }, R.note ⟨PL, AN, 1, true⟩, A, c, oA, on, oc, some ⟨g, 0, none⟩, R.seen.length + 1, cap, true, by rw [if_pos rfl, ← HPL.out, ← HX2.out]; rfl, fun hb => (by cases hb), by rw [HCS.out, (note_inp R _).1, (note_inp R _).2], y3, y4⟩
set_option maxHeartbeats 3000000 in
theorem rmem_st43 {m : Ma} {q base : Nat} {w : World} {R : Ru} {A : Option Addr} {c : Nat} {oA sA : Option Addr} {on oc sn sc : Nat} (n : Int) (rd r1 r2 : Nat) (hn : -9223372036854775808 ≤ n ∧ n < 9223372036854775808) (h1 : r1 < 32) (h2 : r2 < 32) (hd : rd < 32) (h : Rd w base q m R A c (.slice oA on oc) (.slice sA sn sc)) (hb : hasB (m.ad r1 n) 4 m.mem.length = true) (hls : R.seen.length + 1 < 1099511627776)  :
    Calls Tryd.prog 34 #[.agg (mcs m q), .agg #[.slice A R.inp.length c, .slice oA on oc, .int .i64 R.checks, .slice sA sn sc], ins 43 rd r1 r2 n] w (RTo w base q m R (some ({ m with mem := putV m.mem (m.ad r1 n).toNat (m.reg r2) 4 }, R.note ⟨m.pl, m.ad r1 n, 4, true⟩))) := by
  have hx := h.ok.1
  have cr1 := mcs_x hx q h1
  have hr1 := reg_range h.ok r1
  have had : (m.ad r1 n) = IntKind.u64.wrap (m.x.getD r1 0 + n % 18446744073709551616) := by unfold Ma.ad Ma.reg; rw [IntKind.wrap_u64]
  have hadr : 0 ≤ m.ad r1 n ∧ m.ad r1 n < 18446744073709551616 := by unfold Ma.ad; omega
  have hX1 : ∀ Z, ((w.alloc (Obj.cells (mcs m q) 34)).alloc Z).cell? ⟨w.heap.size, 1 + r1, none⟩ = some (.int .u64 (m.x.getD r1 0)) := fun Z => by rw [cell_of_row _ _ (1 + r1) _ _ _ (aa0 _ _ _)]; exact cr1
  have HH := Lib.hid h
  have HA := Lib.hid hadr
  generalize m.ad r1 n = AT at *
  have hat := had.symm
  unfold Ma.reg at hr1
  generalize m.x.getD r1 0 = x1 at *
  generalize hcs0 : mcs m q = cs0 at *
  have HC0 := Lib.hid hcs0
  clear h hcs0 cr1 hx had hadr
  have hwk : IntKind.i64.wrap (r1 : Int) = r1 := IntWalk.i64_in _ (by omega)
  go_enter Tryd.func34, Tryd.ntmps34
  go_wp2_with fail
  have HI : Hid (∀ k : Nat, ∀ W : World, Calls Tryd.prog 31 #[.int .i64 n] (W.drewN k) fun e w' => e = .returned (.int .u64 (n % 18446744073709551616)) ∧ W.drewN k = w') := Lib.hid fun k W => rimm_any n _ hn
  go_quiet (with_reducible refine (HI.out _ _).mono ?_; rintro e w9 ⟨rfl, rfl⟩; exact ⟨rfl, _, rfl⟩)
  clear HI hX1
  generalize hX : World.drewN (((((w.alloc _).alloc _).alloc _).alloc _).alloc _) nq = X
  have mb : Mb w X cs0 #[.slice A R.inp.length c, .slice oA on oc, .int .i64 R.checks, .slice sA sn sc] 43 rd r1 r2 n := by
    rw [← hX]
    exact ⟨a5_0 _ _ _ _ _ _, a5_1 _ _ _ _ _ _, a5_2 _ _ _ _ _ _, ⟨_, rfl, a5_3 _ _ _ _ _ _⟩, ⟨_, rfl, a5_4 _ _ _ _ _ _⟩, ⟨rfl, rfl, rfl, (bw5 w _ _ _ _ _).size, (bw5 w _ _ _ _ _).block⟩⟩
  clear hX
  have cr2 := mcs_x HH.out.ok.1 q h2
  rw [HC0.out] at cr2
  have hrx := reg_range HH.out.ok r2
  have hreg : m.reg r2 = m.x.getD r2 0 := rfl
  rw [hreg] at hrx
  generalize hx2 : m.x.getD r2 0 = x2 at *
  have HX2 := Lib.hid hx2
  clear hx2
  have hwk2 : IntKind.i64.wrap (r2 : Int) = r2 := IntWalk.i64_in _ (by omega)
  have hfit : AT + 4 ≤ m.mem.length := by unfold hasB at hb; exact (of_decide_eq_true hb).2
  obtain ⟨AN, rfl⟩ := Int.eq_ofNat_of_zero_le HA.out.1
  have hp := rplace_any (q := q) (w := X) HH.out.ok.1 HH.out.ok.2.1 (AN : Int) 4 HA.out (Or.inr (Or.inl rfl))
  have hz := mcs_size HH.out.ok.1 q
  have ha := mcs_all m q
  rw [HC0.out] at hp hz ha
  rw [hb] at hp
  have HP := Lib.hid hp; have HZ := Lib.hid hz; have HMB := Lib.hid mb
  clear hp hz mb hb
  go_wp2_with (first
    | ((with_reducible refine ld36 w.heap.size cs0 ?_ ?_ HZ.out ?_); rfl; exact HMB.out.b0)
    | fail)
  with_reducible refine HP.out.mono ?_
  rintro e X1 ⟨rfl, bp⟩
  have HM1 := Lib.hid (HMB.out.grow bp)
  clear bp HP HMB
  obtain ⟨i0, hi0, hz0, hz1, hz2⟩ := info_parts infoAcc
  have c33 := mcs_33 HH.out.ok.1 q
  rw [HC0.out] at c33
  have HV := Lib.hid (own_lt HH.out.seen)
  have hown := ownsRow_at2 HH.out.seen fun g cur _ hg => (HM1.out.below.block g (lt_of_at hg)).trans hg
  have q3 : X1.cell? ⟨w.heap.size + 1, 3, none⟩ = some (.slice sA sn sc) := by rw [cell_of_row _ _ 3 _ _ _ HM1.out.b1]; rfl
  have q33 : X1.cell? ⟨w.heap.size, 33, none⟩ = some (.int .u64 m.pl) := by rw [cell_of_row _ _ 33 _ _ _ HM1.out.b0]; exact c33
  have q0 : X1.cell? ⟨w.heap.size + 2, 0, none⟩ = some (.int .i64 43) := by rw [cell_of_row _ _ 0 _ _ _ HM1.out.b2]; rfl
  have hlb := HH.out.lb
  have hsz := HM1.out.below.size
  have hb4 := lt_of_at HM1.out.b4.choose_spec.2
  generalize hpl : m.pl = PL at *
  have HPL := Lib.hid hpl
  clear c33 hpl
  go_wp2_with (at_builtin; refine wpList_append_lies (o := ⟨some 58, _, _, _, _, _⟩) _ rfl (.tmp 48) (.tmp 57) 41 rfl base 81 i0 _ 4 32 Tryd.underlying41 hi0 hz0 hz1 hz2 rfl (by omega) (.slice sA sn sc) R.seen.length (accs R.seen) rfl (hown.alloc _) ⟨X1.heap.size, 0, none⟩ 1 1 [.int .u64 PL, .int .u64 (AN : Int), .int .i64 4, .bool true] rfl rfl (World.news_of_block (cs := #[.int .u64 PL, .int .u64 (AN : Int), .int .i64 4, .bool true]) (t := 81) (fr := (0, 0)) (heap_alloc_new X1 _)) (by simp [Value.oneCell']) (by omega) (by unfold maxLen; omega) (by omega) (by simp only [szA]; omega) (X1.heap.size + 1) (szA _ _) ?_; intro g cap w2 hown2 hgrow hat2 hlt; have HM2 : Hid (Mr w w2 cs0 #[.slice A R.inp.length c, .slice oA on oc, .int .i64 R.checks, .slice sA sn sc] 43 rd r1 r2 n) := Lib.hid (HM1.out.rows.keep fun i hi => (by rw [hgrow.block (w.heap.size + i) (by simp only [szA]; omega) (fun e => HV.out _ (by omega) e.symm), Below.heap_alloc _ _ _ (by omega)])); have u1 : w2.cell? ⟨w.heap.size + 1, 3, none⟩ = some (.slice sA sn sc) := (by rw [cell_of_row _ _ 3 _ _ _ HM2.out.b1]; rfl); have u2 : w2.frozen? ⟨w.heap.size + 1, 3, none⟩ = false := frozen_of_row _ _ 3 _ _ HM2.out.b1; have v0 : (w2.setCell ⟨w.heap.size + 1, 3, none⟩ (.slice (some ⟨g, 0, none⟩) (R.seen.length + 1) cap)).cell? ⟨w.heap.size + 2, 0, none⟩ = some (.int .i64 43) := (by rw [cell_of_row _ _ 0 _ _ _ (HM2.out.cell (i := 3) rfl).b2]; rfl); have v3 : (w2.setCell ⟨w.heap.size + 1, 3, none⟩ (.slice (some ⟨g, 0, none⟩) (R.seen.length + 1) cap)).cell? ⟨w.heap.size + 2, 3, none⟩ = some (.int .i64 r2) := (by rw [cell_of_row _ _ 3 _ _ _ (HM2.out.cell (i := 3) rfl).b2]; rfl); have vx : (w2.setCell ⟨w.heap.size + 1, 3, none⟩ (.slice (some ⟨g, 0, none⟩) (R.seen.length + 1) cap)).cell? ⟨w.heap.size, 1 + r2, none⟩ = some (.int .u64 x2) := (by rw [cell_of_row _ _ (1 + r2) _ _ _ (HM2.out.cell (i := 3) rfl).b0]; exact cr2))
  obtain ⟨hR2, hF2⟩ := rd_seen (a := ⟨PL, AN, 4, true⟩) HH.out (HM1.out.below.alloc HM1.out.below.size _) hgrow hown2 hls
  have hR3 := rd_cell (i := 3) (x := .slice (some ⟨g, 0, none⟩) (R.seen.length + 1) cap) hR2 HM2.out.b1 (by omega)
  have hF3 := fb_cell (i := 3) (x := .slice (some ⟨g, 0, none⟩) (R.seen.length + 1) cap) hF2 (b := w.heap.size + 1) (by omega)
  have hM3 : Mr w (w2.setCell ⟨w.heap.size + 1, 3, none⟩ (.slice (some ⟨g, 0, none⟩) (R.seen.length + 1) cap)) cs0 #[.slice A R.inp.length c, .slice oA on oc, .int .i64 R.checks, .slice (some ⟨g, 0, none⟩) (R.seen.length + 1) cap] 43 rd r1 r2 n := HM2.out.cell rfl
  generalize hw3 : w2.setCell ⟨w.heap.size + 1, 3, none⟩ (.slice (some ⟨g, 0, none⟩) (R.seen.length + 1) cap) = w3 at *
  have HR3 := Lib.hid hR3; have HF3 := Lib.hid hF3; have HM3 := Lib.hid hM3
  have HFIT := Lib.hid hfit
  have c0 := mcs_0 m q
  rw [HC0.out] at c0
  have hN := HH.out.ok.2.1
  obtain ⟨N, hNe⟩ : ∃ N, m.mem.length = N := ⟨_, rfl⟩
  have HN := Lib.hid hNe
  rw [hNe] at c0 hN hfit
  have hlq := HH.out.lq
  clear hR3 hF3 hM3 hR2 hF2 u1 u2 v0 v3 vx hown hown2 hgrow q3 q33 q0 hNe
  go_loopw [11, 12] (fun x k wr => ∃ j : Nat, j ≤ 4 ∧ k = .int .i64 j ∧ x = .int .u64 (x2 / 256 ^ j) ∧ wr.heap[q]? = some (.cells (u8s (putV m.mem AN x2 j)).toArray 5) ∧ Fr [q] w3 wr) (fun _ k _ => 4 - (intOf k).toNat)
  case atStart => exact ⟨0, Nat.zero_le _, rfl, by simp, HR3.out.mem, Fr.refl _ _⟩
  case round =>
    obtain ⟨j, hj, rfl, rfl, hq, hf⟩ := hrel
    have hb0 := hf.at_ HM3.out.b0 (by simp; omega)
    have d0 : wr.cell? ⟨w.heap.size, 0, none⟩ = some (.slice (some ⟨q, 0, none⟩) N N) := by rw [cell_of_row _ _ 0 _ _ _ hb0]; exact c0
    have hxr : 0 ≤ x2 / 256 ^ j ∧ x2 / 256 ^ j ≤ x2 := ⟨Int.ediv_nonneg hrx.1 (Int.le_of_lt (Int.pow_pos (by decide))), Int.ediv_le_self _ hrx.1⟩
    by_cases hlt : j < 4
    · have hjn : (AN : Nat) + j < N := by omega
      have d1 : wr.cell? ⟨q, AN + j, none⟩ = some (.int .u8 ((putV m.mem AN x2 j).getD (AN + j) 0)) := by rw [cell_of_row wr _ (AN + j) _ _ _ hq]; exact u8s_at _ _ (by rw [putV_len, HN.out]; omega)
      have d2 : wr.frozen? ⟨q, AN + j, none⟩ = false := frozen_of_row wr _ (AN + j) _ _ hq
      generalize (putV m.mem AN x2 j).getD (AN + j) 0 = old at *
      have hst : (u8s (putV m.mem AN x2 j)).toArray.setIfInBounds (AN + j) (.int .u8 (x2 / 256 ^ j % 256)) = (u8s (putV m.mem AN x2 (j + 1))).toArray := by rw [u8s_set, putV]
      have hdv : x2 / 256 ^ (j + 1) = x2 / 256 ^ j / 256 := by rw [Int.pow_succ, Int.ediv_ediv_of_nonneg (by exact Int.le_of_lt (Int.pow_pos (by decide)))]
      have HDV := Lib.hid hdv; have HST := Lib.hid hst; have HQ := Lib.hid hq; have HF := Lib.hid hf
      clear hdv hst hq hf hb0
      generalize x2 / 256 ^ j = xv at *
      go_wp2_with fail
      go_roundw
      case rel => exact ⟨j + 1, by omega, by go_num, by rw [HDV.out], by rw [heap_setCell_same _ _ _ _ _ _ HQ.out, HST.out], HF.out.trans (Fr.set _ _ _ _ (by simp))⟩
      case measure => simp [intOf]; omega
    · obtain rfl : j = 4 := by omega
      have hm4 : Mr w wr cs0 #[.slice A R.inp.length c, .slice oA on oc, .int .i64 R.checks, .slice (some ⟨g, 0, none⟩) (R.seen.length + 1) cap] 43 rd r1 r2 n := HM3.out.keep fun i hi => hf.block (w.heap.size + i) (by
        have h5 := lt_of_at HM3.out.b4.choose_spec.2
        omega) (by simp; omega)
      have hok4 : Ma.ok { m with mem := putV m.mem AN x2 4 } := put_ok HH.out.ok AN x2 4
      have hR4 : Rd wr base q { m with mem := putV m.mem AN x2 4 } (R.note ⟨PL, AN, 4, true⟩) A c (.slice oA on oc) (.slice (some ⟨g, 0, none⟩) (R.seen.length + 1) cap) := rd_store HR3.out hf hq hok4
      have hF4 : Fw base q w wr := HF3.out.trans (Fw.of hf HR3.out.mem)
      have hcs : mcs { m with mem := putV m.mem AN x2 4 } q = cs0 := (mcs_mem (putV_len _ _ _ _) q).trans HC0.out
      have HM4 := Lib.hid hm4; have HR4 := Lib.hid hR4; have HF4 := Lib.hid hF4; have HCS := Lib.hid hcs
      obtain ⟨o3, z3, k3⟩ := HM4.out.b3
      obtain ⟨o4, z4, k4⟩ := HM4.out.b4
      have K3 := Lib.hid k3; have K4 := Lib.hid k4
      clear hm4 hR4 hF4 hcs hq hf hb0 d0 hok4 k3 k4
      go_wp2_with fail
      refine tail7 w.heap.size (w.heap.size + 1) (w.heap.size + 3) (w.heap.size + 4) cs0 #[.slice A R.inp.length c, .slice oA on oc, .int .i64 R.checks, .slice (some ⟨g, 0, none⟩) (R.seen.length + 1) cap] o3 o4 (.bool true) (by kernel_rfl) (by kernel_rfl) (by kernel_rfl) (by kernel_rfl) (by kernel_rfl) (by kernel_rfl) (by kernel_rfl) (by kernel_rfl) rfl rfl rfl rfl rfl rfl rfl rfl rfl rfl rfl rfl HM4.out.b0 HM4.out.b1 K3.out K4.out HZ.out rfl z3 z4 ha (by simp [Value.oneCell']) (by omega) (by omega) HR4.out (w0 := w) HF4.out (by omega) (by omega) ?_
      intro Y y1 y2 y3 y4
      go_wp2_with fail
      exact bodyPost_ret (v := .tuple #[.agg cs0, .agg #[.slice A R.inp.length c, .slice oA on oc, .int .i64 R.checks, .slice (some ⟨g, 0, none⟩) (R.seen.length + 1) cap], .bool true]) (res_cct Tryd.results34 _ _ _ _ _ _ _ rfl rfl rfl y1 HZ.out y2 rfl) rfl ⟨{ m with mem := putV m.mem AN x2 4 }, R.note ⟨PL, AN, 4, true⟩, A, c, oA, on, oc, some ⟨g, 0, none⟩, R.seen.length + 1, cap, true, by rw [if_pos rfl, ← HPL.out, ← HX2.out]; rfl, fun hb => (by cases hb), by rw [HCS.out, (note_inp R _).1, (note_inp R _).2], y3, y4⟩
set_option maxHeartbeats 3000000 in
theorem rmem_st44 {m : Ma} {q base : Nat} {w : World} {R : Ru} {A : Option Addr} {c : Nat} {oA sA : Option Addr} {on oc sn sc : Nat} (n : Int) (rd r1 r2 : Nat) (hn : -9223372036854775808 ≤ n ∧ n < 9223372036854775808) (h1 : r1 < 32) (h2 : r2 < 32) (hd : rd < 32) (h : Rd w base q m R A c (.slice oA on oc) (.slice sA sn sc)) (hb : hasB (m.ad r1 n) 8 m.mem.length = true) (hls : R.seen.length + 1 < 1099511627776)  :
    Calls Tryd.prog 34 #[.agg (mcs m q), .agg #[.slice A R.inp.length c, .slice oA on oc, .int .i64 R.checks, .slice sA sn sc], ins 44 rd r1 r2 n] w (RTo w base q m R (some ({ m with mem := putV m.mem (m.ad r1 n).toNat (m.reg r2) 8 }, R.note ⟨m.pl, m.ad r1 n, 8, true⟩))) := by
  have hx := h.ok.1
  have cr1 := mcs_x hx q h1
  have hr1 := reg_range h.ok r1
  have had : (m.ad r1 n) = IntKind.u64.wrap (m.x.getD r1 0 + n % 18446744073709551616) := by unfold Ma.ad Ma.reg; rw [IntKind.wrap_u64]
  have hadr : 0 ≤ m.ad r1 n ∧ m.ad r1 n < 18446744073709551616 := by unfold Ma.ad; omega
  have hX1 : ∀ Z, ((w.alloc (Obj.cells (mcs m q) 34)).alloc Z).cell? ⟨w.heap.size, 1 + r1, none⟩ = some (.int .u64 (m.x.getD r1 0)) := fun Z => by rw [cell_of_row _ _ (1 + r1) _ _ _ (aa0 _ _ _)]; exact cr1
  have HH := Lib.hid h
  have HA := Lib.hid hadr
  generalize m.ad r1 n = AT at *
  have hat := had.symm
  unfold Ma.reg at hr1
  generalize m.x.getD r1 0 = x1 at *
  generalize hcs0 : mcs m q = cs0 at *
  have HC0 := Lib.hid hcs0
  clear h hcs0 cr1 hx had hadr
  have hwk : IntKind.i64.wrap (r1 : Int) = r1 := IntWalk.i64_in _ (by omega)
  go_enter Tryd.func34, Tryd.ntmps34
  go_wp2_with fail
  have HI : Hid (∀ k : Nat, ∀ W : World, Calls Tryd.prog 31 #[.int .i64 n] (W.drewN k) fun e w' => e = .returned (.int .u64 (n % 18446744073709551616)) ∧ W.drewN k = w') := Lib.hid fun k W => rimm_any n _ hn
  go_quiet (with_reducible refine (HI.out _ _).mono ?_; rintro e w9 ⟨rfl, rfl⟩; exact ⟨rfl, _, rfl⟩)
  clear HI hX1
  generalize hX : World.drewN (((((w.alloc _).alloc _).alloc _).alloc _).alloc _) nq = X
  have mb : Mb w X cs0 #[.slice A R.inp.length c, .slice oA on oc, .int .i64 R.checks, .slice sA sn sc] 44 rd r1 r2 n := by
    rw [← hX]
    exact ⟨a5_0 _ _ _ _ _ _, a5_1 _ _ _ _ _ _, a5_2 _ _ _ _ _ _, ⟨_, rfl, a5_3 _ _ _ _ _ _⟩, ⟨_, rfl, a5_4 _ _ _ _ _ _⟩, ⟨rfl, rfl, rfl, (bw5 w _ _ _ _ _).size, (bw5 w _ _ _ _ _).block⟩⟩
  clear hX
  have cr2 := mcs_x HH.out.ok.1 q h2
  rw [HC0.out] at cr2
  have hrx := reg_range HH.out.ok r2
  have hreg : m.reg r2 = m.x.getD r2 0 := rfl
  rw [hreg] at hrx
  generalize hx2 : m.x.getD r2 0 = x2 at *
  have HX2 := Lib.hid hx2
  clear hx2
  have hwk2 : IntKind.i64.wrap (r2 : Int) = r2 := IntWalk.i64_in _ (by omega)
  have hfit : AT + 8 ≤ m.mem.length := by unfold hasB at hb; exact (of_decide_eq_true hb).2
  obtain ⟨AN, rfl⟩ := Int.eq_ofNat_of_zero_le HA.out.1
  have hp := rplace_any (q := q) (w := X) HH.out.ok.1 HH.out.ok.2.1 (AN : Int) 8 HA.out (Or.inr (Or.inr rfl))
  have hz := mcs_size HH.out.ok.1 q
  have ha := mcs_all m q
  rw [HC0.out] at hp hz ha
  rw [hb] at hp
  have HP := Lib.hid hp; have HZ := Lib.hid hz; have HMB := Lib.hid mb
  clear hp hz mb hb
  go_wp2_with (first
    | ((with_reducible refine ld36 w.heap.size cs0 ?_ ?_ HZ.out ?_); rfl; exact HMB.out.b0)
    | fail)
  with_reducible refine HP.out.mono ?_
  rintro e X1 ⟨rfl, bp⟩
  have HM1 := Lib.hid (HMB.out.grow bp)
  clear bp HP HMB
  obtain ⟨i0, hi0, hz0, hz1, hz2⟩ := info_parts infoAcc
  have c33 := mcs_33 HH.out.ok.1 q
  rw [HC0.out] at c33
  have HV := Lib.hid (own_lt HH.out.seen)
  have hown := ownsRow_at2 HH.out.seen fun g cur _ hg => (HM1.out.below.block g (lt_of_at hg)).trans hg
  have q3 : X1.cell? ⟨w.heap.size + 1, 3, none⟩ = some (.slice sA sn sc) := by rw [cell_of_row _ _ 3 _ _ _ HM1.out.b1]; rfl
  have q33 : X1.cell? ⟨w.heap.size, 33, none⟩ = some (.int .u64 m.pl) := by rw [cell_of_row _ _ 33 _ _ _ HM1.out.b0]; exact c33
  have q0 : X1.cell? ⟨w.heap.size + 2, 0, none⟩ = some (.int .i64 44) := by rw [cell_of_row _ _ 0 _ _ _ HM1.out.b2]; rfl
  have hlb := HH.out.lb
  have hsz := HM1.out.below.size
  have hb4 := lt_of_at HM1.out.b4.choose_spec.2
  generalize hpl : m.pl = PL at *
  have HPL := Lib.hid hpl
  clear c33 hpl
  go_wp2_with (at_builtin; refine wpList_append_lies (o := ⟨some 58, _, _, _, _, _⟩) _ rfl (.tmp 48) (.tmp 57) 41 rfl base 81 i0 _ 4 32 Tryd.underlying41 hi0 hz0 hz1 hz2 rfl (by omega) (.slice sA sn sc) R.seen.length (accs R.seen) rfl (hown.alloc _) ⟨X1.heap.size, 0, none⟩ 1 1 [.int .u64 PL, .int .u64 (AN : Int), .int .i64 8, .bool true] rfl rfl (World.news_of_block (cs := #[.int .u64 PL, .int .u64 (AN : Int), .int .i64 8, .bool true]) (t := 81) (fr := (0, 0)) (heap_alloc_new X1 _)) (by simp [Value.oneCell']) (by omega) (by unfold maxLen; omega) (by omega) (by simp only [szA]; omega) (X1.heap.size + 1) (szA _ _) ?_; intro g cap w2 hown2 hgrow hat2 hlt; have HM2 : Hid (Mr w w2 cs0 #[.slice A R.inp.length c, .slice oA on oc, .int .i64 R.checks, .slice sA sn sc] 44 rd r1 r2 n) := Lib.hid (HM1.out.rows.keep fun i hi => (by rw [hgrow.block (w.heap.size + i) (by simp only [szA]; omega) (fun e => HV.out _ (by omega) e.symm), Below.heap_alloc _ _ _ (by omega)])); have u1 : w2.cell? ⟨w.heap.size + 1, 3, none⟩ = some (.slice sA sn sc) := (by rw [cell_of_row _ _ 3 _ _ _ HM2.out.b1]; rfl); have u2 : w2.frozen? ⟨w.heap.size + 1, 3, none⟩ = false := frozen_of_row _ _ 3 _ _ HM2.out.b1; have v0 : (w2.setCell ⟨w.heap.size + 1, 3, none⟩ (.slice (some ⟨g, 0, none⟩) (R.seen.length + 1) cap)).cell? ⟨w.heap.size + 2, 0, none⟩ = some (.int .i64 44) := (by rw [cell_of_row _ _ 0 _ _ _ (HM2.out.cell (i := 3) rfl).b2]; rfl); have v3 : (w2.setCell ⟨w.heap.size + 1, 3, none⟩ (.slice (some ⟨g, 0, none⟩) (R.seen.length + 1) cap)).cell? ⟨w.heap.size + 2, 3, none⟩ = some (.int .i64 r2) := (by rw [cell_of_row _ _ 3 _ _ _ (HM2.out.cell (i := 3) rfl).b2]; rfl); have vx : (w2.setCell ⟨w.heap.size + 1, 3, none⟩ (.slice (some ⟨g, 0, none⟩) (R.seen.length + 1) cap)).cell? ⟨w.heap.size, 1 + r2, none⟩ = some (.int .u64 x2) := (by rw [cell_of_row _ _ (1 + r2) _ _ _ (HM2.out.cell (i := 3) rfl).b0]; exact cr2))
  obtain ⟨hR2, hF2⟩ := rd_seen (a := ⟨PL, AN, 8, true⟩) HH.out (HM1.out.below.alloc HM1.out.below.size _) hgrow hown2 hls
  have hR3 := rd_cell (i := 3) (x := .slice (some ⟨g, 0, none⟩) (R.seen.length + 1) cap) hR2 HM2.out.b1 (by omega)
  have hF3 := fb_cell (i := 3) (x := .slice (some ⟨g, 0, none⟩) (R.seen.length + 1) cap) hF2 (b := w.heap.size + 1) (by omega)
  have hM3 : Mr w (w2.setCell ⟨w.heap.size + 1, 3, none⟩ (.slice (some ⟨g, 0, none⟩) (R.seen.length + 1) cap)) cs0 #[.slice A R.inp.length c, .slice oA on oc, .int .i64 R.checks, .slice (some ⟨g, 0, none⟩) (R.seen.length + 1) cap] 44 rd r1 r2 n := HM2.out.cell rfl
  generalize hw3 : w2.setCell ⟨w.heap.size + 1, 3, none⟩ (.slice (some ⟨g, 0, none⟩) (R.seen.length + 1) cap) = w3 at *
  have HR3 := Lib.hid hR3; have HF3 := Lib.hid hF3; have HM3 := Lib.hid hM3
  have HFIT := Lib.hid hfit
  have c0 := mcs_0 m q
  rw [HC0.out] at c0
  have hN := HH.out.ok.2.1
  obtain ⟨N, hNe⟩ : ∃ N, m.mem.length = N := ⟨_, rfl⟩
  have HN := Lib.hid hNe
  rw [hNe] at c0 hN hfit
  have hlq := HH.out.lq
  clear hR3 hF3 hM3 hR2 hF2 u1 u2 v0 v3 vx hown hown2 hgrow q3 q33 q0 hNe
  go_loopw [11, 12] (fun x k wr => ∃ j : Nat, j ≤ 8 ∧ k = .int .i64 j ∧ x = .int .u64 (x2 / 256 ^ j) ∧ wr.heap[q]? = some (.cells (u8s (putV m.mem AN x2 j)).toArray 5) ∧ Fr [q] w3 wr) (fun _ k _ => 8 - (intOf k).toNat)
  case atStart => exact ⟨0, Nat.zero_le _, rfl, by simp, HR3.out.mem, Fr.refl _ _⟩
  case round =>
    obtain ⟨j, hj, rfl, rfl, hq, hf⟩ := hrel
    have hb0 := hf.at_ HM3.out.b0 (by simp; omega)
    have d0 : wr.cell? ⟨w.heap.size, 0, none⟩ = some (.slice (some ⟨q, 0, none⟩) N N) := by rw [cell_of_row _ _ 0 _ _ _ hb0]; exact c0
    have hxr : 0 ≤ x2 / 256 ^ j ∧ x2 / 256 ^ j ≤ x2 := ⟨Int.ediv_nonneg hrx.1 (Int.le_of_lt (Int.pow_pos (by decide))), Int.ediv_le_self _ hrx.1⟩
    by_cases hlt : j < 8
    · have hjn : (AN : Nat) + j < N := by omega
      have d1 : wr.cell? ⟨q, AN + j, none⟩ = some (.int .u8 ((putV m.mem AN x2 j).getD (AN + j) 0)) := by rw [cell_of_row wr _ (AN + j) _ _ _ hq]; exact u8s_at _ _ (by rw [putV_len, HN.out]; omega)
      have d2 : wr.frozen? ⟨q, AN + j, none⟩ = false := frozen_of_row wr _ (AN + j) _ _ hq
      generalize (putV m.mem AN x2 j).getD (AN + j) 0 = old at *
      have hst : (u8s (putV m.mem AN x2 j)).toArray.setIfInBounds (AN + j) (.int .u8 (x2 / 256 ^ j % 256)) = (u8s (putV m.mem AN x2 (j + 1))).toArray := by rw [u8s_set, putV]
      have hdv : x2 / 256 ^ (j + 1) = x2 / 256 ^ j / 256 := by rw [Int.pow_succ, Int.ediv_ediv_of_nonneg (by exact Int.le_of_lt (Int.pow_pos (by decide)))]
      have HDV := Lib.hid hdv; have HST := Lib.hid hst; have HQ := Lib.hid hq; have HF := Lib.hid hf
      clear hdv hst hq hf hb0
      generalize x2 / 256 ^ j = xv at *
      go_wp2_with fail
      go_roundw
      case rel => exact ⟨j + 1, by omega, by go_num, by rw [HDV.out], by rw [heap_setCell_same _ _ _ _ _ _ HQ.out, HST.out], HF.out.trans (Fr.set _ _ _ _ (by simp))⟩
      case measure => simp [intOf]; omega
    · obtain rfl : j = 8 := by omega
      have hm4 : Mr w wr cs0 #[.slice A R.inp.length c, .slice oA on oc, .int .i64 R.checks, .slice (some ⟨g, 0, none⟩) (R.seen.length + 1) cap] 44 rd r1 r2 n := HM3.out.keep fun i hi => hf.block (w.heap.size + i) (by
        have h5 := lt_of_at HM3.out.b4.choose_spec.2
        omega) (by simp; omega)
      have hok4 : Ma.ok { m with mem := putV m.mem AN x2 8 } := put_ok HH.out.ok AN x2 8
      have hR4 : Rd wr base q { m with mem := putV m.mem AN x2 8 } (R.note ⟨PL, AN, 8, true⟩) A c (.slice oA on oc) (.slice (some ⟨g, 0, none⟩) (R.seen.length + 1) cap) := rd_store HR3.out hf hq hok4
      have hF4 : Fw base q w wr := HF3.out.trans (Fw.of hf HR3.out.mem)
      have hcs : mcs { m with mem := putV m.mem AN x2 8 } q = cs0 := (mcs_mem (putV_len _ _ _ _) q).trans HC0.out
      have HM4 := Lib.hid hm4; have HR4 := Lib.hid hR4; have HF4 := Lib.hid hF4; have HCS := Lib.hid hcs
      obtain ⟨o3, z3, k3⟩ := HM4.out.b3
      obtain ⟨o4, z4, k4⟩ := HM4.out.b4
      have K3 := Lib.hid k3; have K4 := Lib.hid k4
      clear hm4 hR4 hF4 hcs hq hf hb0 d0 hok4 k3 k4
      go_wp2_with fail
      refine tail7 w.heap.size (w.heap.size + 1) (w.heap.size + 3) (w.heap.size + 4) cs0 #[.slice A R.inp.length c, .slice oA on oc, .int .i64 R.checks, .slice (some ⟨g, 0, none⟩) (R.seen.length + 1) cap] o3 o4 (.bool true) (by kernel_rfl) (by kernel_rfl) (by kernel_rfl) (by kernel_rfl) (by kernel_rfl) (by kernel_rfl) (by kernel_rfl) (by kernel_rfl) rfl rfl rfl rfl rfl rfl rfl rfl rfl rfl rfl rfl HM4.out.b0 HM4.out.b1 K3.out K4.out HZ.out rfl z3 z4 ha (by simp [Value.oneCell']) (by omega) (by omega) HR4.out (w0 := w) HF4.out (by omega) (by omega) ?_
      intro Y y1 y2 y3 y4
      go_wp2_with fail
      exact bodyPost_ret (v := .tuple #[.agg cs0, .agg #[.slice A R.inp.length c, .slice oA on oc, .int .i64 R.checks, .slice (some ⟨g, 0, none⟩) (R.seen.length + 1) cap], .bool true]) (res_cct Tryd.results34 _ _ _ _ _ _ _ rfl rfl rfl y1 HZ.out y2 rfl) rfl ⟨{ m with mem := putV m.mem AN x2 8 }, R.note ⟨PL, AN, 8, true⟩, A, c, oA, on, oc, some ⟨g, 0, none⟩, R.seen.length + 1, cap, true, by rw [if_pos rfl, ← HPL.out, ← HX2.out]; rfl, fun hb => (by cases hb), by rw [HCS.out, (note_inp R _).1, (note_inp R _).2], y3, y4⟩
end Go.Proofs.YtppcbommaddkgaaDoor
