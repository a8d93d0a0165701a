/- The document's machine: what an ECALL does, case by case. Conditions: each theorem's. The end of a function of the document's machine, its results in any two blocks. Conditions: each theorem's. -/
import Derived.Test.YtppcbommaddkgaaDoorMrgI
import Derived.Test.YtppcbommaddkgaaDoorMrgF
namespace Go.Proofs.YtppcbommaddkgaaDoor
open Go.RowKit Go.Maps
set_option linter.unusedVariables false
set_option linter.unusedSimpArgs false
set_option maxRecDepth 10000
open Pm Pc Pl
set_option maxHeartbeats 2000000 in
theorem rcall_no {m : Ma} {q base : Nat} {w : World} {R : Ru} {A : Option Addr} {c : Nat} {oA sA : Option Addr} {on oc sn sc : Nat} (h : Rd w base q m R A c (.slice oA on oc) (.slice sA sn sc)) (h17 : m.x.getD 17 0 ≠ 1 ∧ m.x.getD 17 0 ≠ 2 ∧ m.x.getD 17 0 ≠ 3 ∧ m.x.getD 17 0 ≠ 4 ∧ m.x.getD 17 0 ≠ 5) :
    Calls Tryd.prog 36 #[.agg (mcs m q), .agg #[.slice A R.inp.length c, .slice oA on oc, .int .i64 R.checks, .slice sA sn sc]] w (RTo w base q m R (callV m R)) := by
  have hx := h.ok.1
  have hc : callV m R = none := by
    unfold callV
    unfold Ma.reg; rw [if_neg h17.1, if_neg h17.2.1, if_neg h17.2.2.1, if_neg (by omega)]
  have hok : (m).ok := h.ok
  have c17 := mcs_x hx q (k := 17) (by decide)
  have c10 := mcs_x hx q (k := 10) (by decide)
  have hr10 : 0 ≤ m.x.getD 10 0 ∧ m.x.getD 10 0 < 18446744073709551616 := reg_range h.ok 10
  rw [hc]
  have w17 : ∀ Z, ((w.alloc (Obj.cells (mcs m q) 34)).alloc Z).cell? ⟨w.heap.size, 18, none⟩ = some (.int .u64 (m.x.getD 17 0)) := fun Z => by rw [cell_of_row _ _ 18 _ _ _ (aa0 _ _ _)]; exact c17
  have w10 : ∀ Z, ((w.alloc (Obj.cells (mcs m q) 34)).alloc Z).cell? ⟨w.heap.size, 11, none⟩ = some (.int .u64 (m.x.getD 10 0)) := fun Z => by rw [cell_of_row _ _ 11 _ _ _ (aa0 _ _ _)]; exact c10
  have hz : (mcs (m) q).size = 36 := mcs_size (m := m) hx q
  have ha := mcs_all (m) q
  have HH := Lib.hid h; have HOK := Lib.hid hok; have HZ := Lib.hid hz
  clear hc c17 c10 hz hok h hx
  generalize hcs0 : mcs (m) q = cs0 at *
  have HC0 := Lib.hid hcs0; clear hcs0
  generalize hx17 : m.x.getD 17 0 = x17 at *
  generalize hx10 : m.x.getD 10 0 = x10 at *
  have HX10 := Lib.hid hx10; clear hx17 hx10
  obtain ⟨h1, h2, h3, h4, h5⟩ := h17
  go_enter Tryd.func36, Tryd.ntmps36
  go_wp2_with (first | (go_at_call 31; (with_reducible refine (rimm_any (-1) _ (by decide)).mono ?_); rintro e w9 ⟨rfl, rfl⟩) | fail)
  refine tail6 w.heap.size (w.heap.size + 1) (w.heap.size + 2) (w.heap.size + 3) cs0 #[.slice A R.inp.length c, .slice oA on oc, .int .i64 R.checks, .slice sA sn sc] _ _ (.bool false) (by kernel_rfl) (by kernel_rfl) (by kernel_rfl) (by kernel_rfl) (by kernel_rfl) (by kernel_rfl) (by kernel_rfl) (by kernel_rfl) rfl rfl rfl rfl rfl rfl rfl rfl rfl rfl rfl rfl (a4_0 _ _ _ _ _) (a4_1 _ _ _ _ _) (a4_2 _ _ _ _ _) (a4_3 _ _ _ _ _) HZ.out rfl rfl rfl ha (by simp [Value.oneCell']) (by omega) (by omega) ⟨rfl, rfl⟩ ((HH.out.below (bw_alloc (bw_alloc (bw_alloc (bw_alloc (Below.refl w.heap.size w) _) _) _) _)).mach (m' := m) rfl HOK.out) (w0 := w) (Fw.below (bw_alloc (bw_alloc (bw_alloc (bw_alloc (Below.refl w.heap.size w) _) _) _) _)) ⟨HH.out.lb, Nat.le_refl _⟩ ?_
  intro Y y1 y2 y3 y4
  go_wp2_with fail
  obtain rfl := HX10.out
  exact bodyPost_ret (v := .tuple #[.agg cs0, .agg #[.slice A R.inp.length c, .slice oA on oc, .int .i64 R.checks, .slice sA sn sc], .bool false]) (res_cct Tryd.results36 _ _ _ _ _ _ _ rfl rfl rfl y1 HZ.out y2 rfl) rfl ⟨m, R, A, c, oA, on, oc, sA, sn, sc, false, rfl, fun _ => ⟨rfl, rfl⟩, by rw [HC0.out], y3, y4⟩
set_option maxHeartbeats 2000000 in
theorem rcall_3 {m : Ma} {q base : Nat} {w : World} {R : Ru} {A : Option Addr} {c : Nat} {oA sA : Option Addr} {on oc sn sc : Nat} (h : Rd w base q m R A c (.slice oA on oc) (.slice sA sn sc)) (h17 : m.x.getD 17 0 = 3) :
    Calls Tryd.prog 36 #[.agg (mcs m q), .agg #[.slice A R.inp.length c, .slice oA on oc, .int .i64 R.checks, .slice sA sn sc]] w (RTo w base q m R (callV m R)) := by
  have hx := h.ok.1
  have hc : callV m R = some ({ m with st := 1, cd := m.x.getD 10 0 % 256 }, R) := by
    unfold callV
    unfold Ma.reg; rw [if_neg (by omega), if_neg (by omega), if_pos h17]
  have hok : ({ m with st := 1, cd := m.x.getD 10 0 % 256 }).ok := ⟨h.ok.1, h.ok.2.1, h.ok.2.2.1, h.ok.2.2.2.1, h.ok.2.2.2.2.1, h.ok.2.2.2.2.2⟩
  have c17 := mcs_x hx q (k := 17) (by decide)
  have c10 := mcs_x hx q (k := 10) (by decide)
  have hr10 : 0 ≤ m.x.getD 10 0 ∧ m.x.getD 10 0 < 18446744073709551616 := reg_range h.ok 10
  rw [hc]
  have w17 : ∀ Z, ((w.alloc (Obj.cells (mcs m q) 34)).alloc Z).cell? ⟨w.heap.size, 18, none⟩ = some (.int .u64 (m.x.getD 17 0)) := fun Z => by rw [cell_of_row _ _ 18 _ _ _ (aa0 _ _ _)]; exact c17
  have w10 : ∀ Z, ((w.alloc (Obj.cells (mcs m q) 34)).alloc Z).cell? ⟨w.heap.size, 11, none⟩ = some (.int .u64 (m.x.getD 10 0)) := fun Z => by rw [cell_of_row _ _ 11 _ _ _ (aa0 _ _ _)]; exact c10
  have e1 : (mcs (m) q).setIfInBounds 34 (.int .i64 1) = (mcs ({ m with st := 1 }) q) := mcs_set34 hx q 1
  obtain ⟨old1, v1⟩ : ∃ old, ∀ Z, ((w.alloc (Obj.cells (mcs (m) q) 34)).alloc Z).cell? ⟨w.heap.size, 34, none⟩ = some old := by
    obtain ⟨old, ho⟩ : ∃ old, (mcs (m) q)[34]? = some old := ⟨_, Array.getElem?_eq_getElem (by rw [mcs_size (m := m) hx]; decide)⟩
    exact ⟨old, fun Z => by rw [cell_of_row _ _ 34 _ _ _ (aa0 _ _ _)]; exact ho⟩
  have f1 : ∀ Z, ((w.alloc (Obj.cells (mcs (m) q) 34)).alloc Z).frozen? ⟨w.heap.size, 34, none⟩ = false := fun Z => frozen_of_row _ _ 34 _ _ (aa0 _ _ _)
  have w10_1 : ∀ Z, ((w.alloc (Obj.cells (mcs ({ m with st := 1 }) q) 34)).alloc Z).cell? ⟨w.heap.size, 11, none⟩ = some (.int .u64 (m.x.getD 10 0)) := fun Z => by rw [cell_of_row _ _ 11 _ _ _ (aa0 _ _ _)]; exact mcs_x (m := { m with st := 1 }) hx q (k := 10) (by decide)
  have e2 : (mcs ({ m with st := 1 }) q).setIfInBounds 35 (.int .u8 (m.x.getD 10 0 % 256)) = (mcs ({ m with st := 1, cd := m.x.getD 10 0 % 256 }) q) := mcs_set35 (m := { m with st := 1 }) hx q _
  obtain ⟨old2, v2⟩ : ∃ old, ∀ Z, ((w.alloc (Obj.cells (mcs ({ m with st := 1 }) q) 34)).alloc Z).cell? ⟨w.heap.size, 35, none⟩ = some old := by
    obtain ⟨old, ho⟩ : ∃ old, (mcs ({ m with st := 1 }) q)[35]? = some old := ⟨_, Array.getElem?_eq_getElem (by rw [mcs_size (m := { m with st := 1 }) hx]; decide)⟩
    exact ⟨old, fun Z => by rw [cell_of_row _ _ 35 _ _ _ (aa0 _ _ _)]; exact ho⟩
  have f2 : ∀ Z, ((w.alloc (Obj.cells (mcs ({ m with st := 1 }) q) 34)).alloc Z).frozen? ⟨w.heap.size, 35, none⟩ = false := fun Z => frozen_of_row _ _ 35 _ _ (aa0 _ _ _)
  have w10_2 : ∀ Z, ((w.alloc (Obj.cells (mcs ({ m with st := 1, cd := m.x.getD 10 0 % 256 }) q) 34)).alloc Z).cell? ⟨w.heap.size, 11, none⟩ = some (.int .u64 (m.x.getD 10 0)) := fun Z => by rw [cell_of_row _ _ 11 _ _ _ (aa0 _ _ _)]; exact mcs_x (m := { m with st := 1, cd := m.x.getD 10 0 % 256 }) hx q (k := 10) (by decide)
  have hz : (mcs ({ m with st := 1, cd := m.x.getD 10 0 % 256 }) q).size = 36 := mcs_size (m := { m with st := 1, cd := m.x.getD 10 0 % 256 }) hx q
  have ha := mcs_all ({ m with st := 1, cd := m.x.getD 10 0 % 256 }) q
  have HH := Lib.hid h; have HOK := Lib.hid hok; have HZ := Lib.hid hz
  clear hc c17 c10 hz hok h hx
  generalize hcs2 : mcs ({ m with st := 1, cd := m.x.getD 10 0 % 256 }) q = cs2 at *
  generalize hcs1 : mcs ({ m with st := 1 }) q = cs1 at *
  generalize hcs0 : mcs (m) q = cs0 at *
  have HC0 := Lib.hid hcs0; clear hcs0
  have HC1 := Lib.hid hcs1; clear hcs1
  have HC2 := Lib.hid hcs2; clear hcs2
  generalize hx17 : m.x.getD 17 0 = x17 at *
  generalize hx10 : m.x.getD 10 0 = x10 at *
  have HX10 := Lib.hid hx10; clear hx17 hx10
  go_enter Tryd.func36, Tryd.ntmps36
  go_wp2_with (first | (go_at_call 31; (with_reducible refine (rimm_any (-1) _ (by decide)).mono ?_); rintro e w9 ⟨rfl, rfl⟩) | fail)
  refine tail6 w.heap.size (w.heap.size + 1) (w.heap.size + 2) (w.heap.size + 3) cs2 #[.slice A R.inp.length c, .slice oA on oc, .int .i64 R.checks, .slice sA sn sc] _ _ (.bool true) (by kernel_rfl) (by kernel_rfl) (by kernel_rfl) (by kernel_rfl) (by kernel_rfl) (by kernel_rfl) (by kernel_rfl) (by kernel_rfl) rfl rfl rfl rfl rfl rfl rfl rfl rfl rfl rfl rfl (a4_0 _ _ _ _ _) (a4_1 _ _ _ _ _) (a4_2 _ _ _ _ _) (a4_3 _ _ _ _ _) HZ.out rfl rfl rfl ha (by simp [Value.oneCell']) (by omega) (by omega) ⟨rfl, rfl⟩ ((HH.out.below (bw_alloc (bw_alloc (bw_alloc (bw_alloc (Below.refl w.heap.size w) _) _) _) _)).mach (m' := { m with st := 1, cd := m.x.getD 10 0 % 256 }) rfl HOK.out) (w0 := w) (Fw.below (bw_alloc (bw_alloc (bw_alloc (bw_alloc (Below.refl w.heap.size w) _) _) _) _)) ⟨HH.out.lb, Nat.le_refl _⟩ ?_
  intro Y y1 y2 y3 y4
  go_wp2_with fail
  obtain rfl := HX10.out
  exact bodyPost_ret (v := .tuple #[.agg cs2, .agg #[.slice A R.inp.length c, .slice oA on oc, .int .i64 R.checks, .slice sA sn sc], .bool true]) (res_cct Tryd.results36 _ _ _ _ _ _ _ rfl rfl rfl y1 HZ.out y2 rfl) rfl ⟨{ m with st := 1, cd := m.x.getD 10 0 % 256 }, R, A, c, oA, on, oc, sA, sn, sc, true, rfl, fun hb => (by cases hb), by rw [HC2.out], y3, y4⟩
set_option maxHeartbeats 2000000 in
theorem rcall_4 {m : Ma} {q base : Nat} {w : World} {R : Ru} {A : Option Addr} {c : Nat} {oA sA : Option Addr} {on oc sn sc : Nat} (h : Rd w base q m R A c (.slice oA on oc) (.slice sA sn sc)) (h17 : m.x.getD 17 0 = 4) :
    Calls Tryd.prog 36 #[.agg (mcs m q), .agg #[.slice A R.inp.length c, .slice oA on oc, .int .i64 R.checks, .slice sA sn sc]] w (RTo w base q m R (callV m R)) := by
  have hx := h.ok.1
  have hc : callV m R = some ({ m with st := 2 }, R) := by
    unfold callV
    unfold Ma.reg; rw [if_neg (by omega), if_neg (by omega), if_neg (by omega), if_pos (by omega), h17]; rfl
  have hok : ({ m with st := 2 }).ok := ⟨h.ok.1, h.ok.2.1, h.ok.2.2.1, h.ok.2.2.2.1, h.ok.2.2.2.2.1, h.ok.2.2.2.2.2⟩
  have c17 := mcs_x hx q (k := 17) (by decide)
  have c10 := mcs_x hx q (k := 10) (by decide)
  have hr10 : 0 ≤ m.x.getD 10 0 ∧ m.x.getD 10 0 < 18446744073709551616 := reg_range h.ok 10
  rw [hc]
  have w17 : ∀ Z, ((w.alloc (Obj.cells (mcs m q) 34)).alloc Z).cell? ⟨w.heap.size, 18, none⟩ = some (.int .u64 (m.x.getD 17 0)) := fun Z => by rw [cell_of_row _ _ 18 _ _ _ (aa0 _ _ _)]; exact c17
  have w10 : ∀ Z, ((w.alloc (Obj.cells (mcs m q) 34)).alloc Z).cell? ⟨w.heap.size, 11, none⟩ = some (.int .u64 (m.x.getD 10 0)) := fun Z => by rw [cell_of_row _ _ 11 _ _ _ (aa0 _ _ _)]; exact c10
  have e1 : (mcs (m) q).setIfInBounds 34 (.int .i64 2) = (mcs ({ m with st := 2 }) q) := mcs_set34 hx q 2
  obtain ⟨old1, v1⟩ : ∃ old, ∀ Z, ((w.alloc (Obj.cells (mcs (m) q) 34)).alloc Z).cell? ⟨w.heap.size, 34, none⟩ = some old := by
    obtain ⟨old, ho⟩ : ∃ old, (mcs (m) q)[34]? = some old := ⟨_, Array.getElem?_eq_getElem (by rw [mcs_size (m := m) hx]; decide)⟩
    exact ⟨old, fun Z => by rw [cell_of_row _ _ 34 _ _ _ (aa0 _ _ _)]; exact ho⟩
  have f1 : ∀ Z, ((w.alloc (Obj.cells (mcs (m) q) 34)).alloc Z).frozen? ⟨w.heap.size, 34, none⟩ = false := fun Z => frozen_of_row _ _ 34 _ _ (aa0 _ _ _)
  have w10_1 : ∀ Z, ((w.alloc (Obj.cells (mcs ({ m with st := 2 }) q) 34)).alloc Z).cell? ⟨w.heap.size, 11, none⟩ = some (.int .u64 (m.x.getD 10 0)) := fun Z => by rw [cell_of_row _ _ 11 _ _ _ (aa0 _ _ _)]; exact mcs_x (m := { m with st := 2 }) hx q (k := 10) (by decide)
  have hz : (mcs ({ m with st := 2 }) q).size = 36 := mcs_size (m := { m with st := 2 }) hx q
  have ha := mcs_all ({ m with st := 2 }) q
  have HH := Lib.hid h; have HOK := Lib.hid hok; have HZ := Lib.hid hz
  clear hc c17 c10 hz hok h hx
  generalize hcs1 : mcs ({ m with st := 2 }) q = cs1 at *
  generalize hcs0 : mcs (m) q = cs0 at *
  have HC0 := Lib.hid hcs0; clear hcs0
  have HC1 := Lib.hid hcs1; clear hcs1
  generalize hx17 : m.x.getD 17 0 = x17 at *
  generalize hx10 : m.x.getD 10 0 = x10 at *
  have HX10 := Lib.hid hx10; clear hx17 hx10
  go_enter Tryd.func36, Tryd.ntmps36
  go_wp2_with (first | (go_at_call 31; (with_reducible refine (rimm_any (-1) _ (by decide)).mono ?_); rintro e w9 ⟨rfl, rfl⟩) | fail)
  refine tail6 w.heap.size (w.heap.size + 1) (w.heap.size + 2) (w.heap.size + 3) cs1 #[.slice A R.inp.length c, .slice oA on oc, .int .i64 R.checks, .slice sA sn sc] _ _ (.bool true) (by kernel_rfl) (by kernel_rfl) (by kernel_rfl) (by kernel_rfl) (by kernel_rfl) (by kernel_rfl) (by kernel_rfl) (by kernel_rfl) rfl rfl rfl rfl rfl rfl rfl rfl rfl rfl rfl rfl (a4_0 _ _ _ _ _) (a4_1 _ _ _ _ _) (a4_2 _ _ _ _ _) (a4_3 _ _ _ _ _) HZ.out rfl rfl rfl ha (by simp [Value.oneCell']) (by omega) (by omega) ⟨rfl, rfl⟩ ((HH.out.below (bw_alloc (bw_alloc (bw_alloc (bw_alloc (Below.refl w.heap.size w) _) _) _) _)).mach (m' := { m with st := 2 }) rfl HOK.out) (w0 := w) (Fw.below (bw_alloc (bw_alloc (bw_alloc (bw_alloc (Below.refl w.heap.size w) _) _) _) _)) ⟨HH.out.lb, Nat.le_refl _⟩ ?_
  intro Y y1 y2 y3 y4
  go_wp2_with fail
  obtain rfl := HX10.out
  exact bodyPost_ret (v := .tuple #[.agg cs1, .agg #[.slice A R.inp.length c, .slice oA on oc, .int .i64 R.checks, .slice sA sn sc], .bool true]) (res_cct Tryd.results36 _ _ _ _ _ _ _ rfl rfl rfl y1 HZ.out y2 rfl) rfl ⟨{ m with st := 2 }, R, A, c, oA, on, oc, sA, sn, sc, true, rfl, fun hb => (by cases hb), by rw [HC1.out], y3, y4⟩
set_option maxHeartbeats 2000000 in
theorem rcall_5 {m : Ma} {q base : Nat} {w : World} {R : Ru} {A : Option Addr} {c : Nat} {oA sA : Option Addr} {on oc sn sc : Nat} (h : Rd w base q m R A c (.slice oA on oc) (.slice sA sn sc)) (h17 : m.x.getD 17 0 = 5) :
    Calls Tryd.prog 36 #[.agg (mcs m q), .agg #[.slice A R.inp.length c, .slice oA on oc, .int .i64 R.checks, .slice sA sn sc]] w (RTo w base q m R (callV m R)) := by
  have hx := h.ok.1
  have hc : callV m R = some ({ m with st := 3 }, R) := by
    unfold callV
    unfold Ma.reg; rw [if_neg (by omega), if_neg (by omega), if_neg (by omega), if_pos (by omega), h17]; rfl
  have hok : ({ m with st := 3 }).ok := ⟨h.ok.1, h.ok.2.1, h.ok.2.2.1, h.ok.2.2.2.1, h.ok.2.2.2.2.1, h.ok.2.2.2.2.2⟩
  have c17 := mcs_x hx q (k := 17) (by decide)
  have c10 := mcs_x hx q (k := 10) (by decide)
  have hr10 : 0 ≤ m.x.getD 10 0 ∧ m.x.getD 10 0 < 18446744073709551616 := reg_range h.ok 10
  rw [hc]
  have w17 : ∀ Z, ((w.alloc (Obj.cells (mcs m q) 34)).alloc Z).cell? ⟨w.heap.size, 18, none⟩ = some (.int .u64 (m.x.getD 17 0)) := fun Z => by rw [cell_of_row _ _ 18 _ _ _ (aa0 _ _ _)]; exact c17
  have w10 : ∀ Z, ((w.alloc (Obj.cells (mcs m q) 34)).alloc Z).cell? ⟨w.heap.size, 11, none⟩ = some (.int .u64 (m.x.getD 10 0)) := fun Z => by rw [cell_of_row _ _ 11 _ _ _ (aa0 _ _ _)]; exact c10
  have e1 : (mcs (m) q).setIfInBounds 34 (.int .i64 3) = (mcs ({ m with st := 3 }) q) := mcs_set34 hx q 3
  obtain ⟨old1, v1⟩ : ∃ old, ∀ Z, ((w.alloc (Obj.cells (mcs (m) q) 34)).alloc Z).cell? ⟨w.heap.size, 34, none⟩ = some old := by
    obtain ⟨old, ho⟩ : ∃ old, (mcs (m) q)[34]? = some old := ⟨_, Array.getElem?_eq_getElem (by rw [mcs_size (m := m) hx]; decide)⟩
    exact ⟨old, fun Z => by rw [cell_of_row _ _ 34 _ _ _ (aa0 _ _ _)]; exact ho⟩
  have f1 : ∀ Z, ((w.alloc (Obj.cells (mcs (m) q) 34)).alloc Z).frozen? ⟨w.heap.size, 34, none⟩ = false := fun Z => frozen_of_row _ _ 34 _ _ (aa0 _ _ _)
  have w10_1 : ∀ Z, ((w.alloc (Obj.cells (mcs ({ m with st := 3 }) q) 34)).alloc Z).cell? ⟨w.heap.size, 11, none⟩ = some (.int .u64 (m.x.getD 10 0)) := fun Z => by rw [cell_of_row _ _ 11 _ _ _ (aa0 _ _ _)]; exact mcs_x (m := { m with st := 3 }) hx q (k := 10) (by decide)
  have hz : (mcs ({ m with st := 3 }) q).size = 36 := mcs_size (m := { m with st := 3 }) hx q
  have ha := mcs_all ({ m with st := 3 }) q
  have HH := Lib.hid h; have HOK := Lib.hid hok; have HZ := Lib.hid hz
  clear hc c17 c10 hz hok h hx
  generalize hcs1 : mcs ({ m with st := 3 }) q = cs1 at *
  generalize hcs0 : mcs (m) q = cs0 at *
  have HC0 := Lib.hid hcs0; clear hcs0
  have HC1 := Lib.hid hcs1; clear hcs1
  generalize hx17 : m.x.getD 17 0 = x17 at *
  generalize hx10 : m.x.getD 10 0 = x10 at *
  have HX10 := Lib.hid hx10; clear hx17 hx10
  go_enter Tryd.func36, Tryd.ntmps36
  go_wp2_with (first | (go_at_call 31; (with_reducible refine (rimm_any (-1) _ (by decide)).mono ?_); rintro e w9 ⟨rfl, rfl⟩) | fail)
  refine tail6 w.heap.size (w.heap.size + 1) (w.heap.size + 2) (w.heap.size + 3) cs1 #[.slice A R.inp.length c, .slice oA on oc, .int .i64 R.checks, .slice sA sn sc] _ _ (.bool true) (by kernel_rfl) (by kernel_rfl) (by kernel_rfl) (by kernel_rfl) (by kernel_rfl) (by kernel_rfl) (by kernel_rfl) (by kernel_rfl) rfl rfl rfl rfl rfl rfl rfl rfl rfl rfl rfl rfl (a4_0 _ _ _ _ _) (a4_1 _ _ _ _ _) (a4_2 _ _ _ _ _) (a4_3 _ _ _ _ _) HZ.out rfl rfl rfl ha (by simp [Value.oneCell']) (by omega) (by omega) ⟨rfl, rfl⟩ ((HH.out.below (bw_alloc (bw_alloc (bw_alloc (bw_alloc (Below.refl w.heap.size w) _) _) _) _)).mach (m' := { m with st := 3 }) rfl HOK.out) (w0 := w) (Fw.below (bw_alloc (bw_alloc (bw_alloc (bw_alloc (Below.refl w.heap.size w) _) _) _) _)) ⟨HH.out.lb, Nat.le_refl _⟩ ?_
  intro Y y1 y2 y3 y4
  go_wp2_with fail
  obtain rfl := HX10.out
  exact bodyPost_ret (v := .tuple #[.agg cs1, .agg #[.slice A R.inp.length c, .slice oA on oc, .int .i64 R.checks, .slice sA sn sc], .bool true]) (res_cct Tryd.results36 _ _ _ _ _ _ _ rfl rfl rfl y1 HZ.out y2 rfl) rfl ⟨{ m with st := 3 }, R, A, c, oA, on, oc, sA, sn, sc, true, rfl, fun hb => (by cases hb), by rw [HC1.out], y3, y4⟩
set_option maxHeartbeats 2000000 in
theorem rcall_2n {m : Ma} {q base : Nat} {w : World} {R : Ru} {A : Option Addr} {c : Nat} {oA sA : Option Addr} {on oc sn sc : Nat} (h : Rd w base q m R A c (.slice oA on oc) (.slice sA sn sc)) (h17 : m.x.getD 17 0 = 2) (hi : R.inp = []) :
    Calls Tryd.prog 36 #[.agg (mcs m q), .agg #[.slice A R.inp.length c, .slice oA on oc, .int .i64 R.checks, .slice sA sn sc]] w (RTo w base q m R (callV m R)) := by
  have hx := h.ok.1
  have hc : callV m R = some ({ m with x := m.x.set 10 18446744073709551615 }, R) := by
    unfold callV
    unfold Ma.reg; rw [if_neg (by omega), if_pos h17, hi]; rfl
  have hok : ({ m with x := m.x.set 10 18446744073709551615 }).ok := Ma.set_ok (m := m) h.ok 10 (v := 18446744073709551615) ⟨by decide, by decide⟩
  have c17 := mcs_x hx q (k := 17) (by decide)
  have c10 := mcs_x hx q (k := 10) (by decide)
  have hr10 : 0 ≤ m.x.getD 10 0 ∧ m.x.getD 10 0 < 18446744073709551616 := reg_range h.ok 10
  rw [hc]
  have w17 : ∀ Z, ((w.alloc (Obj.cells (mcs m q) 34)).alloc Z).cell? ⟨w.heap.size, 18, none⟩ = some (.int .u64 (m.x.getD 17 0)) := fun Z => by rw [cell_of_row _ _ 18 _ _ _ (aa0 _ _ _)]; exact c17
  have w10 : ∀ Z, ((w.alloc (Obj.cells (mcs m q) 34)).alloc Z).cell? ⟨w.heap.size, 11, none⟩ = some (.int .u64 (m.x.getD 10 0)) := fun Z => by rw [cell_of_row _ _ 11 _ _ _ (aa0 _ _ _)]; exact c10
  have e1 : (mcs (m) q).setIfInBounds 11 (.int .u64 18446744073709551615) = (mcs ({ m with x := m.x.set 10 18446744073709551615 }) q) := mcs_setX hx q (k := 10) (by decide) _
  obtain ⟨old1, v1⟩ : ∃ old, ∀ Z, ((w.alloc (Obj.cells (mcs (m) q) 34)).alloc Z).cell? ⟨w.heap.size, 11, none⟩ = some old := by
    obtain ⟨old, ho⟩ : ∃ old, (mcs (m) q)[11]? = some old := ⟨_, Array.getElem?_eq_getElem (by rw [mcs_size (m := m) hx]; decide)⟩
    exact ⟨old, fun Z => by rw [cell_of_row _ _ 11 _ _ _ (aa0 _ _ _)]; exact ho⟩
  have f1 : ∀ Z, ((w.alloc (Obj.cells (mcs (m) q) 34)).alloc Z).frozen? ⟨w.heap.size, 11, none⟩ = false := fun Z => frozen_of_row _ _ 11 _ _ (aa0 _ _ _)
  have hz : (mcs ({ m with x := m.x.set 10 18446744073709551615 }) q).size = 36 := mcs_size (m := { m with x := m.x.set 10 18446744073709551615 }) (by simpa using hx) q
  have ha := mcs_all ({ m with x := m.x.set 10 18446744073709551615 }) q
  have HH := Lib.hid h; have HOK := Lib.hid hok; have HZ := Lib.hid hz
  clear hc c17 c10 hz hok h hx
  generalize hcs1 : mcs ({ m with x := m.x.set 10 18446744073709551615 }) q = cs1 at *
  generalize hcs0 : mcs (m) q = cs0 at *
  have HC0 := Lib.hid hcs0; clear hcs0
  have HC1 := Lib.hid hcs1; clear hcs1
  generalize hx17 : m.x.getD 17 0 = x17 at *
  generalize hx10 : m.x.getD 10 0 = x10 at *
  have HX10 := Lib.hid hx10; clear hx17 hx10
  have hil : R.inp.length = 0 := by rw [hi]; rfl
  rw [hil]
  have HIL := Lib.hid hil
  clear hi hil
  go_enter Tryd.func36, Tryd.ntmps36
  go_wp2_with (first | (go_at_call 31; (with_reducible refine (rimm_any (-1) _ (by decide)).mono ?_); rintro e w9 ⟨rfl, rfl⟩) | fail)
  refine tail6 w.heap.size (w.heap.size + 1) (w.heap.size + 2) (w.heap.size + 3) cs1 #[.slice A 0 c, .slice oA on oc, .int .i64 R.checks, .slice sA sn sc] _ _ (.bool true) (by kernel_rfl) (by kernel_rfl) (by kernel_rfl) (by kernel_rfl) (by kernel_rfl) (by kernel_rfl) (by kernel_rfl) (by kernel_rfl) rfl rfl rfl rfl rfl rfl rfl rfl rfl rfl rfl rfl (a4_0 _ _ _ _ _) (a4_1 _ _ _ _ _) (a4_2 _ _ _ _ _) (a4_3 _ _ _ _ _) HZ.out rfl rfl rfl ha (by simp [Value.oneCell']) (by omega) (by omega) ⟨rfl, rfl⟩ ((HH.out.below (bw_alloc (bw_alloc (bw_alloc (bw_alloc (Below.refl w.heap.size w) _) _) _) _)).mach (m' := { m with x := m.x.set 10 18446744073709551615 }) rfl HOK.out) (w0 := w) (Fw.below (bw_alloc (bw_alloc (bw_alloc (bw_alloc (Below.refl w.heap.size w) _) _) _) _)) ⟨HH.out.lb, Nat.le_refl _⟩ ?_
  intro Y y1 y2 y3 y4
  go_wp2_with fail
  obtain rfl := HX10.out
  exact bodyPost_ret (v := .tuple #[.agg cs1, .agg #[.slice A 0 c, .slice oA on oc, .int .i64 R.checks, .slice sA sn sc], .bool true]) (res_cct Tryd.results36 _ _ _ _ _ _ _ rfl rfl rfl y1 HZ.out y2 rfl) rfl ⟨{ m with x := m.x.set 10 18446744073709551615 }, R, A, c, oA, on, oc, sA, sn, sc, true, rfl, fun hb => (by cases hb), by rw [HC1.out, HIL.out], y3, y4⟩
set_option maxHeartbeats 2000000 in
theorem rcall_2c0 {m : Ma} {q base : Nat} {w : World} {R : Ru} {A : Option Addr} {c : Nat} {oA sA : Option Addr} {on oc sn sc : Nat} (h : Rd w base q m R A c (.slice oA on oc) (.slice sA sn sc)) (h17 : m.x.getD 17 0 = 2) {ib off : Nat} {b : Int} {l : List Int} (hi : R.inp = b :: l) (hA : A = some ⟨ib, off, none⟩) (hb : 0 ≤ b ∧ b < 256) (hcell : w.cell? ⟨ib, off, none⟩ = some (.int .u8 b)) (hib : ib < w.heap.size) (hcl : l.length + 1 ≤ c) (h1 : c ≠ 1) (hinp : InpIs w base q q (some ⟨ib, off + 1, none⟩) l) :
    Calls Tryd.prog 36 #[.agg (mcs m q), .agg #[.slice A R.inp.length c, .slice oA on oc, .int .i64 R.checks, .slice sA sn sc]] w (RTo w base q m R (callV m R)) := by
  have hx := h.ok.1
  have hc : callV m R = some ({ m with x := m.x.set 10 b }, { R with inp := l }) := by
    unfold callV
    unfold Ma.reg; rw [if_neg (by omega), if_pos h17, hi]; rfl
  have hok : ({ m with x := m.x.set 10 b }).ok := Ma.set_ok (m := m) h.ok 10 (v := b) ⟨hb.1, by omega⟩
  have c17 := mcs_x hx q (k := 17) (by decide)
  have c10 := mcs_x hx q (k := 10) (by decide)
  have hr10 : 0 ≤ m.x.getD 10 0 ∧ m.x.getD 10 0 < 18446744073709551616 := reg_range h.ok 10
  rw [hc]
  have w17 : ∀ Z, ((w.alloc (Obj.cells (mcs m q) 34)).alloc Z).cell? ⟨w.heap.size, 18, none⟩ = some (.int .u64 (m.x.getD 17 0)) := fun Z => by rw [cell_of_row _ _ 18 _ _ _ (aa0 _ _ _)]; exact c17
  have w10 : ∀ Z, ((w.alloc (Obj.cells (mcs m q) 34)).alloc Z).cell? ⟨w.heap.size, 11, none⟩ = some (.int .u64 (m.x.getD 10 0)) := fun Z => by rw [cell_of_row _ _ 11 _ _ _ (aa0 _ _ _)]; exact c10
  have e1 : (mcs (m) q).setIfInBounds 11 (.int .u64 18446744073709551615) = (mcs ({ m with x := m.x.set 10 18446744073709551615 }) q) := mcs_setX hx q (k := 10) (by decide) _
  obtain ⟨old1, v1⟩ : ∃ old, ∀ Z, ((w.alloc (Obj.cells (mcs (m) q) 34)).alloc Z).cell? ⟨w.heap.size, 11, none⟩ = some old := by
    obtain ⟨old, ho⟩ : ∃ old, (mcs (m) q)[11]? = some old := ⟨_, Array.getElem?_eq_getElem (by rw [mcs_size (m := m) hx]; decide)⟩
    exact ⟨old, fun Z => by rw [cell_of_row _ _ 11 _ _ _ (aa0 _ _ _)]; exact ho⟩
  have f1 : ∀ Z, ((w.alloc (Obj.cells (mcs (m) q) 34)).alloc Z).frozen? ⟨w.heap.size, 11, none⟩ = false := fun Z => frozen_of_row _ _ 11 _ _ (aa0 _ _ _)
  have e2 : (mcs ({ m with x := m.x.set 10 18446744073709551615 }) q).setIfInBounds 11 (.int .u64 b) = (mcs ({ m with x := m.x.set 10 b }) q) := (mcs_setX (m := { m with x := m.x.set 10 18446744073709551615 }) (by simpa using hx) q (k := 10) (by decide) b).trans (by simp [List.set_set])
  obtain ⟨old2, v2⟩ : ∃ old, ∀ Z, ((w.alloc (Obj.cells (mcs ({ m with x := m.x.set 10 18446744073709551615 }) q) 34)).alloc Z).cell? ⟨w.heap.size, 11, none⟩ = some old := by
    obtain ⟨old, ho⟩ : ∃ old, (mcs ({ m with x := m.x.set 10 18446744073709551615 }) q)[11]? = some old := ⟨_, Array.getElem?_eq_getElem (by rw [mcs_size (m := { m with x := m.x.set 10 18446744073709551615 }) (by simpa using hx)]; decide)⟩
    exact ⟨old, fun Z => by rw [cell_of_row _ _ 11 _ _ _ (aa0 _ _ _)]; exact ho⟩
  have f2 : ∀ Z, ((w.alloc (Obj.cells (mcs ({ m with x := m.x.set 10 18446744073709551615 }) q) 34)).alloc Z).frozen? ⟨w.heap.size, 11, none⟩ = false := fun Z => frozen_of_row _ _ 11 _ _ (aa0 _ _ _)
  have hz : (mcs ({ m with x := m.x.set 10 b }) q).size = 36 := mcs_size (m := { m with x := m.x.set 10 b }) (by simpa using hx) q
  have ha := mcs_all ({ m with x := m.x.set 10 b }) q
  have HH := Lib.hid h; have HOK := Lib.hid hok; have HZ := Lib.hid hz
  clear hc c17 c10 hz hok h hx
  generalize hcs2 : mcs ({ m with x := m.x.set 10 b }) q = cs2 at *
  generalize hcs1 : mcs ({ m with x := m.x.set 10 18446744073709551615 }) q = cs1 at *
  generalize hcs0 : mcs (m) q = cs0 at *
  have HC0 := Lib.hid hcs0; clear hcs0
  have HC1 := Lib.hid hcs1; clear hcs1
  have HC2 := Lib.hid hcs2; clear hcs2
  generalize hx17 : m.x.getD 17 0 = x17 at *
  generalize hx10 : m.x.getD 10 0 = x10 at *
  have HX10 := Lib.hid hx10; clear hx17 hx10
  have hlen : R.inp.length = l.length + 1 := by rw [hi]; rfl
  rw [hlen]
  have HRd : Hid (∀ a b1 d e : Obj, Rd ((((w.alloc a).alloc b1).alloc d).alloc e) base q ({ m with x := m.x.set 10 b }) { R with inp := l } (some ⟨ib, off + 1, none⟩) (c - 1) (.slice oA on oc) (.slice sA sn sc)) := Lib.hid fun a b1 d e =>
    have hb4 := bw_alloc (bw_alloc (bw_alloc (bw_alloc (Below.refl w.heap.size w) a) b1) d) e
    have h0 := (HH.out.below hb4).mach (m' := { m with x := m.x.set 10 b }) rfl HOK.out
    ⟨h0.mem, h0.ok, h0.out, h0.seen, hinp.at_ fun g hg _ _ _ => hb4.block g hg, by show l.length ≤ c - 1; omega, h0.wat, h0.lq, h0.lb, h0.lo, h0.ls⟩
  subst hA
  have hc2 : ∀ a b1 d e : Obj, ((((w.alloc a).alloc b1).alloc d).alloc e).cell? ⟨ib, off, none⟩ = some (.int .u8 b) := fun a b1 d e => ((bw_alloc (bw_alloc (bw_alloc (bw_alloc (Below.refl w.heap.size w) a) b1) d) e).cell (p := ⟨ib, off, none⟩) hib).trans hcell
  clear hlen hi hinp
  go_enter Tryd.func36, Tryd.ntmps36
  go_wp2_with (first | (go_at_call 31; (with_reducible refine (rimm_any (-1) _ (by decide)).mono ?_); rintro e w9 ⟨rfl, rfl⟩) | fail)
  refine tail6 w.heap.size (w.heap.size + 1) (w.heap.size + 2) (w.heap.size + 3) cs2 #[.slice (some ⟨ib, off + 1, none⟩) l.length (c - 1), .slice oA on oc, .int .i64 R.checks, .slice sA sn sc] _ _ (.bool true) (by kernel_rfl) (by kernel_rfl) (by kernel_rfl) (by kernel_rfl) (by kernel_rfl) (by kernel_rfl) (by kernel_rfl) (by kernel_rfl) rfl rfl rfl rfl rfl rfl rfl rfl rfl rfl rfl rfl (a4_0 _ _ _ _ _) (a4_1 _ _ _ _ _) (a4_2 _ _ _ _ _) (a4_3 _ _ _ _ _) HZ.out rfl rfl rfl ha (by simp [Value.oneCell']) (by omega) (by omega) ⟨rfl, rfl⟩ (HRd.out _ _ _ _) (w0 := w) (Fw.below (bw_alloc (bw_alloc (bw_alloc (bw_alloc (Below.refl w.heap.size w) _) _) _) _)) ⟨HH.out.lb, Nat.le_refl _⟩ ?_
  intro Y y1 y2 y3 y4
  go_wp2_with fail
  obtain rfl := HX10.out
  exact bodyPost_ret (v := .tuple #[.agg cs2, .agg #[.slice (some ⟨ib, off + 1, none⟩) l.length (c - 1), .slice oA on oc, .int .i64 R.checks, .slice sA sn sc], .bool true]) (res_cct Tryd.results36 _ _ _ _ _ _ _ rfl rfl rfl y1 HZ.out y2 rfl) rfl ⟨{ m with x := m.x.set 10 b }, { R with inp := l }, (some ⟨ib, off + 1, none⟩), c - 1, oA, on, oc, sA, sn, sc, true, rfl, fun hb => (by cases hb), by rw [HC2.out], y3, y4⟩
set_option maxHeartbeats 2000000 in
theorem rcall_2c1 {m : Ma} {q base : Nat} {w : World} {R : Ru} {A : Option Addr} {c : Nat} {oA sA : Option Addr} {on oc sn sc : Nat} (h : Rd w base q m R A c (.slice oA on oc) (.slice sA sn sc)) (h17 : m.x.getD 17 0 = 2) {ib off : Nat} {b : Int} {l : List Int} (hi : R.inp = b :: l) (hA : A = some ⟨ib, off, none⟩) (hb : 0 ≤ b ∧ b < 256) (hcell : w.cell? ⟨ib, off, none⟩ = some (.int .u8 b)) (hib : ib < w.heap.size) (hcl : l.length + 1 ≤ c) (h1 : c = 1) (hinp : InpIs w base q q (some ⟨ib, off, none⟩) l) :
    Calls Tryd.prog 36 #[.agg (mcs m q), .agg #[.slice A R.inp.length c, .slice oA on oc, .int .i64 R.checks, .slice sA sn sc]] w (RTo w base q m R (callV m R)) := by
  have hx := h.ok.1
  have hc : callV m R = some ({ m with x := m.x.set 10 b }, { R with inp := l }) := by
    unfold callV
    unfold Ma.reg; rw [if_neg (by omega), if_pos h17, hi]; rfl
  have hok : ({ m with x := m.x.set 10 b }).ok := Ma.set_ok (m := m) h.ok 10 (v := b) ⟨hb.1, by omega⟩
  have c17 := mcs_x hx q (k := 17) (by decide)
  have c10 := mcs_x hx q (k := 10) (by decide)
  have hr10 : 0 ≤ m.x.getD 10 0 ∧ m.x.getD 10 0 < 18446744073709551616 := reg_range h.ok 10
  rw [hc]
  have w17 : ∀ Z, ((w.alloc (Obj.cells (mcs m q) 34)).alloc Z).cell? ⟨w.heap.size, 18, none⟩ = some (.int .u64 (m.x.getD 17 0)) := fun Z => by rw [cell_of_row _ _ 18 _ _ _ (aa0 _ _ _)]; exact c17
  have w10 : ∀ Z, ((w.alloc (Obj.cells (mcs m q) 34)).alloc Z).cell? ⟨w.heap.size, 11, none⟩ = some (.int .u64 (m.x.getD 10 0)) := fun Z => by rw [cell_of_row _ _ 11 _ _ _ (aa0 _ _ _)]; exact c10
  have e1 : (mcs (m) q).setIfInBounds 11 (.int .u64 18446744073709551615) = (mcs ({ m with x := m.x.set 10 18446744073709551615 }) q) := mcs_setX hx q (k := 10) (by decide) _
  obtain ⟨old1, v1⟩ : ∃ old, ∀ Z, ((w.alloc (Obj.cells (mcs (m) q) 34)).alloc Z).cell? ⟨w.heap.size, 11, none⟩ = some old := by
    obtain ⟨old, ho⟩ : ∃ old, (mcs (m) q)[11]? = some old := ⟨_, Array.getElem?_eq_getElem (by rw [mcs_size (m := m) hx]; decide)⟩
    exact ⟨old, fun Z => by rw [cell_of_row _ _ 11 _ _ _ (aa0 _ _ _)]; exact ho⟩
  have f1 : ∀ Z, ((w.alloc (Obj.cells (mcs (m) q) 34)).alloc Z).frozen? ⟨w.heap.size, 11, none⟩ = false := fun Z => frozen_of_row _ _ 11 _ _ (aa0 _ _ _)
  have e2 : (mcs ({ m with x := m.x.set 10 18446744073709551615 }) q).setIfInBounds 11 (.int .u64 b) = (mcs ({ m with x := m.x.set 10 b }) q) := (mcs_setX (m := { m with x := m.x.set 10 18446744073709551615 }) (by simpa using hx) q (k := 10) (by decide) b).trans (by simp [List.set_set])
  obtain ⟨old2, v2⟩ : ∃ old, ∀ Z, ((w.alloc (Obj.cells (mcs ({ m with x := m.x.set 10 18446744073709551615 }) q) 34)).alloc Z).cell? ⟨w.heap.size, 11, none⟩ = some old := by
    obtain ⟨old, ho⟩ : ∃ old, (mcs ({ m with x := m.x.set 10 18446744073709551615 }) q)[11]? = some old := ⟨_, Array.getElem?_eq_getElem (by rw [mcs_size (m := { m with x := m.x.set 10 18446744073709551615 }) (by simpa using hx)]; decide)⟩
    exact ⟨old, fun Z => by rw [cell_of_row _ _ 11 _ _ _ (aa0 _ _ _)]; exact ho⟩
  have f2 : ∀ Z, ((w.alloc (Obj.cells (mcs ({ m with x := m.x.set 10 18446744073709551615 }) q) 34)).alloc Z).frozen? ⟨w.heap.size, 11, none⟩ = false := fun Z => frozen_of_row _ _ 11 _ _ (aa0 _ _ _)
  have hz : (mcs ({ m with x := m.x.set 10 b }) q).size = 36 := mcs_size (m := { m with x := m.x.set 10 b }) (by simpa using hx) q
  have ha := mcs_all ({ m with x := m.x.set 10 b }) q
  have HH := Lib.hid h; have HOK := Lib.hid hok; have HZ := Lib.hid hz
  clear hc c17 c10 hz hok h hx
  generalize hcs2 : mcs ({ m with x := m.x.set 10 b }) q = cs2 at *
  generalize hcs1 : mcs ({ m with x := m.x.set 10 18446744073709551615 }) q = cs1 at *
  generalize hcs0 : mcs (m) q = cs0 at *
  have HC0 := Lib.hid hcs0; clear hcs0
  have HC1 := Lib.hid hcs1; clear hcs1
  have HC2 := Lib.hid hcs2; clear hcs2
  generalize hx17 : m.x.getD 17 0 = x17 at *
  generalize hx10 : m.x.getD 10 0 = x10 at *
  have HX10 := Lib.hid hx10; clear hx17 hx10
  have hlen : R.inp.length = l.length + 1 := by rw [hi]; rfl
  rw [hlen]
  have HRd : Hid (∀ a b1 d e : Obj, Rd ((((w.alloc a).alloc b1).alloc d).alloc e) base q ({ m with x := m.x.set 10 b }) { R with inp := l } (some ⟨ib, off, none⟩) (0) (.slice oA on oc) (.slice sA sn sc)) := Lib.hid fun a b1 d e =>
    have hb4 := bw_alloc (bw_alloc (bw_alloc (bw_alloc (Below.refl w.heap.size w) a) b1) d) e
    have h0 := (HH.out.below hb4).mach (m' := { m with x := m.x.set 10 b }) rfl HOK.out
    ⟨h0.mem, h0.ok, h0.out, h0.seen, hinp.at_ fun g hg _ _ _ => hb4.block g hg, by show l.length ≤ 0; omega, h0.wat, h0.lq, h0.lb, h0.lo, h0.ls⟩
  subst hA
  have hc2 : ∀ a b1 d e : Obj, ((((w.alloc a).alloc b1).alloc d).alloc e).cell? ⟨ib, off, none⟩ = some (.int .u8 b) := fun a b1 d e => ((bw_alloc (bw_alloc (bw_alloc (bw_alloc (Below.refl w.heap.size w) a) b1) d) e).cell (p := ⟨ib, off, none⟩) hib).trans hcell
  clear hlen hi hinp
  go_enter Tryd.func36, Tryd.ntmps36
  go_wp2_with (first | (go_at_call 31; (with_reducible refine (rimm_any (-1) _ (by decide)).mono ?_); rintro e w9 ⟨rfl, rfl⟩) | fail)
  refine tail6 w.heap.size (w.heap.size + 1) (w.heap.size + 2) (w.heap.size + 3) cs2 #[.slice (some ⟨ib, off, none⟩) l.length 0, .slice oA on oc, .int .i64 R.checks, .slice sA sn sc] _ _ (.bool true) (by kernel_rfl) (by kernel_rfl) (by kernel_rfl) (by kernel_rfl) (by kernel_rfl) (by kernel_rfl) (by kernel_rfl) (by kernel_rfl) rfl rfl rfl rfl rfl rfl rfl rfl rfl rfl rfl rfl (a4_0 _ _ _ _ _) (a4_1 _ _ _ _ _) (a4_2 _ _ _ _ _) (a4_3 _ _ _ _ _) HZ.out rfl rfl rfl ha (by simp [Value.oneCell']) (by omega) (by omega) ⟨rfl, rfl⟩ (HRd.out _ _ _ _) (w0 := w) (Fw.below (bw_alloc (bw_alloc (bw_alloc (bw_alloc (Below.refl w.heap.size w) _) _) _) _)) ⟨HH.out.lb, Nat.le_refl _⟩ ?_
  intro Y y1 y2 y3 y4
  go_wp2_with fail
  obtain rfl := HX10.out
  exact bodyPost_ret (v := .tuple #[.agg cs2, .agg #[.slice (some ⟨ib, off, none⟩) l.length 0, .slice oA on oc, .int .i64 R.checks, .slice sA sn sc], .bool true]) (res_cct Tryd.results36 _ _ _ _ _ _ _ rfl rfl rfl y1 HZ.out y2 rfl) rfl ⟨{ m with x := m.x.set 10 b }, { R with inp := l }, (some ⟨ib, off, none⟩), 0, oA, on, oc, sA, sn, sc, true, rfl, fun hb => (by cases hb), by rw [HC2.out], y3, y4⟩
theorem own_lt {w : World} {base size n : Nat} {e : TypeId} {v : Value} {xs : List Value} (h : w.ownsRow base e size v n xs) (k : Nat) (hk : w.heap.size ≤ k) : v.ownBlock ≠ some k := by
  rcases h.2 with ⟨rfl, _⟩ | ⟨g', cap, cur, rfl, _, hh, _⟩
  · simp [Value.ownBlock]
  · intro he
    have e1 : g' = k := by simpa [Value.ownBlock] using he
    have := lt_of_at hh
    omega
theorem grow5 {w w1 : World} {a b c d e : Obj} {v : Value} (hg : (((((w.alloc a).alloc b).alloc c).alloc d).alloc e).grownBy w1 v.ownBlock) (hv : ∀ k, w.heap.size ≤ k → v.ownBlock ≠ some k) :
    w1.heap[w.heap.size]? = some a ∧ w1.heap[w.heap.size + 1]? = some b ∧ w1.heap[w.heap.size + 2]? = some c ∧ w1.heap[w.heap.size + 3]? = some d := by
  have hk : ∀ i, i < 4 → w1.heap[w.heap.size + i]? = ((((w.alloc a).alloc b).alloc c).alloc d).heap[w.heap.size + i]? := fun i hi => by
    rw [hg.block (w.heap.size + i) (by simp; omega) (fun e => hv _ (by omega) e.symm), Below.heap_alloc _ _ _ (by simp; omega)]
  exact ⟨(hk 0 (by omega)).trans (a4_0 _ _ _ _ _), (hk 1 (by omega)).trans (a4_1 _ _ _ _ _), (hk 2 (by omega)).trans (a4_2 _ _ _ _ _), (hk 3 (by omega)).trans (a4_3 _ _ _ _ _)⟩
theorem a5_4 (w : World) (a b c d e : Obj) : (((((w.alloc a).alloc b).alloc c).alloc d).alloc e).heap[w.heap.size + 4]? = some e := by
  have := heap_alloc_new ((((w.alloc a).alloc b).alloc c).alloc d) e
  simpa using this
theorem bw5 (w : World) (a b c d e : Obj) : Below w.heap.size w (((((w.alloc a).alloc b).alloc c).alloc d).alloc e) := bw_alloc (bw_alloc (bw_alloc (bw_alloc (bw_alloc (Below.refl w.heap.size w) _) _) _) _) _
theorem rd_out {w X w1 : World} {base q : Nat} {m : Ma} {R : Ru} {A : Option Addr} {c : Nat} {ov sv ov' : Value} {v : Int} (h : Rd w base q m R A c ov sv) (hb : Below w.heap.size w X) (hg : X.grownBy w1 ov.ownBlock) (ho : w1.ownsRow base 5 1 ov' (R.out.length + 1) (u8s R.out ++ [.int .u8 v])) (hl : R.out.length + 1 < 1099511627776) :
    Rd w1 base q m { R with out := R.out ++ [v] } A c ov' sv ∧ Fw base q w w1 := by
  have hX := h.below hb
  have hlow : ∀ g, g < X.heap.size → g < base → w1.heap[g]? = X.heap[g]? := fun g h1 h2 => hg.block g h1 fun e => own_base h.out h2 e.symm
  refine ⟨⟨(hlow q (lt_of_at hX.mem) h.lq).trans hX.mem, h.ok, ?_, ?_, hX.inp.at_ fun g h1 h2 _ _ => hlow g h1 h2, h.cap, h.wat, h.lq, Nat.le_trans hX.lb hg.size, by simpa using hl, h.ls⟩, ⟨hg.os.trans hb.os, hg.tape.trans hb.tape, hg.output.trans hb.output, Nat.le_trans hb.size hg.size, fun k h1 h2 _ _ => (hlow k (Nat.lt_of_lt_of_le h1 hb.size) h2).trans (hb.block k h1)⟩, fun k h1 hx => by
    obtain ⟨cs, t, t1, t2, hk⟩ := hx
    have hc := (hb.block k h1).trans hk
    exact (hg.block k (lt_of_at hc) (fun e => own_ne hX.out hc (fun cur' he => by injection he with he1 he2; exact t1 he2) e.symm)).trans (hb.block k h1)⟩
  · have e1 : u8s (R.out ++ [v]) = u8s R.out ++ [.int .u8 v] := by simp [u8s]
    have e2 : (R.out ++ [v]).length = R.out.length + 1 := by simp
    show w1.ownsRow base _ 1 ov' (R.out ++ [v]).length (u8s (R.out ++ [v]))
    rw [e1, e2]; exact ho
  · exact ownsRow_at2 hX.seen fun g cur _ hc => (hg.block g (lt_of_at hc) (fun e => own_ne hX.out hc (fun cur' he => by injection he with _ he; exact absurd he (by decide)) e.symm)).trans hc
theorem rd_cell {X : World} {base q : Nat} {m : Ma} {R : Ru} {A : Option Addr} {c : Nat} {ov sv : Value} {b i : Nat} {x : Value} {cs : Array Value} (h : Rd X base q m R A c ov sv) (hb : X.heap[b]? = some (.cells cs 71)) (hbb : base ≤ b) : Rd (X.setCell ⟨b, i, none⟩ x) base q m R A c ov sv := by
  have ho : ∀ g, g ≠ b → (X.setCell ⟨b, i, none⟩ x).heap[g]? = X.heap[g]? := fun g hne => Below.heap_setCell _ _ _ _ hne
  have hr : ∀ (g : Nat) (cur : Array Value) (t : TypeId), t ≠ 71 → X.heap[g]? = some (Obj.cells cur t) → (X.setCell ⟨b, i, none⟩ x).heap[g]? = some (Obj.cells cur t) := fun g cur t ht hg => by
    rw [ho g (by rintro rfl; rw [hb] at hg; injection hg with hg; injection hg with _ hg; exact ht hg.symm)]; exact hg
  exact ⟨hr _ _ 5 (by decide) h.mem, h.ok, ownsRow_at2 h.out fun g cur _ hg => hr _ _ 5 (by decide) hg, ownsRow_at2 h.seen fun g cur _ hg => hr _ _ 81 (by decide) hg, h.inp.at_ fun g _ hb2 _ _ => ho g (by omega), h.cap, h.wat, h.lq, by simp only [World.setCell, Array.size_modify]; exact h.lb, h.lo, h.ls⟩
theorem fb_cell {w X : World} {base q : Nat} {b i : Nat} {x : Value} (h : Fw base q w X) (hbb : base ≤ b ∧ w.heap.size ≤ b) : Fw base q w (X.setCell ⟨b, i, none⟩ x) :=
  ⟨⟨h.fb.os, h.fb.tape, h.fb.output, by simp only [World.setCell, Array.size_modify]; exact h.fb.size, fun k h1 h2 h3 h4 => (Below.heap_setCell _ _ _ _ (by simp; omega)).trans (h.fb.block k h1 h2 h3 h4)⟩, fun k h1 hx => (Below.heap_setCell _ _ _ _ (by simp; omega)).trans (h.kept k h1 hx)⟩
set_option maxHeartbeats 3000000 in
theorem rcall_1 {m : Ma} {q base : Nat} {w : World} {R : Ru} {A : Option Addr} {c : Nat} {oA sA : Option Addr} {on oc sn sc : Nat} (h : Rd w base q m R A c (.slice oA on oc) (.slice sA sn sc)) (h17 : m.x.getD 17 0 = 1) (hl : R.out.length + 1 < 1099511627776) :
    Calls Tryd.prog 36 #[.agg (mcs m q), .agg #[.slice A R.inp.length c, .slice oA on oc, .int .i64 R.checks, .slice sA sn sc]] w (RTo w base q m R (callV m R)) := by
  obtain ⟨i0, hi0, hz0, hz1, hz2⟩ := info_parts infoU8
  have hx := h.ok.1
  have hc : callV m R = some (m, { R with out := R.out ++ [m.x.getD 10 0 % 256] }) := by
    unfold callV Ma.reg; rw [if_pos h17]
  have c17 := mcs_x hx q (k := 17) (by decide)
  have c10 := mcs_x hx q (k := 10) (by decide)
  have hr10 : 0 ≤ m.x.getD 10 0 ∧ m.x.getD 10 0 < 18446744073709551616 := reg_range h.ok 10
  rw [hc]
  have w17 : ∀ Z, ((w.alloc (Obj.cells (mcs m q) 34)).alloc Z).cell? ⟨w.heap.size, 18, none⟩ = some (.int .u64 (m.x.getD 17 0)) := fun Z => by rw [cell_of_row _ _ 18 _ _ _ (aa0 _ _ _)]; exact c17
  have w10 : ∀ Z, ((w.alloc (Obj.cells (mcs m q) 34)).alloc Z).cell? ⟨w.heap.size, 11, none⟩ = some (.int .u64 (m.x.getD 10 0)) := fun Z => by rw [cell_of_row _ _ 11 _ _ _ (aa0 _ _ _)]; exact c10
  have hz := mcs_size hx q
  have ha := mcs_all m q
  have HH := Lib.hid h; have HZ := Lib.hid hz
  have HV := Lib.hid (own_lt h.out)
  have HOWN : Hid (∀ a b c d e : Obj, (((((w.alloc a).alloc b).alloc c).alloc d).alloc e).ownsRow base 5 1 (.slice oA on oc) R.out.length (u8s R.out)) := Lib.hid fun a b c d e => (((((h.out.alloc a).alloc b).alloc c).alloc d).alloc e)
  clear hc c17 c10 hz h hx
  generalize hcs0 : mcs m q = cs0 at *
  have HC0 := Lib.hid hcs0; clear hcs0
  generalize hx17 : m.x.getD 17 0 = x17 at *
  generalize hx10 : m.x.getD 10 0 = x10 at *
  clear hx17 hx10
  have hlb := HH.out.lb
  go_enter Tryd.func36, Tryd.ntmps36
  go_wp2_with (at_builtin; refine wpList_append_lies (o := ⟨some 22, _, _, _, _, _⟩) _ rfl (.tmp 15) (.tmp 21) 22 rfl base 5 i0 (.int .u8 0) 1 1 Tryd.underlying22 hi0 hz0 hz1 hz2 rfl (by decide) (.slice oA on oc) R.out.length (u8s R.out) rfl (HOWN.out _ _ _ _ _) ⟨w.heap.size + 4, 0, none⟩ 1 1 [.int .u8 (x10 % 256)] rfl rfl (World.news_of_block (cs := #[.int .u8 (x10 % 256)]) (t := 5) (fr := (0, 0)) (a5_4 _ _ _ _ _ _)) (by simp [Value.oneCell']) (by omega) (by unfold maxLen; omega) (by omega) (by simp; omega) (w.heap.size + 5) (by simp) ?_; intro g cap w1 hown1 hgrow hat hlt; obtain ⟨g0, g1, g2, g3⟩ := grow5 hgrow HV.out; have u1 : w1.cell? ⟨w.heap.size + 1, 1, none⟩ = some (.slice oA on oc) := (by rw [cell_of_row _ _ 1 _ _ _ g1]; rfl); have u2 : w1.frozen? ⟨w.heap.size + 1, 1, none⟩ = false := frozen_of_row _ _ 1 _ _ g1; have HG0 := Lib.hid g0; have HG1 := Lib.hid g1; have HG2 := Lib.hid g2; have HG3 := Lib.hid g3; clear g0 g1 g2 g3)
  obtain ⟨hR1, hF1⟩ := rd_out (v := x10 % 256) HH.out (bw5 _ _ _ _ _ _) hgrow hown1 hl
  refine tail6 w.heap.size (w.heap.size + 1) (w.heap.size + 2) (w.heap.size + 3) cs0 #[.slice A R.inp.length c, .slice (some ⟨g, 0, none⟩) (R.out.length + 1) cap, .int .i64 R.checks, .slice sA sn sc] _ _ (.bool true) (by kernel_rfl) (by kernel_rfl) (by kernel_rfl) (by kernel_rfl) (by kernel_rfl) (by kernel_rfl) (by kernel_rfl) (by kernel_rfl) rfl rfl rfl rfl rfl rfl rfl rfl rfl rfl rfl rfl ((Below.heap_setCell _ _ _ _ (by simp)).trans HG0.out) (heap_setCell_same _ _ _ _ _ _ HG1.out) ((Below.heap_setCell _ _ _ _ (by simp)).trans HG2.out) ((Below.heap_setCell _ _ _ _ (by simp)).trans HG3.out) HZ.out rfl rfl rfl ha (by simp [Value.oneCell']) (by omega) (by omega) ⟨rfl, rfl⟩ (rd_cell hR1 HG1.out (by omega)) (w0 := w) (fb_cell hF1 (by omega)) ⟨HH.out.lb, Nat.le_refl _⟩ ?_
  intro Y y1 y2 y3 y4
  go_wp2_with fail
  exact bodyPost_ret (v := .tuple #[.agg cs0, .agg #[.slice A R.inp.length c, .slice (some ⟨g, 0, none⟩) (R.out.length + 1) cap, .int .i64 R.checks, .slice sA sn sc], .bool true]) (res_cct Tryd.results36 _ _ _ _ _ _ _ rfl rfl rfl y1 HZ.out y2 rfl) rfl ⟨m, { R with out := R.out ++ [x10 % 256] }, A, c, some ⟨g, 0, none⟩, R.out.length + 1, cap, sA, sn, sc, true, rfl, fun hb => (by cases hb), by rw [HC0.out], y3, y4⟩
theorem rcall_any {m : Ma} {q base : Nat} {w : World} {R : Ru} {A : Option Addr} {c : Nat} {oA sA : Option Addr} {on oc sn sc : Nat} (h : Rd w base q m R A c (.slice oA on oc) (.slice sA sn sc)) (hl : R.out.length + 1 < 1099511627776) :
    Calls Tryd.prog 36 #[.agg (mcs m q), .agg #[.slice A R.inp.length c, .slice oA on oc, .int .i64 R.checks, .slice sA sn sc]] w (RTo w base q m R (callV m R)) := by
  by_cases h1 : m.x.getD 17 0 = 1
  · exact rcall_1 h h1 hl
  by_cases h2 : m.x.getD 17 0 = 2
  · cases hi : R.inp with
    | nil =>
      have := rcall_2n h h2 hi
      rw [hi] at this; exact this
    | cons b l =>
      have hin := h.inp
      rw [hi] at hin
      obtain ⟨ib, off, hA, hib, -, -, hcell⟩ := hin.2 (by simp)
      have hb : 0 ≤ b ∧ b < 256 := by simpa using hin.1 0
      have hcl : l.length + 1 ≤ c := by have := h.cap; rw [hi] at this; simpa using this
      have hc0 : w.cell? ⟨ib, off, none⟩ = some (.int .u8 b) := by simpa using hcell 0 (by simp)
      have htl := inp_tail (c := c) (by rw [hA] at hin; exact hin) (by simpa using hcl)
      by_cases h1c : c = 1
      · rw [if_pos h1c] at htl
        have := rcall_2c1 h h2 hi hA hb hc0 (World.block_lt_of_cell? w _ hc0) hcl h1c htl
        rw [hi] at this; exact this
      · rw [if_neg h1c] at htl
        have := rcall_2c0 h h2 hi hA hb hc0 (World.block_lt_of_cell? w _ hc0) hcl h1c htl
        rw [hi] at this; exact this
  by_cases h3 : m.x.getD 17 0 = 3
  · exact rcall_3 h h3
  by_cases h4 : m.x.getD 17 0 = 4
  · exact rcall_4 h h4
  by_cases h5 : m.x.getD 17 0 = 5
  · exact rcall_5 h h5
  · exact rcall_no h ⟨h1, h2, h3, h4, h5⟩
end Go.Proofs.YtppcbommaddkgaaDoor
namespace Go.Proofs.YtppcbommaddkgaaDoor
open Go.RowKit Go.Maps
set_option linter.unusedVariables false
set_option linter.unusedSimpArgs false
set_option maxRecDepth 10000
open Pm Pc Pl
theorem end7 {w X : World} {base q : Nat} {m : Ma} {R : Ru} {A : Option Addr} {c : Nat} {ov sv : Value} {g3 g4 : Nat} {old old' : Array Value} (cs rv : Array Value) (hR : Rd X base q m R A c ov sv) (hf : Fw base q w X) (hs3 : base ≤ g3 ∧ w.heap.size ≤ g3) (hs4 : base ≤ g4 ∧ w.heap.size ≤ g4) (h34 : g4 ≠ g3) (k4 : X.heap[g3]? = some (.cells old 34)) (k5 : X.heap[g4]? = some (.cells old' 71)) :
    ((X.drew.setRow g3 cs).setRow g4 rv).heap[g3]? = some (.cells cs 34) ∧ ((X.drew.setRow g3 cs).setRow g4 rv).heap[g4]? = some (.cells rv 71) ∧ Rd ((X.drew.setRow g3 cs).setRow g4 rv) base q m R A c ov sv ∧ Fw base q w ((X.drew.setRow g3 cs).setRow g4 rv) := by
  have ho : ∀ g, g ≠ g3 → g ≠ g4 → ((X.drew.setRow g3 cs).setRow g4 rv).heap[g]? = X.heap[g]? := fun g h1 h2 => (setRow_other _ _ _ _ h2).trans (setRow_other _ _ _ _ h1)
  have hY : ∀ (g : Nat) (cur : Array Value) (t : TypeId), t ≠ 34 → t ≠ 71 → X.heap[g]? = some (Obj.cells cur t) → ((X.drew.setRow g3 cs).setRow g4 rv).heap[g]? = some (Obj.cells cur t) := fun g cur t h1 h2 hg => by
    rw [ho g (by rintro rfl; rw [k4] at hg; injection hg with hg; injection hg with _ hg; exact h1 hg.symm) (by rintro rfl; rw [k5] at hg; injection hg with hg; injection hg with _ hg; exact h2 hg.symm)]
    exact hg
  have hz : ((X.drew.setRow g3 cs).setRow g4 rv).heap.size = X.heap.size := by simp [World.setRow]
  refine ⟨(setRow_other _ _ _ _ (by omega)).trans (setRow_heap X.drew _ _ _ _ _ k4), setRow_heap _ _ _ _ _ _ ((setRow_other X.drew _ _ _ (by omega)).trans k5), ⟨hY _ _ 5 (by decide) (by decide) hR.mem, hR.ok, ownsRow_at2 hR.out fun g cur _ hg => hY _ _ 5 (by decide) (by decide) hg, ownsRow_at2 hR.seen fun g cur _ hg => hY _ _ 81 (by decide) (by decide) hg, hR.inp.at_ fun g _ hb _ _ => ho g (by omega) (by omega), hR.cap, hR.wat, hR.lq, by rw [hz]; exact hR.lb, hR.lo, hR.ls⟩, ⟨hf.fb.os, hf.fb.tape, hf.fb.output, by rw [hz]; exact hf.fb.size, fun k hk hb h1 h2 => (ho k (by omega) (by omega)).trans (hf.fb.block k hk hb h1 h2)⟩, fun k hk hx => (ho k (by omega) (by omega)).trans (hf.kept k hk hx)⟩
theorem tail7 {id : Nat} {Q : Exit → Act → World → Prop} {a : Act} {w : World} {d1 d2 d3 : Tmp} {x1 x2 y1 y2 v : Operand} {p0 p1 p2 p3 p4 : String} {t0 t1 t2 t3 t4 : TypeId} {a0 a1 a2 a3 a4 : Array Edge} (g1 g2 g3 g4 : Nat) (cs rv old old' : Array Value) (V : Value)
    (hm : Tryd.prog.follows .mixedOrders = true)
    (hr0 : Region.ready .any #[⟨some d1, .load 34 x1, t0, p0, a0, none⟩, ⟨some d2, .load 71 x2, t1, p1, a1, none⟩, ⟨none, .store 34 y1 (.tmp d1), t2, p2, a2, none⟩, ⟨none, .store 71 y2 (.tmp d2), t3, p3, a3, none⟩, ⟨some d3, .assign v, t4, p4, a4, none⟩] #[false, false, false, false, false] = [0, 1])
    (hr1 : Region.ready .any #[⟨some d1, .load 34 x1, t0, p0, a0, none⟩, ⟨some d2, .load 71 x2, t1, p1, a1, none⟩, ⟨none, .store 34 y1 (.tmp d1), t2, p2, a2, none⟩, ⟨none, .store 71 y2 (.tmp d2), t3, p3, a3, none⟩, ⟨some d3, .assign v, t4, p4, a4, none⟩] #[true, false, false, false, false] = [1, 2])
    (hr2 : Region.ready .any #[⟨some d1, .load 34 x1, t0, p0, a0, none⟩, ⟨some d2, .load 71 x2, t1, p1, a1, none⟩, ⟨none, .store 34 y1 (.tmp d1), t2, p2, a2, none⟩, ⟨none, .store 71 y2 (.tmp d2), t3, p3, a3, none⟩, ⟨some d3, .assign v, t4, p4, a4, none⟩] #[false, true, false, false, false] = [0])
    (hr3 : Region.ready .any #[⟨some d1, .load 34 x1, t0, p0, a0, none⟩, ⟨some d2, .load 71 x2, t1, p1, a1, none⟩, ⟨none, .store 34 y1 (.tmp d1), t2, p2, a2, none⟩, ⟨none, .store 71 y2 (.tmp d2), t3, p3, a3, none⟩, ⟨some d3, .assign v, t4, p4, a4, none⟩] #[true, true, false, false, false] = [2])
    (hr4 : Region.ready .any #[⟨some d1, .load 34 x1, t0, p0, a0, none⟩, ⟨some d2, .load 71 x2, t1, p1, a1, none⟩, ⟨none, .store 34 y1 (.tmp d1), t2, p2, a2, none⟩, ⟨none, .store 71 y2 (.tmp d2), t3, p3, a3, none⟩, ⟨some d3, .assign v, t4, p4, a4, none⟩] #[true, false, true, false, false] = [1])
    (hr5 : Region.ready .any #[⟨some d1, .load 34 x1, t0, p0, a0, none⟩, ⟨some d2, .load 71 x2, t1, p1, a1, none⟩, ⟨none, .store 34 y1 (.tmp d1), t2, p2, a2, none⟩, ⟨none, .store 71 y2 (.tmp d2), t3, p3, a3, none⟩, ⟨some d3, .assign v, t4, p4, a4, none⟩] #[true, true, true, false, false] = [3])
    (hr6 : Region.ready .any #[⟨some d1, .load 34 x1, t0, p0, a0, none⟩, ⟨some d2, .load 71 x2, t1, p1, a1, none⟩, ⟨none, .store 34 y1 (.tmp d1), t2, p2, a2, none⟩, ⟨none, .store 71 y2 (.tmp d2), t3, p3, a3, none⟩, ⟨some d3, .assign v, t4, p4, a4, none⟩] #[true, true, true, true, false] = [4])
    (e1 : a.eval x1 = .pointer (some ⟨g1, 0, none⟩)) (e1' : (a.put (some d2) (.agg rv)).eval x1 = .pointer (some ⟨g1, 0, none⟩)) (e2 : a.eval x2 = .pointer (some ⟨g2, 0, none⟩)) (e2' : (a.put (some d1) (.agg cs)).eval x2 = .pointer (some ⟨g2, 0, none⟩))
    (hcomm : (a.put (some d2) (.agg rv)).put (some d1) (.agg cs) = (a.put (some d1) (.agg cs)).put (some d2) (.agg rv))
    (e3 : ((a.put (some d1) (.agg cs)).put (some d2) (.agg rv)).eval y1 = .pointer (some ⟨g3, 0, none⟩)) (e3' : (a.put (some d1) (.agg cs)).eval y1 = .pointer (some ⟨g3, 0, none⟩)) (e4 : (a.put (some d1) (.agg cs)).eval (.tmp d1) = .agg cs) (e4' : ((a.put (some d1) (.agg cs)).put (some d2) (.agg rv)).eval (.tmp d1) = .agg cs)
    (e5 : ((a.put (some d1) (.agg cs)).put (some d2) (.agg rv)).eval y2 = .pointer (some ⟨g4, 0, none⟩)) (e6 : ((a.put (some d1) (.agg cs)).put (some d2) (.agg rv)).eval (.tmp d2) = .agg rv) (e7 : ((a.put (some d1) (.agg cs)).put (some d2) (.agg rv)).eval v = V)
    (h1 : w.heap[g1]? = some (.cells cs 34)) (h2 : w.heap[g2]? = some (.cells rv 71)) (h3 : w.heap[g3]? = some (.cells old 34)) (h4 : w.heap[g4]? = some (.cells old' 71))
    (z1 : cs.size = 36) (z2 : rv.size = 4) (z3 : old.size = 36) (z4 : old'.size = 4) (o1 : cs.all (·.oneCell') = true) (o2 : rv.all (·.oneCell') = true) (n1 : g2 ≠ g3) (n2 : g4 ≠ g3)
    {w0 : World} {base q : Nat} {m : Ma} {R : Ru} {A : Option Addr} {c : Nat} {ov sv : Value} (hR : Rd w base q m R A c ov sv) (hF : Fw base q w0 w) (hs3 : base ≤ g3 ∧ w0.heap.size ≤ g3) (hs4 : base ≤ g4 ∧ w0.heap.size ≤ g4)
    (h : ∀ Y : World, Y.heap[g3]? = some (.cells cs 34) → Y.heap[g4]? = some (.cells rv 71) → Rd Y base q m R A c ov sv → Fw base q w0 Y → Q .normal (((a.put (some d1) (.agg cs)).put (some d2) (.agg rv)).put (some d3) V) Y) :
    (Code.region id #[⟨some d1, .load 34 x1, t0, p0, a0, none⟩, ⟨some d2, .load 71 x2, t1, p1, a1, none⟩, ⟨none, .store 34 y1 (.tmp d1), t2, p2, a2, none⟩, ⟨none, .store 71 y2 (.tmp d2), t3, p3, a3, none⟩, ⟨some d3, .assign v, t4, p4, a4, none⟩] true).wp Tryd.prog Q a w := by
  refine tail5 g1 g2 g3 g4 cs rv old old' V hm hr0 hr1 hr2 hr3 hr4 hr5 hr6 e1 e1' e2 e2' hcomm e3 e3' e4 e4' e5 e6 e7 h1 h2 h3 h4 z1 z2 z3 z4 o1 o2 n1 n2 ?_
  obtain ⟨j4, j5, jR, jF⟩ := end7 cs rv hR hF hs3 hs4 n2 h3 h4
  exact h _ j4 j5 jR jF
section
variable (w : World) (a b c d e : Obj)
theorem a5_0 : (((((w.alloc a).alloc b).alloc c).alloc d).alloc e).heap[w.heap.size]? = some a := by
  rw [Below.heap_alloc _ _ _ (by simp; omega)]; exact a4_0 _ _ _ _ _
theorem a5_1 : (((((w.alloc a).alloc b).alloc c).alloc d).alloc e).heap[w.heap.size + 1]? = some b := by
  rw [Below.heap_alloc _ _ _ (by simp)]; exact a4_1 _ _ _ _ _
theorem a5_2 : (((((w.alloc a).alloc b).alloc c).alloc d).alloc e).heap[w.heap.size + 2]? = some c := by
  rw [Below.heap_alloc _ _ _ (by simp)]; exact a4_2 _ _ _ _ _
theorem a5_3 : (((((w.alloc a).alloc b).alloc c).alloc d).alloc e).heap[w.heap.size + 3]? = some d := by
  rw [Below.heap_alloc _ _ _ (by simp)]; exact a4_3 _ _ _ _ _
end
end Go.Proofs.YtppcbommaddkgaaDoor
