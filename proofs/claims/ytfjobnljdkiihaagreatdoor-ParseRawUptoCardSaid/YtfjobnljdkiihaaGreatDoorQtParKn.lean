/- Expressions: each reader of them answers as the plain reader does. Conditions: each theorem's. -/
import Derived.Test.YtfjobnljdkiihaaGreatDoorQtParPo
import Derived.Test.YtfjobnljdkiihaaGreatDoorQtParUn
import Derived.Test.YtfjobnljdkiihaaGreatDoorQtParUs
namespace Go.Proofs.YtfjobnljdkiihaaGreatDoor
open Go.RowKit Go.Maps
set_option linter.unusedVariables false
set_option linter.unusedSimpArgs false
set_option maxRecDepth 100000
open Lx Pa
theorem heldT {W : World} {b r : Nat} {t : PTy} (h1 : W.heap[b]? = some (.cells (tyC t) 37)) (h2 : RowE W r) :
  W.heap[b]? = some (.cells (tyC t) 37) ∧ RowE W r := ⟨h1, h2⟩
set_option maxHeartbeats 8000000 in
theorem cast_step {f : Nat} (HU : UnC f) (HI : InsideC f) : CastC (f + 1) := by
 intro R M a d s w h hf hd
 have hR := h.lt
 have hrun : runE (f + 1) (.cast a d) s = if ((typeV s).2.want ⟨#[41]⟩).is ⟨#[109, 97, 108, 108, 111, 99]⟩ then ([.mk 11 eB eB 0 [hd1 (runE f (.inside d) (((typeV s).2.want ⟨#[41]⟩).tl.want ⟨#[40]⟩))] (typeV s).1 a], (runE f (.inside d) (((typeV s).2.want ⟨#[41]⟩).tl.want ⟨#[40]⟩)).2)
  else ([.mk 9 eB eB 0 [hd1 (runE f (.un (d + 1)) ((typeV s).2.want ⟨#[41]⟩))] (typeV s).1 a], (runE f (.un (d + 1)) ((typeV s).2.want ⟨#[41]⟩)).2) := by simp only [runE]
 have HRUN := Lib.hid hrun
 have h0 := h.alloc (.cells exZ 39)
 have HR0 := Lib.hid (heap_alloc_new w (.cells exZ 39))
 have HS0 := Lib.hid (szA w (.cells exZ 39))
 have hty := tyIn_any h0
 have hle := (type_lt h.ok).le
 have hle2 := (hle.trans (want_lt hle.ok (x := ⟨#[41]⟩) (by decide)).le).len
 clear hrun hle
 generalize (typeV s).2.want ⟨#[41]⟩ = s1 at *
 generalize (typeV s).1 = ty at *
 have hw : IntKind.i64.wrap ((d : Int) + 1) = (d : Int) + 1 := IntWalk.i64_in _ (by omega)
 go_enter Tryz.func139, Tryz.ntmps139
 go_wp2_with fail
 refine hty.mono ?_
 rintro e w1 ⟨rfl, h1, f1⟩
 clear hty
 have HR1 := Lib.hid (f1.at_ HR0.out (by simp; omega))
 have z1 : w.heap.size + 1 ≤ w1.heap.size := by have := f1.size; rw [HS0.out] at this; exact this
 have F1 := ((Fr.refl [R] w).alloc (.cells exZ 39)).trans f1
 have h2 := h1.alloc (.cells (tyC ty) 37)
 have HR2 := (show RowE w1 w.heap.size from ⟨_, rfl, HR1.out⟩).alloc (.cells (tyC ty) 37)
 have HB2 := Lib.hid (heap_alloc_new w1 (.cells (tyC ty) 37))
 have F2 := F1.alloc (.cells (tyC ty) 37)
 have hta := take_any ⟨#[109, 97, 108, 108, 111, 99]⟩ (by decide) h2
 cases hi : s1.is ⟨#[109, 97, 108, 108, 111, 99]⟩ with
 | false =>
  rw [hi, if_neg (by decide)] at HRUN
  rw [hi, take_no hi] at hta
  clear hi
  go_wp2_with fail
  refine hta.mono ?_
  rintro e w3 ⟨rfl, h3, f3⟩
  clear hta
  have HB3 := f3.at_ HB2.out (by simp; omega)
  have HR3 := HR2.fr f3 (by simp; omega)
  have F3 := F2.trans f3
  have hexp := HU R M (d + 1) s1 w3.drew (h3.below ((Below.refl _ _).drew)) (by omega) (by omega)
  rw [show ((d + 1 : Nat) : Int) = (d : Int) + 1 from rfl] at hexp
  go_wp2_with fail
  refine wp_region_held_drew (S := fun W : World => W.heap[w1.heap.size]? = some (.cells (tyC ty) 37) ∧ RowE W w.heap.size) (by kernel_rfl) (heldT HB3 HR3) (fun hHeld => ?_)
  refine wpAnyH_take (i := 0) (oi := ⟨some 13, .move (.tmp 0), 87, "exprs.go:81", #[], none⟩) (v := .pointer (some ⟨R, 0, none⟩)) rfl (by kernel_rfl) (by kernel_rfl) (by kernel_rfl) (fun _ _ _ h => h) (Or.inl ⟨by rfl, ?hy1⟩) (by assumption) ?_
  case hy1 => ((intro W hSW; (try dsimp only at hSW); go_simp); (try with_reducible rfl); (try exact ⟨rfl, rfl, rfl⟩))
  simp only [Act.put, sZa, sZb, sZc]
  refine wpAnyH_take (i := 1) (oi := ⟨some 14, .move (.tmp 2), 3, "exprs.go:81", #[], none⟩) (v := .int .i64 d) rfl (by kernel_rfl) (by kernel_rfl) (by kernel_rfl) (fun _ _ _ h => h) (Or.inl ⟨by rfl, ?hy2⟩) (by assumption) ?_
  case hy2 => ((intro W hSW; (try dsimp only at hSW); go_simp); (try with_reducible rfl); (try exact ⟨rfl, rfl, rfl⟩))
  simp only [Act.put, sZa, sZb, sZc]
  refine wpAnyH_take (i := 2) (oi := ⟨some 15, .binOp .add 3 (.tmp 14) (.const (Go.Value.int Go.IntKind.i64 1)) 3, 3, "exprs.go:81", #[⟨1, .data⟩], none⟩) (v := .int .i64 ((d : Int) + 1)) rfl (by kernel_rfl) (by kernel_rfl) (by kernel_rfl) (fun _ _ _ h => h) (Or.inl ⟨by rfl, ?hy3⟩) (by assumption) ?_
  case hy3 => ((intro W hSW; (try dsimp only at hSW); go_simp); (try with_reducible rfl); (try exact ⟨rfl, rfl, rfl⟩))
  simp only [Act.put, sZa, sZb, sZc]
  refine wpAnyH_take (i := 5) (oi := ⟨some 18, .load 37 (.tmp 7), 37, "exprs.go:81", #[], none⟩) (v := .agg (tyC ty)) rfl (by kernel_rfl) (by kernel_rfl) (by kernel_rfl) (fun _ _ _ h => h) (yieldsIf_load_row (by rfl) 37 (.tmp 7) rfl w1.heap.size rfl 37 (tyC ty) (0, 0) _ (fun W hW => hW.1) Tryz.underlying37 rfl sizeTy) (by assumption) ?_
  simp only [Act.put, sZa, sZb, sZc]
  refine wpAnyH_take (i := 6) (oi := ⟨some 19, .move (.tmp 1), 3, "exprs.go:81", #[], none⟩) (v := .int .i64 a) rfl (by kernel_rfl) (by kernel_rfl) (by kernel_rfl) (fun _ _ _ h => h) (Or.inl ⟨by rfl, ?hy5⟩) (by assumption) ?_
  case hy5 => ((intro W hSW; (try dsimp only at hSW); go_simp); (try with_reducible rfl); (try exact ⟨rfl, rfl, rfl⟩))
  simp only [Act.put, sZa, sZb, sZc]
  refine wpAnyH_ready (rs := [3]) (by kernel_rfl) (by simp) ?_
  refine AllReadyH.cons (o := ⟨some 16, .call { callee := .value (.func 136), args := #[.tmp 13, .tmp 15], argTypes := #[87, 3] }, 39, "exprs.go:81", #[⟨0, .data⟩, ⟨2, .data⟩], none⟩) rfl (fun K hK => ?_) AllReadyH.nil
  go_simp
  refine hexp.mono ?_
  rintro e w4 ⟨c4, rfl, hx4, h4, f4⟩
  have HC4 := Lib.hid hx4.len
  have HB4 := Lib.hid (f4.at_ hHeld.1 (by simp; omega))
  have HR4 := Lib.hid (hHeld.2.fr f4 (by simp; omega))
  have z4 := f4.size
  try go_wp2_with fail
  refine hK.out _ _ (heldT HB4.out HR4.out) (fun hHeld => ?_)
  clear hK K
  try simp only [Act.put, sZa, sZb, sZc]
  refine wpAnyH_ready (rs := [4]) (by kernel_rfl) (by simp) ?_
  refine AllReadyH.cons (o := ⟨some 17, .buildSlice 35 1 #[(0, .tmp 16)], 35, "exprs.go:81", #[⟨3, .data⟩], none⟩) rfl (fun K hK => ?_) AllReadyH.nil
  rw [if_pos (by rfl)]
  refine wp_bsE1 HC4.out (by rfl) ?_
  refine hK.out _ _ (heldT ((Below.heap_alloc w4 _ _ (lt_of_at HB4.out)).trans HB4.out) (HR4.out.alloc _)) (fun hHeld => ?_)
  clear hK K
  try simp only [Act.put, sZa, sZb, sZc]
  refine wpAnyH_take (i := 7) (oi := ⟨some 20, .build 39 #[(0, .const (Go.Value.int Go.IntKind.i64 9)), (4, .tmp 17), (5, .tmp 18), (6, .tmp 19)], 39, "exprs.go:81", #[⟨4, .data⟩, ⟨5, .data⟩, ⟨6, .data⟩], none⟩) (v := .agg (exL 9 ⟨#[]⟩ ⟨#[]⟩ 0 (.slice (some ⟨w4.heap.size, 0, none⟩) 1 1) ty a).toArray) rfl (by kernel_rfl) (by kernel_rfl) (by kernel_rfl) (fun _ _ _ h => h) (Or.inl ⟨by rfl, ?hy6⟩) (by assumption) ?_
  case hy6 => ((intro W hSW; (try dsimp only at hSW); go_simp); (try with_reducible rfl); (try exact ⟨rfl, rfl, rfl⟩))
  simp only [Act.put, sZa, sZb, sZc]
  refine wpAnyH_ready (rs := [8]) (by kernel_rfl) (by simp) ?_
  refine AllReadyH.cons (o := ⟨none, .store 39 (.tmp 6) (.tmp 20), 0, "exprs.go:81", #[⟨7, .data⟩, ⟨3, .chain⟩, ⟨0, .phase⟩, ⟨1, .phase⟩, ⟨2, .phase⟩, ⟨3, .phase⟩, ⟨4, .phase⟩, ⟨5, .phase⟩, ⟨6, .phase⟩, ⟨7, .phase⟩], none⟩) rfl (fun K hK => ?_) AllReadyH.nil
  rw [if_pos (by rfl)]
  obtain ⟨old, ho, hro⟩ := hHeld.2
  refine wp_stG 39 w.heap.size (exL 9 ⟨#[]⟩ ⟨#[]⟩ 0 (.slice (some ⟨w4.heap.size, 0, none⟩) 1 1) ty a).toArray (by rfl) (by rfl) hro sizeEx ho (oneX _ _ _ _ _ _ _ _ _) ?_
  intro Y hY
  have HY := Lib.hid hY
  clear hY
  refine hK.out _ _ (heldT ((HY.out.oth w1.heap.size (by omega)).trans hHeld.1) ⟨_, rfl, HY.out.at_⟩) (fun hHeld => ?_)
  clear hK K
  try simp only [Act.put, sZa, sZb, sZc]
  refine wpAnyH_done (by kernel_rfl) ?_ _
  have HRO := Lib.hid hro
  clear hHeld hro
  go_wp2
  refine ret_row Tryz.results139 w.heap.size 39 _ _ rfl rfl HY.out.at_ Tryz.underlying39 rfl sizeEx ?_
  rw [HRUN.out]
  have hsz : (w4.alloc (.cells c4.toArray 39)).heap.size = w4.heap.size + 1 := by simp
  have z3 := F3.size
  have z4' : w3.heap.size ≤ w4.heap.size := z4
  have zr := lt_of_at HB3
  have f4' : Fr [R] w3 w4 := ⟨f4.os, f4.tape, f4.output, f4.size, f4.block⟩
  refine ⟨_, rfl, ExAt.of (ExsAt.one' (c := c4) (g := w4.heap.size) ?_ ?_ (by rw [HY.out.size, hsz]; omega) (by show w.heap.size ≤ w4.heap.size; omega)), ?_, ?_⟩
  ·exact (hx4.all _ (S' := fun g => w.heap.size + 1 ≤ g) (fun g hg hl => by have : w3.heap.size ≤ g := hg; omega)).upd HY.out (fun g hg hl => ⟨by show w.heap.size ≤ g; omega, by omega⟩)
  ·exact HY.out.range (range_new w4 c4 39) (by omega)
  ·exact (h4.alloc _).up HY.out HRO.out (by decide) (by decide)
  ·exact ((F3.trans f4').alloc _).up HY.out (Nat.le_refl _)
 | true =>
  rw [hi, if_pos rfl] at HRUN
  rw [hi, take_tl hi] at hta
  have hne := is_ne hi (by decide)
  have htl := (tl_ok h2.ok hne).2
  clear hi
  go_wp2_with fail
  refine hta.mono ?_
  rintro e w2 ⟨rfl, h2', f2⟩
  clear hta
  have HB2' := f2.at_ HB2.out (by simp; omega)
  have HR2' := HR2.fr f2 (by simp; omega)
  have hwl := (want_lt h2'.ok (x := ⟨#[40]⟩) (by decide)).le.len
  go_wp2_with fail
  refine (want_any ⟨#[40]⟩ (by decide) h2').mono ?_
  rintro e w3 ⟨rfl, h3, f3⟩
  have HB3 := f3.at_ HB2' (by simp; omega)
  have HR3 := HR2'.fr f3 (by simp; omega)
  have F3 := (F2.trans f2).trans f3
  have hexp := HI R M d (s1.tl.want ⟨#[40]⟩) w3.drew (h3.below ((Below.refl _ _).drew)) (by omega) (by omega)
  clear HB2'
  go_wp2_with fail
  refine wp_region_held_drew (S := fun W : World => W.heap[w1.heap.size]? = some (.cells (tyC ty) 37) ∧ RowE W w.heap.size) (by kernel_rfl) (heldT HB3 HR3) (fun hHeld => ?_)
  refine wpAnyH_take (i := 0) (oi := ⟨some 23, .move (.tmp 0), 87, "exprs.go:84", #[], none⟩) (v := .pointer (some ⟨R, 0, none⟩)) rfl (by kernel_rfl) (by kernel_rfl) (by kernel_rfl) (fun _ _ _ h => h) (Or.inl ⟨by rfl, ?hy1⟩) (by assumption) ?_
  case hy1 => ((intro W hSW; (try dsimp only at hSW); go_simp); (try with_reducible rfl); (try exact ⟨rfl, rfl, rfl⟩))
  simp only [Act.put, sZa, sZb, sZc]
  refine wpAnyH_take (i := 1) (oi := ⟨some 24, .move (.tmp 2), 3, "exprs.go:84", #[], none⟩) (v := .int .i64 d) rfl (by kernel_rfl) (by kernel_rfl) (by kernel_rfl) (fun _ _ _ h => h) (Or.inl ⟨by rfl, ?hy2⟩) (by assumption) ?_
  case hy2 => ((intro W hSW; (try dsimp only at hSW); go_simp); (try with_reducible rfl); (try exact ⟨rfl, rfl, rfl⟩))
  simp only [Act.put, sZa, sZb, sZc]
  refine wpAnyH_take (i := 4) (oi := ⟨some 27, .load 37 (.tmp 7), 37, "exprs.go:84", #[], none⟩) (v := .agg (tyC ty)) rfl (by kernel_rfl) (by kernel_rfl) (by kernel_rfl) (fun _ _ _ h => h) (yieldsIf_load_row (by rfl) 37 (.tmp 7) rfl w1.heap.size rfl 37 (tyC ty) (0, 0) _ (fun W hW => hW.1) Tryz.underlying37 rfl sizeTy) (by assumption) ?_
  simp only [Act.put, sZa, sZb, sZc]
  refine wpAnyH_take (i := 5) (oi := ⟨some 28, .move (.tmp 1), 3, "exprs.go:84", #[], none⟩) (v := .int .i64 a) rfl (by kernel_rfl) (by kernel_rfl) (by kernel_rfl) (fun _ _ _ h => h) (Or.inl ⟨by rfl, ?hy4⟩) (by assumption) ?_
  case hy4 => ((intro W hSW; (try dsimp only at hSW); go_simp); (try with_reducible rfl); (try exact ⟨rfl, rfl, rfl⟩))
  simp only [Act.put, sZa, sZb, sZc]
  refine wpAnyH_ready (rs := [2]) (by kernel_rfl) (by simp) ?_
  refine AllReadyH.cons (o := ⟨some 25, .call { callee := .value (.func 141), args := #[.tmp 23, .tmp 24], argTypes := #[87, 3] }, 39, "exprs.go:84", #[⟨0, .data⟩, ⟨1, .data⟩], none⟩) rfl (fun K hK => ?_) AllReadyH.nil
  go_simp
  refine hexp.mono ?_
  rintro e w4 ⟨c4, rfl, hx4, h4, f4⟩
  have HC4 := Lib.hid hx4.len
  have HB4 := Lib.hid (f4.at_ hHeld.1 (by simp; omega))
  have HR4 := Lib.hid (hHeld.2.fr f4 (by simp; omega))
  have z4 := f4.size
  try go_wp2_with fail
  refine hK.out _ _ (heldT HB4.out HR4.out) (fun hHeld => ?_)
  clear hK K
  try simp only [Act.put, sZa, sZb, sZc]
  refine wpAnyH_ready (rs := [3]) (by kernel_rfl) (by simp) ?_
  refine AllReadyH.cons (o := ⟨some 26, .buildSlice 35 1 #[(0, .tmp 25)], 35, "exprs.go:84", #[⟨2, .data⟩], none⟩) rfl (fun K hK => ?_) AllReadyH.nil
  rw [if_pos (by rfl)]
  refine wp_bsE1 HC4.out (by rfl) ?_
  refine hK.out _ _ (heldT ((Below.heap_alloc w4 _ _ (lt_of_at HB4.out)).trans HB4.out) (HR4.out.alloc _)) (fun hHeld => ?_)
  clear hK K
  try simp only [Act.put, sZa, sZb, sZc]
  refine wpAnyH_take (i := 6) (oi := ⟨some 29, .build 39 #[(0, .const (Go.Value.int Go.IntKind.i64 11)), (4, .tmp 26), (5, .tmp 27), (6, .tmp 28)], 39, "exprs.go:84", #[⟨3, .data⟩, ⟨4, .data⟩, ⟨5, .data⟩], none⟩) (v := .agg (exL 11 ⟨#[]⟩ ⟨#[]⟩ 0 (.slice (some ⟨w4.heap.size, 0, none⟩) 1 1) ty a).toArray) rfl (by kernel_rfl) (by kernel_rfl) (by kernel_rfl) (fun _ _ _ h => h) (Or.inl ⟨by rfl, ?hy5⟩) (by assumption) ?_
  case hy5 => ((intro W hSW; (try dsimp only at hSW); go_simp); (try with_reducible rfl); (try exact ⟨rfl, rfl, rfl⟩))
  simp only [Act.put, sZa, sZb, sZc]
  refine wpAnyH_ready (rs := [7]) (by kernel_rfl) (by simp) ?_
  refine AllReadyH.cons (o := ⟨none, .store 39 (.tmp 6) (.tmp 29), 0, "exprs.go:84", #[⟨6, .data⟩, ⟨2, .chain⟩, ⟨0, .phase⟩, ⟨1, .phase⟩, ⟨2, .phase⟩, ⟨3, .phase⟩, ⟨4, .phase⟩, ⟨5, .phase⟩, ⟨6, .phase⟩], none⟩) rfl (fun K hK => ?_) AllReadyH.nil
  rw [if_pos (by rfl)]
  obtain ⟨old, ho, hro⟩ := hHeld.2
  refine wp_stG 39 w.heap.size (exL 11 ⟨#[]⟩ ⟨#[]⟩ 0 (.slice (some ⟨w4.heap.size, 0, none⟩) 1 1) ty a).toArray (by rfl) (by rfl) hro sizeEx ho (oneX _ _ _ _ _ _ _ _ _) ?_
  intro Y hY
  have HY := Lib.hid hY
  clear hY
  refine hK.out _ _ (heldT ((HY.out.oth w1.heap.size (by omega)).trans hHeld.1) ⟨_, rfl, HY.out.at_⟩) (fun hHeld => ?_)
  clear hK K
  try simp only [Act.put, sZa, sZb, sZc]
  refine wpAnyH_done (by kernel_rfl) ?_ _
  have HRO := Lib.hid hro
  clear hHeld hro
  go_wp2
  refine ret_row Tryz.results139 w.heap.size 39 _ _ rfl rfl HY.out.at_ Tryz.underlying39 rfl sizeEx ?_
  rw [HRUN.out]
  have hsz : (w4.alloc (.cells c4.toArray 39)).heap.size = w4.heap.size + 1 := by simp
  have z3 := F3.size
  have z4' : w3.heap.size ≤ w4.heap.size := z4
  have zr := lt_of_at HB3
  have f4' : Fr [R] w3 w4 := ⟨f4.os, f4.tape, f4.output, f4.size, f4.block⟩
  refine ⟨_, rfl, ExAt.of (ExsAt.one' (c := c4) (g := w4.heap.size) ?_ ?_ (by rw [HY.out.size, hsz]; omega) (by show w.heap.size ≤ w4.heap.size; omega)), ?_, ?_⟩
  ·exact (hx4.all _ (S' := fun g => w.heap.size + 1 ≤ g) (fun g hg hl => by have : w3.heap.size ≤ g := hg; omega)).upd HY.out (fun g hg hl => ⟨by show w.heap.size ≤ g; omega, by omega⟩)
  ·exact HY.out.range (range_new w4 c4 39) (by omega)
  ·exact (h4.alloc _).up HY.out HRO.out (by decide) (by decide)
  ·exact ((F3.trans f4').alloc _).up HY.out (Nat.le_refl _)
abbrev tkA (t : Tk) : Array Value := #[.int .i64 t.kd, .string t.tx, .int .i64 t.at_]
theorem tk_cells {W : World} {b : Nat} {t : Tk} (h : W.heap[b]? = some (.cells (tkA t) 63)) : W.cell? ⟨b, 0, none⟩ = some (.int .i64 t.kd) ∧ W.cell? ⟨b, 1, none⟩ = some (.string t.tx) ∧ W.cell? ⟨b, 2, none⟩ = some (.int .i64 t.at_) :=
 ⟨cell_of_row _ _ _ _ _ _ h, cell_of_row _ _ _ _ _ _ h, cell_of_row _ _ _ _ _ _ h⟩
set_option maxHeartbeats 16000000 in
theorem atom_step {f : Nat} (HI : InsideC f) (HU : UseC f) : AtomC (f + 1) := by
 intro R M d s w h hf hd
 have hR := h.lt
 have hrun : runE (f + 1) (.atom d) s = if s.hd.kd = 2 then ([.mk 1 eB eB ((meanV s.hd.tx.data.toList).getD 0) [] ty0 s.hd.at_], s.tl)
  else if s.hd.kd = 1 then runE f (.use s.hd.tx s.hd.at_ d) s.tl
  else if s.is ⟨#[40]⟩ then runE f (.inside d) s.tl
  else ([ex0], s.fail 11) := by simp only [runE]
 have HRUN := Lib.hid hrun
 have h0 := h.alloc (.cells exZ 39)
 have HR0 := Lib.hid (heap_alloc_new w (.cells exZ 39))
 have HS0 := Lib.hid (szA w (.cells exZ 39))
 clear hrun
 go_enter Tryz.func142, Tryz.ntmps142
 go_wp2_with fail
 refine (now_any h0).mono ?_
 rintro e w1 ⟨rfl, b1⟩
 have h1 := h0.below b1
 have HR1 := Lib.hid ((b1.block w.heap.size (by rw [HS0.out]; omega)).trans HR0.out)
 have F1 := ((Fr.refl [R] w).alloc (.cells exZ 39)).trans (Fr.below b1)
 have z1 : w.heap.size + 1 ≤ w1.heap.size := by have := b1.size; rw [HS0.out] at this; exact this
 have hts := h.ok.hd.1
 generalize ht : s.hd = t at *
 have HT := Lib.hid ht
 have h2 := h1.alloc (.cells (tkA t) 63)
 have HR2 := (show RowE w1 w.heap.size from ⟨_, rfl, HR1.out⟩).alloc (.cells (tkA t) 63)
 have HB2 := Lib.hid (heap_alloc_new w1 (.cells (tkA t) 63))
 have F2 := F1.alloc (.cells (tkA t) 63)
 obtain ⟨k0, k1, k2⟩ := tk_cells HB2.out
 clear ht
 by_cases q2 : t.kd = 2
 ·rw [if_pos q2] at HRUN
  have hne : s.hd.tx ≠ ⟨#[]⟩ ∨ s.hd.kd ≠ 0 := .inr (by rw [HT.out]; omega)
  have e2 : (t.kd == 2) = true := by rw [q2]; rfl
  clear q2
  go_wp2_with fail
  refine (step_any h2 hne).mono ?_
  rintro e w3 ⟨rfl, h3, f3, -⟩
  have HB3 := f3.at_ HB2.out (by simp; omega)
  clear k0 k1 k2
  obtain ⟨k0, k1, k2⟩ := tk_cells HB3
  obtain ⟨old, ho, hro⟩ := HR2.fr f3 (by simp; omega)
  have HRO := Lib.hid hro
  clear hro
  go_wp2_with fail
  refine (mean_any t.tx w3 (by omega)).mono ?_
  rintro e w4 ⟨rfl, rfl⟩
  generalize (meanV t.tx.data.toList).getD 0 = n at *
  go_wp2_with (((with_reducible refine stE w.heap.size (c := exL 1 ⟨#[]⟩ ⟨#[]⟩ n (.slice none 0 0) ty0 t.at_) rfl (oneX _ _ _ _ _ _ _ _ _) HRO.out ho ?_ ?_ ?_); rfl; rfl; intro Y hY; have HY := Lib.hid hY; clear hY))
  refine ret_row Tryz.results142 w.heap.size 39 _ _ rfl rfl HY.out.at_ Tryz.underlying39 rfl sizeEx ?_
  rw [HRUN.out]
  exact ⟨_, rfl, ExAt.of (ExsAt.nil _ _), h3.up HY.out HRO.out (by decide) (by decide), (F2.trans f3).up HY.out (Nat.le_refl _)⟩
 ·have e2 : (t.kd == 2) = false := by simpa using q2
  rw [if_neg q2] at HRUN
  clear q2
  by_cases q1 : t.kd = 1
  ·rw [if_pos q1] at HRUN
   have hne : s.hd.tx ≠ ⟨#[]⟩ ∨ s.hd.kd ≠ 0 := .inr (by rw [HT.out]; omega)
   have htl := (tl_ok h.ok hne).2
   have e1 : (t.kd == 1) = true := by rw [q1]; rfl
   clear q1
   go_wp2_with fail
   refine (step_any h2 hne).mono ?_
   rintro e w3 ⟨rfl, h3, f3, -⟩
   have HB3 := Lib.hid (f3.at_ HB2.out (by simp; omega))
   clear k0 k1 k2
   have HR3 := HR2.fr f3 (by simp; omega)
   have hexp := HU R M d t.kd t.tx t.at_ s.tl w3 h3 (by omega) (by omega)
   go_wp2_with (((with_reducible refine ldG 63 w1.heap.size ?_ HB3.out Tryz.underlying63 ?_ ?_ ?_); rfl; rfl; exact sizeTk))
   refine hexp.mono ?_
   rintro e w5 ⟨c5, rfl, hc5, h5, f5⟩
   clear hexp
   have HC5 := Lib.hid hc5.len
   have HA5 := Lib.hid (oneL hc5)
   obtain ⟨old, ho, hro⟩ := HR3.fr f5 (by simp; omega)
   have HRO := Lib.hid hro
   clear hro
   go_wp2_with (((with_reducible refine stE w.heap.size HC5.out HA5.out HRO.out ho ?_ ?_ ?_); rfl; rfl; intro Y hY; have HY := Lib.hid hY; clear hY))
   refine ret_row Tryz.results142 w.heap.size 39 _ _ rfl rfl HY.out.at_ Tryz.underlying39 rfl (by rw [List.size_toArray, HC5.out]; exact sizeEx) ?_
   rw [HRUN.out]
   exact ⟨c5, rfl, hc5.upd HY.out (fun g hg hl => ⟨by have hq1 : w3.heap.size ≤ g := hg; have hq2 := lt_of_at HB3.out; show w.heap.size ≤ g; omega, by have hq1 : w3.heap.size ≤ g := hg; have hq2 := lt_of_at HB3.out; omega⟩), h5.up HY.out HRO.out (by decide) (by decide), ((F2.trans f3).trans f5).up HY.out (Nat.le_refl _)⟩
  ·have e1 : (t.kd == 1) = false := by simpa using q1
   rw [if_neg q1] at HRUN
   clear q1
   have hta := take_any ⟨#[40]⟩ (by decide) h2
   cases hi : s.is ⟨#[40]⟩ with
   | true =>
    rw [hi, if_pos rfl] at HRUN
    rw [hi, take_tl hi] at hta
    have hne := is_ne hi (by decide)
    have htl := (tl_ok h.ok hne).2
    clear hi hne
    go_wp2_with fail
    refine hta.mono ?_
    rintro e w3 ⟨rfl, h3, f3⟩
    clear hta
    have HB3 := Lib.hid (f3.at_ HB2.out (by simp; omega))
    clear k0 k1 k2
    have HR3 := HR2.fr f3 (by simp; omega)
    have hexp := HI R M d s.tl w3 h3 (by omega) (by omega)
    go_wp2_with fail
    refine hexp.mono ?_
    rintro e w5 ⟨c5, rfl, hc5, h5, f5⟩
    clear hexp
    have HC5 := Lib.hid hc5.len
    have HA5 := Lib.hid (oneL hc5)
    obtain ⟨old, ho, hro⟩ := HR3.fr f5 (by simp; omega)
    have HRO := Lib.hid hro
    clear hro
    go_wp2_with (((with_reducible refine stE w.heap.size HC5.out HA5.out HRO.out ho ?_ ?_ ?_); rfl; rfl; intro Y hY; have HY := Lib.hid hY; clear hY))
    refine ret_row Tryz.results142 w.heap.size 39 _ _ rfl rfl HY.out.at_ Tryz.underlying39 rfl (by rw [List.size_toArray, HC5.out]; exact sizeEx) ?_
    rw [HRUN.out]
    exact ⟨c5, rfl, hc5.upd HY.out (fun g hg hl => ⟨by have hq1 : w3.heap.size ≤ g := hg; have hq2 := lt_of_at HB3.out; show w.heap.size ≤ g; omega, by have hq1 : w3.heap.size ≤ g := hg; have hq2 := lt_of_at HB3.out; omega⟩), h5.up HY.out HRO.out (by decide) (by decide), ((F2.trans f3).trans f5).up HY.out (Nat.le_refl _)⟩
   | false =>
    rw [hi, if_neg (by decide)] at HRUN
    rw [hi, take_no hi] at hta
    clear hi
    go_wp2_with fail
    refine hta.mono ?_
    rintro e w3 ⟨rfl, h3, f3⟩
    clear hta k0 k1 k2
    have HR3 := HR2.fr f3 (by simp; omega)
    go_wp2_with fail
    refine (fail_any 11 (by omega) h3).mono ?_
    rintro e w5 ⟨rfl, h5, f5⟩
    obtain ⟨old, ho, hro⟩ := HR3.fr f5 (by simp; omega)
    have HRO := Lib.hid hro
    clear hro
    go_wp2_with (((with_reducible refine stE w.heap.size (c := exL 0 ⟨#[]⟩ ⟨#[]⟩ 0 (.slice none 0 0) ty0 0) rfl (oneX _ _ _ _ _ _ _ _ _) HRO.out ho ?_ ?_ ?_); rfl; rfl; intro Y hY; have HY := Lib.hid hY; clear hY))
    refine ret_row Tryz.results142 w.heap.size 39 _ _ rfl rfl HY.out.at_ Tryz.underlying39 rfl sizeEx ?_
    rw [HRUN.out]
    exact ⟨_, rfl, ExAt.ex0 _ _, h5.up HY.out HRO.out (by decide) (by decide), ((F2.trans f3).trans f5).up HY.out (Nat.le_refl _)⟩
theorem bl1 (w : World) (o : Obj) {k : Nat} {x : Option Obj} (h : w.heap[k]? = x) (hk : k < w.heap.size) : (w.alloc o).heap[k]? = x := (Below.heap_alloc w o k hk).trans h
theorem bn (w : World) (o : Obj) {k : Nat} (hk : w.heap.size = k) : (w.alloc o).heap[k]? = some o := by subst hk; exact heap_alloc_new w o
set_option maxHeartbeats 16000000 in
theorem use_step {f : Nat} (HB : BetC f) : UseC (f + 1) := by
 intro R M d k nm a s w h hf hd
 have hR := h.lt
 have hrun : runE (f + 1) (.use nm a d) s = if s.is ⟨#[40]⟩ then ([.mk 6 eB nm 0 (runE f (.betE (d + 1)) s.tl).1 ty0 a], (runE f (.betE (d + 1)) s.tl).2) else ([.mk 2 eB nm 0 [] ty0 a], s) := by simp only [runE]
 have HRUN := Lib.hid hrun
 clear hrun
 obtain ⟨B, hB⟩ : ∃ B, w.heap.size = B := ⟨_, rfl⟩
 have h1 := h.alloc (.cells (ptR R) 87)
 have s1 := szA w (.cells (ptR R) 87)
 have x1 := bn w (.cells (ptR R) 87) hB
 have F1 := (Fr.refl [R] w).alloc (.cells (ptR R) 87)
 have hW1 : w.alloc (.cells (ptR R) 87) = w.alloc (.cells (ptR R) 87) := rfl
 generalize hw1 : w.alloc (.cells (ptR R) 87) = w1 at *
 have h2 := h1.alloc (.cells (tkA ⟨k, nm, a⟩) 63)
 have s2 := szA w1 (.cells (tkA ⟨k, nm, a⟩) 63)
 have x2 := bl1 w1 (.cells (tkA ⟨k, nm, a⟩) 63) x1 (by omega)
 have F2 := F1.alloc (.cells (tkA ⟨k, nm, a⟩) 63)
 generalize hw2 : w1.alloc (.cells (tkA ⟨k, nm, a⟩) 63) = w2 at *
 have h3 := h2.alloc (.cells #[.int .i64 d] 3)
 have s3 := szA w2 (.cells #[.int .i64 d] 3)
 have x3 := bl1 w2 (.cells #[.int .i64 d] 3) x2 (by omega)
 have y3 := bn w2 (.cells #[.int .i64 d] 3) (k := B + 2) (by omega)
 have F3 := F2.alloc (.cells #[.int .i64 d] 3)
 generalize hw3 : w2.alloc (.cells #[.int .i64 d] 3) = w3 at *
 have h4 := h3.alloc (.cells exZ 39)
 have s4 := szA w3 (.cells exZ 39)
 have x4 := bl1 w3 (.cells exZ 39) x3 (by omega)
 have y4 := bl1 w3 (.cells exZ 39) y3 (by omega)
 have r4 := bn w3 (.cells exZ 39) (k := B + 3) (by omega)
 have F4 := F3.alloc (.cells exZ 39)
 generalize hw4 : w3.alloc (.cells exZ 39) = w4 at *
 have h5 := h4.alloc (.cells (exL 2 ⟨#[]⟩ nm 0 (.slice none 0 0) ty0 a).toArray 39)
 have s5 := szA w4 (.cells (exL 2 ⟨#[]⟩ nm 0 (.slice none 0 0) ty0 a).toArray 39)
 have x5 := bl1 w4 (.cells (exL 2 ⟨#[]⟩ nm 0 (.slice none 0 0) ty0 a).toArray 39) x4 (by omega)
 have y5 := bl1 w4 (.cells (exL 2 ⟨#[]⟩ nm 0 (.slice none 0 0) ty0 a).toArray 39) y4 (by omega)
 have r5 := bl1 w4 (.cells (exL 2 ⟨#[]⟩ nm 0 (.slice none 0 0) ty0 a).toArray 39) r4 (by omega)
 have t5 := bn w4 (.cells (exL 2 ⟨#[]⟩ nm 0 (.slice none 0 0) ty0 a).toArray 39) (k := B + 4) (by omega)
 have F5 := F4.alloc (.cells (exL 2 ⟨#[]⟩ nm 0 (.slice none 0 0) ty0 a).toArray 39)
 subst hw4 hw3 hw2 hw1
 have hz5 : ((((((w.alloc (.cells (ptR R) 87)).alloc (.cells (tkA ⟨k, nm, a⟩) 63)).alloc (.cells #[.int .i64 d] 3)).alloc (.cells exZ 39)).alloc (.cells (exL 2 ⟨#[]⟩ nm 0 (.slice none 0 0) ty0 a).toArray 39))).heap.size = B + 5 := by omega
 clear s1 s2 s3 s4 s5 x1 x2 x3 x4 y3 y4 r4 F1 F2 F3 F4 h1 h2 h3 h4 hW1
 subst hB
 have HX := Lib.hid x5
 have HY := Lib.hid y5
 have HRR := Lib.hid r5
 have HT := Lib.hid t5
 have HZ := Lib.hid hz5
 clear x5 y5 r5 t5 hz5
 have hta := take_any ⟨#[40]⟩ (by decide) h5
 cases hi : s.is ⟨#[40]⟩ with
 | false =>
  rw [hi, if_neg (by decide)] at HRUN
  rw [hi, take_no hi] at hta
  clear hi
  go_enter Tryz.func144, Tryz.ntmps144
  go_wp2_with fail
  refine hta.mono ?_
  rintro e w6 ⟨rfl, h6, f6⟩
  clear hta
  have HT6 := Lib.hid (f6.at_ HT.out (by simp; omega))
  have HR6 := Lib.hid (f6.at_ HRR.out (by simp; omega))
  have F6 := F5.trans f6
  go_wp2_with (first | ((with_reducible refine ldE (w.heap.size + 1 + 1 + 1 + 1) (c := exL 2 ⟨#[]⟩ nm 0 (.slice none 0 0) ty0 a) rfl HT6.out ?_ ?_); rfl) | ((with_reducible refine stE (w.heap.size + 1 + 1 + 1) (c := exL 2 ⟨#[]⟩ nm 0 (.slice none 0 0) ty0 a) rfl (oneX _ _ _ _ _ _ _ _ _) HR6.out rfl ?_ ?_ ?_); rfl; rfl; intro Y hY; have HY9 := Lib.hid hY; clear hY))
  refine ret_row Tryz.results144 (w.heap.size + 1 + 1 + 1) 39 _ _ rfl rfl HY9.out.at_ Tryz.underlying39 rfl sizeEx ?_
  rw [HRUN.out]
  exact ⟨_, rfl, ExAt.of (ExsAt.nil _ _), h6.up HY9.out HR6.out (by decide) (by decide), F6.up HY9.out (by omega)⟩
 | true =>
  rw [hi, if_pos rfl] at HRUN
  rw [hi, take_tl hi] at hta
  have hne := is_ne hi (by decide)
  have htl := (tl_ok h.ok hne).2
  clear hi
  go_enter Tryz.func144, Tryz.ntmps144
  go_wp2_with fail
  refine hta.mono ?_
  rintro e w6 ⟨rfl, h6, f6⟩
  clear hta
  have ht6 := f6.at_ HT.out (by simp; omega)
  have hr6 := f6.at_ HRR.out (by simp; omega)
  have hx6 := f6.at_ HX.out (by simp; omega)
  have hy6 := f6.at_ HY.out (by simp; omega)
  have z6 : w.heap.size + 5 ≤ w6.heap.size := by have := f6.size; rw [HZ.out] at this; exact this
  have F6 := F5.trans f6
  have c0 : w6.cell? ⟨w.heap.size + 1 + 1 + 1 + 1, 0, none⟩ = some (.int .i64 2) := cell_of_row _ _ _ _ _ _ ht6
  have e0 : w6.frozen? ⟨w.heap.size + 1 + 1 + 1 + 1, 0, none⟩ = false := frozen_of_row _ _ _ _ _ ht6
  have u7 := up_set ht6 0 (.int .i64 6)
  have hx7 := (u7.oth (w.heap.size) (by omega)).trans hx6
  have hy7 := (u7.oth (w.heap.size + 1 + 1) (by omega)).trans hy6
  have hr7 := (u7.oth (w.heap.size + 1 + 1 + 1) (by omega)).trans hr6
  have k0 : (w6.setCell ⟨w.heap.size + 1 + 1 + 1 + 1, 0, none⟩ (.int .i64 6)).cell? ⟨w.heap.size, 0, none⟩ = some (.pointer (some ⟨R, 0, none⟩)) := cell_of_row _ _ _ _ _ _ hx7
  have h7 := h6.up u7 ht6 (by decide) (by decide)
  have F7 := F6.up u7 (by omega)
  have hbet := HB R M d s.tl _ w.heap.size (w.heap.size + 1 + 1) h7 hx7 hy7 (by omega) (by omega)
  have HT7 := Lib.hid u7.at_
  have HR7 := Lib.hid hr7
  have HZ7 := Lib.hid u7.size
  generalize (runE f (.betE (d + 1)) s.tl).1 = l at *
  generalize (runE f (.betE (d + 1)) s.tl).2 = s2 at *
  clear u7 hx7 hy7 hr7 ht6 hr6 hx6 hy6
  have hmf := makeFn
  go_wp2_with fail
  refine hbet.mono ?_
  rintro e w8 ⟨v, rfl, hl8, h8, f8⟩
  clear hbet
  obtain ⟨A, cap, rfl⟩ := hl8.slice
  have ht8 := f8.at_ HT7.out (by simp; omega)
  have hr8 := f8.at_ HR7.out (by simp; omega)
  have z8 : w6.heap.size ≤ w8.heap.size := by have := f8.size; rw [HZ7.out] at this; exact this
  have c4 : w8.cell? ⟨w.heap.size + 1 + 1 + 1 + 1, 4, none⟩ = some (.slice none 0 0) := cell_of_row _ _ _ _ _ _ ht8
  have e4 : w8.frozen? ⟨w.heap.size + 1 + 1 + 1 + 1, 4, none⟩ = false := frozen_of_row _ _ _ _ _ ht8
  have u9 := up_set ht8 4 (.slice A l.length cap)
  have hr9 := (u9.oth (w.heap.size + 1 + 1 + 1) (by omega)).trans hr8
  have h9 := h8.up u9 ht8 (by decide) (by decide)
  have F9 := (F7.trans f8).up u9 (by omega)
  have hl9 := hl8.keep (w' := w8.setCell ⟨w.heap.size + 1 + 1 + 1 + 1, 4, none⟩ (.slice A l.length cap)) (S' := fun g => w.heap.size + 5 ≤ g) (fun g hg hl => by
   have hg' : (w6.setCell ⟨w.heap.size + 1 + 1 + 1 + 1, 0, none⟩ (.int .i64 6)).heap.size ≤ g := hg
   rw [HZ7.out] at hg'
   exact ⟨by omega, u9.oth g (by omega)⟩) (Nat.le_of_eq u9.size.symm)
  have HT9 : Hid ((w8.setCell ⟨w.heap.size + 1 + 1 + 1 + 1, 4, none⟩ (.slice A l.length cap)).heap[w.heap.size + 1 + 1 + 1 + 1]? = some (.cells (exL 6 ⟨#[]⟩ nm 0 (.slice A l.length cap) ty0 a).toArray 39)) := Lib.hid u9.at_
  have HR9 := Lib.hid hr9
  clear u9 hr9 ht8 hr8 c0 e0 k0 hl8
  go_wp2_with (first | ((with_reducible refine ldE (w.heap.size + 1 + 1 + 1 + 1) (c := exL 6 ⟨#[]⟩ nm 0 (.slice A l.length cap) ty0 a) rfl HT9.out ?_ ?_); rfl) | ((with_reducible refine stE (w.heap.size + 1 + 1 + 1) (c := exL 6 ⟨#[]⟩ nm 0 (.slice A l.length cap) ty0 a) rfl (oneX _ _ _ _ _ _ _ _ _) HR9.out rfl ?_ ?_ ?_); rfl; rfl; intro Y hY; have HY9 := Lib.hid hY; clear hY))
  refine ret_row Tryz.results144 (w.heap.size + 1 + 1 + 1) 39 _ _ rfl rfl HY9.out.at_ Tryz.underlying39 rfl sizeEx ?_
  rw [HRUN.out]
  exact ⟨_, rfl, ExAt.of (exs_list (hl9.keep (fun g hg hl => ⟨by show w.heap.size ≤ g; have hg' : w.heap.size + 5 ≤ g := hg; omega, HY9.out.oth g (by have hg' : w.heap.size + 5 ≤ g := hg; omega)⟩) (Nat.le_of_eq HY9.out.size.symm))), h9.up HY9.out HR9.out (by decide) (by decide), F9.up HY9.out (by omega)⟩
structure AllC (f : Nat) : Prop where
 e : ExprC f
 b : BinC f
 u : UnC f
 c : CastC f
 i : InsideC f
 p : PostC f
 a : AtomC f
 s : UseC f
 t : BetC f
theorem allC : ∀ f, AllC f := by
 intro f
 induction f using Nat.strongRecOn with
 | _ f ih =>
  cases f with
  | zero =>
   refine ⟨?_, ?_, ?_, ?_, ?_, ?_, ?_, ?_, ?_⟩
   ·intro R M d s w h hf; have := h.ok.pos; omega
   ·intro R M d l s w h hf; have := h.ok.pos; omega
   ·intro R M d s w h hf; have := h.ok.pos; omega
   ·intro R M a d s w h hf; have := h.ok.pos; omega
   ·intro R M d s w h hf; have := h.ok.pos; omega
   ·intro R M d s w h hf; have := h.ok.pos; omega
   ·intro R M d s w h hf; have := h.ok.pos; omega
   ·intro R M d k nm a s w h hf; have := h.ok.pos; omega
   ·intro R M d s w br bd h _ _ hf; have := h.ok.pos; omega
  | succ f =>
   have F := ih f (by omega)
   exact ⟨expr_step F.b F.e, bin_step F.u (fun g hg => (ih g (by omega)).b), un_step F.u F.c F.p, cast_step F.u F.i, inside_step F.e, post_step F.a (fun g hg => (ih g (by omega)).e), atom_step F.i F.s, use_step F.t, bet_step (fun g hg => (ih g (by omega)).e)⟩
end Go.Proofs.YtfjobnljdkiihaaGreatDoor
