/- Expressions in brackets, fields. Conditions: each theorem's. -/
import Derived.Test.YtfjobnljdkiihaaGreatDoorQtParX
namespace Go.Proofs.YtfjobnljdkiihaaGreatDoor
open Go.RowKit Go.Maps
set_option linter.unusedVariables false
set_option linter.unusedSimpArgs false
set_option maxRecDepth 100000
open Lx Pa
theorem ExAt.fr {w w' : World} {T : List Nat} {S S' : Nat → Prop} {x : PEx} {c : List Value} (h : ExAt w S x c) (f : Fr T w w') (hS : ∀ g, S g → g < w.heap.size → S' g ∧ g ∉ T) : ExAt w' S' x c :=
 h.keep (fun g hg hl => ⟨(hS g hg hl).1, f.block g hl (hS g hg hl).2⟩) f.size
theorem ExAt.upd {X Y : World} {b : Nat} {cs : Array Value} {t : TypeId} {S S' : Nat → Prop} {x : PEx} {c : List Value} (h : ExAt X S x c) (u : Up X b cs t Y) (hS : ∀ g, S g → g < X.heap.size → S' g ∧ g ≠ b) : ExAt Y S' x c :=
 h.keep (fun g hg hl => ⟨(hS g hg hl).1, u.oth g (hS g hg hl).2⟩) (Nat.le_of_eq u.size.symm)
theorem ExAt.all {w : World} {S S' : Nat → Prop} {x : PEx} {c : List Value} (h : ExAt w S x c) (o : Obj) (hS : ∀ g, S g → g < w.heap.size → S' g) : ExAt (w.alloc o) S' x c :=
 h.keep (fun g hg hl => ⟨hS g hg hl, Below.heap_alloc _ _ _ hl⟩) (by simp)
theorem Up.range {X Y : World} {b : Nat} {cs : Array Value} {t : TypeId} (u : Up X b cs t Y) {g o : Nat} {l : List Value} (h : X.rangeAt g o l) (hg : g ≠ b) : Y.rangeAt g o l := fun j v hv => (World.cell?_of_block (w := X) (u.oth g hg)).trans (h j v hv)
theorem hd1_one (x : PEx) (s : Pa.S) : hd1 ([x], s) = x := rfl
set_option maxHeartbeats 4000000 in
theorem inside_step {f : Nat} (HE : ExprC f) : InsideC (f + 1) := by
 intro R M d s w h hf hd
 have hR := h.lt
 have hrun : runE (f + 1) (.inside d) s = ([hd1 (runE f (.expr (d + 1)) s)], (runE f (.expr (d + 1)) s).2.want ⟨#[41]⟩) := by simp only [runE]
 have HRUN := Lib.hid hrun
 have h0 := h.alloc (.cells exZ 39)
 have HR0 := Lib.hid (heap_alloc_new w (.cells exZ 39))
 have HS0 := Lib.hid (szA w (.cells exZ 39))
 have hexp := HE R M (d + 1) s _ h0 (by omega) (by omega)
 rw [show ((d + 1 : Nat) : Int) = (d : Int) + 1 from rfl] at hexp
 clear hrun
 generalize hx : hd1 (runE f (.expr (d + 1)) s) = x at *
 generalize hs1 : (runE f (.expr (d + 1)) s).2 = s1 at *
 clear hx hs1
 go_enter Tryz.func141, Tryz.ntmps141
 go_wp2_with fail
 refine hexp.mono ?_
 rintro e w1 ⟨c, rfl, hc, h1, f1⟩
 clear hexp
 have HR1 := Lib.hid (f1.at_ HR0.out (by simp; omega))
 have z1 : w.heap.size + 1 ≤ w1.heap.size := by have := f1.size; rw [HS0.out] at this; exact this
 have F1 := ((Fr.refl [R] w).alloc (.cells exZ 39)).trans f1
 have HC := Lib.hid hc.len
 have HA := Lib.hid (oneL hc)
 have h2 := h1.alloc (.cells c.toArray 39)
 have HR2 := Lib.hid ((Below.heap_alloc w1 (.cells c.toArray 39) w.heap.size (by omega)).trans HR1.out)
 have HB2 := Lib.hid (heap_alloc_new w1 (.cells c.toArray 39))
 rw [HS0.out] at hc
 have HC2 := Lib.hid (hc.all (.cells c.toArray 39) (S' := fun g => w.heap.size + 1 ≤ g ∧ g ≠ w1.heap.size) (fun g hg hl => ⟨hg, by omega⟩))
 clear hc
 go_wp2_with (((with_reducible refine stNE w1.heap.size HC.out HA.out rfl ?_ ?_ ?_ ?_); rfl; rfl; rfl))
 refine (want_any ⟨#[41]⟩ (by decide) h2).mono ?_
 rintro e w3 ⟨rfl, h3, f3⟩
 have HR3 := Lib.hid (f3.at_ HR2.out (by simp; omega))
 have HB3 := Lib.hid (f3.at_ HB2.out (by simp; omega))
 have HC3 := Lib.hid (HC2.out.fr f3 (S' := fun g => w.heap.size + 1 ≤ g) (fun g hg hl => ⟨hg.1, by have := hg.1; simp; omega⟩))
 have F3 := (F1.alloc (.cells c.toArray 39)).trans f3
 go_wp2_with (first | ((with_reducible refine ldE w1.heap.size HC.out HB3.out ?_ ?_); rfl) | ((with_reducible refine stE w.heap.size HC.out HA.out HR3.out ?_ ?_ ?_ ?_); rfl; rfl; rfl; intro Y hY; have HY := Lib.hid hY; clear hY))
 refine ret_row Tryz.results141 w.heap.size 39 _ _ rfl rfl HY.out.at_ Tryz.underlying39 rfl (by rw [List.size_toArray, HC.out]; exact sizeEx) ?_
 rw [HRUN.out]
 exact ⟨c, rfl, HC3.out.upd HY.out (fun g hg hl => ⟨by show w.heap.size ≤ g; omega, by omega⟩), h3.up HY.out HR3.out (by decide) (by decide), F3.up HY.out (Nat.le_refl _)⟩
def PostF (w : World) (R M : Nat) (S : Nat → Prop) (x : PEx) (s' : Pa.S) (e : Ending) (w' : World) : Prop :=
 ∃ c : List Value, e = .returned (.agg c.toArray) ∧ ExAt w' S x c ∧ RdAt w' R M s' ∧ Fr [R] w w'
set_option maxHeartbeats 8000000 in
theorem fieldOf_any {w : World} {R M : Nat} {S : Nat → Prop} {s : Pa.S} {x : PEx} {c : List Value} (h : RdAt w R M s) (hx : ExAt w S x c) (hS : ∀ g, w.heap.size ≤ g → S g) (hSR : ∀ g, S g → g ≠ R) :
  Calls Tryz.prog 143 #[.pointer (some ⟨R, 0, none⟩), .agg c.toArray] w (PostF w R M S (.mk 8 eB (s.oneT 1) 0 [x] ty0 x.at_) (s.one 1)) := by
 have hR := h.lt
 have HC := Lib.hid hx.len
 have H8 := Lib.hid hx.at8
 have hr0 := heap_alloc_new (w.alloc (.cells c.toArray 39)) (.cells exZ 39)
 rw [szA] at hr0
 have hb0 := aa0 w (.cells c.toArray 39) (.cells exZ 39)
 have bw : Below w.heap.size w ((w.alloc (.cells c.toArray 39)).alloc (.cells exZ 39)) := (belowA w _).alloc (by simp) _
 have h0 := h.below bw
 have hx0 := hx.keep (S' := fun g => S g ∧ g < w.heap.size) (fun g hg hl => ⟨⟨hg, hl⟩, bw.block g hl⟩) bw.size
 have hs0 : ((w.alloc (.cells c.toArray 39)).alloc (.cells exZ 39)).heap.size = w.heap.size + 2 := by simp
 go_enter Tryz.func143, Tryz.ntmps143
 go_wp2_with fail
 generalize (w.alloc (.cells c.toArray 39)).alloc (.cells exZ 39) = X at *
 refine wp_region_held_drew (S := fun W : World => W.heap[w.heap.size]? = some (.cells c.toArray 39) ∧ W.cell? ⟨w.heap.size, 8, none⟩ = some (.int .i64 x.at_) ∧ RowE W (w.heap.size + 1)) (by kernel_rfl) (heldE hb0 H8.out ⟨_, rfl, hr0⟩) (fun hHeld => ?_)
 refine wpAnyH_take (i := 0) (oi := ⟨some 5, .move (.tmp 0), 87, "exprs.go:115", #[], none⟩) (v := .pointer (some ⟨R, 0, none⟩)) rfl (by kernel_rfl) (by kernel_rfl) (by kernel_rfl) (fun _ _ _ h => h) (Or.inl ⟨by rfl, ?hy1⟩) (by assumption) ?_
 case hy1 => ((intro W hSW; (try dsimp only at hSW); go_simp); (try with_reducible rfl); (try exact ⟨rfl, rfl, rfl⟩))
 simp only [Act.put, sZa, sZb, sZc]
 refine wpAnyH_take (i := 2) (oi := ⟨some 7, .load 39 (.tmp 3), 39, "exprs.go:115", #[], none⟩) (v := .agg c.toArray) rfl (by kernel_rfl) (by kernel_rfl) (by kernel_rfl) (fun _ _ _ h => h) (yieldsIf_load_row (by rfl) 39 (.tmp 3) rfl w.heap.size rfl 39 c.toArray (0, 0) _ (fun W hW => hW.1) Tryz.underlying39 rfl (by rw [List.size_toArray, HC.out]; exact sizeEx)) (by assumption) ?_
 simp only [Act.put, sZa, sZb, sZc]
 refine wpAnyH_take (i := 4) (oi := ⟨some 9, .fieldAddr 39 (.tmp 3) 6, 0, "exprs.go:115", #[], none⟩) (v := .pointer (some ⟨w.heap.size, 8, none⟩)) rfl (by kernel_rfl) (by kernel_rfl) (by kernel_rfl) (fun _ _ _ h => h) (Or.inl ⟨by rfl, ?hy3⟩) (by assumption) ?_
 case hy3 => ((intro W hSW; (try dsimp only at hSW); go_simp); (try with_reducible rfl); (try exact ⟨rfl, rfl, rfl⟩))
 simp only [Act.put, sZa, sZb, sZc]
 refine wpAnyH_take (i := 5) (oi := ⟨some 10, .load 3 (.tmp 9), 3, "exprs.go:115", #[⟨4, .data⟩], none⟩) (v := .int .i64 x.at_) rfl (by kernel_rfl) (by kernel_rfl) (by kernel_rfl) (fun _ _ _ h => h) (Or.inl ⟨by rfl, ?hy4⟩) (by assumption) ?_
 case hy4 => ((intro W hSW; (try dsimp only at hSW); go_simp); (try with_reducible rfl); (try exact ⟨rfl, rfl, rfl⟩))
 simp only [Act.put, sZa, sZb, sZc]
 refine wpAnyH_ready (rs := [1, 3]) (by kernel_rfl) (by simp) ?_
 refine AllReadyH.cons (o := ⟨some 6, .call { callee := .value (.func 66), args := #[.tmp 5, .const (Go.Value.int Go.IntKind.i64 1)], argTypes := #[87, 3] }, 9, "exprs.go:115", #[⟨0, .data⟩], none⟩) rfl (fun K hK => ?_) (AllReadyH.cons (o := ⟨some 8, .buildSlice 35 1 #[(0, .tmp 7)], 35, "exprs.go:115", #[⟨2, .data⟩], none⟩) rfl (fun K hK => ?_) AllReadyH.nil)
 ·have hone := one_any 1 (.inl rfl) (w := X.drew) (h0.below ((Below.refl _ _).drew))
  go_simp
  refine hone.mono ?_
  rintro e w4 ⟨rfl, h4, f4⟩
  have f4' : Fr [R] X w4 := ⟨f4.os, f4.tape, f4.output, f4.size, f4.block⟩
  have HB4 := Lib.hid (f4.at_ hHeld.1 (by simp; omega))
  have HR4 := Lib.hid (hHeld.2.2.fr f4 (by simp; omega))
  have z4 := f4'.size
  try go_wp2_with fail
  refine hK.out _ _ (heldE HB4.out H8.out HR4.out) (fun hHeld => ?_)
  clear hK K
  try simp only [Act.put, sZa, sZb, sZc]
  refine wpAnyH_ready (rs := [3]) (by kernel_rfl) (by simp) ?_
  refine AllReadyH.cons (o := ⟨some 8, .buildSlice 35 1 #[(0, .tmp 7)], 35, "exprs.go:115", #[⟨2, .data⟩], none⟩) rfl (fun K hK => ?_) AllReadyH.nil
  rw [if_pos (by rfl)]
  refine wp_bsE1 HC.out (by rfl) ?_
  refine hK.out _ _ (heldE ((Below.heap_alloc w4 _ _ (lt_of_at HB4.out)).trans HB4.out) H8.out (HR4.out.alloc _)) (fun hHeld => ?_)
  clear hK K
  try simp only [Act.put, sZa, sZb, sZc]
  refine wpAnyH_take (i := 6) (oi := ⟨some 11, .build 39 #[(0, .const (Go.Value.int Go.IntKind.i64 8)), (2, .tmp 6), (4, .tmp 8), (6, .tmp 10)], 39, "exprs.go:115", #[⟨1, .data⟩, ⟨3, .data⟩, ⟨5, .data⟩], none⟩) (v := .agg (exL 8 ⟨#[]⟩ (s.oneT 1) 0 (.slice (some ⟨w4.heap.size, 0, none⟩) 1 1) ty0 x.at_).toArray) rfl (by kernel_rfl) (by kernel_rfl) (by kernel_rfl) (fun _ _ _ h => h) (Or.inl ⟨by rfl, ?hy1⟩) (by assumption) ?_
  case hy1 => ((intro W hSW; (try dsimp only at hSW); go_simp); (try with_reducible rfl); (try exact ⟨rfl, rfl, rfl⟩))
  simp only [Act.put, sZa, sZb, sZc]
  refine wpAnyH_ready (rs := [7]) (by kernel_rfl) (by simp) ?_
  refine AllReadyH.cons (o := ⟨none, .store 39 (.tmp 4) (.tmp 11), 0, "exprs.go:115", #[⟨6, .data⟩, ⟨1, .chain⟩, ⟨0, .phase⟩, ⟨1, .phase⟩, ⟨2, .phase⟩, ⟨3, .phase⟩, ⟨4, .phase⟩, ⟨5, .phase⟩, ⟨6, .phase⟩], none⟩) rfl (fun K hK => ?_) AllReadyH.nil
  rw [if_pos (by rfl)]
  obtain ⟨old, ho, hro⟩ := hHeld.2.2
  refine wp_stG 39 (w.heap.size + 1) (exL 8 ⟨#[]⟩ (s.oneT 1) 0 (.slice (some ⟨w4.heap.size, 0, none⟩) 1 1) ty0 x.at_).toArray (by rfl) (by rfl) hro sizeEx ho (oneX _ _ _ _ _ _ _ _ _) ?_
  intro Y hY
  have HY := Lib.hid hY
  clear hY
  refine hK.out _ _ (heldE ((HY.out.oth w.heap.size (by omega)).trans hHeld.1) H8.out ⟨_, rfl, HY.out.at_⟩) (fun hHeld => ?_)
  clear hK K
  try simp only [Act.put, sZa, sZb, sZc]
  refine wpAnyH_done (by kernel_rfl) ?_ _
  have HRO := Lib.hid hro
  clear hHeld hro
  go_wp2
  refine ret_row Tryz.results143 (w.heap.size + 1) 39 _ _ rfl rfl HY.out.at_ Tryz.underlying39 rfl sizeEx ?_
  have hsz : (w4.alloc (.cells c.toArray 39)).heap.size = w4.heap.size + 1 := by simp
  refine ⟨_, rfl, ExAt.of (ExsAt.one' (c := c) (g := w4.heap.size) ?_ ?_ (by rw [HY.out.size, hsz]; omega) (hS _ (by omega))), ?_, ?_⟩
  ·exact ((hx0.fr f4' (S' := fun g => S g ∧ g < w.heap.size) (fun g hg hl => ⟨hg, by simp; exact hSR g hg.1⟩)).all _ (S' := fun g => S g ∧ g < w.heap.size) (fun g hg hl => hg)).upd HY.out (fun g hg hl => ⟨hg.1, by have := hg.2; omega⟩)
  ·exact HY.out.range (range_new w4 c 39) (by omega)
  ·exact (h4.alloc _).up HY.out HRO.out (by decide) (by decide)
  ·exact ((((Fr.below bw).trans f4')).alloc _).up HY.out (by omega)
 ·rw [if_pos (by rfl)]
  refine wp_bsE1 HC.out (by rfl) ?_
  have HB4 := Lib.hid ((Below.heap_alloc X.drew (.cells c.toArray 39) _ (lt_of_at hHeld.1)).trans hHeld.1)
  have HR4 := Lib.hid (hHeld.2.2.alloc (.cells c.toArray 39))
  refine hK.out _ _ (heldE HB4.out H8.out HR4.out) (fun hHeld => ?_)
  clear hK K
  try simp only [Act.put, sZa, sZb, sZc]
  have hone := one_any 1 (.inl rfl) (w := X.drew.alloc (.cells c.toArray 39)) ((h0.below ((Below.refl _ _).drew)).alloc _)
  have hzX : X.drew.heap.size = w.heap.size + 2 := hs0
  have hrn := range_new X.drew c 39
  have hsz : (X.drew.alloc (.cells c.toArray 39)).heap.size = w.heap.size + 3 := by simp [hzX]
  refine wpAnyH_ready (rs := [1]) (by kernel_rfl) (by simp) ?_
  refine AllReadyH.cons (o := ⟨some 6, .call { callee := .value (.func 66), args := #[.tmp 5, .const (Go.Value.int Go.IntKind.i64 1)], argTypes := #[87, 3] }, 9, "exprs.go:115", #[⟨0, .data⟩], none⟩) rfl (fun K hK => ?_) AllReadyH.nil
  go_simp
  refine hone.mono ?_
  rintro e w4 ⟨rfl, h4, f4⟩
  have z4 := f4.size
  have HB5 := Lib.hid (f4.at_ HB4.out (by simp; omega))
  have HR5 := Lib.hid (HR4.out.fr f4 (by simp; omega))
  try go_wp2_with fail
  refine hK.out _ _ (heldE HB5.out H8.out HR5.out) (fun hHeld => ?_)
  clear hK K
  try simp only [Act.put, sZa, sZb, sZc]
  refine wpAnyH_take (i := 6) (oi := ⟨some 11, .build 39 #[(0, .const (Go.Value.int Go.IntKind.i64 8)), (2, .tmp 6), (4, .tmp 8), (6, .tmp 10)], 39, "exprs.go:115", #[⟨1, .data⟩, ⟨3, .data⟩, ⟨5, .data⟩], none⟩) (v := .agg (exL 8 ⟨#[]⟩ (s.oneT 1) 0 (.slice (some ⟨X.drew.heap.size, 0, none⟩) 1 1) ty0 x.at_).toArray) rfl (by kernel_rfl) (by kernel_rfl) (by kernel_rfl) (fun _ _ _ h => h) (Or.inl ⟨by rfl, ?hy1⟩) (by assumption) ?_
  case hy1 => ((intro W hSW; (try dsimp only at hSW); go_simp); (try with_reducible rfl); (try exact ⟨rfl, rfl, rfl⟩))
  simp only [Act.put, sZa, sZb, sZc]
  refine wpAnyH_ready (rs := [7]) (by kernel_rfl) (by simp) ?_
  refine AllReadyH.cons (o := ⟨none, .store 39 (.tmp 4) (.tmp 11), 0, "exprs.go:115", #[⟨6, .data⟩, ⟨1, .chain⟩, ⟨0, .phase⟩, ⟨1, .phase⟩, ⟨2, .phase⟩, ⟨3, .phase⟩, ⟨4, .phase⟩, ⟨5, .phase⟩, ⟨6, .phase⟩], none⟩) rfl (fun K hK => ?_) AllReadyH.nil
  rw [if_pos (by rfl)]
  obtain ⟨old, ho, hro⟩ := hHeld.2.2
  refine wp_stG 39 (w.heap.size + 1) (exL 8 ⟨#[]⟩ (s.oneT 1) 0 (.slice (some ⟨X.drew.heap.size, 0, none⟩) 1 1) ty0 x.at_).toArray (by rfl) (by rfl) hro sizeEx ho (oneX _ _ _ _ _ _ _ _ _) ?_
  intro Y hY
  have HY := Lib.hid hY
  clear hY
  refine hK.out _ _ (heldE ((HY.out.oth w.heap.size (by omega)).trans hHeld.1) H8.out ⟨_, rfl, HY.out.at_⟩) (fun hHeld => ?_)
  clear hK K
  try simp only [Act.put, sZa, sZb, sZc]
  refine wpAnyH_done (by kernel_rfl) ?_ _
  have HRO := Lib.hid hro
  clear hHeld hro
  go_wp2
  refine ret_row Tryz.results143 (w.heap.size + 1) 39 _ _ rfl rfl HY.out.at_ Tryz.underlying39 rfl sizeEx ?_
  have hx1 := (hx0.keep (w := X) (w' := X.drew) (S' := fun g => S g ∧ g < w.heap.size) (fun g hg hl => ⟨hg, rfl⟩) (Nat.le_refl _)).all (w := X.drew) (.cells c.toArray 39) (S' := fun g => S g ∧ g < w.heap.size) (fun g hg hl => hg)
  refine ⟨_, rfl, ExAt.of (ExsAt.one' (c := c) (g := X.drew.heap.size) ?_ ?_ (by rw [HY.out.size]; omega) (hS _ (by omega))), ?_, ?_⟩
  ·exact (hx1.fr f4 (S' := fun g => S g ∧ g < w.heap.size) (fun g hg hl => ⟨hg, by simp; exact hSR g hg.1⟩)).upd HY.out (fun g hg hl => ⟨hg.1, by have := hg.2; omega⟩)
  ·exact HY.out.range (f4.range hrn (by omega) (by simp; omega)) (by omega)
  ·exact h4.up HY.out HRO.out (by decide) (by decide)
  ·exact ((((Fr.below bw).drew.alloc _).trans f4)).up HY.out (by omega)
end Go.Proofs.YtfjobnljdkiihaaGreatDoor
