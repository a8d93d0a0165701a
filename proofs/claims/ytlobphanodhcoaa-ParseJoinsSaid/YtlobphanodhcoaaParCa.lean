/- Casts. Conditions: each theorem's. -/
import Derived.Test.YtlobphanodhcoaaParPo
namespace Go.Proofs.Ytlobphanodhcoaa
open Go.RowKit Go.Maps
set_option linter.unusedVariables false
set_option linter.unusedSimpArgs false
set_option maxRecDepth 100000
open Lx Pa
theorem heldT {W : World} {b r : Nat} {t : PTy} (h1 : W.heap[b]? = some (.cells (tyC t) 36)) (h2 : RowE W r) :
    W.heap[b]? = some (.cells (tyC t) 36) ∧ RowE W r := ⟨h1, h2⟩
set_option maxHeartbeats 8000000 in
theorem cast_step {f : Nat} (HU : UnC f) (HI : InsideC f) : CastC (f + 1) := by
  intro R M a d s w h hf hd
  have hR := h.lt
  have hrun : runE (f + 1) (.cast a d) s = if ((typeV s).2.want ⟨#[41]⟩).is ⟨#[109, 97, 108, 108, 111, 99]⟩ then ([.mk 11 eB eB 0 [hd1 (runE f (.inside d) (((typeV s).2.want ⟨#[41]⟩).tl.want ⟨#[40]⟩))] (typeV s).1 a], (runE f (.inside d) (((typeV s).2.want ⟨#[41]⟩).tl.want ⟨#[40]⟩)).2)
    else ([.mk 9 eB eB 0 [hd1 (runE f (.un (d + 1)) ((typeV s).2.want ⟨#[41]⟩))] (typeV s).1 a], (runE f (.un (d + 1)) ((typeV s).2.want ⟨#[41]⟩)).2) := by simp only [runE]
  have HRUN := Lib.hid hrun
  have h0 := h.alloc (.cells exZ 45)
  have HR0 := Lib.hid (heap_alloc_new w (.cells exZ 45))
  have HS0 := Lib.hid (szA w (.cells exZ 45))
  have hty := tyIn_any h0
  have hle := (type_lt h.ok).le
  have hle2 := (hle.trans (want_lt hle.ok (x := ⟨#[41]⟩) (by decide)).le).len
  clear hrun hle
  generalize (typeV s).2.want ⟨#[41]⟩ = s1 at *
  generalize (typeV s).1 = ty at *
  have hw : IntKind.i64.wrap ((d : Int) + 1) = (d : Int) + 1 := IntWalk.i64_in _ (by omega)
  go_enter Try.func77, Try.ntmps77
  go_wp2_with fail
  refine hty.mono ?_
  rintro e w1 ⟨rfl, h1, f1⟩
  clear hty
  have HR1 := Lib.hid (f1.at_ HR0.out (by simp; omega))
  have z1 : w.heap.size + 1 ≤ w1.heap.size := by have := f1.size; rw [HS0.out] at this; exact this
  have F1 := ((Fr.refl [R] w).alloc (.cells exZ 45)).trans f1
  have h2 := h1.alloc (.cells (tyC ty) 36)
  have HR2 := (show RowE w1 w.heap.size from ⟨_, rfl, HR1.out⟩).alloc (.cells (tyC ty) 36)
  have HB2 := Lib.hid (heap_alloc_new w1 (.cells (tyC ty) 36))
  have F2 := F1.alloc (.cells (tyC ty) 36)
  have hta := take_any ⟨#[109, 97, 108, 108, 111, 99]⟩ (by decide) h2
  cases hi : s1.is ⟨#[109, 97, 108, 108, 111, 99]⟩ with
  | false =>
    rw [hi, if_neg (by decide)] at HRUN
    rw [hi, take_no hi] at hta
    clear hi
    go_wp2_with fail
    refine hta.mono ?_
    rintro e w3 ⟨rfl, h3, f3⟩
    clear hta
    have HB3 := f3.at_ HB2.out (by simp; omega)
    have HR3 := HR2.fr f3 (by simp; omega)
    have F3 := F2.trans f3
    have hexp := HU R M (d + 1) s1 w3.drew (h3.below ((Below.refl _ _).drew)) (by omega) (by omega)
    rw [show ((d + 1 : Nat) : Int) = (d : Int) + 1 from rfl] at hexp
    go_wp2_with fail
    refine wp_region_held_drew (S := fun W : World => W.heap[w1.heap.size]? = some (.cells (tyC ty) 36) ∧ RowE W w.heap.size) (by kernel_rfl) (heldT HB3 HR3) (fun hHeld => ?_)
    refine wpAnyH_take (i := 0) (oi := ({ dst := some 13, op := Go.Op.move (Go.Operand.tmp 0), type := 73, pos := "exprs.go:81", after := #[], guard := none } : Oper)) (v := .pointer (some ⟨R, 0, none⟩)) rfl (by kernel_rfl) (by kernel_rfl) (by kernel_rfl) (fun _ _ _ h => h) (Or.inl ⟨by rfl, ?hy1⟩) (by assumption) ?_
    case hy1 => ((intro W hSW; (try dsimp only at hSW); go_simp); (try with_reducible rfl); (try exact ⟨rfl, rfl, rfl⟩))
    simp only [Act.put, List.setIfInBounds_toArray, List.set_cons_zero, List.set_cons_succ]
    refine wpAnyH_take (i := 1) (oi := ({ dst := some 14, op := Go.Op.move (Go.Operand.tmp 2), type := 3, pos := "exprs.go:81", after := #[], guard := none } : Oper)) (v := .int .i64 d) rfl (by kernel_rfl) (by kernel_rfl) (by kernel_rfl) (fun _ _ _ h => h) (Or.inl ⟨by rfl, ?hy2⟩) (by assumption) ?_
    case hy2 => ((intro W hSW; (try dsimp only at hSW); go_simp); (try with_reducible rfl); (try exact ⟨rfl, rfl, rfl⟩))
    simp only [Act.put, List.setIfInBounds_toArray, List.set_cons_zero, List.set_cons_succ]
    refine wpAnyH_take (i := 2) (oi := ({ dst := some 15, op := Go.Op.binOp Go.BinOp.add 3 (Go.Operand.tmp 14) (Go.Operand.const (Go.Value.int Go.IntKind.i64 1)) 3, type := 3, pos := "exprs.go:81", after := #[{ on := 1, ground := Go.Ground.data }], guard := none } : Oper)) (v := .int .i64 ((d : Int) + 1)) rfl (by kernel_rfl) (by kernel_rfl) (by kernel_rfl) (fun _ _ _ h => h) (Or.inl ⟨by rfl, ?hy3⟩) (by assumption) ?_
    case hy3 => ((intro W hSW; (try dsimp only at hSW); go_simp); (try with_reducible rfl); (try exact ⟨rfl, rfl, rfl⟩))
    simp only [Act.put, List.setIfInBounds_toArray, List.set_cons_zero, List.set_cons_succ]
    refine wpAnyH_take (i := 5) (oi := ({ dst := some 18, op := Go.Op.load 36 (Go.Operand.tmp 7), type := 36, pos := "exprs.go:81", after := #[], guard := none } : Oper)) (v := .agg (tyC ty)) rfl (by kernel_rfl) (by kernel_rfl) (by kernel_rfl) (fun _ _ _ h => h) (yieldsIf_load_row (by rfl) 36 (.tmp 7) rfl w1.heap.size rfl 36 (tyC ty) (0, 0) _ (fun W hW => hW.1) Try.underlying36 rfl sizeTy) (by assumption) ?_
    simp only [Act.put, List.setIfInBounds_toArray, List.set_cons_zero, List.set_cons_succ]
    refine wpAnyH_take (i := 6) (oi := ({ dst := some 19, op := Go.Op.move (Go.Operand.tmp 1), type := 3, pos := "exprs.go:81", after := #[], guard := none } : Oper)) (v := .int .i64 a) rfl (by kernel_rfl) (by kernel_rfl) (by kernel_rfl) (fun _ _ _ h => h) (Or.inl ⟨by rfl, ?hy5⟩) (by assumption) ?_
    case hy5 => ((intro W hSW; (try dsimp only at hSW); go_simp); (try with_reducible rfl); (try exact ⟨rfl, rfl, rfl⟩))
    simp only [Act.put, List.setIfInBounds_toArray, List.set_cons_zero, List.set_cons_succ]
    refine wpAnyH_ready (rs := [3]) (by kernel_rfl) (by simp) ?_
    refine AllReadyH.cons (o := ({ dst := some 16, op := Go.Op.call { callee := Go.Callee.value (Go.Operand.func 74), args := #[Go.Operand.tmp 13, Go.Operand.tmp 15], argTypes := #[73, 3] }, type := 45, pos := "exprs.go:81", after := #[{ on := 0, ground := Go.Ground.data }, { on := 2, ground := Go.Ground.data }], guard := none } : Oper)) rfl (fun K hK => ?_) AllReadyH.nil
    go_simp
    refine hexp.mono ?_
    rintro e w4 ⟨c4, rfl, hx4, h4, f4⟩
    have HC4 := Lib.hid hx4.len
    have HB4 := Lib.hid (f4.at_ hHeld.1 (by simp; omega))
    have HR4 := Lib.hid (hHeld.2.fr f4 (by simp; omega))
    have z4 := f4.size
    try go_wp2_with fail
    refine hK.out _ _ (heldT HB4.out HR4.out) (fun hHeld => ?_)
    clear hK K
    try simp only [Act.put, List.setIfInBounds_toArray, List.set_cons_zero, List.set_cons_succ]
    refine wpAnyH_ready (rs := [4]) (by kernel_rfl) (by simp) ?_
    refine AllReadyH.cons (o := ({ dst := some 17, op := Go.Op.buildSlice 33 1 #[(0, Go.Operand.tmp 16)], type := 33, pos := "exprs.go:81", after := #[{ on := 3, ground := Go.Ground.data }], guard := none } : Oper)) rfl (fun K hK => ?_) AllReadyH.nil
    rw [if_pos (by rfl)]
    refine wp_bsE1 HC4.out (by rfl) ?_
    refine hK.out _ _ (heldT ((Below.heap_alloc w4 _ _ (lt_of_at HB4.out)).trans HB4.out) (HR4.out.alloc _)) (fun hHeld => ?_)
    clear hK K
    try simp only [Act.put, List.setIfInBounds_toArray, List.set_cons_zero, List.set_cons_succ]
    refine wpAnyH_take (i := 7) (oi := ({ dst := some 20, op := Go.Op.build 45 #[(0, Go.Operand.const (Go.Value.int Go.IntKind.i64 9)), (4, Go.Operand.tmp 17), (5, Go.Operand.tmp 18), (6, Go.Operand.tmp 19)], type := 45, pos := "exprs.go:81", after := #[{ on := 4, ground := Go.Ground.data }, { on := 5, ground := Go.Ground.data }, { on := 6, ground := Go.Ground.data }], guard := none } : Oper)) (v := .agg (exL 9 ⟨#[]⟩ ⟨#[]⟩ 0 (.slice (some ⟨w4.heap.size, 0, none⟩) 1 1) ty a).toArray) rfl (by kernel_rfl) (by kernel_rfl) (by kernel_rfl) (fun _ _ _ h => h) (Or.inl ⟨by rfl, ?hy6⟩) (by assumption) ?_
    case hy6 => ((intro W hSW; (try dsimp only at hSW); go_simp); (try with_reducible rfl); (try exact ⟨rfl, rfl, rfl⟩))
    simp only [Act.put, List.setIfInBounds_toArray, List.set_cons_zero, List.set_cons_succ]
    refine wpAnyH_ready (rs := [8]) (by kernel_rfl) (by simp) ?_
    refine AllReadyH.cons (o := ({ dst := none, op := Go.Op.store 45 (Go.Operand.tmp 6) (Go.Operand.tmp 20), type := 0, pos := "exprs.go:81", after := #[{ on := 7, ground := Go.Ground.data }, { on := 3, ground := Go.Ground.chain }, { on := 0, ground := Go.Ground.phase }, { on := 1, ground := Go.Ground.phase }, { on := 2, ground := Go.Ground.phase }, { on := 3, ground := Go.Ground.phase }, { on := 4, ground := Go.Ground.phase }, { on := 5, ground := Go.Ground.phase }, { on := 6, ground := Go.Ground.phase }, { on := 7, ground := Go.Ground.phase }], guard := none } : Oper)) rfl (fun K hK => ?_) AllReadyH.nil
    rw [if_pos (by rfl)]
    obtain ⟨old, ho, hro⟩ := hHeld.2
    refine wp_stG 45 w.heap.size (exL 9 ⟨#[]⟩ ⟨#[]⟩ 0 (.slice (some ⟨w4.heap.size, 0, none⟩) 1 1) ty a).toArray (by rfl) (by rfl) hro sizeEx ho (oneX _ _ _ _ _ _ _ _ _) ?_
    intro Y hY
    have HY := Lib.hid hY
    clear hY
    refine hK.out _ _ (heldT ((HY.out.oth w1.heap.size (by omega)).trans hHeld.1) ⟨_, rfl, HY.out.at_⟩) (fun hHeld => ?_)
    clear hK K
    try simp only [Act.put, List.setIfInBounds_toArray, List.set_cons_zero, List.set_cons_succ]
    refine wpAnyH_done (by kernel_rfl) ?_ _
    have HRO := Lib.hid hro
    clear hHeld hro
    go_wp2
    refine ret_row Try.results77 w.heap.size 45 _ _ rfl rfl HY.out.at_ Try.underlying45 rfl sizeEx ?_
    rw [HRUN.out]
    have hsz : (w4.alloc (.cells c4.toArray 45)).heap.size = w4.heap.size + 1 := by simp
    have z3 := F3.size
    have z4' : w3.heap.size ≤ w4.heap.size := z4
    have zr := lt_of_at HB3
    have f4' : Fr [R] w3 w4 := ⟨f4.os, f4.tape, f4.output, f4.size, f4.block⟩
    refine ⟨_, rfl, ExAt.of (ExsAt.one' (c := c4) (g := w4.heap.size) ?_ ?_ (by rw [HY.out.size, hsz]; omega) (by show w.heap.size ≤ w4.heap.size; omega)), ?_, ?_⟩
    · exact (hx4.all _ (S' := fun g => w.heap.size + 1 ≤ g) (fun g hg hl => by have : w3.heap.size ≤ g := hg; omega)).upd HY.out (fun g hg hl => ⟨by show w.heap.size ≤ g; omega, by omega⟩)
    · exact HY.out.range (range_new w4 c4 45) (by omega)
    · exact (h4.alloc _).up HY.out HRO.out (by decide) (by decide)
    · exact ((F3.trans f4').alloc _).up HY.out (Nat.le_refl _)
  | true =>
    rw [hi, if_pos rfl] at HRUN
    rw [hi, take_tl hi] at hta
    have hne := is_ne hi (by decide)
    have htl := (tl_ok h2.ok hne).2
    clear hi
    go_wp2_with fail
    refine hta.mono ?_
    rintro e w2 ⟨rfl, h2', f2⟩
    clear hta
    have HB2' := f2.at_ HB2.out (by simp; omega)
    have HR2' := HR2.fr f2 (by simp; omega)
    have hwl := (want_lt h2'.ok (x := ⟨#[40]⟩) (by decide)).le.len
    go_wp2_with fail
    refine (want_any ⟨#[40]⟩ (by decide) h2').mono ?_
    rintro e w3 ⟨rfl, h3, f3⟩
    have HB3 := f3.at_ HB2' (by simp; omega)
    have HR3 := HR2'.fr f3 (by simp; omega)
    have F3 := (F2.trans f2).trans f3
    have hexp := HI R M d (s1.tl.want ⟨#[40]⟩) w3.drew (h3.below ((Below.refl _ _).drew)) (by omega) (by omega)
    clear HB2'
    go_wp2_with fail
    refine wp_region_held_drew (S := fun W : World => W.heap[w1.heap.size]? = some (.cells (tyC ty) 36) ∧ RowE W w.heap.size) (by kernel_rfl) (heldT HB3 HR3) (fun hHeld => ?_)
    refine wpAnyH_take (i := 0) (oi := ({ dst := some 23, op := Go.Op.move (Go.Operand.tmp 0), type := 73, pos := "exprs.go:84", after := #[], guard := none } : Oper)) (v := .pointer (some ⟨R, 0, none⟩)) rfl (by kernel_rfl) (by kernel_rfl) (by kernel_rfl) (fun _ _ _ h => h) (Or.inl ⟨by rfl, ?hy1⟩) (by assumption) ?_
    case hy1 => ((intro W hSW; (try dsimp only at hSW); go_simp); (try with_reducible rfl); (try exact ⟨rfl, rfl, rfl⟩))
    simp only [Act.put, List.setIfInBounds_toArray, List.set_cons_zero, List.set_cons_succ]
    refine wpAnyH_take (i := 1) (oi := ({ dst := some 24, op := Go.Op.move (Go.Operand.tmp 2), type := 3, pos := "exprs.go:84", after := #[], guard := none } : Oper)) (v := .int .i64 d) rfl (by kernel_rfl) (by kernel_rfl) (by kernel_rfl) (fun _ _ _ h => h) (Or.inl ⟨by rfl, ?hy2⟩) (by assumption) ?_
    case hy2 => ((intro W hSW; (try dsimp only at hSW); go_simp); (try with_reducible rfl); (try exact ⟨rfl, rfl, rfl⟩))
    simp only [Act.put, List.setIfInBounds_toArray, List.set_cons_zero, List.set_cons_succ]
    refine wpAnyH_take (i := 4) (oi := ({ dst := some 27, op := Go.Op.load 36 (Go.Operand.tmp 7), type := 36, pos := "exprs.go:84", after := #[], guard := none } : Oper)) (v := .agg (tyC ty)) rfl (by kernel_rfl) (by kernel_rfl) (by kernel_rfl) (fun _ _ _ h => h) (yieldsIf_load_row (by rfl) 36 (.tmp 7) rfl w1.heap.size rfl 36 (tyC ty) (0, 0) _ (fun W hW => hW.1) Try.underlying36 rfl sizeTy) (by assumption) ?_
    simp only [Act.put, List.setIfInBounds_toArray, List.set_cons_zero, List.set_cons_succ]
    refine wpAnyH_take (i := 5) (oi := ({ dst := some 28, op := Go.Op.move (Go.Operand.tmp 1), type := 3, pos := "exprs.go:84", after := #[], guard := none } : Oper)) (v := .int .i64 a) rfl (by kernel_rfl) (by kernel_rfl) (by kernel_rfl) (fun _ _ _ h => h) (Or.inl ⟨by rfl, ?hy4⟩) (by assumption) ?_
    case hy4 => ((intro W hSW; (try dsimp only at hSW); go_simp); (try with_reducible rfl); (try exact ⟨rfl, rfl, rfl⟩))
    simp only [Act.put, List.setIfInBounds_toArray, List.set_cons_zero, List.set_cons_succ]
    refine wpAnyH_ready (rs := [2]) (by kernel_rfl) (by simp) ?_
    refine AllReadyH.cons (o := ({ dst := some 25, op := Go.Op.call { callee := Go.Callee.value (Go.Operand.func 79), args := #[Go.Operand.tmp 23, Go.Operand.tmp 24], argTypes := #[73, 3] }, type := 45, pos := "exprs.go:84", after := #[{ on := 0, ground := Go.Ground.data }, { on := 1, ground := Go.Ground.data }], guard := none } : Oper)) rfl (fun K hK => ?_) AllReadyH.nil
    go_simp
    refine hexp.mono ?_
    rintro e w4 ⟨c4, rfl, hx4, h4, f4⟩
    have HC4 := Lib.hid hx4.len
    have HB4 := Lib.hid (f4.at_ hHeld.1 (by simp; omega))
    have HR4 := Lib.hid (hHeld.2.fr f4 (by simp; omega))
    have z4 := f4.size
    try go_wp2_with fail
    refine hK.out _ _ (heldT HB4.out HR4.out) (fun hHeld => ?_)
    clear hK K
    try simp only [Act.put, List.setIfInBounds_toArray, List.set_cons_zero, List.set_cons_succ]
    refine wpAnyH_ready (rs := [3]) (by kernel_rfl) (by simp) ?_
    refine AllReadyH.cons (o := ({ dst := some 26, op := Go.Op.buildSlice 33 1 #[(0, Go.Operand.tmp 25)], type := 33, pos := "exprs.go:84", after := #[{ on := 2, ground := Go.Ground.data }], guard := none } : Oper)) rfl (fun K hK => ?_) AllReadyH.nil
    rw [if_pos (by rfl)]
    refine wp_bsE1 HC4.out (by rfl) ?_
    refine hK.out _ _ (heldT ((Below.heap_alloc w4 _ _ (lt_of_at HB4.out)).trans HB4.out) (HR4.out.alloc _)) (fun hHeld => ?_)
    clear hK K
    try simp only [Act.put, List.setIfInBounds_toArray, List.set_cons_zero, List.set_cons_succ]
    refine wpAnyH_take (i := 6) (oi := ({ dst := some 29, op := Go.Op.build 45 #[(0, Go.Operand.const (Go.Value.int Go.IntKind.i64 11)), (4, Go.Operand.tmp 26), (5, Go.Operand.tmp 27), (6, Go.Operand.tmp 28)], type := 45, pos := "exprs.go:84", after := #[{ on := 3, ground := Go.Ground.data }, { on := 4, ground := Go.Ground.data }, { on := 5, ground := Go.Ground.data }], guard := none } : Oper)) (v := .agg (exL 11 ⟨#[]⟩ ⟨#[]⟩ 0 (.slice (some ⟨w4.heap.size, 0, none⟩) 1 1) ty a).toArray) rfl (by kernel_rfl) (by kernel_rfl) (by kernel_rfl) (fun _ _ _ h => h) (Or.inl ⟨by rfl, ?hy5⟩) (by assumption) ?_
    case hy5 => ((intro W hSW; (try dsimp only at hSW); go_simp); (try with_reducible rfl); (try exact ⟨rfl, rfl, rfl⟩))
    simp only [Act.put, List.setIfInBounds_toArray, List.set_cons_zero, List.set_cons_succ]
    refine wpAnyH_ready (rs := [7]) (by kernel_rfl) (by simp) ?_
    refine AllReadyH.cons (o := ({ dst := none, op := Go.Op.store 45 (Go.Operand.tmp 6) (Go.Operand.tmp 29), type := 0, pos := "exprs.go:84", after := #[{ on := 6, ground := Go.Ground.data }, { on := 2, ground := Go.Ground.chain }, { on := 0, ground := Go.Ground.phase }, { on := 1, ground := Go.Ground.phase }, { on := 2, ground := Go.Ground.phase }, { on := 3, ground := Go.Ground.phase }, { on := 4, ground := Go.Ground.phase }, { on := 5, ground := Go.Ground.phase }, { on := 6, ground := Go.Ground.phase }], guard := none } : Oper)) rfl (fun K hK => ?_) AllReadyH.nil
    rw [if_pos (by rfl)]
    obtain ⟨old, ho, hro⟩ := hHeld.2
    refine wp_stG 45 w.heap.size (exL 11 ⟨#[]⟩ ⟨#[]⟩ 0 (.slice (some ⟨w4.heap.size, 0, none⟩) 1 1) ty a).toArray (by rfl) (by rfl) hro sizeEx ho (oneX _ _ _ _ _ _ _ _ _) ?_
    intro Y hY
    have HY := Lib.hid hY
    clear hY
    refine hK.out _ _ (heldT ((HY.out.oth w1.heap.size (by omega)).trans hHeld.1) ⟨_, rfl, HY.out.at_⟩) (fun hHeld => ?_)
    clear hK K
    try simp only [Act.put, List.setIfInBounds_toArray, List.set_cons_zero, List.set_cons_succ]
    refine wpAnyH_done (by kernel_rfl) ?_ _
    have HRO := Lib.hid hro
    clear hHeld hro
    go_wp2
    refine ret_row Try.results77 w.heap.size 45 _ _ rfl rfl HY.out.at_ Try.underlying45 rfl sizeEx ?_
    rw [HRUN.out]
    have hsz : (w4.alloc (.cells c4.toArray 45)).heap.size = w4.heap.size + 1 := by simp
    have z3 := F3.size
    have z4' : w3.heap.size ≤ w4.heap.size := z4
    have zr := lt_of_at HB3
    have f4' : Fr [R] w3 w4 := ⟨f4.os, f4.tape, f4.output, f4.size, f4.block⟩
    refine ⟨_, rfl, ExAt.of (ExsAt.one' (c := c4) (g := w4.heap.size) ?_ ?_ (by rw [HY.out.size, hsz]; omega) (by show w.heap.size ≤ w4.heap.size; omega)), ?_, ?_⟩
    · exact (hx4.all _ (S' := fun g => w.heap.size + 1 ≤ g) (fun g hg hl => by have : w3.heap.size ≤ g := hg; omega)).upd HY.out (fun g hg hl => ⟨by show w.heap.size ≤ g; omega, by omega⟩)
    · exact HY.out.range (range_new w4 c4 45) (by omega)
    · exact (h4.alloc _).up HY.out HRO.out (by decide) (by decide)
    · exact ((F3.trans f4').alloc _).up HY.out (Nat.le_refl _)
end Go.Proofs.Ytlobphanodhcoaa
