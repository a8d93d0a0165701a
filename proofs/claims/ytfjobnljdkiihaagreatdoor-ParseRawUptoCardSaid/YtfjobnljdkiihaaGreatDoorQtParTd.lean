/- A program's parts in memory, as they are gathered. Conditions: each theorem's. -/
import Derived.Test.YtfjobnljdkiihaaGreatDoorQtParTb
namespace Go.Proofs.YtfjobnljdkiihaaGreatDoor
open Go.RowKit Go.Maps
set_option linter.unusedVariables false
set_option linter.unusedSimpArgs false
set_option maxRecDepth 100000
open Lx Pa
def PostX {α : Type} (E : Elem α) (w : World) (R M : Nat) (x : α) (s' : Pa.S) (e : Ending) (w' : World) : Prop :=
 ∃ c : List Value, e = .returned (.agg c.toArray) ∧ E.At w' (fun g => w.heap.size ≤ g) x c ∧ RdAt w' R M s' ∧ Fr [R] w w'
abbrev srL (nm : ByteArray) (v : Value) (at_ : Nat) : List Value := [.string nm, v, .int .i64 at_]
abbrev srZ : Array Value := (srL ⟨#[]⟩ (.slice none 0 0) 0).toArray
theorem oneSr (nm : ByteArray) (A : Option Addr) (n cap : Nat) (at_ : Nat) : (srL nm (.slice A n cap) at_).toArray.all (·.oneCell') = true := by simp [Value.oneCell']
set_option maxHeartbeats 8000000 in
theorem struct_any {R M : Nat} {s : Pa.S} {w : World} (h : RdAt w R M s) (hn : s.tk.length ≤ 7000) :
  Calls Tryz.prog 43 #[.pointer (some ⟨R, 0, none⟩)] w (PostX srE w R M (structV s).1 (structV s).2) := by
 have hR := h.lt
 have hV : structV s = (⟨(s.want ⟨#[115, 116, 114, 117, 99, 116]⟩).oneT 1, (untF ((((s.want ⟨#[115, 116, 114, 117, 99, 116]⟩).one 1).want ⟨#[123]⟩).tk.length + 1) [] (((s.want ⟨#[115, 116, 114, 117, 99, 116]⟩).one 1).want ⟨#[123]⟩)).1, (s.want ⟨#[115, 116, 114, 117, 99, 116]⟩).hd.at_⟩, (untF ((((s.want ⟨#[115, 116, 114, 117, 99, 116]⟩).one 1).want ⟨#[123]⟩).tk.length + 1) [] (((s.want ⟨#[115, 116, 114, 117, 99, 116]⟩).one 1).want ⟨#[123]⟩)).2.want ⟨#[59]⟩) := rfl
 have HV := Lib.hid hV
 have hl1 := (want_lt h.ok (x := ⟨#[115, 116, 114, 117, 99, 116]⟩) (by decide)).le
 have hl2 := (one_lt hl1.ok (k := 1) (by decide)).le
 have hl3 := (want_lt hl2.ok (x := ⟨#[123]⟩) (by decide)).le
 have hlen := (hl1.trans (hl2.trans hl3)).len
 have F2 := tf2
 clear hV hl1 hl2 hl3
 have h0 := h.alloc (.cells srZ 75)
 have HR0 := Lib.hid (heap_alloc_new w (.cells srZ 75))
 have HS0 := Lib.hid (szA w (.cells srZ 75))
 go_enter Tryz.func43, Tryz.ntmps43
 go_wp2_with fail
 refine (want_any ⟨#[115, 116, 114, 117, 99, 116]⟩ (by decide) h0).mono ?_
 rintro e w1 ⟨rfl, h1, f1⟩
 generalize s.want ⟨#[115, 116, 114, 117, 99, 116]⟩ = s1 at *
 have z1 : w.heap.size + 1 ≤ w1.heap.size := by have := f1.size; rw [HS0.out] at this; exact this
 have HR1 := Lib.hid (f1.at_ HR0.out (by simp; omega))
 have F1 := ((Fr.refl [R] w).alloc (.cells srZ 75)).trans f1
 go_wp2_with fail
 refine (now_any h1).mono ?_
 rintro e w2 ⟨rfl, b2⟩
 have h2 := h1.below b2
 have HR2 := Lib.hid ((b2.block w.heap.size (by omega)).trans HR1.out)
 have FB2 := F1.trans (Fr.below b2)
 have z2 : w.heap.size + 1 ≤ w2.heap.size := by have := b2.size; omega
 generalize s1.hd.at_ = at0 at *
 have h3 := h2.alloc (.cells (srL ⟨#[]⟩ (.slice none 0 0) at0).toArray 75)
 have FB3 := FB2.alloc (.cells (srL ⟨#[]⟩ (.slice none 0 0) at0).toArray 75)
 have HR3 := Lib.hid (bl1 w2 (.cells (srL ⟨#[]⟩ (.slice none 0 0) at0).toArray 75) HR2.out (by omega))
 have HB3 := Lib.hid (heap_alloc_new w2 (.cells (srL ⟨#[]⟩ (.slice none 0 0) at0).toArray 75))
 have HS3 := Lib.hid (szA w2 (.cells (srL ⟨#[]⟩ (.slice none 0 0) at0).toArray 75))
 generalize hb : w2.heap.size = b at *
 go_wp2_with fail
 refine (one_any 1 (.inl rfl) h3).mono ?_
 rintro e w4 ⟨rfl, h4, f4⟩
 have z4 : b + 1 ≤ w4.heap.size := by have := f4.size; rw [HS3.out] at this; exact this
 have hr4 := f4.at_ HR3.out (by simp; omega)
 have hb4 := f4.at_ HB3.out (by simp; omega)
 have c0 : w4.cell? ⟨b, 0, none⟩ = some (.string ⟨#[]⟩) := cell_of_row _ _ _ _ _ _ hb4
 have e0 : w4.frozen? ⟨b, 0, none⟩ = false := frozen_of_row _ _ _ _ _ hb4
 generalize s1.oneT 1 = nm at *
 generalize s1.one 1 = s2 at *
 have u5 := up_set hb4 0 (.string nm)
 have h5 := h4.up u5 hb4 (by decide) (by decide)
 have FB5 := (FB3.trans f4).up u5 (by omega)
 have HR5 := Lib.hid ((u5.oth w.heap.size (by omega)).trans hr4)
 have HB5 : Hid ((w4.setCell ⟨b, 0, none⟩ (.string nm)).heap[b]? = some (.cells (srL nm (.slice none 0 0) at0).toArray 75)) := Lib.hid u5.at_
 have HZ5 := Lib.hid u5.size
 clear u5 hr4 hb4
 go_wp2_with fail
 refine (want_any ⟨#[123]⟩ (by decide) h5).mono ?_
 rintro e w6 ⟨rfl, h6, f6⟩
 have z6 : w4.heap.size ≤ w6.heap.size := by have := f6.size; rw [HZ5.out] at this; exact this
 have HR6 := Lib.hid (f6.at_ HR5.out (by simp; omega))
 have HB6 := Lib.hid (f6.at_ HB5.out (by simp; omega))
 have hun := untF_any h6 (by omega)
 generalize s2.want ⟨#[123]⟩ = s3 at *
 generalize (untF (s3.tk.length + 1) [] s3).1 = l at *
 generalize (untF (s3.tk.length + 1) [] s3).2 = s4 at *
 clear c0 e0
 have hmf := makeFn
 go_wp2_with fail
 refine hun.mono ?_
 rintro e w7 ⟨v, rfl, hl7, h7, f7⟩
 clear hun
 obtain ⟨A, cap, rfl⟩ := hl7.slice
 have z7 := f7.size
 have hr7 := f7.at_ HR6.out (by simp; omega)
 have hb7 := f7.at_ HB6.out (by simp; omega)
 have c1 : w7.cell? ⟨b, 1, none⟩ = some (.slice none 0 0) := cell_of_row _ _ _ _ _ _ hb7
 have e1 : w7.frozen? ⟨b, 1, none⟩ = false := frozen_of_row _ _ _ _ _ hb7
 have u8 := up_set hb7 1 (.slice A l.length cap)
 have h8 := h7.up u8 hb7 (by decide) (by decide)
 have FB8 := ((FB5.trans f6).trans f7).up u8 (by omega)
 have HR8 := Lib.hid ((u8.oth w.heap.size (by omega)).trans hr7)
 have HB8 : Hid ((w7.setCell ⟨b, 1, none⟩ (.slice A l.length cap)).heap[b]? = some (.cells (srL nm (.slice A l.length cap) at0).toArray 75)) := Lib.hid u8.at_
 have hl8 := hl7.upd u8 (S' := fun g => b + 1 ≤ g) (fun g hg hl => ⟨by have hg' : w6.heap.size ≤ g := hg; show b + 1 ≤ g; omega, by have hg' : w6.heap.size ≤ g := hg; omega⟩)
 clear u8 hr7 hb7 hl7
 go_wp2_with fail
 refine (want_any ⟨#[59]⟩ (by decide) h8).mono ?_
 rintro e w9 ⟨rfl, h9, f9⟩
 have HR9 := Lib.hid (f9.at_ HR8.out (by simp; omega))
 have HB9 := Lib.hid (f9.at_ HB8.out (by simp; omega))
 have hl9 := hl8.fr f9 (S' := fun g => b + 1 ≤ g) (fun g hg hl => ⟨hg, by have hg' : b + 1 ≤ g := hg; simp; omega⟩)
 clear c1 e1
 go_wp2_with (first | ((with_reducible refine ldG 75 b ?_ HB9.out Tryz.underlying75 ?_ ?_ ?_); rfl; rfl; exact sizeSr) | ((with_reducible refine stR 75 3 sizeSr w.heap.size (c := srL nm (.slice A l.length cap) at0) rfl (oneSr _ _ _ _ _) HR9.out rfl ?_ ?_ ?_); rfl; rfl; intro Y hY; have HY9 := Lib.hid hY; clear hY))
 refine ret_row Tryz.results43 w.heap.size 75 _ _ rfl rfl HY9.out.at_ Tryz.underlying75 rfl sizeSr ?_
 rw [HV.out]
 exact ⟨_, rfl, ⟨_, hl9.upd HY9.out (fun g hg hl => ⟨by have hg' : b + 1 ≤ g := hg; show w.heap.size ≤ g; omega, by have hg' : b + 1 ≤ g := hg; omega⟩), rfl⟩, h9.up HY9.out HR9.out (by decide) (by decide), (FB8.trans f9).up HY9.out (by omega)⟩
theorem betPL_le : ∀ f l (s : Pa.S), Ok s → s.tk.length + 1 ≤ f → Le s (betPL f l s).2 := by
 intro f
 induction f with
 | zero => intro l s h h1; omega
 | succ f ih =>
  intro l s h h1
  have hp := h.pos
  simp only [betPL]
  split
  ·rename_i h2
   have ht := tl_lt h (is_ne h2 (by decide))
   have hz := (tl_ok h (is_ne h2 (by decide))).2
   split
   ·exact (ht.trans (fail_le ht.le.ok (by decide)).le).le
   ·have hnl := (named_lt ht.le.ok).le
    exact (ht.trans (hnl.trans (ih _ _ hnl.ok (by have := hnl.len; omega)))).le
  ·exact (want_lt h (by decide)).le
theorem betP_le' {s : Pa.S} (h : Ok s) : Le s (betP s).2 := by
 unfold betP
 split
 ·rename_i h2; exact (tl_lt h (is_ne h2 (by decide))).le
 ·have hnl := (named_lt h).le
  exact hnl.trans (betPL_le _ _ _ hnl.ok (Nat.le_refl _))
theorem betP_le {s : Pa.S} (h : Ok s) : (betP s).2.tk.length ≤ s.tk.length := (betP_le' h).len
/-! Functions. -/
abbrev fnZ : Array Value := (fnL ⟨⟨#[]⟩, ty0, [], st0, 0⟩ (.slice none 0 0) (stL 0 (.slice none 0 0) (.slice none 0 0) va0 0)).toArray
theorem oneFn (x : PFn) (P : Option Addr) (n pc : Nat) (kd : Int) (A : Option Addr) (m ac : Nat) (B : Option Addr) (k bc : Nat) (v : PVa) (at_ : Nat) : (fnL x (.slice P n pc) (stL kd (.slice A m ac) (.slice B k bc) v at_)).toArray.all (·.oneCell') = true := by simp [Value.oneCell']
def RowF (W : World) (r : Nat) : Prop := ∃ old : Array Value, old.size = 16 ∧ W.heap[r]? = some (.cells old 46)
theorem heldV {W : World} {b r : Nat} {v : PVa} (h1 : W.heap[b]? = some (.cells (vaC v) 42)) (h2 : RowF W r) :
  W.heap[b]? = some (.cells (vaC v) 42) ∧ (W.cell? ⟨b, 0, none⟩ = some (.string v.nm) ∧ W.cell? ⟨b, 1, none⟩ = some (.int .i64 v.ty.ba) ∧ W.cell? ⟨b, 2, none⟩ = some (.int .i64 v.ty.st) ∧ W.cell? ⟨b, 3, none⟩ = some (.string v.ty.rc) ∧ W.cell? ⟨b, 5, none⟩ = some (.int .i64 v.at_)) ∧ RowF W r :=
 ⟨h1, ⟨cell_of_row _ _ _ _ _ _ h1, cell_of_row _ _ _ _ _ _ h1, cell_of_row _ _ _ _ _ _ h1, cell_of_row _ _ _ _ _ _ h1, cell_of_row _ _ _ _ _ _ h1⟩, h2⟩
set_option maxHeartbeats 8000000 in
theorem func_any {R M : Nat} {s : Pa.S} {w : World} (v : PVa) (h : RdAt w R M s) (hn : s.tk.length ≤ 7000) :
  Calls Tryz.prog 46 #[.pointer (some ⟨R, 0, none⟩), .agg (vaC v)] w (PostX fnE w R M (funcV v s).1 (funcV v s).2) := by
 have hR := h.lt
 have hV : funcV v s = (⟨v.nm, v.ty, (betP s).1, hdS (runS (fuelOf (betP s).2) (.block 0) (betP s).2), v.at_⟩, (runS (fuelOf (betP s).2) (.block 0) (betP s).2).2) := rfl
 have HV := Lib.hid hV
 have h0 := (h.alloc (.cells (vaC v) 42)).alloc (.cells fnZ 46)
 have F0 := ((Fr.refl [R] w).alloc (.cells (vaC v) 42)).alloc (.cells fnZ 46)
 have hbt := betP_any h0
 have HB0 := Lib.hid (aa0 w (.cells (vaC v) 42) (.cells fnZ 46))
 have HR0 := Lib.hid (bn (w.alloc (.cells (vaC v) 42)) (.cells fnZ 46) (k := w.heap.size + 1) (by simp))
 have HS0 : Hid (((w.alloc (.cells (vaC v) 42)).alloc (.cells fnZ 46)).heap.size = w.heap.size + 2) := Lib.hid (by simp)
 have hbl : (betP s).2.tk.length ≤ s.tk.length := betP_le h.ok
 generalize (betP s).1 = l at *
 generalize (betP s).2 = s1 at *
 clear hV
 have hmf := makeFn
 go_enter Tryz.func46, Tryz.ntmps46
 go_wp2_with fail
 refine hbt.mono ?_
 rintro e w1 ⟨p, rfl, hl1, h1, f1⟩
 clear hbt
 obtain ⟨P, pc, rfl⟩ := hl1.slice
 have z1 : w.heap.size + 2 ≤ w1.heap.size := by have := f1.size; rw [HS0.out] at this; exact this
 have hb1 := f1.at_ HB0.out (by simp; omega)
 have hr1 := f1.at_ HR0.out (by simp; omega)
 have F1 := F0.trans f1
 rw [HS0.out] at hl1
 have hexp := (allS (fuelOf s1)).b R M 0 s1 w1.drew (h1.below ((Below.refl _ _).drew)) (by unfold fuelOf; omega) (by unfold fuelOf; omega)
 generalize hdS (runS (fuelOf s1) (.block 0) s1) = x at *
 generalize (runS (fuelOf s1) (.block 0) s1).2 = s2 at *
 rw [show ((0 : Nat) : Int) = 0 from rfl] at hexp
 go_wp2_with fail
 refine wp_region_held_drew (S := fun W : World => W.heap[w.heap.size]? = some (.cells (vaC v) 42) ∧ (W.cell? ⟨w.heap.size, 0, none⟩ = some (.string v.nm) ∧ W.cell? ⟨w.heap.size, 1, none⟩ = some (.int .i64 v.ty.ba) ∧ W.cell? ⟨w.heap.size, 2, none⟩ = some (.int .i64 v.ty.st) ∧ W.cell? ⟨w.heap.size, 3, none⟩ = some (.string v.ty.rc) ∧ W.cell? ⟨w.heap.size, 5, none⟩ = some (.int .i64 v.at_)) ∧ RowF W (w.heap.size + 1)) (by kernel_rfl) (heldV hb1 ⟨_, rfl, hr1⟩) (fun hHeld => ?_)
 refine wpAnyH_take (i := 0) (oi := ⟨some 10, .fieldAddr 42 (.tmp 3) 0, 0, "tops.go:52", #[], none⟩) (v := .pointer (some ⟨w.heap.size, 0, none⟩)) rfl (by kernel_rfl) (by kernel_rfl) (by kernel_rfl) (fun _ _ _ h => h) (Or.inl ⟨by rfl, ?hy1⟩) (by assumption) ?_
 case hy1 => ((intro W hSW; (try dsimp only at hSW); go_simp); (try with_reducible rfl); (try exact ⟨rfl, rfl, rfl⟩))
 simp only [Act.put, sZa, sZb, sZc]
 refine wpAnyH_take (i := 1) (oi := ⟨some 11, .load 9 (.tmp 10), 9, "tops.go:52", #[⟨0, .data⟩], none⟩) (v := .string v.nm) rfl (by kernel_rfl) (by kernel_rfl) (by kernel_rfl) (fun _ _ _ h => h) (Or.inl ⟨by rfl, ?hy2⟩) (by assumption) ?_
 case hy2 => ((intro W hSW; (try dsimp only at hSW); go_simp); (try with_reducible rfl); (try exact ⟨rfl, rfl, rfl⟩))
 simp only [Act.put, sZa, sZb, sZc]
 refine wpAnyH_take (i := 2) (oi := ⟨some 12, .fieldAddr 42 (.tmp 3) 1, 0, "tops.go:52", #[], none⟩) (v := .pointer (some ⟨w.heap.size, 1, none⟩)) rfl (by kernel_rfl) (by kernel_rfl) (by kernel_rfl) (fun _ _ _ h => h) (Or.inl ⟨by rfl, ?hy3⟩) (by assumption) ?_
 case hy3 => ((intro W hSW; (try dsimp only at hSW); go_simp); (try with_reducible rfl); (try exact ⟨rfl, rfl, rfl⟩))
 simp only [Act.put, sZa, sZb, sZc]
 refine wpAnyH_take (i := 3) (oi := ⟨some 13, .load 37 (.tmp 12), 37, "tops.go:52", #[⟨2, .data⟩], none⟩) (v := .agg #[.int .i64 v.ty.ba, .int .i64 v.ty.st, .string v.ty.rc]) rfl (by kernel_rfl) (by kernel_rfl) (by kernel_rfl) (fun _ _ _ h => h) (Or.inl ⟨by rfl, ?hy4⟩) (by assumption) ?_
 case hy4 => ((intro W hSW; (try dsimp only at hSW); go_simp); (try with_reducible rfl); (try exact ⟨rfl, rfl, rfl⟩))
 simp only [Act.put, sZa, sZb, sZc]
 refine wpAnyH_take (i := 4) (oi := ⟨some 14, .move (.tmp 5), 24, "tops.go:52", #[], none⟩) (v := .slice P l.length pc) rfl (by kernel_rfl) (by kernel_rfl) (by kernel_rfl) (fun _ _ _ h => h) (Or.inl ⟨by rfl, ?hy5⟩) (by assumption) ?_
 case hy5 => ((intro W hSW; (try dsimp only at hSW); go_simp); (try with_reducible rfl); (try exact ⟨rfl, rfl, rfl⟩))
 simp only [Act.put, sZa, sZb, sZc]
 refine wpAnyH_take (i := 5) (oi := ⟨some 15, .move (.tmp 0), 87, "tops.go:52", #[], none⟩) (v := .pointer (some ⟨R, 0, none⟩)) rfl (by kernel_rfl) (by kernel_rfl) (by kernel_rfl) (fun _ _ _ h => h) (Or.inl ⟨by rfl, ?hy6⟩) (by assumption) ?_
 case hy6 => ((intro W hSW; (try dsimp only at hSW); go_simp); (try with_reducible rfl); (try exact ⟨rfl, rfl, rfl⟩))
 simp only [Act.put, sZa, sZb, sZc]
 refine wpAnyH_take (i := 7) (oi := ⟨some 17, .fieldAddr 42 (.tmp 3) 3, 0, "tops.go:52", #[], none⟩) (v := .pointer (some ⟨w.heap.size, 5, none⟩)) rfl (by kernel_rfl) (by kernel_rfl) (by kernel_rfl) (fun _ _ _ h => h) (Or.inl ⟨by rfl, ?hy7⟩) (by assumption) ?_
 case hy7 => ((intro W hSW; (try dsimp only at hSW); go_simp); (try with_reducible rfl); (try exact ⟨rfl, rfl, rfl⟩))
 simp only [Act.put, sZa, sZb, sZc]
 refine wpAnyH_take (i := 8) (oi := ⟨some 18, .load 3 (.tmp 17), 3, "tops.go:52", #[⟨7, .data⟩], none⟩) (v := .int .i64 v.at_) rfl (by kernel_rfl) (by kernel_rfl) (by kernel_rfl) (fun _ _ _ h => h) (Or.inl ⟨by rfl, ?hy8⟩) (by assumption) ?_
 case hy8 => ((intro W hSW; (try dsimp only at hSW); go_simp); (try with_reducible rfl); (try exact ⟨rfl, rfl, rfl⟩))
 simp only [Act.put, sZa, sZb, sZc]
 refine wpAnyH_ready (rs := [6]) (by kernel_rfl) (by simp) ?_
 refine AllReadyH.cons (o := ⟨some 16, .call { callee := .value (.func 72), args := #[.tmp 15, .const (Go.Value.int Go.IntKind.i64 0)], argTypes := #[87, 3] }, 44, "tops.go:52", #[⟨5, .data⟩], none⟩) rfl (fun K hK => ?_) AllReadyH.nil
 go_simp
 refine hexp.mono ?_
 rintro e w4 ⟨c4, rfl, hx4, h4, f4⟩
 have f4' : Fr [R] w1 w4 := ⟨f4.os, f4.tape, f4.output, f4.size, f4.block⟩
 have z4 := f4'.size
 have HB4 := Lib.hid (f4.at_ hHeld.1 (by simp; omega))
 obtain ⟨oldr, ho4, hr4⟩ := hHeld.2.2
 have HR4 := Lib.hid (f4.at_ hr4 (by simp; omega))
 have hx4 := hx4.keep (w' := w4) (S' := fun g => w.heap.size + 2 ≤ g) (fun g hg hl => ⟨by have hq1 : w1.heap.size ≤ g := hg; show w.heap.size + 2 ≤ g; omega, rfl⟩) (Nat.le_refl _)
 have HX4 := Lib.hid hx4
 obtain ⟨kd, xs, ks, va, at_, A, ac, B, bc, rfl, rfl, -, -⟩ := hx4.inv
 clear hx4
 try go_wp2_with fail
 refine hK.out _ _ (heldV HB4.out ⟨_, ho4, HR4.out⟩) (fun hHeld => ?_)
 clear hK K
 try simp only [Act.put, sZa, sZb, sZc]
 refine wpAnyH_take (i := 9) (oi := ⟨some 19, .build 46 #[(0, .tmp 11), (1, .tmp 13), (2, .tmp 14), (3, .tmp 16), (4, .tmp 18)], 46, "tops.go:52", #[⟨1, .data⟩, ⟨3, .data⟩, ⟨4, .data⟩, ⟨6, .data⟩, ⟨8, .data⟩], none⟩) (v := .agg (fnL ⟨v.nm, v.ty, l, .mk kd xs ks va at_, v.at_⟩ (.slice P l.length pc) (stL kd (.slice A xs.length ac) (.slice B ks.length bc) va at_)).toArray) rfl (by kernel_rfl) (by kernel_rfl) (by kernel_rfl) (fun _ _ _ h => h) (Or.inl ⟨by rfl, ?hy9⟩) (by assumption) ?_
 case hy9 => ((intro W hSW; (try dsimp only at hSW); go_simp); (try with_reducible rfl); (try exact ⟨rfl, rfl, rfl⟩))
 simp only [Act.put, sZa, sZb, sZc]
 refine wpAnyH_ready (rs := [10]) (by kernel_rfl) (by simp) ?_
 refine AllReadyH.cons (o := ⟨none, .store 46 (.tmp 4) (.tmp 19), 0, "tops.go:52", #[⟨9, .data⟩, ⟨6, .chain⟩, ⟨0, .phase⟩, ⟨1, .phase⟩, ⟨2, .phase⟩, ⟨3, .phase⟩, ⟨4, .phase⟩, ⟨5, .phase⟩, ⟨6, .phase⟩, ⟨7, .phase⟩, ⟨8, .phase⟩, ⟨9, .phase⟩], none⟩) rfl (fun K hK => ?_) AllReadyH.nil
 rw [if_pos (by rfl)]
 obtain ⟨old, ho, hro⟩ := hHeld.2.2
 refine wp_stG 46 (w.heap.size + 1) (fnL ⟨v.nm, v.ty, l, .mk kd xs ks va at_, v.at_⟩ (.slice P l.length pc) (stL kd (.slice A xs.length ac) (.slice B ks.length bc) va at_)).toArray (by rfl) (by rfl) hro sizeFn ho (oneFn _ _ _ _ _ _ _ _ _ _ _ _ _) ?_
 intro Y hY
 have HY := Lib.hid hY
 clear hY
 refine hK.out _ _ (heldV ((HY.out.oth w.heap.size (by omega)).trans hHeld.1) ⟨_, rfl, HY.out.at_⟩) (fun hHeld => ?_)
 clear hK K
 try simp only [Act.put, sZa, sZb, sZc]
 refine wpAnyH_done (by kernel_rfl) ?_ _
 have HRO := Lib.hid hro
 clear hHeld hro
 go_wp2
 refine ret_row Tryz.results46 (w.heap.size + 1) 46 _ _ rfl rfl HY.out.at_ Tryz.underlying46 rfl sizeFn ?_
 rw [HV.out]
 have hl4 := hl1.fr f4' (S' := fun g => w.heap.size + 2 ≤ g) (fun g hg hl => ⟨hg, by have hg' : w.heap.size + 2 ≤ g := hg; simp; omega⟩)
 exact ⟨_, rfl, ⟨_, _, hl4.upd HY.out (fun g hg hl => ⟨by have hg' : w.heap.size + 2 ≤ g := hg; show w.heap.size ≤ g; omega, by have hg' : w.heap.size + 2 ≤ g := hg; omega⟩), HX4.out.upd HY.out (fun g hg hl => ⟨by have hg' : w.heap.size + 2 ≤ g := hg; show w.heap.size ≤ g; omega, by have hg' : w.heap.size + 2 ≤ g := hg; omega⟩), rfl⟩, h4.up HY.out HRO.out (by decide) (by decide), (F1.trans f4').up HY.out (by omega)⟩
def OwnN {α : Type} (E : Elem α) (e : TypeId) (w : World) (base : Nat) (N : Nat → Prop) (l : List α) (v : Value) : Prop :=
 ∃ rows : List (List Value), rows.length = l.length ∧ w.ownsRow base e E.z v l.length rows.flatten ∧ ∀ (i : Nat) (x : α) (c : List Value), l[i]? = some x → rows[i]? = some c → E.At w N x c
structure PrN (w : World) (base : Nat) (N : Nat → Prop) (p : PPr) (vs vv vf : Value) : Prop where
 ne : ∀ k, N k → base ≤ k ∧ k < w.heap.size ∧ vs.ownBlock ≠ some k ∧ vv.ownBlock ≠ some k ∧ vf.ownBlock ≠ some k
 s : OwnN srE 75 w base N p.ss vs
 v : OwnN vaE 42 w base N p.vs vv
 f : OwnN fnE 46 w base N p.fs vf
theorem OwnN.keep {α : Type} {E : Elem α} {e : TypeId} {w w' : World} {base : Nat} {N : Nat → Prop} {l : List α} {v : Value} (h : OwnN E e w base N l v) (hN : ∀ k, N k → base ≤ k) (hk : ∀ k, base ≤ k → k < w.heap.size → w'.heap[k]? = w.heap[k]?) (hz : w.heap.size ≤ w'.heap.size) : OwnN E e w' base N l v := by
 obtain ⟨rows, h1, h2, h3⟩ := h
 exact ⟨rows, h1, ownsRow_keep h2 hk, fun i x c hx hc => E.keep (h3 i x c hx hc) (fun g hg hl => ⟨hg, hk g (hN g hg) hl⟩) hz⟩
theorem PrN.keep {w w' : World} {base : Nat} {N : Nat → Prop} {p : PPr} {vs vv vf : Value} (h : PrN w base N p vs vv vf) (hk : ∀ k, base ≤ k → k < w.heap.size → w'.heap[k]? = w.heap[k]?) (hz : w.heap.size ≤ w'.heap.size) : PrN w' base N p vs vv vf :=
 ⟨fun k hN => by obtain ⟨h1, h2, h3⟩ := h.ne k hN; exact ⟨h1, by omega, h3⟩, h.s.keep (fun k hN => (h.ne k hN).1) hk hz, h.v.keep (fun k hN => (h.ne k hN).1) hk hz, h.f.keep (fun k hN => (h.ne k hN).1) hk hz⟩
theorem OwnN.lt {α : Type} {E : Elem α} {e : TypeId} {w : World} {base : Nat} {N : Nat → Prop} {l : List α} {v : Value} (h : OwnN E e w base N l v) {k : Nat} (hk : v.ownBlock = some k) : k < w.heap.size := by
 obtain ⟨rows, _, h2, _⟩ := h
 exact (own_typ h2 k hk).2.1
theorem own_ne {w : World} {base base' : Nat} {e e' : TypeId} {z z' n n' : Nat} {v v' : Value} {xs xs' : List Value} (h : w.ownsRow base e z v n xs) (h' : w.ownsRow base' e' z' v' n' xs') (hne : e ≠ e') : v.ownBlock = none ∨ v.ownBlock ≠ v'.ownBlock := by
 cases hv : v.ownBlock with
 | none => exact .inl rfl
 | some k =>
  refine .inr fun heq => ?_
  obtain ⟨_, _, cs, fr, h1⟩ := own_typ h k hv
  obtain ⟨_, _, cs', fr', h2⟩ := own_typ h' k heq.symm
  rw [h1] at h2
  injection h2 with h2
  injection h2 with _ h2 _
  exact hne h2
theorem at_grown {α : Type} (E : Elem α) {w w' : World} {N N' : Nat → Prop} {x : α} {c : List Value} {row : Option Nat} (h : E.At w N x c) (hg : w.grownBy w' row) (hN : ∀ k, N k → k < w.heap.size → N' k ∧ row ≠ some k) : E.At w' N' x c :=
 E.keep h (fun k hk hl => ⟨(hN k hk hl).1, hg.block k hl (fun he => (hN k hk hl).2 he.symm)⟩) hg.size
theorem OwnN.grow {α : Type} {E : Elem α} {e : TypeId} {w w' : World} {base : Nat} {N N' : Nat → Prop} {l : List α} {v : Value} {row : Option Nat} (h : OwnN E e w base N l v) (hg : w.grownBy w' row) (hne : v.ownBlock = none ∨ v.ownBlock ≠ row) (hN : ∀ k, N k → N' k ∧ row ≠ some k) : OwnN E e w' base N' l v := by
 obtain ⟨rows, h1, h2, h3⟩ := h
 exact ⟨rows, h1, World.ownsRow.kept h2 hg hne, fun i x c hx hc => at_grown E (h3 i x c hx hc) hg fun k hk _ => hN k hk⟩
theorem OwnN.push {α : Type} {E : Elem α} {e : TypeId} {w w' : World} {base g cap : Nat} {N N' NE : Nat → Prop} {l : List α} {v : Value} {x : α} {c : List Value} {rows : List (List Value)} (hlen : rows.length = l.length)
  (hel : ∀ (i : Nat) (x : α) (c : List Value), l[i]? = some x → rows[i]? = some c → E.At w N x c) (hx : E.At w NE x c)
  (hown : w'.ownsRow base e E.z (.slice (some ⟨g, 0, none⟩) (l.length + 1) cap) (l.length + 1) (rows.flatten ++ c)) (hgrow : w.grownBy w' v.ownBlock) (hN : ∀ k, N k → N' k ∧ v.ownBlock ≠ some k) (hE : ∀ k, NE k → N' k ∧ v.ownBlock ≠ some k) : OwnN E e w' base N' (l ++ [x]) (.slice (some ⟨g, 0, none⟩) (l.length + 1) cap) := by
 refine ⟨rows ++ [c], by simp [hlen], by simpa using hown, fun i y d hy hd => ?_⟩
 rcases Nat.lt_or_ge i l.length with hi | hi
 ·rw [List.getElem?_append_left hi] at hy
  rw [List.getElem?_append_left (by omega)] at hd
  exact at_grown E (hel i y d hy hd) hgrow fun k hk _ => hN k hk
 ·rw [List.getElem?_append_right hi] at hy
  rw [List.getElem?_append_right (by omega), hlen] at hd
  generalize i - l.length = j at *
  match j, hy, hd with
  | 0, hy, hd => simp at hy hd; subst hy; subst hd; exact at_grown E hx hgrow fun k hk _ => hE k hk
theorem PrN.pushS {w w' : World} {base g cap H n0 : Nat} {N : Nat → Prop} {p : PPr} {vs vv vf : Value} {x : PSr} {c : List Value} {rows : List (List Value)} (h : PrN w base N p vs vv vf) (hrl : rows.length = p.ss.length)
  (hel : ∀ (i : Nat) (x : PSr) (c : List Value), p.ss[i]? = some x → rows[i]? = some c → srE.At w N x c) (how : w.ownsRow base 75 srE.z vs p.ss.length rows.flatten) (hx : srE.At w (fun k => n0 ≤ k ∧ k < w.heap.size) x c) (hn : base ≤ n0)
  (hlt : ∀ k, vs.ownBlock = some k ∨ vv.ownBlock = some k ∨ vf.ownBlock = some k → k < n0) (hH : w.heap.size = H)
  (hown : w'.ownsRow base 75 srE.z (.slice (some ⟨g, 0, none⟩) (p.ss.length + 1) cap) (p.ss.length + 1) (rows.flatten ++ c)) (hgrow : w.grownBy w' vs.ownBlock) (hat : vs.ownBlock = some g ∨ g = H) :
  ∃ N' : Nat → Prop, PrN w' base N' ⟨p.ss ++ [x], p.vs, p.fs⟩ (.slice (some ⟨g, 0, none⟩) (p.ss.length + 1) cap) vv vf := by
 have hNE : ∀ k, (n0 ≤ k ∧ k < w.heap.size) → vs.ownBlock ≠ some k ∧ vv.ownBlock ≠ some k ∧ vf.ownBlock ≠ some k := fun k hk =>
  ⟨fun e => by have := hlt k (.inl e); omega, fun e => by have := hlt k (.inr (.inl e)); omega, fun e => by have := hlt k (.inr (.inr e)); omega⟩
 have hrow : ∀ k, (N k ∨ (n0 ≤ k ∧ k < w.heap.size)) → vs.ownBlock ≠ some k := fun k hk => by
  rcases hk with hk | hk
  ·exact (h.ne k hk).2.2.1
  ·exact (hNE k hk).1
 have hnew : ∀ k, (N k ∨ (n0 ≤ k ∧ k < w.heap.size)) → (Value.slice (some ⟨g, 0, none⟩) (p.ss.length + 1) cap).ownBlock ≠ some k := fun k hk he => by
  have he : some g = some k := he
  injection he with he
  have hk2 := hrow k hk
  have hkw : k < w.heap.size := by rcases hk with hk | hk; exact (h.ne k hk).2.1; exact hk.2
  rcases hat with hat | hat
  ·exact hk2 (by rw [hat, he])
  ·omega
 have hold : ∀ k, (N k ∨ (n0 ≤ k ∧ k < w.heap.size)) → base ≤ k ∧ k < w'.heap.size ∧ vs.ownBlock ≠ some k ∧ vv.ownBlock ≠ some k ∧ vf.ownBlock ≠ some k := fun k hk => by
  have := hgrow.size
  rcases hk with hk | hk
  ·obtain ⟨h1, h2, h3⟩ := h.ne k hk; exact ⟨h1, by omega, h3⟩
  ·exact ⟨by omega, by omega, hNE k hk⟩
 refine ⟨fun k => N k ∨ (n0 ≤ k ∧ k < w.heap.size), ⟨fun k hk => ?_, OwnN.push hrl hel hx hown hgrow (fun k hk => ⟨Or.inl hk, hrow k (Or.inl hk)⟩) (fun k hk => ⟨Or.inr hk, hrow k (Or.inr hk)⟩), h.v.grow hgrow (by obtain ⟨_, _, ho, _⟩ := h.v; exact own_ne ho how (by decide)) (fun k hk => ⟨Or.inl hk, hrow k (Or.inl hk)⟩), h.f.grow hgrow (by obtain ⟨_, _, ho, _⟩ := h.f; exact own_ne ho how (by decide)) (fun k hk => ⟨Or.inl hk, hrow k (Or.inl hk)⟩)⟩⟩
 obtain ⟨h1, h2, h3, h4, h5⟩ := hold k hk
 exact ⟨h1, h2, hnew k hk, h4, h5⟩
theorem PrN.pushV {w w' : World} {base g cap H n0 : Nat} {N : Nat → Prop} {p : PPr} {vs vv vf : Value} {x : PVa} {c : List Value} {rows : List (List Value)} (h : PrN w base N p vs vv vf) (hrl : rows.length = p.vs.length)
  (hel : ∀ (i : Nat) (x : PVa) (c : List Value), p.vs[i]? = some x → rows[i]? = some c → vaE.At w N x c) (how : w.ownsRow base 42 vaE.z vv p.vs.length rows.flatten) (hx : vaE.At w (fun k => n0 ≤ k ∧ k < w.heap.size) x c) (hn : base ≤ n0)
  (hlt : ∀ k, vs.ownBlock = some k ∨ vv.ownBlock = some k ∨ vf.ownBlock = some k → k < n0) (hH : w.heap.size = H)
  (hown : w'.ownsRow base 42 vaE.z (.slice (some ⟨g, 0, none⟩) (p.vs.length + 1) cap) (p.vs.length + 1) (rows.flatten ++ c)) (hgrow : w.grownBy w' vv.ownBlock) (hat : vv.ownBlock = some g ∨ g = H) :
  ∃ N' : Nat → Prop, PrN w' base N' ⟨p.ss, p.vs ++ [x], p.fs⟩ vs (.slice (some ⟨g, 0, none⟩) (p.vs.length + 1) cap) vf := by
 have hNE : ∀ k, (n0 ≤ k ∧ k < w.heap.size) → vs.ownBlock ≠ some k ∧ vv.ownBlock ≠ some k ∧ vf.ownBlock ≠ some k := fun k hk =>
  ⟨fun e => by have := hlt k (.inl e); omega, fun e => by have := hlt k (.inr (.inl e)); omega, fun e => by have := hlt k (.inr (.inr e)); omega⟩
 have hrow : ∀ k, (N k ∨ (n0 ≤ k ∧ k < w.heap.size)) → vv.ownBlock ≠ some k := fun k hk => by
  rcases hk with hk | hk
  ·exact (h.ne k hk).2.2.2.1
  ·exact (hNE k hk).2.1
 have hnew : ∀ k, (N k ∨ (n0 ≤ k ∧ k < w.heap.size)) → (Value.slice (some ⟨g, 0, none⟩) (p.vs.length + 1) cap).ownBlock ≠ some k := fun k hk he => by
  have he : some g = some k := he
  injection he with he
  have hk2 := hrow k hk
  have hkw : k < w.heap.size := by rcases hk with hk | hk; exact (h.ne k hk).2.1; exact hk.2
  rcases hat with hat | hat
  ·exact hk2 (by rw [hat, he])
  ·omega
 have hold : ∀ k, (N k ∨ (n0 ≤ k ∧ k < w.heap.size)) → base ≤ k ∧ k < w'.heap.size ∧ vs.ownBlock ≠ some k ∧ vv.ownBlock ≠ some k ∧ vf.ownBlock ≠ some k := fun k hk => by
  have := hgrow.size
  rcases hk with hk | hk
  ·obtain ⟨h1, h2, h3⟩ := h.ne k hk; exact ⟨h1, by omega, h3⟩
  ·exact ⟨by omega, by omega, hNE k hk⟩
 refine ⟨fun k => N k ∨ (n0 ≤ k ∧ k < w.heap.size), ⟨fun k hk => ?_, h.s.grow hgrow (by obtain ⟨_, _, ho, _⟩ := h.s; exact own_ne ho how (by decide)) (fun k hk => ⟨Or.inl hk, hrow k (Or.inl hk)⟩), OwnN.push hrl hel hx hown hgrow (fun k hk => ⟨Or.inl hk, hrow k (Or.inl hk)⟩) (fun k hk => ⟨Or.inr hk, hrow k (Or.inr hk)⟩), h.f.grow hgrow (by obtain ⟨_, _, ho, _⟩ := h.f; exact own_ne ho how (by decide)) (fun k hk => ⟨Or.inl hk, hrow k (Or.inl hk)⟩)⟩⟩
 obtain ⟨h1, h2, h3, h4, h5⟩ := hold k hk
 exact ⟨h1, h2, h3, hnew k hk, h5⟩
theorem PrN.pushF {w w' : World} {base g cap H n0 : Nat} {N : Nat → Prop} {p : PPr} {vs vv vf : Value} {x : PFn} {c : List Value} {rows : List (List Value)} (h : PrN w base N p vs vv vf) (hrl : rows.length = p.fs.length)
  (hel : ∀ (i : Nat) (x : PFn) (c : List Value), p.fs[i]? = some x → rows[i]? = some c → fnE.At w N x c) (how : w.ownsRow base 46 fnE.z vf p.fs.length rows.flatten) (hx : fnE.At w (fun k => n0 ≤ k ∧ k < w.heap.size) x c) (hn : base ≤ n0)
  (hlt : ∀ k, vs.ownBlock = some k ∨ vv.ownBlock = some k ∨ vf.ownBlock = some k → k < n0) (hH : w.heap.size = H)
  (hown : w'.ownsRow base 46 fnE.z (.slice (some ⟨g, 0, none⟩) (p.fs.length + 1) cap) (p.fs.length + 1) (rows.flatten ++ c)) (hgrow : w.grownBy w' vf.ownBlock) (hat : vf.ownBlock = some g ∨ g = H) :
  ∃ N' : Nat → Prop, PrN w' base N' ⟨p.ss, p.vs, p.fs ++ [x]⟩ vs vv (.slice (some ⟨g, 0, none⟩) (p.fs.length + 1) cap) := by
 have hNE : ∀ k, (n0 ≤ k ∧ k < w.heap.size) → vs.ownBlock ≠ some k ∧ vv.ownBlock ≠ some k ∧ vf.ownBlock ≠ some k := fun k hk =>
  ⟨fun e => by have := hlt k (.inl e); omega, fun e => by have := hlt k (.inr (.inl e)); omega, fun e => by have := hlt k (.inr (.inr e)); omega⟩
 have hrow : ∀ k, (N k ∨ (n0 ≤ k ∧ k < w.heap.size)) → vf.ownBlock ≠ some k := fun k hk => by
  rcases hk with hk | hk
  ·exact (h.ne k hk).2.2.2.2
  ·exact (hNE k hk).2.2
 have hnew : ∀ k, (N k ∨ (n0 ≤ k ∧ k < w.heap.size)) → (Value.slice (some ⟨g, 0, none⟩) (p.fs.length + 1) cap).ownBlock ≠ some k := fun k hk he => by
  have he : some g = some k := he
  injection he with he
  have hk2 := hrow k hk
  have hkw : k < w.heap.size := by rcases hk with hk | hk; exact (h.ne k hk).2.1; exact hk.2
  rcases hat with hat | hat
  ·exact hk2 (by rw [hat, he])
  ·omega
 have hold : ∀ k, (N k ∨ (n0 ≤ k ∧ k < w.heap.size)) → base ≤ k ∧ k < w'.heap.size ∧ vs.ownBlock ≠ some k ∧ vv.ownBlock ≠ some k ∧ vf.ownBlock ≠ some k := fun k hk => by
  have := hgrow.size
  rcases hk with hk | hk
  ·obtain ⟨h1, h2, h3⟩ := h.ne k hk; exact ⟨h1, by omega, h3⟩
  ·exact ⟨by omega, by omega, hNE k hk⟩
 refine ⟨fun k => N k ∨ (n0 ≤ k ∧ k < w.heap.size), ⟨fun k hk => ?_, h.s.grow hgrow (by obtain ⟨_, _, ho, _⟩ := h.s; exact own_ne ho how (by decide)) (fun k hk => ⟨Or.inl hk, hrow k (Or.inl hk)⟩), h.v.grow hgrow (by obtain ⟨_, _, ho, _⟩ := h.v; exact own_ne ho how (by decide)) (fun k hk => ⟨Or.inl hk, hrow k (Or.inl hk)⟩), OwnN.push hrl hel hx hown hgrow (fun k hk => ⟨Or.inl hk, hrow k (Or.inl hk)⟩) (fun k hk => ⟨Or.inr hk, hrow k (Or.inr hk)⟩)⟩⟩
 obtain ⟨h1, h2, h3, h4, h5⟩ := hold k hk
 exact ⟨h1, h2, h3, h4, hnew k hk⟩
structure PrR (w0 w : World) (R M b : Nat) (p : PPr) (s : Pa.S) (vs vv vf : Value) : Prop where
 fr : Fr [R] w0 w
 rd : RdAt w R M s
 rl : R < w0.heap.size
 bl : w0.heap.size ≤ b
 row : w.heap[b]? = some (.cells #[vs, vv, vf] 27)
 own : ∃ N, PrN w (b + 1) N p vs vv vf
theorem PrR.step {w0 w w' : World} {R M b : Nat} {p : PPr} {s s' : Pa.S} {vs vv vf : Value} (h : PrR w0 w R M b p s vs vv vf) (f : Fr [R] w w') (rd : RdAt w' R M s') : PrR w0 w' R M b p s' vs vv vf := by
 obtain ⟨N, hN⟩ := h.own
 have h1 := h.rl
 have h2 := h.bl
 exact ⟨h.fr.trans f, rd, h1, h2, f.at_ h.row (by simp; omega), N, hN.keep (fun k hk hl => f.block k hl (by simp; omega)) f.size⟩
theorem PrR.alloc {w0 w : World} {R M b : Nat} {p : PPr} {s : Pa.S} {vs vv vf : Value} (h : PrR w0 w R M b p s vs vv vf) (o : Obj) : PrR w0 (w.alloc o) R M b p s vs vv vf := h.step ((Fr.refl _ _).alloc o) (h.rd.alloc o)
theorem PrR.lt {w0 w : World} {R M b : Nat} {p : PPr} {s : Pa.S} {vs vv vf : Value} (h : PrR w0 w R M b p s vs vv vf) : ∀ k, vs.ownBlock = some k ∨ vv.ownBlock = some k ∨ vf.ownBlock = some k → k < w.heap.size := by
 obtain ⟨N, hN⟩ := h.own
 intro k hk
 rcases hk with hk | hk | hk
 ·exact hN.s.lt hk
 ·exact hN.v.lt hk
 ·exact hN.f.lt hk
theorem PrR.app {w0 w w' : World} {R M b : Nat} {p p' : PPr} {s : Pa.S} {vs vv vf v' : Value} {vs' vv' vf' : Value} {e : TypeId} {z n : Nat} {v : Value} {xs : List Value} (h : PrR w0 w R M b p s vs vv vf) (how : w.ownsRow (b + 1) e z v n xs) (hg : w.grownBy w' v.ownBlock) (h1 : e ≠ 63) (h2 : e ≠ 60)
  (hp : ∃ N', PrN w' (b + 1) N' p' vs' vv' vf') (i : Nat) (hi : (#[vs, vv, vf] : Array Value).setIfInBounds i v' = #[vs', vv', vf']) : w'.heap[b]? = some (.cells #[vs, vv, vf] 27) ∧ PrR w0 (w'.setCell ⟨b, i, none⟩ v') R M b p' s vs' vv' vf' := by
 have hrow : w'.heap[b]? = some (.cells #[vs, vv, vf] 27) := (hg.block b (lt_of_at h.row) (fun he => by have := (own_typ how b he.symm).1; omega)).trans h.row
 have hf : Fr [R] w0 w' := h.fr.grown hg fun k hk => by have := (own_typ how k hk).1; have := h.bl; omega
 have hr : RdAt w' R M s := h.rd.own how hg h1 h2
 have u := up_set hrow i v'
 obtain ⟨N, hN⟩ := hp
 refine ⟨hrow, hf.up u h.bl, hr.up u hrow (by decide) (by decide), h.rl, h.bl, ?_, N, hN.keep (fun k hk hl => u.oth k (by omega)) (Nat.le_of_eq u.size.symm)⟩
 rw [← hi]
 exact u.at_
end Go.Proofs.YtfjobnljdkiihaaGreatDoor
