/- Unary operators. Conditions: each theorem's. -/
import Derived.Test.YtfjobnljdkiihaaGreatDoorQtParPo
namespace Go.Proofs.YtfjobnljdkiihaaGreatDoor
open Go.RowKit Go.Maps
set_option linter.unusedVariables false
set_option linter.unusedSimpArgs false
set_option maxRecDepth 100000
open Lx Pa
theorem strYes {a : ByteArray} (l : List UInt8) (h : a = ⟨l.toArray⟩) : (a.toList == l) = true := by
 have := strEq a ⟨l.toArray⟩
 rw [Lib.toList_data ⟨l.toArray⟩] at this
 rw [← decide_eq_true h]; exact this
theorem heldK {W : World} {b r : Nat} {t : Tk} (h1 : W.heap[b]? = some (.cells #[.int .i64 t.kd, .string t.tx, .int .i64 t.at_] 63)) (h2 : RowE W r) :
  W.heap[b]? = some (.cells #[.int .i64 t.kd, .string t.tx, .int .i64 t.at_] 63) ∧ W.cell? ⟨b, 1, none⟩ = some (.string t.tx) ∧ W.cell? ⟨b, 2, none⟩ = some (.int .i64 t.at_) ∧ RowE W r := ⟨h1, cell_of_row _ _ _ _ _ _ h1, cell_of_row _ _ _ _ _ _ h1, h2⟩
set_option maxHeartbeats 16000000 in
theorem un_sign {f : Nat} (HU : UnC f) (R M d : Nat) (s : Pa.S) (w : World) (h : RdAt w R M s) (hf : 8 * s.tk.length + 3 ≤ f + 1) (hd : d + (f + 1) ≤ 60000) (hun : unOp (deepS d s).hd.tx = true) :
  Calls Tryz.prog 136 #[.pointer (some ⟨R, 0, none⟩), .int .i64 d] w (PostE w R M (hd1 (runE (f + 1) (.un d) s)) (runE (f + 1) (.un d) s).2) := by
 have hR := h.lt
 have hrun : runE (f + 1) (.un d) s = if unOp (deepS d s).hd.tx then ([.mk 3 (deepS d s).hd.tx eB 0 [hd1 (runE f (.un (d + 1)) (deepS d s).tl)] ty0 (deepS d s).hd.at_], (runE f (.un (d + 1)) (deepS d s).tl).2)
  else if (deepS d s).hd.tx = ⟨#[115, 105, 122, 101, 111, 102]⟩ then ([.mk 10 eB eB 0 [] (typeV ((deepS d s).tl.want ⟨#[40]⟩)).1 (deepS d s).hd.at_], (typeV ((deepS d s).tl.want ⟨#[40]⟩)).2.want ⟨#[41]⟩)
  else if (deepS d s).hd.tx = ⟨#[40]⟩ ∧ (baseV ((deepS d s).ahead 1).tx).isSome = true then runE f (.cast (deepS d s).hd.at_ d) (deepS d s).tl
  else runE f (.post d) (deepS d s) := by simp only [runE]
 have HRUN := Lib.hid hrun
 have h0 := h.alloc (.cells exZ 39)
 have HR0 := Lib.hid (heap_alloc_new w (.cells exZ 39))
 have HS0 := Lib.hid (szA w (.cells exZ 39))
 have hdl := (deep_le h.ok d).len
 clear hrun
 have hw : IntKind.i64.wrap ((d : Int) + 1) = (d : Int) + 1 := IntWalk.i64_in _ (by omega)
 by_cases h40 : 40 < d
 ·have hdec : decide ((40 : Int) < (d : Int)) = true := decide_eq_true (by omega)
  have hds : deepS d s = s.fail 12 := if_pos h40
  rw [hds] at HRUN hdl hun
  go_enter Tryz.func136, Tryz.ntmps136
  go_wp2_with fail
  refine (fail_any 12 (by omega) h0).mono ?_
  rintro e w0 ⟨rfl, hx0, f0⟩
  have HRX := Lib.hid (f0.at_ HR0.out (by simp; omega))
  have zX : w.heap.size + 1 ≤ w0.heap.size := by have := f0.size; rw [HS0.out] at this; exact this
  have FX := ((Fr.refl [R] w).alloc (.cells exZ 39)).trans f0
  generalize s.fail 12 = s0 at *
  clear hds hdec h40
  go_wp2_with fail
  refine (now_any hx0).mono ?_
  rintro e w1 ⟨rfl, b1⟩
  have h1 := hx0.below b1
  have HR1 := Lib.hid ((b1.block w.heap.size (by omega)).trans HRX.out)
  have F1 := FX.trans (Fr.below b1)
  have z1 : w.heap.size + 1 ≤ w1.heap.size := by have := b1.size; omega
  generalize ht : s0.hd = t at *
  have HT := Lib.hid ht
  have h2 := h1.alloc (.cells #[.int .i64 t.kd, .string t.tx, .int .i64 t.at_] 63)
  have HR2 := (show RowE w1 w.heap.size from ⟨_, rfl, HR1.out⟩).alloc (.cells #[.int .i64 t.kd, .string t.tx, .int .i64 t.at_] 63)
  have HB2 := Lib.hid (heap_alloc_new w1 (.cells #[.int .i64 t.kd, .string t.tx, .int .i64 t.at_] 63))
  have F2 := F1.alloc (.cells #[.int .i64 t.kd, .string t.tx, .int .i64 t.at_] 63)
  have hne : s0.hd.tx ≠ ⟨#[]⟩ ∨ s0.hd.kd ≠ 0 := .inl (by rw [HT.out]; exact un_ne hun)
  have htl := (tl_ok hx0.ok hne).2
  have hcell : (w1.alloc (.cells #[.int .i64 t.kd, .string t.tx, .int .i64 t.at_] 63)).cell? ⟨w1.heap.size, 1, none⟩ = some (.string t.tx) := cell_of_row _ _ _ _ _ _ HB2.out
  rw [if_pos hun] at HRUN
  clear ht
  have hsig : t.tx = ⟨#[45]⟩ ∨ t.tx = ⟨#[126]⟩ ∨ t.tx = ⟨#[33]⟩ ∨ t.tx = ⟨#[42]⟩ ∨ t.tx = ⟨#[38]⟩ := by
   unfold unOp at hun
   simp only [Bool.or_eq_true, decide_eq_true_eq] at hun
   rcases hun with (((hun | hun) | hun) | hun) | hun
   ·exact .inl hun
   ·exact .inr (.inl hun)
   ·exact .inr (.inr (.inl hun))
   ·exact .inr (.inr (.inr (.inl hun)))
   ·exact .inr (.inr (.inr (.inr hun)))
  have hQ : ∀ W : World, RdAt W R M s0.tl → Fr [R] (w1.alloc (.cells #[.int .i64 t.kd, .string t.tx, .int .i64 t.at_] 63)) W → True := fun _ _ _ => trivial
  clear hun
  have hsigs : ((t.tx.toList == [45]) = true) ∨ ((t.tx.toList == [45]) = false ∧ (t.tx.toList == [126]) = true) ∨ ((t.tx.toList == [45]) = false ∧ (t.tx.toList == [126]) = false ∧ (t.tx.toList == [33]) = true) ∨ ((t.tx.toList == [45]) = false ∧ (t.tx.toList == [126]) = false ∧ (t.tx.toList == [33]) = false ∧ (t.tx.toList == [42]) = true) ∨ ((t.tx.toList == [45]) = false ∧ (t.tx.toList == [126]) = false ∧ (t.tx.toList == [33]) = false ∧ (t.tx.toList == [42]) = false ∧ (t.tx.toList == [38]) = true) := by
   rcases hsig with hh | hh | hh | hh | hh <;> rw [hh] <;> simp only [Lib.toList_data] <;> decide
  clear hsig hQ
  rcases hsigs with q1 | ⟨q1, q2⟩ | ⟨q1, q2, q3⟩ | ⟨q1, q2, q3, q4⟩ | ⟨q1, q2, q3, q4, q5⟩
  all_goals
   go_wp2_with fail
   refine (step_any h2 hne).mono ?_
   rintro e w3 ⟨rfl, h3, f3, -⟩
   have HB3 := f3.at_ HB2.out (by simp; omega)
   have HR3 := HR2.fr f3 (by simp; omega)
   have F3 := F2.trans f3
   have hexp := HU R M (d + 1) s0.tl w3.drew (h3.below ((Below.refl _ _).drew)) (by omega) (by omega)
   rw [show ((d + 1 : Nat) : Int) = (d : Int) + 1 from rfl] at hexp
   clear hcell
   go_wp2_with fail
   refine wp_region_held_drew (S := fun W : World => W.heap[w1.heap.size]? = some (.cells #[.int .i64 t.kd, .string t.tx, .int .i64 t.at_] 63) ∧ W.cell? ⟨w1.heap.size, 1, none⟩ = some (.string t.tx) ∧ W.cell? ⟨w1.heap.size, 2, none⟩ = some (.int .i64 t.at_) ∧ RowE W w.heap.size) (by kernel_rfl) (heldK HB3 HR3) (fun hHeld => ?_)
   refine wpAnyH_take (i := 0) (oi := ⟨some 24, .fieldAddr 63 (.tmp 5) 1, 0, "exprs.go:52", #[], none⟩) (v := .pointer (some ⟨w1.heap.size, 1, none⟩)) rfl (by kernel_rfl) (by kernel_rfl) (by kernel_rfl) (fun _ _ _ h => h) (Or.inl ⟨by rfl, ?hy1⟩) (by assumption) ?_
   case hy1 => ((intro W hSW; (try dsimp only at hSW); go_simp); (try with_reducible rfl); (try exact ⟨rfl, rfl, rfl⟩))
   simp only [Act.put, sZa, sZb, sZc]
   refine wpAnyH_take (i := 1) (oi := ⟨some 25, .load 9 (.tmp 24), 9, "exprs.go:52", #[⟨0, .data⟩], none⟩) (v := .string t.tx) rfl (by kernel_rfl) (by kernel_rfl) (by kernel_rfl) (fun _ _ _ h => h) (Or.inl ⟨by rfl, ?hy2⟩) (by assumption) ?_
   case hy2 => ((intro W hSW; (try dsimp only at hSW); go_simp); (try with_reducible rfl); (try exact ⟨rfl, rfl, rfl⟩))
   simp only [Act.put, sZa, sZb, sZc]
   refine wpAnyH_take (i := 2) (oi := ⟨some 26, .move (.tmp 0), 87, "exprs.go:52", #[], none⟩) (v := .pointer (some ⟨R, 0, none⟩)) rfl (by kernel_rfl) (by kernel_rfl) (by kernel_rfl) (fun _ _ _ h => h) (Or.inl ⟨by rfl, ?hy3⟩) (by assumption) ?_
   case hy3 => ((intro W hSW; (try dsimp only at hSW); go_simp); (try with_reducible rfl); (try exact ⟨rfl, rfl, rfl⟩))
   simp only [Act.put, sZa, sZb, sZc]
   refine wpAnyH_take (i := 3) (oi := ⟨some 27, .move (.tmp 1), 3, "exprs.go:52", #[], none⟩) (v := .int .i64 d) rfl (by kernel_rfl) (by kernel_rfl) (by kernel_rfl) (fun _ _ _ h => h) (Or.inl ⟨by rfl, ?hy4⟩) (by assumption) ?_
   case hy4 => ((intro W hSW; (try dsimp only at hSW); go_simp); (try with_reducible rfl); (try exact ⟨rfl, rfl, rfl⟩))
   simp only [Act.put, sZa, sZb, sZc]
   refine wpAnyH_take (i := 4) (oi := ⟨some 28, .binOp .add 3 (.tmp 27) (.const (Go.Value.int Go.IntKind.i64 1)) 3, 3, "exprs.go:52", #[⟨3, .data⟩], none⟩) (v := .int .i64 ((d : Int) + 1)) rfl (by kernel_rfl) (by kernel_rfl) (by kernel_rfl) (fun _ _ _ h => h) (Or.inl ⟨by rfl, ?hy5⟩) (by assumption) ?_
   case hy5 => ((intro W hSW; (try dsimp only at hSW); go_simp); (try with_reducible rfl); (try exact ⟨rfl, rfl, rfl⟩))
   simp only [Act.put, sZa, sZb, sZc]
   refine wpAnyH_take (i := 6) (oi := ⟨some 30, .fieldAddr 63 (.tmp 5) 2, 0, "exprs.go:52", #[], none⟩) (v := .pointer (some ⟨w1.heap.size, 2, none⟩)) rfl (by kernel_rfl) (by kernel_rfl) (by kernel_rfl) (fun _ _ _ h => h) (Or.inl ⟨by rfl, ?hy6⟩) (by assumption) ?_
   case hy6 => ((intro W hSW; (try dsimp only at hSW); go_simp); (try with_reducible rfl); (try exact ⟨rfl, rfl, rfl⟩))
   simp only [Act.put, sZa, sZb, sZc]
   refine wpAnyH_take (i := 7) (oi := ⟨some 31, .load 3 (.tmp 30), 3, "exprs.go:52", #[⟨6, .data⟩], none⟩) (v := .int .i64 t.at_) rfl (by kernel_rfl) (by kernel_rfl) (by kernel_rfl) (fun _ _ _ h => h) (Or.inl ⟨by rfl, ?hy7⟩) (by assumption) ?_
   case hy7 => ((intro W hSW; (try dsimp only at hSW); go_simp); (try with_reducible rfl); (try exact ⟨rfl, rfl, rfl⟩))
   simp only [Act.put, sZa, sZb, sZc]
   refine wpAnyH_ready (rs := [5]) (by kernel_rfl) (by simp) ?_
   refine AllReadyH.cons (o := ⟨some 29, .call { callee := .value (.func 136), args := #[.tmp 26, .tmp 28], argTypes := #[87, 3] }, 39, "exprs.go:52", #[⟨2, .data⟩, ⟨4, .data⟩], none⟩) rfl (fun K hK => ?_) AllReadyH.nil
   go_simp
   refine hexp.mono ?_
   rintro e w4 ⟨c4, rfl, hx4, h4, f4⟩
   have f4' : Fr [R] w3 w4 := ⟨f4.os, f4.tape, f4.output, f4.size, f4.block⟩
   have z4 := f4'.size
   have z3 := f3.size
   have HB4 := Lib.hid (f4.at_ hHeld.1 (by simp; omega))
   have HR4 := Lib.hid (hHeld.2.2.2.fr f4 (by simp; omega))
   have hx4 := hx4.keep (w' := w4) (S' := fun g => w.heap.size + 1 ≤ g) (fun g hg hl => ⟨by have hq1 : w3.heap.size ≤ g := hg; have hq2 := lt_of_at HB3; omega, rfl⟩) (Nat.le_refl _)
   have huo := unaryOf_any t.tx t.at_ hx4 (fun g hg => by have hq2 := lt_of_at HB3; omega)
   try go_wp2_with fail
   refine hK.out _ _ (heldK HB4.out HR4.out) (fun hHeld => ?_)
   clear hK K
   try simp only [Act.put, sZa, sZb, sZc]
   refine wpAnyH_ready (rs := [8]) (by kernel_rfl) (by simp) ?_
   refine AllReadyH.cons (o := ⟨some 32, .call { callee := .value (.func 137), args := #[.tmp 25, .tmp 29, .tmp 31], argTypes := #[9, 39, 3] }, 39, "exprs.go:52", #[⟨1, .data⟩, ⟨5, .data⟩, ⟨7, .data⟩, ⟨5, .chain⟩], none⟩) rfl (fun K hK => ?_) AllReadyH.nil
   go_simp
   refine huo.mono ?_
   rintro e w5 ⟨c5, rfl, hx5, b5⟩
   have HB5 := Lib.hid ((b5.block _ (lt_of_at HB4.out)).trans HB4.out)
   have HR5 := Lib.hid (HR4.out.fr (Fr.below (S := [R]) b5) (by simp; omega))
   have HC5 := Lib.hid hx5.len
   have HA5 := Lib.hid (oneL hx5)
   try go_wp2_with fail
   refine hK.out _ _ (heldK HB5.out HR5.out) (fun hHeld => ?_)
   clear hK K
   try simp only [Act.put, sZa, sZb, sZc]
   refine wpAnyH_ready (rs := [9]) (by kernel_rfl) (by simp) ?_
   refine AllReadyH.cons (o := ⟨none, .store 39 (.tmp 4) (.tmp 32), 0, "exprs.go:52", #[⟨8, .data⟩, ⟨8, .chain⟩, ⟨0, .phase⟩, ⟨1, .phase⟩, ⟨2, .phase⟩, ⟨3, .phase⟩, ⟨4, .phase⟩, ⟨5, .phase⟩, ⟨6, .phase⟩, ⟨7, .phase⟩, ⟨8, .phase⟩], none⟩) rfl (fun K hK => ?_) AllReadyH.nil
   rw [if_pos (by rfl)]
   obtain ⟨old, ho, hro⟩ := hHeld.2.2.2
   refine wp_stG 39 w.heap.size c5.toArray (by rfl) (by rfl) hro (by rw [List.size_toArray, HC5.out]; exact sizeEx) (ho.trans (by rw [List.size_toArray, HC5.out])) HA5.out ?_
   intro Y hY
   have HY := Lib.hid hY
   clear hY
   refine hK.out _ _ (heldK ((HY.out.oth w1.heap.size (by omega)).trans hHeld.1) ⟨_, (by rw [List.size_toArray, HC5.out]), HY.out.at_⟩) (fun hHeld => ?_)
   clear hK K
   try simp only [Act.put, sZa, sZb, sZc]
   refine wpAnyH_done (by kernel_rfl) ?_ _
   have HRO := Lib.hid hro
   clear hHeld hro
   go_wp2
   refine ret_row Tryz.results136 w.heap.size 39 _ _ rfl rfl HY.out.at_ Tryz.underlying39 rfl (by rw [List.size_toArray, HC5.out]; exact sizeEx) ?_
   rw [HRUN.out]
   exact ⟨c5, rfl, hx5.upd HY.out (fun g hg hl => ⟨by show w.heap.size ≤ g; omega, by omega⟩), (h4.below b5).up HY.out HRO.out (by decide) (by decide), ((F3.trans f4').trans (Fr.below b5)).up HY.out (Nat.le_refl _)⟩
 ·have hdec : decide ((40 : Int) < (d : Int)) = false := decide_eq_false (by omega)
  have hds : deepS d s = s := if_neg h40
  rw [hds] at HRUN hdl hun
  have hx0 := h0
  have HRX := HR0
  have zX : w.heap.size + 1 ≤ (w.alloc (.cells exZ 39)).heap.size := by rw [HS0.out]; omega
  have FX := (Fr.refl [R] w).alloc (.cells exZ 39)
  clear hds h40
  go_enter Tryz.func136, Tryz.ntmps136
  go_wp2_with fail
  refine (now_any hx0).mono ?_
  rintro e w1 ⟨rfl, b1⟩
  have h1 := hx0.below b1
  have HR1 := Lib.hid ((b1.block w.heap.size (by omega)).trans HRX.out)
  have F1 := FX.trans (Fr.below b1)
  have z1 : w.heap.size + 1 ≤ w1.heap.size := by have := b1.size; omega
  generalize ht : s.hd = t at *
  have HT := Lib.hid ht
  have h2 := h1.alloc (.cells #[.int .i64 t.kd, .string t.tx, .int .i64 t.at_] 63)
  have HR2 := (show RowE w1 w.heap.size from ⟨_, rfl, HR1.out⟩).alloc (.cells #[.int .i64 t.kd, .string t.tx, .int .i64 t.at_] 63)
  have HB2 := Lib.hid (heap_alloc_new w1 (.cells #[.int .i64 t.kd, .string t.tx, .int .i64 t.at_] 63))
  have F2 := F1.alloc (.cells #[.int .i64 t.kd, .string t.tx, .int .i64 t.at_] 63)
  have hne : s.hd.tx ≠ ⟨#[]⟩ ∨ s.hd.kd ≠ 0 := .inl (by rw [HT.out]; exact un_ne hun)
  have htl := (tl_ok hx0.ok hne).2
  have hcell : (w1.alloc (.cells #[.int .i64 t.kd, .string t.tx, .int .i64 t.at_] 63)).cell? ⟨w1.heap.size, 1, none⟩ = some (.string t.tx) := cell_of_row _ _ _ _ _ _ HB2.out
  rw [if_pos hun] at HRUN
  clear ht
  have hsig : t.tx = ⟨#[45]⟩ ∨ t.tx = ⟨#[126]⟩ ∨ t.tx = ⟨#[33]⟩ ∨ t.tx = ⟨#[42]⟩ ∨ t.tx = ⟨#[38]⟩ := by
   unfold unOp at hun
   simp only [Bool.or_eq_true, decide_eq_true_eq] at hun
   rcases hun with (((hun | hun) | hun) | hun) | hun
   ·exact .inl hun
   ·exact .inr (.inl hun)
   ·exact .inr (.inr (.inl hun))
   ·exact .inr (.inr (.inr (.inl hun)))
   ·exact .inr (.inr (.inr (.inr hun)))
  have hQ : ∀ W : World, RdAt W R M s.tl → Fr [R] (w1.alloc (.cells #[.int .i64 t.kd, .string t.tx, .int .i64 t.at_] 63)) W → True := fun _ _ _ => trivial
  clear hun
  have hsigs : ((t.tx.toList == [45]) = true) ∨ ((t.tx.toList == [45]) = false ∧ (t.tx.toList == [126]) = true) ∨ ((t.tx.toList == [45]) = false ∧ (t.tx.toList == [126]) = false ∧ (t.tx.toList == [33]) = true) ∨ ((t.tx.toList == [45]) = false ∧ (t.tx.toList == [126]) = false ∧ (t.tx.toList == [33]) = false ∧ (t.tx.toList == [42]) = true) ∨ ((t.tx.toList == [45]) = false ∧ (t.tx.toList == [126]) = false ∧ (t.tx.toList == [33]) = false ∧ (t.tx.toList == [42]) = false ∧ (t.tx.toList == [38]) = true) := by
   rcases hsig with hh | hh | hh | hh | hh <;> rw [hh] <;> simp only [Lib.toList_data] <;> decide
  clear hsig hQ
  rcases hsigs with q1 | ⟨q1, q2⟩ | ⟨q1, q2, q3⟩ | ⟨q1, q2, q3, q4⟩ | ⟨q1, q2, q3, q4, q5⟩
  all_goals
   go_wp2_with fail
   refine (step_any h2 hne).mono ?_
   rintro e w3 ⟨rfl, h3, f3, -⟩
   have HB3 := f3.at_ HB2.out (by simp; omega)
   have HR3 := HR2.fr f3 (by simp; omega)
   have F3 := F2.trans f3
   have hexp := HU R M (d + 1) s.tl w3.drew (h3.below ((Below.refl _ _).drew)) (by omega) (by omega)
   rw [show ((d + 1 : Nat) : Int) = (d : Int) + 1 from rfl] at hexp
   clear hcell
   go_wp2_with fail
   refine wp_region_held_drew (S := fun W : World => W.heap[w1.heap.size]? = some (.cells #[.int .i64 t.kd, .string t.tx, .int .i64 t.at_] 63) ∧ W.cell? ⟨w1.heap.size, 1, none⟩ = some (.string t.tx) ∧ W.cell? ⟨w1.heap.size, 2, none⟩ = some (.int .i64 t.at_) ∧ RowE W w.heap.size) (by kernel_rfl) (heldK HB3 HR3) (fun hHeld => ?_)
   refine wpAnyH_take (i := 0) (oi := ⟨some 24, .fieldAddr 63 (.tmp 5) 1, 0, "exprs.go:52", #[], none⟩) (v := .pointer (some ⟨w1.heap.size, 1, none⟩)) rfl (by kernel_rfl) (by kernel_rfl) (by kernel_rfl) (fun _ _ _ h => h) (Or.inl ⟨by rfl, ?hy1⟩) (by assumption) ?_
   case hy1 => ((intro W hSW; (try dsimp only at hSW); go_simp); (try with_reducible rfl); (try exact ⟨rfl, rfl, rfl⟩))
   simp only [Act.put, sZa, sZb, sZc]
   refine wpAnyH_take (i := 1) (oi := ⟨some 25, .load 9 (.tmp 24), 9, "exprs.go:52", #[⟨0, .data⟩], none⟩) (v := .string t.tx) rfl (by kernel_rfl) (by kernel_rfl) (by kernel_rfl) (fun _ _ _ h => h) (Or.inl ⟨by rfl, ?hy2⟩) (by assumption) ?_
   case hy2 => ((intro W hSW; (try dsimp only at hSW); go_simp); (try with_reducible rfl); (try exact ⟨rfl, rfl, rfl⟩))
   simp only [Act.put, sZa, sZb, sZc]
   refine wpAnyH_take (i := 2) (oi := ⟨some 26, .move (.tmp 0), 87, "exprs.go:52", #[], none⟩) (v := .pointer (some ⟨R, 0, none⟩)) rfl (by kernel_rfl) (by kernel_rfl) (by kernel_rfl) (fun _ _ _ h => h) (Or.inl ⟨by rfl, ?hy3⟩) (by assumption) ?_
   case hy3 => ((intro W hSW; (try dsimp only at hSW); go_simp); (try with_reducible rfl); (try exact ⟨rfl, rfl, rfl⟩))
   simp only [Act.put, sZa, sZb, sZc]
   refine wpAnyH_take (i := 3) (oi := ⟨some 27, .move (.tmp 1), 3, "exprs.go:52", #[], none⟩) (v := .int .i64 d) rfl (by kernel_rfl) (by kernel_rfl) (by kernel_rfl) (fun _ _ _ h => h) (Or.inl ⟨by rfl, ?hy4⟩) (by assumption) ?_
   case hy4 => ((intro W hSW; (try dsimp only at hSW); go_simp); (try with_reducible rfl); (try exact ⟨rfl, rfl, rfl⟩))
   simp only [Act.put, sZa, sZb, sZc]
   refine wpAnyH_take (i := 4) (oi := ⟨some 28, .binOp .add 3 (.tmp 27) (.const (Go.Value.int Go.IntKind.i64 1)) 3, 3, "exprs.go:52", #[⟨3, .data⟩], none⟩) (v := .int .i64 ((d : Int) + 1)) rfl (by kernel_rfl) (by kernel_rfl) (by kernel_rfl) (fun _ _ _ h => h) (Or.inl ⟨by rfl, ?hy5⟩) (by assumption) ?_
   case hy5 => ((intro W hSW; (try dsimp only at hSW); go_simp); (try with_reducible rfl); (try exact ⟨rfl, rfl, rfl⟩))
   simp only [Act.put, sZa, sZb, sZc]
   refine wpAnyH_take (i := 6) (oi := ⟨some 30, .fieldAddr 63 (.tmp 5) 2, 0, "exprs.go:52", #[], none⟩) (v := .pointer (some ⟨w1.heap.size, 2, none⟩)) rfl (by kernel_rfl) (by kernel_rfl) (by kernel_rfl) (fun _ _ _ h => h) (Or.inl ⟨by rfl, ?hy6⟩) (by assumption) ?_
   case hy6 => ((intro W hSW; (try dsimp only at hSW); go_simp); (try with_reducible rfl); (try exact ⟨rfl, rfl, rfl⟩))
   simp only [Act.put, sZa, sZb, sZc]
   refine wpAnyH_take (i := 7) (oi := ⟨some 31, .load 3 (.tmp 30), 3, "exprs.go:52", #[⟨6, .data⟩], none⟩) (v := .int .i64 t.at_) rfl (by kernel_rfl) (by kernel_rfl) (by kernel_rfl) (fun _ _ _ h => h) (Or.inl ⟨by rfl, ?hy7⟩) (by assumption) ?_
   case hy7 => ((intro W hSW; (try dsimp only at hSW); go_simp); (try with_reducible rfl); (try exact ⟨rfl, rfl, rfl⟩))
   simp only [Act.put, sZa, sZb, sZc]
   refine wpAnyH_ready (rs := [5]) (by kernel_rfl) (by simp) ?_
   refine AllReadyH.cons (o := ⟨some 29, .call { callee := .value (.func 136), args := #[.tmp 26, .tmp 28], argTypes := #[87, 3] }, 39, "exprs.go:52", #[⟨2, .data⟩, ⟨4, .data⟩], none⟩) rfl (fun K hK => ?_) AllReadyH.nil
   go_simp
   refine hexp.mono ?_
   rintro e w4 ⟨c4, rfl, hx4, h4, f4⟩
   have f4' : Fr [R] w3 w4 := ⟨f4.os, f4.tape, f4.output, f4.size, f4.block⟩
   have z4 := f4'.size
   have z3 := f3.size
   have HB4 := Lib.hid (f4.at_ hHeld.1 (by simp; omega))
   have HR4 := Lib.hid (hHeld.2.2.2.fr f4 (by simp; omega))
   have hx4 := hx4.keep (w' := w4) (S' := fun g => w.heap.size + 1 ≤ g) (fun g hg hl => ⟨by have hq1 : w3.heap.size ≤ g := hg; have hq2 := lt_of_at HB3; omega, rfl⟩) (Nat.le_refl _)
   have huo := unaryOf_any t.tx t.at_ hx4 (fun g hg => by have hq2 := lt_of_at HB3; omega)
   try go_wp2_with fail
   refine hK.out _ _ (heldK HB4.out HR4.out) (fun hHeld => ?_)
   clear hK K
   try simp only [Act.put, sZa, sZb, sZc]
   refine wpAnyH_ready (rs := [8]) (by kernel_rfl) (by simp) ?_
   refine AllReadyH.cons (o := ⟨some 32, .call { callee := .value (.func 137), args := #[.tmp 25, .tmp 29, .tmp 31], argTypes := #[9, 39, 3] }, 39, "exprs.go:52", #[⟨1, .data⟩, ⟨5, .data⟩, ⟨7, .data⟩, ⟨5, .chain⟩], none⟩) rfl (fun K hK => ?_) AllReadyH.nil
   go_simp
   refine huo.mono ?_
   rintro e w5 ⟨c5, rfl, hx5, b5⟩
   have HB5 := Lib.hid ((b5.block _ (lt_of_at HB4.out)).trans HB4.out)
   have HR5 := Lib.hid (HR4.out.fr (Fr.below (S := [R]) b5) (by simp; omega))
   have HC5 := Lib.hid hx5.len
   have HA5 := Lib.hid (oneL hx5)
   try go_wp2_with fail
   refine hK.out _ _ (heldK HB5.out HR5.out) (fun hHeld => ?_)
   clear hK K
   try simp only [Act.put, sZa, sZb, sZc]
   refine wpAnyH_ready (rs := [9]) (by kernel_rfl) (by simp) ?_
   refine AllReadyH.cons (o := ⟨none, .store 39 (.tmp 4) (.tmp 32), 0, "exprs.go:52", #[⟨8, .data⟩, ⟨8, .chain⟩, ⟨0, .phase⟩, ⟨1, .phase⟩, ⟨2, .phase⟩, ⟨3, .phase⟩, ⟨4, .phase⟩, ⟨5, .phase⟩, ⟨6, .phase⟩, ⟨7, .phase⟩, ⟨8, .phase⟩], none⟩) rfl (fun K hK => ?_) AllReadyH.nil
   rw [if_pos (by rfl)]
   obtain ⟨old, ho, hro⟩ := hHeld.2.2.2
   refine wp_stG 39 w.heap.size c5.toArray (by rfl) (by rfl) hro (by rw [List.size_toArray, HC5.out]; exact sizeEx) (ho.trans (by rw [List.size_toArray, HC5.out])) HA5.out ?_
   intro Y hY
   have HY := Lib.hid hY
   clear hY
   refine hK.out _ _ (heldK ((HY.out.oth w1.heap.size (by omega)).trans hHeld.1) ⟨_, (by rw [List.size_toArray, HC5.out]), HY.out.at_⟩) (fun hHeld => ?_)
   clear hK K
   try simp only [Act.put, sZa, sZb, sZc]
   refine wpAnyH_done (by kernel_rfl) ?_ _
   have HRO := Lib.hid hro
   clear hHeld hro
   go_wp2
   refine ret_row Tryz.results136 w.heap.size 39 _ _ rfl rfl HY.out.at_ Tryz.underlying39 rfl (by rw [List.size_toArray, HC5.out]; exact sizeEx) ?_
   rw [HRUN.out]
   exact ⟨c5, rfl, hx5.upd HY.out (fun g hg hl => ⟨by show w.heap.size ≤ g; omega, by omega⟩), (h4.below b5).up HY.out HRO.out (by decide) (by decide), ((F3.trans f4').trans (Fr.below b5)).up HY.out (Nat.le_refl _)⟩
set_option maxHeartbeats 16000000 in
theorem un_size {f : Nat} (R M d : Nat) (s : Pa.S) (w : World) (h : RdAt w R M s) (hf : 8 * s.tk.length + 3 ≤ f + 1) (hd : d + (f + 1) ≤ 60000) (hun : (deepS d s).hd.tx = ⟨#[115, 105, 122, 101, 111, 102]⟩) :
  Calls Tryz.prog 136 #[.pointer (some ⟨R, 0, none⟩), .int .i64 d] w (PostE w R M (hd1 (runE (f + 1) (.un d) s)) (runE (f + 1) (.un d) s).2) := by
 have hR := h.lt
 have hrun : runE (f + 1) (.un d) s = if unOp (deepS d s).hd.tx then ([.mk 3 (deepS d s).hd.tx eB 0 [hd1 (runE f (.un (d + 1)) (deepS d s).tl)] ty0 (deepS d s).hd.at_], (runE f (.un (d + 1)) (deepS d s).tl).2)
  else if (deepS d s).hd.tx = ⟨#[115, 105, 122, 101, 111, 102]⟩ then ([.mk 10 eB eB 0 [] (typeV ((deepS d s).tl.want ⟨#[40]⟩)).1 (deepS d s).hd.at_], (typeV ((deepS d s).tl.want ⟨#[40]⟩)).2.want ⟨#[41]⟩)
  else if (deepS d s).hd.tx = ⟨#[40]⟩ ∧ (baseV ((deepS d s).ahead 1).tx).isSome = true then runE f (.cast (deepS d s).hd.at_ d) (deepS d s).tl
  else runE f (.post d) (deepS d s) := by simp only [runE]
 have HRUN := Lib.hid hrun
 have h0 := h.alloc (.cells exZ 39)
 have HR0 := Lib.hid (heap_alloc_new w (.cells exZ 39))
 have HS0 := Lib.hid (szA w (.cells exZ 39))
 have hdl := (deep_le h.ok d).len
 clear hrun
 have hw : IntKind.i64.wrap ((d : Int) + 1) = (d : Int) + 1 := IntWalk.i64_in _ (by omega)
 by_cases h40 : 40 < d
 ·have hdec : decide ((40 : Int) < (d : Int)) = true := decide_eq_true (by omega)
  have hds : deepS d s = s.fail 12 := if_pos h40
  rw [hds] at HRUN hdl hun
  go_enter Tryz.func136, Tryz.ntmps136
  go_wp2_with fail
  refine (fail_any 12 (by omega) h0).mono ?_
  rintro e w0 ⟨rfl, hx0, f0⟩
  have HRX := Lib.hid (f0.at_ HR0.out (by simp; omega))
  have zX : w.heap.size + 1 ≤ w0.heap.size := by have := f0.size; rw [HS0.out] at this; exact this
  have FX := ((Fr.refl [R] w).alloc (.cells exZ 39)).trans f0
  generalize s.fail 12 = s0 at *
  clear hds hdec h40
  go_wp2_with fail
  refine (now_any hx0).mono ?_
  rintro e w1 ⟨rfl, b1⟩
  have h1 := hx0.below b1
  have HR1 := Lib.hid ((b1.block w.heap.size (by omega)).trans HRX.out)
  have F1 := FX.trans (Fr.below b1)
  have z1 : w.heap.size + 1 ≤ w1.heap.size := by have := b1.size; omega
  generalize ht : s0.hd = t at *
  have HT := Lib.hid ht
  have h2 := h1.alloc (.cells #[.int .i64 t.kd, .string t.tx, .int .i64 t.at_] 63)
  have HR2 := (show RowE w1 w.heap.size from ⟨_, rfl, HR1.out⟩).alloc (.cells #[.int .i64 t.kd, .string t.tx, .int .i64 t.at_] 63)
  have HB2 := Lib.hid (heap_alloc_new w1 (.cells #[.int .i64 t.kd, .string t.tx, .int .i64 t.at_] 63))
  have F2 := F1.alloc (.cells #[.int .i64 t.kd, .string t.tx, .int .i64 t.at_] 63)
  have hne : s0.hd.tx ≠ ⟨#[]⟩ ∨ s0.hd.kd ≠ 0 := .inl (by rw [HT.out, hun]; decide)
  have htl := (tl_ok hx0.ok hne).2
  have hcell : (w1.alloc (.cells #[.int .i64 t.kd, .string t.tx, .int .i64 t.at_] 63)).cell? ⟨w1.heap.size, 1, none⟩ = some (.string t.tx) := cell_of_row _ _ _ _ _ _ HB2.out
  have hn0 : unOp t.tx = false := by rw [hun]; decide
  rw [if_neg (by rw [hn0]; decide), if_pos hun] at HRUN
  have q1 : (t.tx.toList == [45]) = false := by rw [hun]; simp only [Lib.toList_data]; decide
  have q2 : (t.tx.toList == [126]) = false := by rw [hun]; simp only [Lib.toList_data]; decide
  have q3 : (t.tx.toList == [33]) = false := by rw [hun]; simp only [Lib.toList_data]; decide
  have q4 : (t.tx.toList == [42]) = false := by rw [hun]; simp only [Lib.toList_data]; decide
  have q5 : (t.tx.toList == [38]) = false := by rw [hun]; simp only [Lib.toList_data]; decide
  have q6 : (t.tx.toList == [115, 105, 122, 101, 111, 102]) = true := by rw [hun]; simp only [Lib.toList_data]; decide
  clear ht hun hn0
  go_wp2_with fail
  refine (step_any h2 hne).mono ?_
  rintro e w3 ⟨rfl, h3, f3, -⟩
  have HB3 := Lib.hid (f3.at_ HB2.out (by simp; omega))
  have HR3 := HR2.fr f3 (by simp; omega)
  have F3 := F2.trans f3
  clear hcell
  go_wp2_with fail
  refine (want_any ⟨#[40]⟩ (by decide) h3).mono ?_
  rintro e w6 ⟨rfl, h6, f6⟩
  have HB6 := f6.at_ HB3.out (by simp; omega)
  have HR6 := HR3.fr f6 (by simp; omega)
  have F6 := F3.trans f6
  have hexp := tyIn_any (w := w6.drew) (h6.below ((Below.refl _ _).drew))
  generalize s0.tl.want ⟨#[40]⟩ = s2 at *
  go_wp2_with fail
  refine wp_region_held_drew (S := fun W : World => W.heap[w1.heap.size]? = some (.cells #[.int .i64 t.kd, .string t.tx, .int .i64 t.at_] 63) ∧ W.cell? ⟨w1.heap.size, 1, none⟩ = some (.string t.tx) ∧ W.cell? ⟨w1.heap.size, 2, none⟩ = some (.int .i64 t.at_) ∧ RowE W w.heap.size) (by kernel_rfl) (heldK HB6 HR6) (fun hHeld => ?_)
  refine wpAnyH_take (i := 0) (oi := ⟨some 39, .move (.tmp 0), 87, "exprs.go:56", #[], none⟩) (v := .pointer (some ⟨R, 0, none⟩)) rfl (by kernel_rfl) (by kernel_rfl) (by kernel_rfl) (fun _ _ _ h => h) (Or.inl ⟨by rfl, ?hy1⟩) (by assumption) ?_
  case hy1 => ((intro W hSW; (try dsimp only at hSW); go_simp); (try with_reducible rfl); (try exact ⟨rfl, rfl, rfl⟩))
  simp only [Act.put, sZa, sZb, sZc]
  refine wpAnyH_take (i := 2) (oi := ⟨some 41, .fieldAddr 63 (.tmp 5) 2, 0, "exprs.go:56", #[], none⟩) (v := .pointer (some ⟨w1.heap.size, 2, none⟩)) rfl (by kernel_rfl) (by kernel_rfl) (by kernel_rfl) (fun _ _ _ h => h) (Or.inl ⟨by rfl, ?hy2⟩) (by assumption) ?_
  case hy2 => ((intro W hSW; (try dsimp only at hSW); go_simp); (try with_reducible rfl); (try exact ⟨rfl, rfl, rfl⟩))
  simp only [Act.put, sZa, sZb, sZc]
  refine wpAnyH_take (i := 3) (oi := ⟨some 42, .load 3 (.tmp 41), 3, "exprs.go:56", #[⟨2, .data⟩], none⟩) (v := .int .i64 t.at_) rfl (by kernel_rfl) (by kernel_rfl) (by kernel_rfl) (fun _ _ _ h => h) (Or.inl ⟨by rfl, ?hy3⟩) (by assumption) ?_
  case hy3 => ((intro W hSW; (try dsimp only at hSW); go_simp); (try with_reducible rfl); (try exact ⟨rfl, rfl, rfl⟩))
  simp only [Act.put, sZa, sZb, sZc]
  refine wpAnyH_ready (rs := [1]) (by kernel_rfl) (by simp) ?_
  refine AllReadyH.cons (o := ⟨some 40, .call { callee := .value (.func 138), args := #[.tmp 39], argTypes := #[87] }, 37, "exprs.go:56", #[⟨0, .data⟩], none⟩) rfl (fun K hK => ?_) AllReadyH.nil
  go_simp
  refine hexp.mono ?_
  rintro e w4 ⟨rfl, h4, f4⟩
  have f4' : Fr [R] w6 w4 := ⟨f4.os, f4.tape, f4.output, f4.size, f4.block⟩
  have HB4 := Lib.hid (f4.at_ hHeld.1 (by simp; omega))
  have HR4 := Lib.hid (hHeld.2.2.2.fr f4 (by simp; omega))
  try go_wp2_with fail
  refine hK.out _ _ (heldK HB4.out HR4.out) (fun hHeld => ?_)
  clear hK K
  try simp only [Act.put, sZa, sZb, sZc]
  refine wpAnyH_take (i := 4) (oi := ⟨some 43, .build 39 #[(0, .const (Go.Value.int Go.IntKind.i64 10)), (5, .tmp 40), (6, .tmp 42)], 39, "exprs.go:56", #[⟨1, .data⟩, ⟨3, .data⟩], none⟩) (v := .agg (exL 10 ⟨#[]⟩ ⟨#[]⟩ 0 (.slice none 0 0) (typeV s2).1 t.at_).toArray) rfl (by kernel_rfl) (by kernel_rfl) (by kernel_rfl) (fun _ _ _ h => h) (Or.inl ⟨by rfl, ?hy4⟩) (by assumption) ?_
  case hy4 => ((intro W hSW; (try dsimp only at hSW); go_simp); (try with_reducible rfl); (try exact ⟨rfl, rfl, rfl⟩))
  simp only [Act.put, sZa, sZb, sZc]
  refine wpAnyH_ready (rs := [5]) (by kernel_rfl) (by simp) ?_
  refine AllReadyH.cons (o := ⟨none, .store 39 (.tmp 4) (.tmp 43), 0, "exprs.go:56", #[⟨4, .data⟩, ⟨1, .chain⟩, ⟨0, .phase⟩, ⟨1, .phase⟩, ⟨2, .phase⟩, ⟨3, .phase⟩, ⟨4, .phase⟩], none⟩) rfl (fun K hK => ?_) AllReadyH.nil
  rw [if_pos (by rfl)]
  obtain ⟨old, ho, hro⟩ := hHeld.2.2.2
  refine wp_stG 39 w.heap.size (exL 10 ⟨#[]⟩ ⟨#[]⟩ 0 (.slice none 0 0) (typeV s2).1 t.at_).toArray (by rfl) (by rfl) hro sizeEx ho (oneX _ _ _ _ _ _ _ _ _) ?_
  intro Y hY
  have HY := Lib.hid hY
  clear hY
  refine hK.out _ _ (heldK ((HY.out.oth w1.heap.size (by omega)).trans hHeld.1) ⟨_, rfl, HY.out.at_⟩) (fun hHeld => ?_)
  clear hK K
  try simp only [Act.put, sZa, sZb, sZc]
  refine wpAnyH_done (by kernel_rfl) ?_ _
  have HRO := Lib.hid hro
  clear hHeld hro
  go_wp2
  refine ret_row Tryz.results136 w.heap.size 39 _ _ rfl rfl HY.out.at_ Tryz.underlying39 rfl sizeEx ?_
  rw [HRUN.out]
  exact ⟨_, rfl, ExAt.of (ExsAt.nil _ _), h4.up HY.out HRO.out (by decide) (by decide), (F6.trans f4').up HY.out (Nat.le_refl _)⟩
 ·have hdec : decide ((40 : Int) < (d : Int)) = false := decide_eq_false (by omega)
  have hds : deepS d s = s := if_neg h40
  rw [hds] at HRUN hdl hun
  have hx0 := h0
  have HRX := HR0
  have zX : w.heap.size + 1 ≤ (w.alloc (.cells exZ 39)).heap.size := by rw [HS0.out]; omega
  have FX := (Fr.refl [R] w).alloc (.cells exZ 39)
  clear hds h40
  go_enter Tryz.func136, Tryz.ntmps136
  go_wp2_with fail
  refine (now_any hx0).mono ?_
  rintro e w1 ⟨rfl, b1⟩
  have h1 := hx0.below b1
  have HR1 := Lib.hid ((b1.block w.heap.size (by omega)).trans HRX.out)
  have F1 := FX.trans (Fr.below b1)
  have z1 : w.heap.size + 1 ≤ w1.heap.size := by have := b1.size; omega
  generalize ht : s.hd = t at *
  have HT := Lib.hid ht
  have h2 := h1.alloc (.cells #[.int .i64 t.kd, .string t.tx, .int .i64 t.at_] 63)
  have HR2 := (show RowE w1 w.heap.size from ⟨_, rfl, HR1.out⟩).alloc (.cells #[.int .i64 t.kd, .string t.tx, .int .i64 t.at_] 63)
  have HB2 := Lib.hid (heap_alloc_new w1 (.cells #[.int .i64 t.kd, .string t.tx, .int .i64 t.at_] 63))
  have F2 := F1.alloc (.cells #[.int .i64 t.kd, .string t.tx, .int .i64 t.at_] 63)
  have hne : s.hd.tx ≠ ⟨#[]⟩ ∨ s.hd.kd ≠ 0 := .inl (by rw [HT.out, hun]; decide)
  have htl := (tl_ok hx0.ok hne).2
  have hcell : (w1.alloc (.cells #[.int .i64 t.kd, .string t.tx, .int .i64 t.at_] 63)).cell? ⟨w1.heap.size, 1, none⟩ = some (.string t.tx) := cell_of_row _ _ _ _ _ _ HB2.out
  have hn0 : unOp t.tx = false := by rw [hun]; decide
  rw [if_neg (by rw [hn0]; decide), if_pos hun] at HRUN
  have q1 : (t.tx.toList == [45]) = false := by rw [hun]; simp only [Lib.toList_data]; decide
  have q2 : (t.tx.toList == [126]) = false := by rw [hun]; simp only [Lib.toList_data]; decide
  have q3 : (t.tx.toList == [33]) = false := by rw [hun]; simp only [Lib.toList_data]; decide
  have q4 : (t.tx.toList == [42]) = false := by rw [hun]; simp only [Lib.toList_data]; decide
  have q5 : (t.tx.toList == [38]) = false := by rw [hun]; simp only [Lib.toList_data]; decide
  have q6 : (t.tx.toList == [115, 105, 122, 101, 111, 102]) = true := by rw [hun]; simp only [Lib.toList_data]; decide
  clear ht hun hn0
  go_wp2_with fail
  refine (step_any h2 hne).mono ?_
  rintro e w3 ⟨rfl, h3, f3, -⟩
  have HB3 := Lib.hid (f3.at_ HB2.out (by simp; omega))
  have HR3 := HR2.fr f3 (by simp; omega)
  have F3 := F2.trans f3
  clear hcell
  go_wp2_with fail
  refine (want_any ⟨#[40]⟩ (by decide) h3).mono ?_
  rintro e w6 ⟨rfl, h6, f6⟩
  have HB6 := f6.at_ HB3.out (by simp; omega)
  have HR6 := HR3.fr f6 (by simp; omega)
  have F6 := F3.trans f6
  have hexp := tyIn_any (w := w6.drew) (h6.below ((Below.refl _ _).drew))
  generalize s.tl.want ⟨#[40]⟩ = s2 at *
  go_wp2_with fail
  refine wp_region_held_drew (S := fun W : World => W.heap[w1.heap.size]? = some (.cells #[.int .i64 t.kd, .string t.tx, .int .i64 t.at_] 63) ∧ W.cell? ⟨w1.heap.size, 1, none⟩ = some (.string t.tx) ∧ W.cell? ⟨w1.heap.size, 2, none⟩ = some (.int .i64 t.at_) ∧ RowE W w.heap.size) (by kernel_rfl) (heldK HB6 HR6) (fun hHeld => ?_)
  refine wpAnyH_take (i := 0) (oi := ⟨some 39, .move (.tmp 0), 87, "exprs.go:56", #[], none⟩) (v := .pointer (some ⟨R, 0, none⟩)) rfl (by kernel_rfl) (by kernel_rfl) (by kernel_rfl) (fun _ _ _ h => h) (Or.inl ⟨by rfl, ?hy1⟩) (by assumption) ?_
  case hy1 => ((intro W hSW; (try dsimp only at hSW); go_simp); (try with_reducible rfl); (try exact ⟨rfl, rfl, rfl⟩))
  simp only [Act.put, sZa, sZb, sZc]
  refine wpAnyH_take (i := 2) (oi := ⟨some 41, .fieldAddr 63 (.tmp 5) 2, 0, "exprs.go:56", #[], none⟩) (v := .pointer (some ⟨w1.heap.size, 2, none⟩)) rfl (by kernel_rfl) (by kernel_rfl) (by kernel_rfl) (fun _ _ _ h => h) (Or.inl ⟨by rfl, ?hy2⟩) (by assumption) ?_
  case hy2 => ((intro W hSW; (try dsimp only at hSW); go_simp); (try with_reducible rfl); (try exact ⟨rfl, rfl, rfl⟩))
  simp only [Act.put, sZa, sZb, sZc]
  refine wpAnyH_take (i := 3) (oi := ⟨some 42, .load 3 (.tmp 41), 3, "exprs.go:56", #[⟨2, .data⟩], none⟩) (v := .int .i64 t.at_) rfl (by kernel_rfl) (by kernel_rfl) (by kernel_rfl) (fun _ _ _ h => h) (Or.inl ⟨by rfl, ?hy3⟩) (by assumption) ?_
  case hy3 => ((intro W hSW; (try dsimp only at hSW); go_simp); (try with_reducible rfl); (try exact ⟨rfl, rfl, rfl⟩))
  simp only [Act.put, sZa, sZb, sZc]
  refine wpAnyH_ready (rs := [1]) (by kernel_rfl) (by simp) ?_
  refine AllReadyH.cons (o := ⟨some 40, .call { callee := .value (.func 138), args := #[.tmp 39], argTypes := #[87] }, 37, "exprs.go:56", #[⟨0, .data⟩], none⟩) rfl (fun K hK => ?_) AllReadyH.nil
  go_simp
  refine hexp.mono ?_
  rintro e w4 ⟨rfl, h4, f4⟩
  have f4' : Fr [R] w6 w4 := ⟨f4.os, f4.tape, f4.output, f4.size, f4.block⟩
  have HB4 := Lib.hid (f4.at_ hHeld.1 (by simp; omega))
  have HR4 := Lib.hid (hHeld.2.2.2.fr f4 (by simp; omega))
  try go_wp2_with fail
  refine hK.out _ _ (heldK HB4.out HR4.out) (fun hHeld => ?_)
  clear hK K
  try simp only [Act.put, sZa, sZb, sZc]
  refine wpAnyH_take (i := 4) (oi := ⟨some 43, .build 39 #[(0, .const (Go.Value.int Go.IntKind.i64 10)), (5, .tmp 40), (6, .tmp 42)], 39, "exprs.go:56", #[⟨1, .data⟩, ⟨3, .data⟩], none⟩) (v := .agg (exL 10 ⟨#[]⟩ ⟨#[]⟩ 0 (.slice none 0 0) (typeV s2).1 t.at_).toArray) rfl (by kernel_rfl) (by kernel_rfl) (by kernel_rfl) (fun _ _ _ h => h) (Or.inl ⟨by rfl, ?hy4⟩) (by assumption) ?_
  case hy4 => ((intro W hSW; (try dsimp only at hSW); go_simp); (try with_reducible rfl); (try exact ⟨rfl, rfl, rfl⟩))
  simp only [Act.put, sZa, sZb, sZc]
  refine wpAnyH_ready (rs := [5]) (by kernel_rfl) (by simp) ?_
  refine AllReadyH.cons (o := ⟨none, .store 39 (.tmp 4) (.tmp 43), 0, "exprs.go:56", #[⟨4, .data⟩, ⟨1, .chain⟩, ⟨0, .phase⟩, ⟨1, .phase⟩, ⟨2, .phase⟩, ⟨3, .phase⟩, ⟨4, .phase⟩], none⟩) rfl (fun K hK => ?_) AllReadyH.nil
  rw [if_pos (by rfl)]
  obtain ⟨old, ho, hro⟩ := hHeld.2.2.2
  refine wp_stG 39 w.heap.size (exL 10 ⟨#[]⟩ ⟨#[]⟩ 0 (.slice none 0 0) (typeV s2).1 t.at_).toArray (by rfl) (by rfl) hro sizeEx ho (oneX _ _ _ _ _ _ _ _ _) ?_
  intro Y hY
  have HY := Lib.hid hY
  clear hY
  refine hK.out _ _ (heldK ((HY.out.oth w1.heap.size (by omega)).trans hHeld.1) ⟨_, rfl, HY.out.at_⟩) (fun hHeld => ?_)
  clear hK K
  try simp only [Act.put, sZa, sZb, sZc]
  refine wpAnyH_done (by kernel_rfl) ?_ _
  have HRO := Lib.hid hro
  clear hHeld hro
  go_wp2
  refine ret_row Tryz.results136 w.heap.size 39 _ _ rfl rfl HY.out.at_ Tryz.underlying39 rfl sizeEx ?_
  rw [HRUN.out]
  exact ⟨_, rfl, ExAt.of (ExsAt.nil _ _), h4.up HY.out HRO.out (by decide) (by decide), (F6.trans f4').up HY.out (Nat.le_refl _)⟩
set_option maxHeartbeats 16000000 in
theorem un_cast {f : Nat} (HC : CastC f) (R M d : Nat) (s : Pa.S) (w : World) (h : RdAt w R M s) (hf : 8 * s.tk.length + 3 ≤ f + 1) (hd : d + (f + 1) ≤ 60000) (hun : (deepS d s).hd.tx = ⟨#[40]⟩) (hbase : (baseV ((deepS d s).ahead 1).tx).isSome = true) :
  Calls Tryz.prog 136 #[.pointer (some ⟨R, 0, none⟩), .int .i64 d] w (PostE w R M (hd1 (runE (f + 1) (.un d) s)) (runE (f + 1) (.un d) s).2) := by
 have hR := h.lt
 have hrun : runE (f + 1) (.un d) s = if unOp (deepS d s).hd.tx then ([.mk 3 (deepS d s).hd.tx eB 0 [hd1 (runE f (.un (d + 1)) (deepS d s).tl)] ty0 (deepS d s).hd.at_], (runE f (.un (d + 1)) (deepS d s).tl).2)
  else if (deepS d s).hd.tx = ⟨#[115, 105, 122, 101, 111, 102]⟩ then ([.mk 10 eB eB 0 [] (typeV ((deepS d s).tl.want ⟨#[40]⟩)).1 (deepS d s).hd.at_], (typeV ((deepS d s).tl.want ⟨#[40]⟩)).2.want ⟨#[41]⟩)
  else if (deepS d s).hd.tx = ⟨#[40]⟩ ∧ (baseV ((deepS d s).ahead 1).tx).isSome = true then runE f (.cast (deepS d s).hd.at_ d) (deepS d s).tl
  else runE f (.post d) (deepS d s) := by simp only [runE]
 have HRUN := Lib.hid hrun
 have h0 := h.alloc (.cells exZ 39)
 have HR0 := Lib.hid (heap_alloc_new w (.cells exZ 39))
 have HS0 := Lib.hid (szA w (.cells exZ 39))
 have hdl := (deep_le h.ok d).len
 clear hrun
 have hw : IntKind.i64.wrap ((d : Int) + 1) = (d : Int) + 1 := IntWalk.i64_in _ (by omega)
 by_cases h40 : 40 < d
 ·have hdec : decide ((40 : Int) < (d : Int)) = true := decide_eq_true (by omega)
  have hds : deepS d s = s.fail 12 := if_pos h40
  rw [hds] at HRUN hdl hun hbase
  go_enter Tryz.func136, Tryz.ntmps136
  go_wp2_with fail
  refine (fail_any 12 (by omega) h0).mono ?_
  rintro e w0 ⟨rfl, hx0, f0⟩
  have HRX := Lib.hid (f0.at_ HR0.out (by simp; omega))
  have zX : w.heap.size + 1 ≤ w0.heap.size := by have := f0.size; rw [HS0.out] at this; exact this
  have FX := ((Fr.refl [R] w).alloc (.cells exZ 39)).trans f0
  generalize s.fail 12 = s0 at *
  clear hds hdec h40
  go_wp2_with fail
  refine (now_any hx0).mono ?_
  rintro e w1 ⟨rfl, b1⟩
  have h1 := hx0.below b1
  have HR1 := Lib.hid ((b1.block w.heap.size (by omega)).trans HRX.out)
  have F1 := FX.trans (Fr.below b1)
  have z1 : w.heap.size + 1 ≤ w1.heap.size := by have := b1.size; omega
  generalize ht : s0.hd = t at *
  have HT := Lib.hid ht
  have h2 := h1.alloc (.cells #[.int .i64 t.kd, .string t.tx, .int .i64 t.at_] 63)
  have HR2 := (show RowE w1 w.heap.size from ⟨_, rfl, HR1.out⟩).alloc (.cells #[.int .i64 t.kd, .string t.tx, .int .i64 t.at_] 63)
  have HB2 := Lib.hid (heap_alloc_new w1 (.cells #[.int .i64 t.kd, .string t.tx, .int .i64 t.at_] 63))
  have F2 := F1.alloc (.cells #[.int .i64 t.kd, .string t.tx, .int .i64 t.at_] 63)
  have hne : s0.hd.tx ≠ ⟨#[]⟩ ∨ s0.hd.kd ≠ 0 := .inl (by rw [HT.out, hun]; decide)
  have htl := (tl_ok hx0.ok hne).2
  have hcell : (w1.alloc (.cells #[.int .i64 t.kd, .string t.tx, .int .i64 t.at_] 63)).cell? ⟨w1.heap.size, 1, none⟩ = some (.string t.tx) := cell_of_row _ _ _ _ _ _ HB2.out
  have hn0 : unOp t.tx = false := by rw [hun]; decide
  rw [if_neg (by rw [hn0]; decide), if_neg (by rw [hun]; decide), if_pos ⟨hun, hbase⟩] at HRUN
  have q1 : (t.tx.toList == [45]) = false := by rw [hun]; simp only [Lib.toList_data]; decide
  have q2 : (t.tx.toList == [126]) = false := by rw [hun]; simp only [Lib.toList_data]; decide
  have q3 : (t.tx.toList == [33]) = false := by rw [hun]; simp only [Lib.toList_data]; decide
  have q4 : (t.tx.toList == [42]) = false := by rw [hun]; simp only [Lib.toList_data]; decide
  have q5 : (t.tx.toList == [38]) = false := by rw [hun]; simp only [Lib.toList_data]; decide
  have q6 : (t.tx.toList == [115, 105, 122, 101, 111, 102]) = false := by rw [hun]; simp only [Lib.toList_data]; decide
  have q7 : (t.tx.toList == [40]) = true := by rw [hun]; simp only [Lib.toList_data]; decide
  clear ht hun hn0
  have hah := ahead_any 1 (by omega) h2
  generalize s0.ahead 1 = u at *
  go_wp2_with fail
  refine hah.mono ?_
  rintro e w3 ⟨rfl, b3⟩
  clear hah
  have h3 := h2.below b3
  have HB3 := Lib.hid ((b3.block _ (lt_of_at HB2.out)).trans HB2.out)
  have HR3 := HR2.fr (Fr.below (S := [R]) b3) (by simp; omega)
  have F3 := F2.trans (Fr.below b3)
  have hbo := baseOf_any w3 u.kd u.tx u.at_
  rw [hbase] at hbo
  clear hcell
  go_wp2_with fail
  refine hbo.mono ?_
  rintro e w4 ⟨rfl, b4⟩
  clear hbo
  have h4 := h3.below b4
  have HB4 := Lib.hid ((b4.block _ (lt_of_at HB3.out)).trans HB3.out)
  have HR4 := HR3.fr (Fr.below (S := [R]) b4) (by simp; omega)
  have F4 := F3.trans (Fr.below b4)
  go_wp2_with fail
  refine (step_any h4 hne).mono ?_
  rintro e w6 ⟨rfl, h6, f6, -⟩
  have hb6 := f6.at_ HB4.out (by simp; omega)
  have hcell : w6.cell? ⟨w1.heap.size, 2, none⟩ = some (.int .i64 t.at_) := cell_of_row _ _ _ _ _ _ hb6
  have HB6 := Lib.hid hb6
  clear hb6
  have HR6 := HR4.fr f6 (by simp; omega)
  have F6 := F4.trans f6
  have hexp := HC R M t.at_ d s0.tl w6 h6 (by omega) (by omega)
  go_wp2_with fail
  refine hexp.mono ?_
  rintro e w5 ⟨c5, rfl, hc5, h5, f5⟩
  clear hexp
  have HC5 := Lib.hid hc5.len
  have HA5 := Lib.hid (oneL hc5)
  obtain ⟨old, ho, hro⟩ := HR6.fr f5 (by simp; omega)
  have HRO := Lib.hid hro
  clear hro
  go_wp2_with (((with_reducible refine stE w.heap.size HC5.out HA5.out HRO.out ho ?_ ?_ ?_); rfl; rfl; intro Y hY; have HY := Lib.hid hY; clear hY))
  refine ret_row Tryz.results136 w.heap.size 39 _ _ rfl rfl HY.out.at_ Tryz.underlying39 rfl (by rw [List.size_toArray, HC5.out]; exact sizeEx) ?_
  rw [HRUN.out]
  exact ⟨c5, rfl, hc5.upd HY.out (fun g hg hl => ⟨by have hq1 : w6.heap.size ≤ g := hg; have hq2 := lt_of_at HB6.out; show w.heap.size ≤ g; omega, by have hq1 : w6.heap.size ≤ g := hg; have hq2 := lt_of_at HB6.out; omega⟩), h5.up HY.out HRO.out (by decide) (by decide), (F6.trans f5).up HY.out (Nat.le_refl _)⟩
 ·have hdec : decide ((40 : Int) < (d : Int)) = false := decide_eq_false (by omega)
  have hds : deepS d s = s := if_neg h40
  rw [hds] at HRUN hdl hun hbase
  have hx0 := h0
  have HRX := HR0
  have zX : w.heap.size + 1 ≤ (w.alloc (.cells exZ 39)).heap.size := by rw [HS0.out]; omega
  have FX := (Fr.refl [R] w).alloc (.cells exZ 39)
  clear hds h40
  go_enter Tryz.func136, Tryz.ntmps136
  go_wp2_with fail
  refine (now_any hx0).mono ?_
  rintro e w1 ⟨rfl, b1⟩
  have h1 := hx0.below b1
  have HR1 := Lib.hid ((b1.block w.heap.size (by omega)).trans HRX.out)
  have F1 := FX.trans (Fr.below b1)
  have z1 : w.heap.size + 1 ≤ w1.heap.size := by have := b1.size; omega
  generalize ht : s.hd = t at *
  have HT := Lib.hid ht
  have h2 := h1.alloc (.cells #[.int .i64 t.kd, .string t.tx, .int .i64 t.at_] 63)
  have HR2 := (show RowE w1 w.heap.size from ⟨_, rfl, HR1.out⟩).alloc (.cells #[.int .i64 t.kd, .string t.tx, .int .i64 t.at_] 63)
  have HB2 := Lib.hid (heap_alloc_new w1 (.cells #[.int .i64 t.kd, .string t.tx, .int .i64 t.at_] 63))
  have F2 := F1.alloc (.cells #[.int .i64 t.kd, .string t.tx, .int .i64 t.at_] 63)
  have hne : s.hd.tx ≠ ⟨#[]⟩ ∨ s.hd.kd ≠ 0 := .inl (by rw [HT.out, hun]; decide)
  have htl := (tl_ok hx0.ok hne).2
  have hcell : (w1.alloc (.cells #[.int .i64 t.kd, .string t.tx, .int .i64 t.at_] 63)).cell? ⟨w1.heap.size, 1, none⟩ = some (.string t.tx) := cell_of_row _ _ _ _ _ _ HB2.out
  have hn0 : unOp t.tx = false := by rw [hun]; decide
  rw [if_neg (by rw [hn0]; decide), if_neg (by rw [hun]; decide), if_pos ⟨hun, hbase⟩] at HRUN
  have q1 : (t.tx.toList == [45]) = false := by rw [hun]; simp only [Lib.toList_data]; decide
  have q2 : (t.tx.toList == [126]) = false := by rw [hun]; simp only [Lib.toList_data]; decide
  have q3 : (t.tx.toList == [33]) = false := by rw [hun]; simp only [Lib.toList_data]; decide
  have q4 : (t.tx.toList == [42]) = false := by rw [hun]; simp only [Lib.toList_data]; decide
  have q5 : (t.tx.toList == [38]) = false := by rw [hun]; simp only [Lib.toList_data]; decide
  have q6 : (t.tx.toList == [115, 105, 122, 101, 111, 102]) = false := by rw [hun]; simp only [Lib.toList_data]; decide
  have q7 : (t.tx.toList == [40]) = true := by rw [hun]; simp only [Lib.toList_data]; decide
  clear ht hun hn0
  have hah := ahead_any 1 (by omega) h2
  generalize s.ahead 1 = u at *
  go_wp2_with fail
  refine hah.mono ?_
  rintro e w3 ⟨rfl, b3⟩
  clear hah
  have h3 := h2.below b3
  have HB3 := Lib.hid ((b3.block _ (lt_of_at HB2.out)).trans HB2.out)
  have HR3 := HR2.fr (Fr.below (S := [R]) b3) (by simp; omega)
  have F3 := F2.trans (Fr.below b3)
  have hbo := baseOf_any w3 u.kd u.tx u.at_
  rw [hbase] at hbo
  clear hcell
  go_wp2_with fail
  refine hbo.mono ?_
  rintro e w4 ⟨rfl, b4⟩
  clear hbo
  have h4 := h3.below b4
  have HB4 := Lib.hid ((b4.block _ (lt_of_at HB3.out)).trans HB3.out)
  have HR4 := HR3.fr (Fr.below (S := [R]) b4) (by simp; omega)
  have F4 := F3.trans (Fr.below b4)
  go_wp2_with fail
  refine (step_any h4 hne).mono ?_
  rintro e w6 ⟨rfl, h6, f6, -⟩
  have hb6 := f6.at_ HB4.out (by simp; omega)
  have hcell : w6.cell? ⟨w1.heap.size, 2, none⟩ = some (.int .i64 t.at_) := cell_of_row _ _ _ _ _ _ hb6
  have HB6 := Lib.hid hb6
  clear hb6
  have HR6 := HR4.fr f6 (by simp; omega)
  have F6 := F4.trans f6
  have hexp := HC R M t.at_ d s.tl w6 h6 (by omega) (by omega)
  go_wp2_with fail
  refine hexp.mono ?_
  rintro e w5 ⟨c5, rfl, hc5, h5, f5⟩
  clear hexp
  have HC5 := Lib.hid hc5.len
  have HA5 := Lib.hid (oneL hc5)
  obtain ⟨old, ho, hro⟩ := HR6.fr f5 (by simp; omega)
  have HRO := Lib.hid hro
  clear hro
  go_wp2_with (((with_reducible refine stE w.heap.size HC5.out HA5.out HRO.out ho ?_ ?_ ?_); rfl; rfl; intro Y hY; have HY := Lib.hid hY; clear hY))
  refine ret_row Tryz.results136 w.heap.size 39 _ _ rfl rfl HY.out.at_ Tryz.underlying39 rfl (by rw [List.size_toArray, HC5.out]; exact sizeEx) ?_
  rw [HRUN.out]
  exact ⟨c5, rfl, hc5.upd HY.out (fun g hg hl => ⟨by have hq1 : w6.heap.size ≤ g := hg; have hq2 := lt_of_at HB6.out; show w.heap.size ≤ g; omega, by have hq1 : w6.heap.size ≤ g := hg; have hq2 := lt_of_at HB6.out; omega⟩), h5.up HY.out HRO.out (by decide) (by decide), (F6.trans f5).up HY.out (Nat.le_refl _)⟩
set_option maxHeartbeats 16000000 in
theorem un_brack {f : Nat} (HP : PostC f) (R M d : Nat) (s : Pa.S) (w : World) (h : RdAt w R M s) (hf : 8 * s.tk.length + 3 ≤ f + 1) (hd : d + (f + 1) ≤ 60000) (hun : (deepS d s).hd.tx = ⟨#[40]⟩) (hbase : (baseV ((deepS d s).ahead 1).tx).isSome = false) :
  Calls Tryz.prog 136 #[.pointer (some ⟨R, 0, none⟩), .int .i64 d] w (PostE w R M (hd1 (runE (f + 1) (.un d) s)) (runE (f + 1) (.un d) s).2) := by
 have hR := h.lt
 have hrun : runE (f + 1) (.un d) s = if unOp (deepS d s).hd.tx then ([.mk 3 (deepS d s).hd.tx eB 0 [hd1 (runE f (.un (d + 1)) (deepS d s).tl)] ty0 (deepS d s).hd.at_], (runE f (.un (d + 1)) (deepS d s).tl).2)
  else if (deepS d s).hd.tx = ⟨#[115, 105, 122, 101, 111, 102]⟩ then ([.mk 10 eB eB 0 [] (typeV ((deepS d s).tl.want ⟨#[40]⟩)).1 (deepS d s).hd.at_], (typeV ((deepS d s).tl.want ⟨#[40]⟩)).2.want ⟨#[41]⟩)
  else if (deepS d s).hd.tx = ⟨#[40]⟩ ∧ (baseV ((deepS d s).ahead 1).tx).isSome = true then runE f (.cast (deepS d s).hd.at_ d) (deepS d s).tl
  else runE f (.post d) (deepS d s) := by simp only [runE]
 have HRUN := Lib.hid hrun
 have h0 := h.alloc (.cells exZ 39)
 have HR0 := Lib.hid (heap_alloc_new w (.cells exZ 39))
 have HS0 := Lib.hid (szA w (.cells exZ 39))
 have hdl := (deep_le h.ok d).len
 clear hrun
 have hw : IntKind.i64.wrap ((d : Int) + 1) = (d : Int) + 1 := IntWalk.i64_in _ (by omega)
 by_cases h40 : 40 < d
 ·have hdec : decide ((40 : Int) < (d : Int)) = true := decide_eq_true (by omega)
  have hds : deepS d s = s.fail 12 := if_pos h40
  rw [hds] at HRUN hdl hun hbase
  go_enter Tryz.func136, Tryz.ntmps136
  go_wp2_with fail
  refine (fail_any 12 (by omega) h0).mono ?_
  rintro e w0 ⟨rfl, hx0, f0⟩
  have HRX := Lib.hid (f0.at_ HR0.out (by simp; omega))
  have zX : w.heap.size + 1 ≤ w0.heap.size := by have := f0.size; rw [HS0.out] at this; exact this
  have FX := ((Fr.refl [R] w).alloc (.cells exZ 39)).trans f0
  generalize s.fail 12 = s0 at *
  clear hds hdec h40
  go_wp2_with fail
  refine (now_any hx0).mono ?_
  rintro e w1 ⟨rfl, b1⟩
  have h1 := hx0.below b1
  have HR1 := Lib.hid ((b1.block w.heap.size (by omega)).trans HRX.out)
  have F1 := FX.trans (Fr.below b1)
  have z1 : w.heap.size + 1 ≤ w1.heap.size := by have := b1.size; omega
  generalize ht : s0.hd = t at *
  have HT := Lib.hid ht
  have h2 := h1.alloc (.cells #[.int .i64 t.kd, .string t.tx, .int .i64 t.at_] 63)
  have HR2 := (show RowE w1 w.heap.size from ⟨_, rfl, HR1.out⟩).alloc (.cells #[.int .i64 t.kd, .string t.tx, .int .i64 t.at_] 63)
  have HB2 := Lib.hid (heap_alloc_new w1 (.cells #[.int .i64 t.kd, .string t.tx, .int .i64 t.at_] 63))
  have F2 := F1.alloc (.cells #[.int .i64 t.kd, .string t.tx, .int .i64 t.at_] 63)
  have hcell : (w1.alloc (.cells #[.int .i64 t.kd, .string t.tx, .int .i64 t.at_] 63)).cell? ⟨w1.heap.size, 1, none⟩ = some (.string t.tx) := cell_of_row _ _ _ _ _ _ HB2.out
  have hn0 : unOp t.tx = false := by rw [hun]; decide
  rw [if_neg (by rw [hn0]; decide), if_neg (by rw [hun]; decide), if_neg (by rw [hbase]; exact fun hh => by cases hh.2)] at HRUN
  have q1 : (t.tx.toList == [45]) = false := by rw [hun]; simp only [Lib.toList_data]; decide
  have q2 : (t.tx.toList == [126]) = false := by rw [hun]; simp only [Lib.toList_data]; decide
  have q3 : (t.tx.toList == [33]) = false := by rw [hun]; simp only [Lib.toList_data]; decide
  have q4 : (t.tx.toList == [42]) = false := by rw [hun]; simp only [Lib.toList_data]; decide
  have q5 : (t.tx.toList == [38]) = false := by rw [hun]; simp only [Lib.toList_data]; decide
  have q6 : (t.tx.toList == [115, 105, 122, 101, 111, 102]) = false := by rw [hun]; simp only [Lib.toList_data]; decide
  have q7 : (t.tx.toList == [40]) = true := by rw [hun]; simp only [Lib.toList_data]; decide
  clear ht hun hn0
  have hah := ahead_any 1 (by omega) h2
  generalize s0.ahead 1 = u at *
  go_wp2_with fail
  refine hah.mono ?_
  rintro e w3 ⟨rfl, b3⟩
  clear hah
  have h3 := h2.below b3
  have HB3 := Lib.hid ((b3.block _ (lt_of_at HB2.out)).trans HB2.out)
  have HR3 := HR2.fr (Fr.below (S := [R]) b3) (by simp; omega)
  have F3 := F2.trans (Fr.below b3)
  have hbo := baseOf_any w3 u.kd u.tx u.at_
  rw [hbase] at hbo
  clear hcell
  go_wp2_with fail
  refine hbo.mono ?_
  rintro e w4 ⟨rfl, b4⟩
  clear hbo
  have h4 := h3.below b4
  have HB4 := Lib.hid ((b4.block _ (lt_of_at HB3.out)).trans HB3.out)
  have HR4 := HR3.fr (Fr.below (S := [R]) b4) (by simp; omega)
  have F4 := F3.trans (Fr.below b4)
  have hexp := HP R M d s0 w4 h4 (by omega) (by omega)
  go_wp2_with fail
  refine hexp.mono ?_
  rintro e w5 ⟨c5, rfl, hc5, h5, f5⟩
  clear hexp
  have HC5 := Lib.hid hc5.len
  have HA5 := Lib.hid (oneL hc5)
  obtain ⟨old, ho, hro⟩ := HR4.fr f5 (by simp; omega)
  have HRO := Lib.hid hro
  clear hro
  go_wp2_with (((with_reducible refine stE w.heap.size HC5.out HA5.out HRO.out ho ?_ ?_ ?_); rfl; rfl; intro Y hY; have HY := Lib.hid hY; clear hY))
  refine ret_row Tryz.results136 w.heap.size 39 _ _ rfl rfl HY.out.at_ Tryz.underlying39 rfl (by rw [List.size_toArray, HC5.out]; exact sizeEx) ?_
  rw [HRUN.out]
  exact ⟨c5, rfl, hc5.upd HY.out (fun g hg hl => ⟨by have hq1 : w4.heap.size ≤ g := hg; have hq2 := lt_of_at HB4.out; show w.heap.size ≤ g; omega, by have hq1 : w4.heap.size ≤ g := hg; have hq2 := lt_of_at HB4.out; omega⟩), h5.up HY.out HRO.out (by decide) (by decide), (F4.trans f5).up HY.out (Nat.le_refl _)⟩
 ·have hdec : decide ((40 : Int) < (d : Int)) = false := decide_eq_false (by omega)
  have hds : deepS d s = s := if_neg h40
  rw [hds] at HRUN hdl hun hbase
  have hx0 := h0
  have HRX := HR0
  have zX : w.heap.size + 1 ≤ (w.alloc (.cells exZ 39)).heap.size := by rw [HS0.out]; omega
  have FX := (Fr.refl [R] w).alloc (.cells exZ 39)
  clear hds h40
  go_enter Tryz.func136, Tryz.ntmps136
  go_wp2_with fail
  refine (now_any hx0).mono ?_
  rintro e w1 ⟨rfl, b1⟩
  have h1 := hx0.below b1
  have HR1 := Lib.hid ((b1.block w.heap.size (by omega)).trans HRX.out)
  have F1 := FX.trans (Fr.below b1)
  have z1 : w.heap.size + 1 ≤ w1.heap.size := by have := b1.size; omega
  generalize ht : s.hd = t at *
  have HT := Lib.hid ht
  have h2 := h1.alloc (.cells #[.int .i64 t.kd, .string t.tx, .int .i64 t.at_] 63)
  have HR2 := (show RowE w1 w.heap.size from ⟨_, rfl, HR1.out⟩).alloc (.cells #[.int .i64 t.kd, .string t.tx, .int .i64 t.at_] 63)
  have HB2 := Lib.hid (heap_alloc_new w1 (.cells #[.int .i64 t.kd, .string t.tx, .int .i64 t.at_] 63))
  have F2 := F1.alloc (.cells #[.int .i64 t.kd, .string t.tx, .int .i64 t.at_] 63)
  have hcell : (w1.alloc (.cells #[.int .i64 t.kd, .string t.tx, .int .i64 t.at_] 63)).cell? ⟨w1.heap.size, 1, none⟩ = some (.string t.tx) := cell_of_row _ _ _ _ _ _ HB2.out
  have hn0 : unOp t.tx = false := by rw [hun]; decide
  rw [if_neg (by rw [hn0]; decide), if_neg (by rw [hun]; decide), if_neg (by rw [hbase]; exact fun hh => by cases hh.2)] at HRUN
  have q1 : (t.tx.toList == [45]) = false := by rw [hun]; simp only [Lib.toList_data]; decide
  have q2 : (t.tx.toList == [126]) = false := by rw [hun]; simp only [Lib.toList_data]; decide
  have q3 : (t.tx.toList == [33]) = false := by rw [hun]; simp only [Lib.toList_data]; decide
  have q4 : (t.tx.toList == [42]) = false := by rw [hun]; simp only [Lib.toList_data]; decide
  have q5 : (t.tx.toList == [38]) = false := by rw [hun]; simp only [Lib.toList_data]; decide
  have q6 : (t.tx.toList == [115, 105, 122, 101, 111, 102]) = false := by rw [hun]; simp only [Lib.toList_data]; decide
  have q7 : (t.tx.toList == [40]) = true := by rw [hun]; simp only [Lib.toList_data]; decide
  clear ht hun hn0
  have hah := ahead_any 1 (by omega) h2
  generalize s.ahead 1 = u at *
  go_wp2_with fail
  refine hah.mono ?_
  rintro e w3 ⟨rfl, b3⟩
  clear hah
  have h3 := h2.below b3
  have HB3 := Lib.hid ((b3.block _ (lt_of_at HB2.out)).trans HB2.out)
  have HR3 := HR2.fr (Fr.below (S := [R]) b3) (by simp; omega)
  have F3 := F2.trans (Fr.below b3)
  have hbo := baseOf_any w3 u.kd u.tx u.at_
  rw [hbase] at hbo
  clear hcell
  go_wp2_with fail
  refine hbo.mono ?_
  rintro e w4 ⟨rfl, b4⟩
  clear hbo
  have h4 := h3.below b4
  have HB4 := Lib.hid ((b4.block _ (lt_of_at HB3.out)).trans HB3.out)
  have HR4 := HR3.fr (Fr.below (S := [R]) b4) (by simp; omega)
  have F4 := F3.trans (Fr.below b4)
  have hexp := HP R M d s w4 h4 (by omega) (by omega)
  go_wp2_with fail
  refine hexp.mono ?_
  rintro e w5 ⟨c5, rfl, hc5, h5, f5⟩
  clear hexp
  have HC5 := Lib.hid hc5.len
  have HA5 := Lib.hid (oneL hc5)
  obtain ⟨old, ho, hro⟩ := HR4.fr f5 (by simp; omega)
  have HRO := Lib.hid hro
  clear hro
  go_wp2_with (((with_reducible refine stE w.heap.size HC5.out HA5.out HRO.out ho ?_ ?_ ?_); rfl; rfl; intro Y hY; have HY := Lib.hid hY; clear hY))
  refine ret_row Tryz.results136 w.heap.size 39 _ _ rfl rfl HY.out.at_ Tryz.underlying39 rfl (by rw [List.size_toArray, HC5.out]; exact sizeEx) ?_
  rw [HRUN.out]
  exact ⟨c5, rfl, hc5.upd HY.out (fun g hg hl => ⟨by have hq1 : w4.heap.size ≤ g := hg; have hq2 := lt_of_at HB4.out; show w.heap.size ≤ g; omega, by have hq1 : w4.heap.size ≤ g := hg; have hq2 := lt_of_at HB4.out; omega⟩), h5.up HY.out HRO.out (by decide) (by decide), (F4.trans f5).up HY.out (Nat.le_refl _)⟩
set_option maxHeartbeats 16000000 in
theorem un_other {f : Nat} (HP : PostC f) (R M d : Nat) (s : Pa.S) (w : World) (h : RdAt w R M s) (hf : 8 * s.tk.length + 3 ≤ f + 1) (hd : d + (f + 1) ≤ 60000) (hun : unOp (deepS d s).hd.tx = false) (hun2 : ¬ (deepS d s).hd.tx = ⟨#[115, 105, 122, 101, 111, 102]⟩) (hun3 : ¬ (deepS d s).hd.tx = ⟨#[40]⟩) :
  Calls Tryz.prog 136 #[.pointer (some ⟨R, 0, none⟩), .int .i64 d] w (PostE w R M (hd1 (runE (f + 1) (.un d) s)) (runE (f + 1) (.un d) s).2) := by
 have hR := h.lt
 have hrun : runE (f + 1) (.un d) s = if unOp (deepS d s).hd.tx then ([.mk 3 (deepS d s).hd.tx eB 0 [hd1 (runE f (.un (d + 1)) (deepS d s).tl)] ty0 (deepS d s).hd.at_], (runE f (.un (d + 1)) (deepS d s).tl).2)
  else if (deepS d s).hd.tx = ⟨#[115, 105, 122, 101, 111, 102]⟩ then ([.mk 10 eB eB 0 [] (typeV ((deepS d s).tl.want ⟨#[40]⟩)).1 (deepS d s).hd.at_], (typeV ((deepS d s).tl.want ⟨#[40]⟩)).2.want ⟨#[41]⟩)
  else if (deepS d s).hd.tx = ⟨#[40]⟩ ∧ (baseV ((deepS d s).ahead 1).tx).isSome = true then runE f (.cast (deepS d s).hd.at_ d) (deepS d s).tl
  else runE f (.post d) (deepS d s) := by simp only [runE]
 have HRUN := Lib.hid hrun
 have h0 := h.alloc (.cells exZ 39)
 have HR0 := Lib.hid (heap_alloc_new w (.cells exZ 39))
 have HS0 := Lib.hid (szA w (.cells exZ 39))
 have hdl := (deep_le h.ok d).len
 clear hrun
 have hw : IntKind.i64.wrap ((d : Int) + 1) = (d : Int) + 1 := IntWalk.i64_in _ (by omega)
 by_cases h40 : 40 < d
 ·have hdec : decide ((40 : Int) < (d : Int)) = true := decide_eq_true (by omega)
  have hds : deepS d s = s.fail 12 := if_pos h40
  rw [hds] at HRUN hdl hun hun2 hun3
  go_enter Tryz.func136, Tryz.ntmps136
  go_wp2_with fail
  refine (fail_any 12 (by omega) h0).mono ?_
  rintro e w0 ⟨rfl, hx0, f0⟩
  have HRX := Lib.hid (f0.at_ HR0.out (by simp; omega))
  have zX : w.heap.size + 1 ≤ w0.heap.size := by have := f0.size; rw [HS0.out] at this; exact this
  have FX := ((Fr.refl [R] w).alloc (.cells exZ 39)).trans f0
  generalize s.fail 12 = s0 at *
  clear hds hdec h40
  go_wp2_with fail
  refine (now_any hx0).mono ?_
  rintro e w1 ⟨rfl, b1⟩
  have h1 := hx0.below b1
  have HR1 := Lib.hid ((b1.block w.heap.size (by omega)).trans HRX.out)
  have F1 := FX.trans (Fr.below b1)
  have z1 : w.heap.size + 1 ≤ w1.heap.size := by have := b1.size; omega
  generalize ht : s0.hd = t at *
  have HT := Lib.hid ht
  have h2 := h1.alloc (.cells #[.int .i64 t.kd, .string t.tx, .int .i64 t.at_] 63)
  have HR2 := (show RowE w1 w.heap.size from ⟨_, rfl, HR1.out⟩).alloc (.cells #[.int .i64 t.kd, .string t.tx, .int .i64 t.at_] 63)
  have HB2 := Lib.hid (heap_alloc_new w1 (.cells #[.int .i64 t.kd, .string t.tx, .int .i64 t.at_] 63))
  have F2 := F1.alloc (.cells #[.int .i64 t.kd, .string t.tx, .int .i64 t.at_] 63)
  have hcell : (w1.alloc (.cells #[.int .i64 t.kd, .string t.tx, .int .i64 t.at_] 63)).cell? ⟨w1.heap.size, 1, none⟩ = some (.string t.tx) := cell_of_row _ _ _ _ _ _ HB2.out
  rw [if_neg (by rw [hun]; decide), if_neg hun2, if_neg (fun hh => hun3 hh.1)] at HRUN
  have hn0 : unOp t.tx = false := hun
  have q1 : (t.tx.toList == [45]) = false := strNe [45] (fun e => by rw [e] at hn0; revert hn0; decide)
  have q2 : (t.tx.toList == [126]) = false := strNe [126] (fun e => by rw [e] at hn0; revert hn0; decide)
  have q3 : (t.tx.toList == [33]) = false := strNe [33] (fun e => by rw [e] at hn0; revert hn0; decide)
  have q4 : (t.tx.toList == [42]) = false := strNe [42] (fun e => by rw [e] at hn0; revert hn0; decide)
  have q5 : (t.tx.toList == [38]) = false := strNe [38] (fun e => by rw [e] at hn0; revert hn0; decide)
  have q6 : (t.tx.toList == [115, 105, 122, 101, 111, 102]) = false := strNe _ hun2
  have q7 : (t.tx.toList == [40]) = false := strNe _ hun3
  clear ht hun hn0 hun2 hun3
  have hexp := HP R M d s0 _ h2 (by omega) (by omega)
  go_wp2_with fail
  refine hexp.mono ?_
  rintro e w5 ⟨c5, rfl, hc5, h5, f5⟩
  clear hexp hcell
  have HC5 := Lib.hid hc5.len
  have HA5 := Lib.hid (oneL hc5)
  obtain ⟨old, ho, hro⟩ := HR2.fr f5 (by simp; omega)
  have HRO := Lib.hid hro
  clear hro
  go_wp2_with (((with_reducible refine stE w.heap.size HC5.out HA5.out HRO.out ho ?_ ?_ ?_); rfl; rfl; intro Y hY; have HY := Lib.hid hY; clear hY))
  refine ret_row Tryz.results136 w.heap.size 39 _ _ rfl rfl HY.out.at_ Tryz.underlying39 rfl (by rw [List.size_toArray, HC5.out]; exact sizeEx) ?_
  rw [HRUN.out]
  exact ⟨c5, rfl, hc5.upd HY.out (fun g hg hl => ⟨by have hq1 : (w1.alloc (.cells #[.int .i64 t.kd, .string t.tx, .int .i64 t.at_] 63)).heap.size ≤ g := hg; have hq2 := lt_of_at HB2.out; show w.heap.size ≤ g; omega, by have hq1 : (w1.alloc (.cells #[.int .i64 t.kd, .string t.tx, .int .i64 t.at_] 63)).heap.size ≤ g := hg; have hq2 := lt_of_at HB2.out; omega⟩), h5.up HY.out HRO.out (by decide) (by decide), (F2.trans f5).up HY.out (Nat.le_refl _)⟩
 ·have hdec : decide ((40 : Int) < (d : Int)) = false := decide_eq_false (by omega)
  have hds : deepS d s = s := if_neg h40
  rw [hds] at HRUN hdl hun hun2 hun3
  have hx0 := h0
  have HRX := HR0
  have zX : w.heap.size + 1 ≤ (w.alloc (.cells exZ 39)).heap.size := by rw [HS0.out]; omega
  have FX := (Fr.refl [R] w).alloc (.cells exZ 39)
  clear hds h40
  go_enter Tryz.func136, Tryz.ntmps136
  go_wp2_with fail
  refine (now_any hx0).mono ?_
  rintro e w1 ⟨rfl, b1⟩
  have h1 := hx0.below b1
  have HR1 := Lib.hid ((b1.block w.heap.size (by omega)).trans HRX.out)
  have F1 := FX.trans (Fr.below b1)
  have z1 : w.heap.size + 1 ≤ w1.heap.size := by have := b1.size; omega
  generalize ht : s.hd = t at *
  have HT := Lib.hid ht
  have h2 := h1.alloc (.cells #[.int .i64 t.kd, .string t.tx, .int .i64 t.at_] 63)
  have HR2 := (show RowE w1 w.heap.size from ⟨_, rfl, HR1.out⟩).alloc (.cells #[.int .i64 t.kd, .string t.tx, .int .i64 t.at_] 63)
  have HB2 := Lib.hid (heap_alloc_new w1 (.cells #[.int .i64 t.kd, .string t.tx, .int .i64 t.at_] 63))
  have F2 := F1.alloc (.cells #[.int .i64 t.kd, .string t.tx, .int .i64 t.at_] 63)
  have hcell : (w1.alloc (.cells #[.int .i64 t.kd, .string t.tx, .int .i64 t.at_] 63)).cell? ⟨w1.heap.size, 1, none⟩ = some (.string t.tx) := cell_of_row _ _ _ _ _ _ HB2.out
  rw [if_neg (by rw [hun]; decide), if_neg hun2, if_neg (fun hh => hun3 hh.1)] at HRUN
  have hn0 : unOp t.tx = false := hun
  have q1 : (t.tx.toList == [45]) = false := strNe [45] (fun e => by rw [e] at hn0; revert hn0; decide)
  have q2 : (t.tx.toList == [126]) = false := strNe [126] (fun e => by rw [e] at hn0; revert hn0; decide)
  have q3 : (t.tx.toList == [33]) = false := strNe [33] (fun e => by rw [e] at hn0; revert hn0; decide)
  have q4 : (t.tx.toList == [42]) = false := strNe [42] (fun e => by rw [e] at hn0; revert hn0; decide)
  have q5 : (t.tx.toList == [38]) = false := strNe [38] (fun e => by rw [e] at hn0; revert hn0; decide)
  have q6 : (t.tx.toList == [115, 105, 122, 101, 111, 102]) = false := strNe _ hun2
  have q7 : (t.tx.toList == [40]) = false := strNe _ hun3
  clear ht hun hn0 hun2 hun3
  have hexp := HP R M d s _ h2 (by omega) (by omega)
  go_wp2_with fail
  refine hexp.mono ?_
  rintro e w5 ⟨c5, rfl, hc5, h5, f5⟩
  clear hexp hcell
  have HC5 := Lib.hid hc5.len
  have HA5 := Lib.hid (oneL hc5)
  obtain ⟨old, ho, hro⟩ := HR2.fr f5 (by simp; omega)
  have HRO := Lib.hid hro
  clear hro
  go_wp2_with (((with_reducible refine stE w.heap.size HC5.out HA5.out HRO.out ho ?_ ?_ ?_); rfl; rfl; intro Y hY; have HY := Lib.hid hY; clear hY))
  refine ret_row Tryz.results136 w.heap.size 39 _ _ rfl rfl HY.out.at_ Tryz.underlying39 rfl (by rw [List.size_toArray, HC5.out]; exact sizeEx) ?_
  rw [HRUN.out]
  exact ⟨c5, rfl, hc5.upd HY.out (fun g hg hl => ⟨by have hq1 : (w1.alloc (.cells #[.int .i64 t.kd, .string t.tx, .int .i64 t.at_] 63)).heap.size ≤ g := hg; have hq2 := lt_of_at HB2.out; show w.heap.size ≤ g; omega, by have hq1 : (w1.alloc (.cells #[.int .i64 t.kd, .string t.tx, .int .i64 t.at_] 63)).heap.size ≤ g := hg; have hq2 := lt_of_at HB2.out; omega⟩), h5.up HY.out HRO.out (by decide) (by decide), (F2.trans f5).up HY.out (Nat.le_refl _)⟩
theorem un_step {f : Nat} (HU : UnC f) (HC : CastC f) (HP : PostC f) : UnC (f + 1) := by
 intro R M d s w h hf hd
 cases h1 : unOp (deepS d s).hd.tx with
 | true => exact un_sign HU R M d s w h hf hd h1
 | false =>
  by_cases h2 : (deepS d s).hd.tx = ⟨#[115, 105, 122, 101, 111, 102]⟩
  ·exact un_size R M d s w h hf hd h2
  ·by_cases h3 : (deepS d s).hd.tx = ⟨#[40]⟩
   ·cases h4 : (baseV ((deepS d s).ahead 1).tx).isSome with
    | true => exact un_cast HC R M d s w h hf hd h3 h4
    | false => exact un_brack HP R M d s w h hf hd h3 h4
   ·exact un_other HP R M d s w h hf hd h1 h2 h3
end Go.Proofs.YtfjobnljdkiihaaGreatDoor
