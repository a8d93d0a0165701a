/- Loads and stores noted, loads, stores, calls of a run of package mach. Conditions: each theorem's. An ECALL that ends a run of package mach, and one that takes a byte. Conditions: each theorem's. -/
import Derived.Test.YtppcbommaddkgaaDoorMrgC
import Derived.Deep.RegionHeldLaw
import Derived.Deep.RegionHeld3
import Derived.IntWalk
namespace Go.Proofs.YtppcbommaddkgaaDoor
open Go.RowKit Go.Maps
set_option linter.unusedVariables false
set_option linter.unusedSimpArgs false
set_option maxRecDepth 10000
open Pm Pc Pl
theorem infoAcc : (Tryd.prog.info? 81).map (fun i => (i.zero, i.size, i.bytes)) = some (some (.agg #[.int .u64 0, .int .u64 0, .int .i64 0, .bool false]), 4, 32) := by kernel_rfl
theorem infoU8 : (Tryd.prog.info? 5).map (fun i => (i.zero, i.size, i.bytes)) = some (some (.int .u8 0), 1, 1) := by kernel_rfl
/-- The same memory; a count of draws may have moved. -/
def Alike2 (w' w : World) : Prop := w'.os = w.os ∧ w'.tape = w.tape ∧ w'.output = w.output ∧ w'.heap = w.heap
/-- What note leaves. -/
def NoteTo (w : World) (base p rb : Nat) (n : Nat) (xs : List Value) (a : Ac) (sv : Value) (e : Ending) (w' : World) : Prop :=
  e = .returned (.tuple #[]) ∧ ∃ g cap w1, w1.ownsRow base 81 4 (.slice (some ⟨g, 0, none⟩) (n + 1) cap) (n + 1) (xs ++ accs [a]) ∧ w.grownBy w1 sv.ownBlock ∧ w' = w1.setCell ⟨rb, 10, none⟩ (.slice (some ⟨g, 0, none⟩) (n + 1) cap)
set_option maxHeartbeats 3200000 in
theorem note_on {w : World} {base p rb n : Nat} {sv : Value} {xs : List Value} (pl at_ k : Int) (wr : Bool) (h0 : 0 ≤ k) (h1 : k ≤ 8) (hn : n < 1099511627776)
    (c0 : w.cell? ⟨rb, 0, none⟩ = some (.pointer (some ⟨p, 0, none⟩))) (c1 : w.cell? ⟨p, 33, none⟩ = some (.int .u64 pl)) (c9 : w.cell? ⟨rb, 9, none⟩ = some (.bool true)) (c10 : w.cell? ⟨rb, 10, none⟩ = some sv)
    (f10 : w.frozen? ⟨rb, 10, none⟩ = false) (hown : w.ownsRow base 81 4 sv n xs) (hne : sv.ownBlock ≠ some rb) (hbase : base ≤ w.heap.size) :
    Calls Tryd.prog 57 #[.pointer (some ⟨rb, 0, none⟩), .int .u64 at_, .int .u64 k, .bool wr] w fun e w' => NoteTo w base p rb n xs (Ac.mk pl at_ k wr) sv e w' := by
  obtain ⟨i0, hi0, hz0, hz1, hz2⟩ := info_parts infoAcc
  have lr := World.block_lt_of_cell? w _ c0
  have lp := World.block_lt_of_cell? w _ c1
  simp only at lr lp
  have HN := Lib.hid hne; clear hne
  have hwk : IntKind.i64.wrap k = k := IntWalk.i64_in _ (by omega)
  go_enter Tryd.func57, Tryd.ntmps57
  go_wp2_with fail
  go_region_law ((refine step_append_lies _ (by rfl) _ _ _ (by rfl) base 81 i0 _ 4 32 Tryd.underlying41 hi0 hz0 hz1 hz2 rfl (by omega) sv n xs (by rfl) ((hown.alloc _).drew) ⟨w.heap.size, 0, none⟩ 1 1 [.int .u64 pl, .int .u64 at_, .int .i64 k, .bool wr] (by rfl) (by rfl) (World.news_of_block (cs := #[.int .u64 pl, .int .u64 at_, .int .i64 k, .bool wr]) (t := 81) (fr := (0, 0)) (heap_alloc_new w _)) (by simp [Value.oneCell']) (by omega) (by unfold maxLen; omega) (by omega) (by simp; omega) (w.heap.size + 1) (by simp) ?_; intro gg cap w1 hown1 hgrow hat hlt; have g10 : w1.cell? ⟨rb, 10, none⟩ = some sv := (hgrow.cell_far ⟨rb, 10, none⟩ (by simp; omega) (Ne.symm HN.out)).trans ((World.cell?_alloc_lt w _ ⟨rb, 10, none⟩ lr).trans c10); have k10 : w1.frozen? ⟨rb, 10, none⟩ = false := (hgrow.frozen_far ⟨rb, 10, none⟩ (by simp; omega) (Ne.symm HN.out)).trans (by go_simp)))
  all_goals
    go_end0
    exact ⟨rfl, gg, cap, w1, hown1, (World.grownBy_alloc w _ _).trans ⟨hgrow.os, hgrow.tape, hgrow.output, hgrow.size, hgrow.block⟩, rfl⟩
theorem note_off {w : World} {p rb : Nat} (at_ k : Int) (wr : Bool) (c0 : w.cell? ⟨rb, 0, none⟩ = some (.pointer (some ⟨p, 0, none⟩))) (c9 : w.cell? ⟨rb, 9, none⟩ = some (.bool false)) :
    Calls Tryd.prog 57 #[.pointer (some ⟨rb, 0, none⟩), .int .u64 at_, .int .u64 k, .bool wr] w fun e w' => e = .returned (.tuple #[]) ∧ w' = w := by
  go_enter Tryd.func57, Tryd.ntmps57
  go_wp2
  go_end0
  exact ⟨rfl, rfl⟩
/-- What is put out. -/
def OutTo (w : World) (base p rb : Nat) (n : Nat) (xs : List Value) (a : Int) (ov : Value) (e : Ending) (w' : World) : Prop :=
  e = .returned (.bool true) ∧ ∃ g cap w1, w1.ownsRow base 5 1 (.slice (some ⟨g, 0, none⟩) (n + 1) cap) (n + 1) (xs ++ [.int .u8 (a % 256)]) ∧ w.grownBy w1 ov.ownBlock ∧ w' = w1.setCell ⟨rb, 4, none⟩ (.slice (some ⟨g, 0, none⟩) (n + 1) cap)
set_option maxHeartbeats 3200000 in
theorem call_out {w : World} {base p q rb n : Nat} {m : Ma} {ov : Value} {xs : List Value} (h : MachAt w p q m) (hl : m.x.length = 32) (h17 : Hid (m.reg 17 = 1)) (hr : 0 ≤ m.reg 10 ∧ m.reg 10 < 18446744073709551616) (hn : n < 1099511627776)
    (c0 : w.cell? ⟨rb, 0, none⟩ = some (.pointer (some ⟨p, 0, none⟩))) (c4 : w.cell? ⟨rb, 4, none⟩ = some ov)
    (f4 : w.frozen? ⟨rb, 4, none⟩ = false) (hown : w.ownsRow base 5 1 ov n xs) (hne : ov.ownBlock ≠ some rb) (hbase : base ≤ w.heap.size) :
    Calls Tryd.prog 46 #[.pointer (some ⟨rb, 0, none⟩)] w fun e w' => OutTo w base p rb n xs (m.reg 10) ov e w' := by
  obtain ⟨i0, hi0, hz0, hz1, hz2⟩ := info_parts infoU8
  have lr := World.block_lt_of_cell? w _ c0
  simp only at lr
  have HN := Lib.hid hne; clear hne
  have cx := h.cx hl (k := 10) (by omega)
  have cx' := h.cx hl (k := 17) (by omega)
  rw [h17.out] at cx'
  have lp := h.lp
  generalize m.reg 10 = v at *
  clear h hl h17
  go_enter Tryd.func46, Tryd.ntmps46
  go_wp2_with (go_at_call 24; refine (reg_in p 17 _ _ (by omega) cx').mono ?_; rintro e w1 ⟨rfl, rfl⟩)
  go_region_law (first | (refine step_append_lies _ (by rfl) _ _ _ (by rfl) base 5 i0 _ 1 1 Tryd.underlying22 hi0 hz0 hz1 hz2 rfl (by omega) ov n xs (by rfl) ((hown.alloc _).drew) ⟨w.heap.size, 0, none⟩ 1 1 [.int .u8 (v % 256)] (by rfl) (by rfl) (World.news_of_block (cs := #[.int .u8 (v % 256)]) (t := 5) (fr := (0, 0)) (heap_alloc_new w _)) (by simp [Value.oneCell']) (by omega) (by unfold maxLen; omega) (by omega) (by simp; omega) (w.heap.size + 1) (by simp) ?_; intro gg cap w1 hown1 hgrow hat hlt; have g10 : w1.cell? ⟨rb, 4, none⟩ = some ov := (hgrow.cell_far ⟨rb, 4, none⟩ (by simp; omega) (Ne.symm HN.out)).trans ((World.cell?_alloc_lt w _ ⟨rb, 4, none⟩ lr).trans c4); have k10 : w1.frozen? ⟨rb, 4, none⟩ = false := (hgrow.frozen_far ⟨rb, 4, none⟩ (by simp; omega) (Ne.symm HN.out)).trans (by go_simp)) | (go_simp; go_at_call 24; refine (reg_in p 10 v _ (by omega) (by go_simp)).mono ?_; rintro e w9 ⟨rfl, rfl⟩))
  all_goals
    go_wp2
    go_ret
    exact ⟨rfl, gg, cap, w1, hown1, (World.grownBy_alloc w _ _).trans ⟨hgrow.os, hgrow.tape, hgrow.output, hgrow.size, hgrow.block⟩, rfl⟩
set_option maxHeartbeats 400000 in
theorem next_none {w : World} {rb : Nat} {A : Option Addr} {c : Nat} (c7 : w.cell? ⟨rb, 7, none⟩ = some (.slice A 0 c)) :
    Calls Tryd.prog 61 #[.pointer (some ⟨rb, 0, none⟩)] w fun e w' => e = .returned (.int .u64 18446744073709551615) ∧ w = w' := by
  go_enter Tryd.func61, Tryd.ntmps61
  go_wp2_with (go_at_call 41; refine (of_num _ _).mono ?_; rintro e w1 ⟨rfl, rfl⟩)
  go_ret
  exact ⟨rfl, rfl⟩
set_option maxHeartbeats 400000 in
theorem next_some {w : World} {rb ib off n : Nat} {c : Nat} (b : Int) (hb : 0 ≤ b ∧ b < 256) (hn : n + 1 ≤ c) (c7 : w.cell? ⟨rb, 7, none⟩ = some (.slice (some ⟨ib, off, none⟩) (n + 1 : Nat) c)) (f7 : w.frozen? ⟨rb, 7, none⟩ = false) (ci : w.cell? ⟨ib, off, none⟩ = some (.int .u8 b)) :
    Calls Tryd.prog 61 #[.pointer (some ⟨rb, 0, none⟩)] w fun e w' => e = .returned (.int .u64 b) ∧ w' = w.setCell ⟨rb, 7, none⟩ (.slice (if c = 1 then some ⟨ib, off, none⟩ else some ⟨ib, off + 1, none⟩) n (c - 1)) := by
  by_cases hc : c = 1
  all_goals
    go_enter Tryd.func61, Tryd.ntmps61
    go_wp2
    go_ret
    refine ⟨rfl, ?_⟩
    first | (subst hc; rfl) | simp [hc]
theorem call_none {w : World} {p q rb : Nat} {m : Ma} (h : MachAt w p q m) (hl : m.x.length = 32) (v : Int) (h17 : m.reg 17 = v) (hv : v < 1 ∨ 5 < v)
    (c0 : w.cell? ⟨rb, 0, none⟩ = some (.pointer (some ⟨p, 0, none⟩))) :
    Calls Tryd.prog 46 #[.pointer (some ⟨rb, 0, none⟩)] w fun e w' => e = .returned (.bool false) ∧ w' = w := by
  have cx' := h.cx hl (k := 17) (by omega)
  rw [h17] at cx'
  clear h h17
  have d1 : (v == 1) = false := by simp; omega
  have d2 : (v == 2) = false := by simp; omega
  have d3 : (v == 3) = false := by simp; omega
  have d4 : (v == 4) = false := by simp; omega
  have d5 : (v == 5) = false := by simp; omega
  go_enter Tryd.func46, Tryd.ntmps46
  go_wp2_with (go_at_call 24; refine (reg_in p 17 _ _ (by omega) cx').mono ?_; rintro e w1 ⟨rfl, rfl⟩)
  go_ret
  exact ⟨rfl, rfl⟩
theorem call_stop {w : World} {p q rb : Nat} {m : Ma} (h : MachAt w p q m) (hl : m.x.length = 32) (v : Int) (h17 : m.reg 17 = v) (hv : v = 4 ∨ v = 5)
    (c0 : w.cell? ⟨rb, 0, none⟩ = some (.pointer (some ⟨p, 0, none⟩))) :
    Calls Tryd.prog 46 #[.pointer (some ⟨rb, 0, none⟩)] w fun e w' => e = .returned (.bool true) ∧ w' = w.setCell ⟨p, 34, none⟩ (.int .i64 (v - 2)) := by
  have cx' := h.cx hl (k := 17) (by omega)
  rw [h17] at cx'
  have cs := h.cst hl
  have fs := h.fr 34
  clear h h17
  rcases hv with rfl | rfl
  all_goals
    go_enter Tryd.func46, Tryd.ntmps46
    go_wp2_with (go_at_call 24; refine (reg_in p 17 _ _ (by omega) cx').mono ?_; rintro e w1 ⟨rfl, rfl⟩)
    go_ret
    exact ⟨rfl, rfl⟩
end Go.Proofs.YtppcbommaddkgaaDoor
namespace Go.Proofs.YtppcbommaddkgaaDoor
open Go.RowKit Go.Maps
set_option linter.unusedVariables false
set_option linter.unusedSimpArgs false
set_option maxRecDepth 10000
open Pm Pc Pl
theorem setCell_comm {w : World} {b i j : Nat} {cs : Array Value} {t : TypeId} {x y : Value} (h : w.heap[b]? = some (.cells cs t)) (hij : i ≠ j) :
    ((w.setCell ⟨b, i, none⟩ x).setCell ⟨b, j, none⟩ y).heap = ((w.setCell ⟨b, j, none⟩ y).setCell ⟨b, i, none⟩ x).heap := by
  apply Array.ext_getElem?
  intro k
  by_cases hk : k = b
  · subst hk
    rw [heap_setCell_same _ _ _ _ _ _ (heap_setCell_same _ _ _ _ _ _ h), heap_setCell_same _ _ _ _ _ _ (heap_setCell_same _ _ _ _ _ _ h), Array.setIfInBounds_comm _ _ hij]
  · rw [heap_setCell_other _ _ _ _ (by simpa using hk), heap_setCell_other _ _ _ _ (by simpa using hk), heap_setCell_other _ _ _ _ (by simpa using hk), heap_setCell_other _ _ _ _ (by simpa using hk)]
set_option maxHeartbeats 1600000 in
theorem call_exit {w : World} {p q rb : Nat} {m : Ma} (h : MachAt w p q m) (hl : m.x.length = 32) (h17 : m.reg 17 = 3) (hr : 0 ≤ m.reg 10 ∧ m.reg 10 < 18446744073709551616)
    (c0 : w.cell? ⟨rb, 0, none⟩ = some (.pointer (some ⟨p, 0, none⟩))) :
    Calls Tryd.prog 46 #[.pointer (some ⟨rb, 0, none⟩)] w fun e w' => e = .returned (.bool true) ∧ Alike2 w' ((w.setCell ⟨p, 34, none⟩ (.int .i64 1)).setCell ⟨p, 35, none⟩ (.int .u8 (m.reg 10 % 256))) := by
  have cx' := h.cx hl (k := 17) (by omega)
  rw [h17] at cx'
  have cx := h.cx hl (k := 10) (by omega)
  have cs := h.cst hl
  have cd := h.ccd hl
  have fs := h.fr 34
  have fd := h.fr 35
  have lp := h.lp
  have hb := h.1
  clear h h17
  generalize m.reg 10 = v at *
  go_enter Tryd.func46, Tryd.ntmps46
  go_wp2_with (go_at_call 24; refine (reg_in p 17 _ _ (by omega) cx').mono ?_; rintro e w1 ⟨rfl, rfl⟩)
  go_region_with ((go_at_call 24; refine (reg_in p 10 v _ (by omega) (by go_simp)).mono ?_; rintro e w9 ⟨rfl, rfl⟩))
  all_goals
    go_wp2
    go_ret
    first | exact ⟨rfl, rfl, rfl, rfl, rfl⟩ | exact ⟨rfl, rfl, rfl, rfl, setCell_comm hb (by omega)⟩
set_option maxHeartbeats 1600000 in
theorem call_take0 {w : World} {p q rb : Nat} {m : Ma} {A : Option Addr} {c : Nat} (h : MachAt w p q m) (hl : m.x.length = 32) (h17 : m.reg 17 = 2)
    (c0 : w.cell? ⟨rb, 0, none⟩ = some (.pointer (some ⟨p, 0, none⟩))) (c7 : w.cell? ⟨rb, 7, none⟩ = some (.slice A 0 c)) :
    Calls Tryd.prog 46 #[.pointer (some ⟨rb, 0, none⟩)] w fun e w' => e = .returned (.bool true) ∧ Alike2 w' (setW w p 10 18446744073709551615) := by
  have cx' := h.cx hl (k := 17) (by omega)
  rw [h17] at cx'
  have cx := h.cx hl (k := 10) (by omega)
  have fx := h.fr 11
  have lp := h.lp
  clear h h17
  generalize m.reg 10 = v at *
  go_enter Tryd.func46, Tryd.ntmps46
  go_wp2_with (go_at_call 24; refine (reg_in p 17 _ _ (by omega) cx').mono ?_; rintro e w1 ⟨rfl, rfl⟩)
  go_region_with (first | (go_at_call 61; refine (next_none (A := A) (c := c) (by go_simp)).mono ?_; rintro e w9 ⟨rfl, rfl⟩) | (go_at_call 19; refine (set_in p 10 _ v _ (by omega) (by omega) (by go_simp) (by go_simp)).mono ?_; rintro e w9 ⟨rfl, rfl⟩))
  all_goals
    go_wp2
    go_ret
    exact ⟨rfl, rfl, rfl, rfl, rfl⟩
set_option maxHeartbeats 1600000 in
theorem call_take1 {w : World} {p q rb ib off n c : Nat} {m : Ma} {A : Option Addr} (b : Int) (HA : Hid ((if c = 1 then some (⟨ib, off, none⟩ : Addr) else some ⟨ib, off + 1, none⟩) = A)) (hb : 0 ≤ b ∧ b < 256) (hn : n + 1 ≤ c) (h : MachAt w p q m) (hl : m.x.length = 32) (h17 : m.reg 17 = 2) (hpr : p ≠ rb)
    (c0 : w.cell? ⟨rb, 0, none⟩ = some (.pointer (some ⟨p, 0, none⟩))) (c7 : w.cell? ⟨rb, 7, none⟩ = some (.slice (some ⟨ib, off, none⟩) (n + 1 : Nat) c)) (f7 : w.frozen? ⟨rb, 7, none⟩ = false) (ci : w.cell? ⟨ib, off, none⟩ = some (.int .u8 b)) :
    Calls Tryd.prog 46 #[.pointer (some ⟨rb, 0, none⟩)] w fun e w' => e = .returned (.bool true) ∧ Alike2 w' ((w.setCell ⟨rb, 7, none⟩ (.slice A n (c - 1))).setCell ⟨p, 11, none⟩ (.int .u64 b)) := by
  have cx' := h.cx hl (k := 17) (by omega)
  rw [h17] at cx'
  have cx := h.cx hl (k := 10) (by omega)
  have fx := h.fr 11
  have lp := h.lp
  have hne := hpr
  have hne' := hpr.symm
  clear h h17
  generalize m.reg 10 = v at *
  go_enter Tryd.func46, Tryd.ntmps46
  go_wp2_with (go_at_call 24; refine (reg_in p 17 _ _ (by omega) cx').mono ?_; rintro e w1 ⟨rfl, rfl⟩)
  go_region_with (first | (go_at_call 61; refine (next_some (ib := ib) (off := off) (n := n) (c := c) b hb hn (by go_simp) (by go_simp) (by go_simp)).mono ?_; rintro e w9 ⟨rfl, rfl⟩; rw [HA.out]) | (go_at_call 19; refine (set_in p 10 _ v _ (by omega) (by omega) (by go_simp) (by go_simp)).mono ?_; rintro e w9 ⟨rfl, rfl⟩))
  all_goals
    go_wp2
    go_ret
    exact ⟨rfl, rfl, rfl, rfl, rfl⟩
end Go.Proofs.YtppcbommaddkgaaDoor
