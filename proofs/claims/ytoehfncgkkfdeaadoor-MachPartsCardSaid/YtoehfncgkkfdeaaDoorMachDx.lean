/- An ECALL that ends a run of package mach, and one that takes a byte. Conditions: each theorem's. -/
import Derived.Test.YtoehfncgkkfdeaaDoorMachD
import Derived.Deep.RegionHeldLaw
import Derived.Deep.RegionHeld3
import Derived.IntWalk
namespace Go.Proofs.YtoehfncgkkfdeaaDoor
open Go.RowKit Go.Maps
set_option linter.unusedVariables false
set_option linter.unusedSimpArgs false
set_option maxRecDepth 10000
open Pm Pc Pl
theorem setCell_comm {w : World} {b i j : Nat} {cs : Array Value} {t : TypeId} {x y : Value} (h : w.heap[b]? = some (.cells cs t)) (hij : i ≠ j) :
    ((w.setCell ⟨b, i, none⟩ x).setCell ⟨b, j, none⟩ y).heap = ((w.setCell ⟨b, j, none⟩ y).setCell ⟨b, i, none⟩ x).heap := by
  apply Array.ext_getElem?
  intro k
  by_cases hk : k = b
  · subst hk
    rw [heap_setCell_same _ _ _ _ _ _ (heap_setCell_same _ _ _ _ _ _ h), heap_setCell_same _ _ _ _ _ _ (heap_setCell_same _ _ _ _ _ _ h), Array.setIfInBounds_comm _ _ hij]
  · rw [heap_setCell_other _ _ _ _ (by simpa using hk), heap_setCell_other _ _ _ _ (by simpa using hk), heap_setCell_other _ _ _ _ (by simpa using hk), heap_setCell_other _ _ _ _ (by simpa using hk)]
set_option maxHeartbeats 1600000 in
theorem call_exit {w : World} {p q rb : Nat} {m : Ma} (h : MachAt w p q m) (hl : m.x.length = 32) (h17 : m.reg 17 = 3) (hr : 0 ≤ m.reg 10 ∧ m.reg 10 < 18446744073709551616)
    (c0 : w.cell? ⟨rb, 0, none⟩ = some (.pointer (some ⟨p, 0, none⟩))) :
    Calls Tryd.prog 46 #[.pointer (some ⟨rb, 0, none⟩)] w fun e w' => e = .returned (.bool true) ∧ Alike2 w' ((w.setCell ⟨p, 34, none⟩ (.int .i64 1)).setCell ⟨p, 35, none⟩ (.int .u8 (m.reg 10 % 256))) := by
  have cx' := h.cx hl (k := 17) (by omega)
  rw [h17] at cx'
  have cx := h.cx hl (k := 10) (by omega)
  have cs := h.cst hl
  have cd := h.ccd hl
  have fs := h.fr 34
  have fd := h.fr 35
  have lp := h.lp
  have hb := h.1
  clear h h17
  generalize m.reg 10 = v at *
  go_enter Tryd.func46, Tryd.ntmps46
  go_wp2_with (go_at_call 24; refine (reg_in p 17 _ _ (by omega) cx').mono ?_; rintro e w1 ⟨rfl, rfl⟩)
  go_region_with ((go_at_call 24; refine (reg_in p 10 v _ (by omega) (by go_simp)).mono ?_; rintro e w9 ⟨rfl, rfl⟩))
  all_goals
    go_wp2
    go_ret
    first | exact ⟨rfl, rfl, rfl, rfl, rfl⟩ | exact ⟨rfl, rfl, rfl, rfl, setCell_comm hb (by omega)⟩
set_option maxHeartbeats 1600000 in
theorem call_take0 {w : World} {p q rb : Nat} {m : Ma} {A : Option Addr} {c : Nat} (h : MachAt w p q m) (hl : m.x.length = 32) (h17 : m.reg 17 = 2)
    (c0 : w.cell? ⟨rb, 0, none⟩ = some (.pointer (some ⟨p, 0, none⟩))) (c7 : w.cell? ⟨rb, 7, none⟩ = some (.slice A 0 c)) :
    Calls Tryd.prog 46 #[.pointer (some ⟨rb, 0, none⟩)] w fun e w' => e = .returned (.bool true) ∧ Alike2 w' (setW w p 10 18446744073709551615) := by
  have cx' := h.cx hl (k := 17) (by omega)
  rw [h17] at cx'
  have cx := h.cx hl (k := 10) (by omega)
  have fx := h.fr 11
  have lp := h.lp
  clear h h17
  generalize m.reg 10 = v at *
  go_enter Tryd.func46, Tryd.ntmps46
  go_wp2_with (go_at_call 24; refine (reg_in p 17 _ _ (by omega) cx').mono ?_; rintro e w1 ⟨rfl, rfl⟩)
  go_region_with (first | (go_at_call 61; refine (next_none (A := A) (c := c) (by go_simp)).mono ?_; rintro e w9 ⟨rfl, rfl⟩) | (go_at_call 19; refine (set_in p 10 _ v _ (by omega) (by omega) (by go_simp) (by go_simp)).mono ?_; rintro e w9 ⟨rfl, rfl⟩))
  all_goals
    go_wp2
    go_ret
    exact ⟨rfl, rfl, rfl, rfl, rfl⟩
set_option maxHeartbeats 1600000 in
theorem call_take1 {w : World} {p q rb ib off n c : Nat} {m : Ma} {A : Option Addr} (b : Int) (HA : Hid ((if c = 1 then some (⟨ib, off, none⟩ : Addr) else some ⟨ib, off + 1, none⟩) = A)) (hb : 0 ≤ b ∧ b < 256) (hn : n + 1 ≤ c) (h : MachAt w p q m) (hl : m.x.length = 32) (h17 : m.reg 17 = 2) (hpr : p ≠ rb)
    (c0 : w.cell? ⟨rb, 0, none⟩ = some (.pointer (some ⟨p, 0, none⟩))) (c7 : w.cell? ⟨rb, 7, none⟩ = some (.slice (some ⟨ib, off, none⟩) (n + 1 : Nat) c)) (f7 : w.frozen? ⟨rb, 7, none⟩ = false) (ci : w.cell? ⟨ib, off, none⟩ = some (.int .u8 b)) :
    Calls Tryd.prog 46 #[.pointer (some ⟨rb, 0, none⟩)] w fun e w' => e = .returned (.bool true) ∧ Alike2 w' ((w.setCell ⟨rb, 7, none⟩ (.slice A n (c - 1))).setCell ⟨p, 11, none⟩ (.int .u64 b)) := by
  have cx' := h.cx hl (k := 17) (by omega)
  rw [h17] at cx'
  have cx := h.cx hl (k := 10) (by omega)
  have fx := h.fr 11
  have lp := h.lp
  have hne := hpr
  have hne' := hpr.symm
  clear h h17
  generalize m.reg 10 = v at *
  go_enter Tryd.func46, Tryd.ntmps46
  go_wp2_with (go_at_call 24; refine (reg_in p 17 _ _ (by omega) cx').mono ?_; rintro e w1 ⟨rfl, rfl⟩)
  go_region_with (first | (go_at_call 61; refine (next_some (ib := ib) (off := off) (n := n) (c := c) b hb hn (by go_simp) (by go_simp) (by go_simp)).mono ?_; rintro e w9 ⟨rfl, rfl⟩; rw [HA.out]) | (go_at_call 19; refine (set_in p 10 _ v _ (by omega) (by omega) (by go_simp) (by go_simp)).mono ?_; rintro e w9 ⟨rfl, rfl⟩))
  all_goals
    go_wp2
    go_ret
    exact ⟨rfl, rfl, rfl, rfl, rfl⟩
end Go.Proofs.YtoehfncgkkfdeaaDoor
