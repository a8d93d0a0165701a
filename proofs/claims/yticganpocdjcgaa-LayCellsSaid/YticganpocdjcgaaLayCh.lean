/- The document's cells where there are none; places of no fields. Conditions: each theorem's. -/
import Derived.Test.YticganpocdjcgaaLayC0
namespace Go.Proofs.Yticganpocdjcgaa
open Go.RowKit Go.Maps
set_option linter.unusedVariables false
set_option linter.unusedSimpArgs false
set_option maxRecDepth 10000
open Py
set_option maxHeartbeats 1000000 in
theorem rcells_range {w : World} {A : Option Addr} {L c : Nat} (t : Ty) (n : Int) (hn : n < 0 ∨ 500 < n) :
    Calls Try.prog 9 #[.slice A L c, .agg #[.int .i64 t.ba, .int .i64 t.st, .string t.sn], .int .i64 n] w fun e w' => e = .returned (.tuple #[.slice none 0 0, .int .i64 1]) ∧ Below w.heap.size w w' := by
  have hb0 := (Below.refl w.heap.size w).alloc (Nat.le_refl _) (.cells #[.int .i64 t.ba, .int .i64 t.st, .string t.sn] 24)
  go_enter Try.func9, Try.ntmps9
  by_cases h0 : n < 0
  · have hn0 : decide (n < 0) = true := decide_eq_true h0
    go_wp2
    go_ret2
    exact ⟨rfl, hb0⟩
  · have hn0 : decide (n < 0) = false := decide_eq_false h0
    have hn5 : decide (500 < n) = true := decide_eq_true (by omega)
    go_wp2
    go_ret2
    exact ⟨rfl, hb0⟩
set_option maxHeartbeats 1000000 in
theorem rcells_no {w : World} {B : Nat} {A : Option Addr} {c : Nat} {l : List Sc} (t : Ty) (n : Int) (hS : ScsAt w B A l) (hB : B ≤ w.heap.size) (hn : 0 ≤ n ∧ n ≤ 500)
    (hsize : ∀ W : World, ScsAt W B A l → B ≤ W.heap.size → Calls Try.prog 15 #[.slice A l.length c, .agg #[.int .i64 t.ba, .int .i64 t.st, .string t.sn]] W fun e w' => (∃ z, e = .returned (.tuple #[.int .i64 z, .bool false])) ∧ Below W.heap.size W w') :
    Calls Try.prog 9 #[.slice A l.length c, .agg #[.int .i64 t.ba, .int .i64 t.st, .string t.sn], .int .i64 n] w fun e w' => e = .returned (.tuple #[.slice none 0 0, .int .i64 14]) ∧ Below w.heap.size w w' := by
  have hb0 := (Below.refl w.heap.size w).alloc (Nat.le_refl _) (.cells #[.int .i64 t.ba, .int .i64 t.st, .string t.sn] 24)
  have hx := heap_alloc_new w (.cells #[.int .i64 t.ba, .int .i64 t.st, .string t.sn] 24)
  obtain ⟨a0, a1, a2⟩ := sc_cells3 hx
  have HSZ := Lib.hid hsize
  clear hsize
  have hn0 : decide (n < 0) = false := decide_eq_false (by omega)
  have hn5 : decide (500 < n) = false := decide_eq_false (by omega)
  go_enter Try.func9, Try.ntmps9
  go_wp2_with fail
  refine (HSZ.out _ (hS.keep hb0 hB) (by simp only [szA]; omega)).mono ?_
  rintro e w1 ⟨⟨z, rfl⟩, h1⟩
  have hb1 := hb0.trans (h1.mono (by simp only [szA]; omega))
  go_wp2
  go_ret2
  exact ⟨rfl, hb1⟩
set_option maxHeartbeats 2000000 in
theorem places_nil {w : World} {fA : Option Addr} {fc : Nat} (nm : ByteArray) (sat : Int) :
    Calls Try.prog 17 #[.agg #[.string nm, .slice fA 0 fc, .int .i64 sat]] w fun e w' => e = .returned (.tuple #[.slice none 0 0, .int .i64 0, .int .i64 1]) ∧ Below w.heap.size w w' := by
  have hb0 := (Below.refl w.heap.size w).alloc (Nat.le_refl _) (.cells #[.string nm, .slice fA 0 fc, .int .i64 sat] 45)
  have hx := heap_alloc_new w (.cells #[.string nm, .slice fA 0 fc, .int .i64 sat] 45)
  obtain ⟨a0, a1, a2⟩ := sc_cells3 hx
  go_enter Try.func17, Try.ntmps17
  go_wp2_with fail
  go_loopw [5, 6, 7, 13] (fun s5 s6 s7 k wr => s5 = .slice none 0 0 ∧ s6 = .int .i64 0 ∧ s7 = .int .i64 1 ∧ k = .int .i64 0 ∧ Below w.heap.size w wr) (fun _ _ _ _ _ => 0)
  case atStart => exact ⟨rfl, rfl, rfl, rfl, hb0⟩
  case round =>
    obtain ⟨rfl, rfl, rfl, rfl, hbe⟩ := hrel
    go_wp2_with fail
    go_loopw [6] (fun s6 wr => s6 = .int .i64 0 ∧ Below w.heap.size w wr) (fun _ _ => 0)
    case atStart => exact ⟨rfl, hbe⟩
    case round =>
      obtain ⟨rfl, hbe⟩ := hrel
      go_wp2
      go_ret3
      exact ⟨rfl, hbe⟩
end Go.Proofs.Yticganpocdjcgaa
