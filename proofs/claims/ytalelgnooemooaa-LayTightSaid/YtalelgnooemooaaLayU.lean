/- Package lay: the size of a field's type, a field's place; structs that are right. Conditions: each theorem's. -/
import Derived.Test.YtalelgnooemooaaLayF
import Derived.Test.YtalelgnooemooaaLayQ
namespace Go.Proofs.Ytalelgnooemooaa
open Go.RowKit Go.Maps
set_option linter.unusedVariables false
set_option linter.unusedSimpArgs false
set_option maxRecDepth 10000
open Py
def rightV (l : List Sc) : Bool := few l && ((chk l).2 == 0)
theorem few_len' {l : List Sc} (h : few l = true) : l.length ≤ 40 := by
  unfold few at h
  have := (Bool.and_eq_true_iff.1 h).1
  simpa using this
set_option maxHeartbeats 1000000 in
theorem right_any {w : World} {B : Nat} {A : Option Addr} {c : Nat} {l : List Sc} (hS : ScsAt w B A l) (hB : B ≤ w.heap.size) (hlc : l.length ≤ c) (hcm : c ≤ maxLen) :
    Calls Try.prog 7 #[.slice A l.length c] w fun e w' => e = .returned (.bool (rightV l)) ∧ Below w.heap.size w w' := by
  rw [show rightV l = (few l && ((chk l).2 == 0)) from rfl]
  go_enter Try.func7, Try.ntmps7
  go_wp2_with fail
  refine (few_any hS hB).mono ?_
  rintro e w2 ⟨rfl, h2⟩
  cases hf : few l
  · go_wp2
    go_ret
    exact ⟨by rw [hf]; rfl, h2⟩
  · have hl := few_len' hf
    go_wp2_with fail
    refine (rcheck_any (hS.keep h2 hB) (Nat.le_trans hB h2.size) (by omega) hlc hcm).mono ?_
    rintro e w3 ⟨rfl, h3⟩
    go_wp2
    go_ret
    exact ⟨by rw [hf]; rfl, h2.trans (h3.mono h2.size)⟩
set_option maxHeartbeats 2000000 in
theorem size_fld {w : World} {B : Nat} {A : Option Addr} {c : Nat} {l : List Sc} (t : Ty) (hS : ScsAt w B A l) (hB : B ≤ w.heap.size) (hl : l.length ≤ 1099511627776) (hk : known l t = true) (h0 : t.ba ≠ 0) (hw : whole t = false) (ht : tyOk t) :
    Calls Try.prog 10 #[.slice A l.length c, .agg #[.int .i64 t.ba, .int .i64 t.st, .string t.sn]] w fun e w' => e = .returned (.tuple #[.int .i64 (sizeV t), .int .i64 0]) ∧ Below w.heap.size w w' := by
  have hb0 := (Below.refl w.heap.size w).alloc (Nat.le_refl _) (.cells #[.int .i64 t.ba, .int .i64 t.st, .string t.sn] 24)
  have h0' : (t.ba == 0) = false := by simpa using h0
  have hx := heap_alloc_new w (.cells #[.int .i64 t.ba, .int .i64 t.st, .string t.sn] 24)
  go_enter Try.func10, Try.ntmps10
  go_wp2_with fail
  refine (known_any t (hS.keep hb0 hB) (by simp only [szA]; omega) hl).mono ?_
  rintro e w2 ⟨rfl, h2⟩
  rw [hk]
  have hb2 := hb0.trans (h2.mono (by simp only [szA]; omega))
  have hx2 := row_below2 h2 hx (by simp)
  obtain ⟨c0, c1, c2⟩ := sc_cells3 hx2
  go_wp2_with fail
  refine (isWhole_any t w2).mono ?_
  rintro e w3 ⟨rfl, h3⟩
  rw [hw]
  have hb3 := hb2.trans (h3.mono hb2.size)
  have hx3 := row_below2 h3 hx2 (lt_of_row hx2)
  obtain ⟨d0, d1, d2⟩ := sc_cells3 hx3
  have hl3 := lt_of_row hx3
  clear c0 c1 c2
  go_wp2_with fail
  go_region_held3 (fun W => W.cell? ⟨w.heap.size, 0, none⟩ = some (.int .i64 t.ba) ∧ W.cell? ⟨w.heap.size, 1, none⟩ = some (.int .i64 t.st) ∧ W.cell? ⟨w.heap.size, 2, none⟩ = some (.string t.sn)) (first | go_keep | (simp [*])) (first
    | (go_at_call 21; refine (numbers_any _).mono ?_; rintro e w4 ⟨rfl, hN4, hb4⟩; obtain ⟨p0, p1, p2⟩ := sc_cells3 (row_below2 hb4 (show w3.drew.heap[w.heap.size]? = _ from hx3) hl3))
    | (go_at_call 22; refine (of_any t hN4 ht).mono ?_; rintro e w5 ⟨rfl, hb5⟩; obtain ⟨q0, q1, q2⟩ := sc_cells3 (row_below2 hb5 (row_below2 hb4 (show w3.drew.heap[w.heap.size]? = _ from hx3) hl3) (by have h9 : w3.heap.size ≤ w4.heap.size := hb4.size; omega))))
  go_wp2
  go_ret2
  have hb34 : Below w3.heap.size w3 w4 := (Below.refl w3.heap.size w3).drew.trans hb4
  exact ⟨rfl, (hb3.trans (hb34.mono hb3.size)).trans (hb5.mono (by have := hb3.size; have h9 := hb34.size; omega))⟩
end Go.Proofs.Ytalelgnooemooaa
