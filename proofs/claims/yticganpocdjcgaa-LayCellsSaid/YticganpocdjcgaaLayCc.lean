/- The document's sizes of any type. Conditions: each theorem's. -/
import Derived.Test.YticganpocdjcgaaLayPl
namespace Go.Proofs.Yticganpocdjcgaa
open Go.RowKit Go.Maps
set_option linter.unusedVariables false
set_option linter.unusedSimpArgs false
set_option maxRecDepth 10000
open Py
set_option maxHeartbeats 1000000 in
theorem rsize_no {w : World} {B : Nat} {A : Option Addr} {c : Nat} {l : List Sc} (t : Ty) (hS : ScsAt w B A l) (hB : B ≤ w.heap.size) (hl : l.length ≤ 1099511627776) (hk : known l t = false) :
    Calls Try.prog 15 #[.slice A l.length c, .agg #[.int .i64 t.ba, .int .i64 t.st, .string t.sn]] w fun e w' => e = .returned (.tuple #[.int .i64 0, .bool false]) ∧ Below w.heap.size w w' := by
  have hb0 := (Below.refl w.heap.size w).alloc (Nat.le_refl _) (.cells #[.int .i64 t.ba, .int .i64 t.st, .string t.sn] 24)
  have hx := heap_alloc_new w (.cells #[.int .i64 t.ba, .int .i64 t.st, .string t.sn] 24)
  go_enter Try.func15, Try.ntmps15
  go_wp2_with fail
  refine (rknown_any t (hS.keep hb0 hB) (by simp only [szA]; omega) hl).mono ?_
  rintro e w2 ⟨rfl, h2⟩
  rw [hk]
  have hb2 := hb0.trans (h2.mono (by simp only [szA]; omega))
  go_wp2
  go_ret2
  exact ⟨rfl, hb2⟩
set_option maxHeartbeats 1000000 in
theorem rsize_plain {w : World} {B : Nat} {A : Option Addr} {c : Nat} {l : List Sc} (t : Ty) (hS : ScsAt w B A l) (hB : B ≤ w.heap.size) (hl : l.length ≤ 1099511627776) (hk : known l t = true) (hw : (small t == 0) = false ∨ (t.ba == 4) = false) :
    Calls Try.prog 15 #[.slice A l.length c, .agg #[.int .i64 t.ba, .int .i64 t.st, .string t.sn]] w fun e w' => e = .returned (.tuple #[.int .i64 (small t), .bool (decide (0 < small t))]) ∧ Below w.heap.size w w' := by
  have hb0 := (Below.refl w.heap.size w).alloc (Nat.le_refl _) (.cells #[.int .i64 t.ba, .int .i64 t.st, .string t.sn] 24)
  have hx := heap_alloc_new w (.cells #[.int .i64 t.ba, .int .i64 t.st, .string t.sn] 24)
  go_enter Try.func15, Try.ntmps15
  go_wp2_with fail
  refine (rknown_any t (hS.keep hb0 hB) (by simp only [szA]; omega) hl).mono ?_
  rintro e w2 ⟨rfl, h2⟩
  rw [hk]
  have hb2 := hb0.trans (h2.mono (by simp only [szA]; omega))
  have hx2 := row_below2 h2 hx (by simp)
  obtain ⟨c0, c1, c2⟩ := sc_cells3 hx2
  go_wp2_with fail
  refine (small_any t w2).mono ?_
  rintro e w3 ⟨rfl, h3⟩
  have hb3 := hb2.trans (h3.mono hb2.size)
  have hx3 := row_below2 h3 hx2 (lt_of_row hx2)
  obtain ⟨d0, d1, d2⟩ := sc_cells3 hx3
  clear c0 c1 c2
  generalize hsmm : small t = n at *
  cases h1 : (n == 0)
  · go_wp2
    go_ret2
    exact ⟨by rw [hsmm]; rfl, hb3⟩
  · have h2 : (t.ba == 4) = false := by rcases hw with h | h; · rw [h] at h1; cases h1
                                        · exact h
    go_wp2
    go_ret2
    exact ⟨by rw [hsmm]; rfl, hb3⟩
set_option maxHeartbeats 1000000 in
theorem rsize_whole {w : World} {B i : Nat} {A : Option Addr} {c : Nat} {l : List Sc} (t : Ty) (hS : ScsAt w B A l) (hB : B ≤ w.heap.size) (hl : l.length ≤ 1099511627776) (hk : known l t = true) (h0 : small t = 0) (h4 : (t.ba == 4) = true) (hi : sIdx l t.sn = i) (hf40 : (l.getD i sc0).fs.length ≤ 1048576) (hsm : ∀ k, k < (l.getD i sc0).fs.length → small ((l.getD i sc0).fs.getD k fd0).ty = sizeV ((l.getD i sc0).fs.getD k fd0).ty) (hz : ∀ k, k < (l.getD i sc0).fs.length → sizeV ((l.getD i sc0).fs.getD k fd0).ty = 1 ∨ sizeV ((l.getD i sc0).fs.getD k fd0).ty = 4 ∨ sizeV ((l.getD i sc0).fs.getD k fd0).ty = 8) (hn : 0 < (l.getD i sc0).fs.length) :
    Calls Try.prog 15 #[.slice A l.length c, .agg #[.int .i64 t.ba, .int .i64 t.st, .string t.sn]] w fun e w' => e = .returned (.tuple #[.int .i64 (layV (l.getD i sc0).fs).size, .bool (decide (0 < (layV (l.getD i sc0).fs).size))]) ∧ Below w.heap.size w w' := by
  have hb0 := (Below.refl w.heap.size w).alloc (Nat.le_refl _) (.cells #[.int .i64 t.ba, .int .i64 t.st, .string t.sn] 24)
  have hx := heap_alloc_new w (.cells #[.int .i64 t.ba, .int .i64 t.st, .string t.sn] 24)
  go_enter Try.func15, Try.ntmps15
  go_wp2_with fail
  refine (rknown_any t (hS.keep hb0 hB) (by simp only [szA]; omega) hl).mono ?_
  rintro e w2 ⟨rfl, h2⟩
  rw [hk]
  have hb2 := hb0.trans (h2.mono (by simp only [szA]; omega))
  have hx2 := row_below2 h2 hx (by simp)
  obtain ⟨c0, c1, c2⟩ := sc_cells3 hx2
  go_wp2_with fail
  refine (small_any t w2).mono ?_
  rintro e w3 ⟨rfl, h3⟩
  rw [h0]
  have hb3 := hb2.trans (h3.mono hb2.size)
  have hx3 := row_below2 h3 hx2 (lt_of_row hx2)
  obtain ⟨d0, d1, d2⟩ := sc_cells3 hx3
  clear c0 c1 c2
  go_wp2_with fail
  refine (find_any t.sn (hS.keep hb3 hB) (by have := hb3.size; omega) hl).mono ?_
  rintro e w4 ⟨v, rfl, hv, h5⟩
  rw [fnd_at hi] at hv
  obtain ⟨fA, fc, rfl, hfc, hfm, hfd⟩ := hv
  generalize hss : l.getD i sc0 = s at *
  have HSS := Lib.hid hss
  clear hss
  have hb4 := hb3.trans (h5.mono hb3.size)
  have hbB : Below w4.heap.size w4 (w4.alloc (.cells #[.string s.nm, .slice fA s.fs.length fc, .int .i64 s.at_] 45)) := (Below.refl w4.heap.size w4).alloc (Nat.le_refl _) _
  have hb5 := hb4.trans (hbB.mono hb4.size)
  have h6 := heap_alloc_new w4 (.cells #[.string s.nm, .slice fA s.fs.length fc, .int .i64 s.at_] 45)
  have hfdB := hfd.keep hbB (by have := hb4.size; omega)
  obtain ⟨e0, e1, e2⟩ := sc_cells3 h6
  go_wp2_with fail
  refine (places_any s.nm s.at_ hfdB (by have := hb5.size; omega) hf40 hsm hz hn).mono ?_
  rintro e w6 ⟨ov, rfl, hov, h7⟩
  have hb7 := hb5.trans (h7.mono hb5.size)
  obtain ⟨oA, on, oc, rfl⟩ := own_slice hov
  go_wp2
  go_ret2
  exact ⟨by rw [HSS.out]; rfl, hb7⟩
end Go.Proofs.Yticganpocdjcgaa
