/- A field of a struct, in the program and in the document. Conditions: each theorem's. -/
import Derived.Test.YtlghhailckoonabLayX
import Derived.Test.YtlghhailckoonabLayV
namespace Go.Proofs.Ytlghhailckoonab
open Go.RowKit Go.Maps
set_option linter.unusedVariables false
set_option linter.unusedSimpArgs false
set_option maxRecDepth 10000
open Py
set_option maxHeartbeats 4000000 in
theorem field_no1 {w : World} {B : Nat} {A : Option Addr} {c : Nat} {l : List Sc} (nm fn : ByteArray) (hS : ScsAt w B A l) (hB : B ≤ w.heap.size) (hl : l.length ≤ 1099511627776) (hi : sIdx l nm < 0) :
    Calls Try.prog 17 #[.slice A l.length c, .string nm, .string fn] w fun e w' => e = .returned (.tuple #[.agg #[.int .i64 0, .int .i64 0, .string ⟨#[]⟩], .int .i64 0, .int .i64 13]) ∧ Below w.heap.size w w' := by
  have hb0 := (Below.refl w.heap.size w).alloc (Nat.le_refl _) (.cells #[.int .i64 0, .int .i64 0, .string ⟨#[]⟩] 43)
  have h1 : decide (sIdx l nm < 0) = true := decide_eq_true hi
  go_enter Try.func17, Try.ntmps17
  go_wp2_with fail
  refine (findStruct_any nm (hS.keep hb0 hB) (by simp only [szA]; omega) hl).mono ?_
  rintro e w2 ⟨rfl, h2⟩
  have hb2 := hb0.trans (h2.mono (by simp only [szA]; omega))
  have h4 := row_below2 h2 (heap_alloc_new w (.cells #[.int .i64 0, .int .i64 0, .string ⟨#[]⟩] 43)) (by simp)
  obtain ⟨r0, r1, r2⟩ := sc_cells3 h4
  obtain ⟨s0, s1, s2⟩ := sc_frozen3 h4
  go_wp2
  have a1 := heap_setCell_same _ w.heap.size 0 _ _ (.int .i64 0) h4
  have a2 := heap_setCell_same _ w.heap.size 1 _ _ (.int .i64 0) a1
  have a3 := heap_setCell_same _ w.heap.size 2 _ _ (.string ⟨#[]⟩) a2
  exact bodyPost_ret (v := .tuple #[.agg #[.int .i64 0, .int .i64 0, .string ⟨#[]⟩], .int .i64 0, .int .i64 13]) (res_cell_tmp3 Try.results17 _ _ w.heap.size 43 _ (0, 0) _ _ _ rfl rfl rfl a3 Try.underlying43 rfl sizeTy) rfl ⟨rfl, ((hb2.setCell (Nat.le_refl _) _).setCell (Nat.le_refl _) _).setCell (Nat.le_refl _) _⟩
set_option maxHeartbeats 4000000 in
theorem field_no2 {w : World} {B i : Nat} {A : Option Addr} {c : Nat} {l : List Sc} (nm fn : ByteArray) (hS : ScsAt w B A l) (hB : B ≤ w.heap.size) (hl : l.length ≤ 1099511627776) (hi : sIdx l nm = i) (hf40 : (l.getD i sc0).fs.length ≤ 1048576) (hk : fIdx (l.getD i sc0).fs fn < 0) :
    Calls Try.prog 17 #[.slice A l.length c, .string nm, .string fn] w fun e w' => e = .returned (.tuple #[.agg #[.int .i64 0, .int .i64 0, .string ⟨#[]⟩], .int .i64 0, .int .i64 13]) ∧ Below w.heap.size w w' := by
  have hb0 := (Below.refl w.heap.size w).alloc (Nat.le_refl _) (.cells #[.int .i64 0, .int .i64 0, .string ⟨#[]⟩] 43)
  have hir : i < l.length := by have := (idx_range (fun s : Sc => s.nm.toList == nm.toList) l).2; rw [show idx (fun s : Sc => s.nm.toList == nm.toList) l = (i : Int) from hi] at this; omega
  have h1 : decide ((i : Int) < 0) = false := decide_eq_false (by omega)
  go_enter Try.func17, Try.ntmps17
  go_wp2_with fail
  refine (findStruct_any nm (hS.keep hb0 hB) (by simp only [szA]; omega) hl).mono ?_
  rintro e w2 ⟨rfl, h2⟩
  rw [hi]
  have hb2 := hb0.trans (h2.mono (by simp only [szA]; omega))
  have h4 := row_below2 h2 (heap_alloc_new w (.cells #[.int .i64 0, .int .i64 0, .string ⟨#[]⟩] 43)) (by simp)
  have hS2 := hS.keep hb2 hB
  obtain ⟨g, o, rfl, hg, hrg⟩ := hS2 (by omega)
  obtain ⟨fA, fc, hf1, hf2, hr, hfd⟩ := hrg i hir
  have hc1 : w2.cell? ⟨g, o + i * 3 + 1, none⟩ = some (.slice fA (l.getD i sc0).fs.length fc) := hr 1 _ rfl
  have dj0 : (0 : Int) ≤ (i : Int) := by omega
  have dj1 : (i : Int) < (l.length : Int) := by omega
  have hz2 := hb2.size
  have h1k : decide (fIdx (l.getD i sc0).fs fn < 0) = true := decide_eq_true hk
  clear hrg hr h2 hb0 hir hk
  generalize l.getD i sc0 = s at *
  go_wp2_with fail
  refine (findField_any fn hfd (by omega) (by omega)).mono ?_
  rintro e w3 ⟨rfl, h3⟩
  have hb3 := hb2.trans (h3.mono hb2.size)
  have h43 := row_below2 h3 h4 (lt_of_row h4)
  obtain ⟨r0, r1, r2⟩ := sc_cells3 h43
  obtain ⟨s0, s1, s2⟩ := sc_frozen3 h43
  clear h3 h4 hfd hc1 hb2
  go_wp2
  have a1 := heap_setCell_same _ w.heap.size 0 _ _ (.int .i64 0) h43
  have a2 := heap_setCell_same _ w.heap.size 1 _ _ (.int .i64 0) a1
  have a3 := heap_setCell_same _ w.heap.size 2 _ _ (.string ⟨#[]⟩) a2
  exact bodyPost_ret (v := .tuple #[.agg #[.int .i64 0, .int .i64 0, .string ⟨#[]⟩], .int .i64 0, .int .i64 13]) (res_cell_tmp3 Try.results17 _ _ w.heap.size 43 _ (0, 0) _ _ _ rfl rfl rfl a3 Try.underlying43 rfl sizeTy) rfl ⟨rfl, ((hb3.setCell (Nat.le_refl _) _).setCell (Nat.le_refl _) _).setCell (Nat.le_refl _) _⟩
set_option maxHeartbeats 4000000 in
theorem rfield_no1 {w : World} {B : Nat} {A : Option Addr} {c : Nat} {l : List Sc} (nm fn : ByteArray) (hS : ScsAt w B A l) (hB : B ≤ w.heap.size) (hl : l.length ≤ 1099511627776) (hi : sIdx l nm < 0) :
    Calls Try.prog 18 #[.slice A l.length c, .string nm, .string fn] w fun e w' => e = .returned (.tuple #[.agg #[.int .i64 0, .int .i64 0, .string ⟨#[]⟩], .int .i64 0, .bool false]) ∧ Below w.heap.size w w' := by
  have hb0 := (Below.refl w.heap.size w).alloc (Nat.le_refl _) (.cells #[.int .i64 0, .int .i64 0, .string ⟨#[]⟩] 43)
  have h1 : decide (0 ≤ sIdx l nm) = false := decide_eq_false (by omega)
  go_enter Try.func18, Try.ntmps18
  go_wp2_with fail
  refine (find_any nm (hS.keep hb0 hB) (by simp only [szA]; omega) hl).mono ?_
  rintro e w2 ⟨v, rfl, hv, h2⟩
  rw [h1]
  obtain ⟨fA, fc, rfl, -⟩ := hv
  have hb2 := hb0.trans (h2.mono (by simp only [szA]; omega))
  have h4 := row_below2 h2 (heap_alloc_new w (.cells #[.int .i64 0, .int .i64 0, .string ⟨#[]⟩] 43)) (by simp)
  have hb3 := hb2.alloc hb2.size (.cells #[.string (fnd l nm).nm, .slice fA (fnd l nm).fs.length fc, .int .i64 (fnd l nm).at_] 37)
  have h5 := row_below2 ((Below.refl w2.heap.size w2).alloc (Nat.le_refl _) (.cells #[.string (fnd l nm).nm, .slice fA (fnd l nm).fs.length fc, .int .i64 (fnd l nm).at_] 37)) h4 (lt_of_row h4)
  obtain ⟨r0, r1, r2⟩ := sc_cells3 h5
  obtain ⟨s0, s1, s2⟩ := sc_frozen3 h5
  go_wp2
  have a1 := heap_setCell_same _ w.heap.size 0 _ _ (.int .i64 0) h5
  have a2 := heap_setCell_same _ w.heap.size 1 _ _ (.int .i64 0) a1
  have a3 := heap_setCell_same _ w.heap.size 2 _ _ (.string ⟨#[]⟩) a2
  exact bodyPost_ret (v := .tuple #[.agg #[.int .i64 0, .int .i64 0, .string ⟨#[]⟩], .int .i64 0, .bool false]) (res_cell_tmp3 Try.results18 _ _ w.heap.size 43 _ (0, 0) _ _ _ rfl rfl rfl a3 Try.underlying43 rfl sizeTy) rfl ⟨rfl, ((hb3.setCell (Nat.le_refl _) _).setCell (Nat.le_refl _) _).setCell (Nat.le_refl _) _⟩
end Go.Proofs.Ytlghhailckoonab
