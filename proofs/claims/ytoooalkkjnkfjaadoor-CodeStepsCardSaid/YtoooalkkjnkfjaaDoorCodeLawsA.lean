/- The laws of layer 2 that ask Encode alone: CodeApart, CodeFields: each answers true, of any arguments; at most new blocks in memory. Conditions: the table of forms as the program lays it, and that the arguments are of their Go types. -/
import Derived.Test.YtoooalkkjnkfjaaDoorCodeEncAny
import Derived.Test.YtoooalkkjnkfjaaDoorCodeUnpackH
namespace Go.Proofs.YtoooalkkjnkfjaaDoor
open Go.RowKit
set_option linter.unusedVariables false
set_option linter.unusedSimpArgs false
open Pc

set_option maxHeartbeats 1000000 in
theorem awake_any (w : World) (hF : FormsIn w) :
    Calls Tryd.prog 8 #[] w fun e w' => e = .returned (.bool true) ∧ Below w.heap.size w w' := by
  have a1 : encS 41 5 2 0 8 = 0 := by decide +kernel
  have a2 : encW 41 5 2 0 8 = 8467075 := by decide +kernel
  have b1 : encS 51 5 0 0 (-1) = 0 := by decide +kernel
  have b2 : encW 51 5 0 0 (-1) = 4294963895 := by decide +kernel
  have A1 := Lib.hid a1; have A2 := Lib.hid a2; have B1 := Lib.hid b1; have B2 := Lib.hid b2
  clear a1 a2 b1 b2
  go_enter Tryd.func8, Tryd.ntmps8
  go_wp2_with fail
  refine (encode_any 41 5 2 0 8 _ (by decide) hF).mono ?_
  rintro e w1 ⟨rfl, h1⟩
  rw [A1.out, A2.out]
  go_wp2_with fail
  refine (encode_any 51 5 0 0 (-1) _ (by decide) (hF.keep h1 (Nat.le_refl _))).mono ?_
  rintro e w2 ⟨rfl, h2⟩
  rw [B1.out, B2.out]
  go_wp2
  go_ret
  exact ⟨rfl, h1.trans (h2.mono h1.size)⟩

namespace Pc
theorem encS_zero {op rd r1 r2 n : Int} (h : encS op rd r1 r2 n = 0) : 1 ≤ op ∧ op ≤ 55 ∧ encSt (rowOf op).1 rd r1 r2 n = 0 ∧ encW op rd r1 r2 n = word (rowOf op).1 (rowOf op).2.1 (rowOf op).2.2.1 (rowOf op).2.2.2 rd r1 r2 n := by
  have h0 := h
  unfold encS at h
  split at h
  · rename_i hop
    exact ⟨hop.1, hop.2, h, by unfold encW; rw [if_pos h0]⟩
  · omega
theorem enc_apart {op rd r1 r2 n op' rd' r1' r2' n' : Int} (h : encS op rd r1 r2 n = 0) (h' : encS op' rd' r1' r2' n' = 0) (he : encW op rd r1 r2 n = encW op' rd' r1' r2' n') :
    op = op' ∧ rd = rd' ∧ r1 = r1' ∧ r2 = r2' ∧ n = n' := by
  obtain ⟨o1, o2, hs, hw⟩ := encS_zero h
  obtain ⟨o1', o2', hs', hw'⟩ := encS_zero h'
  obtain ⟨m, d1, d2, d3, d4, -⟩ := enc_dec _ _ _ _ rd r1 r2 n (rowOf_ok op o1 o2) hs
  obtain ⟨m', d1', d2', d3', d4', -⟩ := enc_dec _ _ _ _ rd' r1' r2' n' (rowOf_ok op' o1' o2') hs'
  rw [← hw] at m d1 d2 d3 d4
  rw [← hw', ← he] at m' d1' d2' d3' d4'
  obtain rfl := uniq op op' _ o1 o2 o1' o2' m m'
  exact ⟨rfl, d1.symm.trans d1', d2.symm.trans d2', d3.symm.trans d3', d4.symm.trans d4'⟩
theorem encW_range (op rd r1 r2 n : Int) : 0 ≤ encW op rd r1 r2 n ∧ encW op rd r1 r2 n < 4294967296 := by
  by_cases h : encS op rd r1 r2 n = 0
  · obtain ⟨o1, o2, hs, hw⟩ := encS_zero h
    have := enc_dec _ _ _ _ rd r1 r2 n (rowOf_ok op o1 o2) hs
    rw [hw]; exact ⟨this.2.2.2.2.2.1, this.2.2.2.2.2.2⟩
  · unfold encW; rw [if_neg h]; omega
end Pc
theorem retB {a : Bool} (h : a = true) : Ending.returned (.bool a) = .returned (.bool true) := by rw [h]

set_option maxHeartbeats 2000000 in
theorem apart_both (op rd r1 r2 n op' rd' r1' r2' n' : Int) (w : World) (hop : (Lit.int .i64 op).wf = true) (hop' : (Lit.int .i64 op').wf = true) (hF : FormsIn w) (he : Hid (encS op rd r1 r2 n = 0)) (he' : Hid (encS op' rd' r1' r2' n' = 0)) :
    Calls Tryd.prog 6 #[ins op rd r1 r2 n, ins op' rd' r1' r2' n'] w fun e w' => e = .returned (.bool true) ∧ Below w.heap.size w w' := by
  go_enter Tryd.func6, Tryd.ntmps6
  go_wp2_with fail
  refine (awake_any _ (hF.keep (below2 w _ _) (Nat.le_refl _))).mono ?_
  rintro e w1 ⟨rfl, h1⟩
  have G1 := row_at h1 (by simp only [szA]; omega) (heap_alloc2_old w (insB op rd r1 r2 n) (insB op' rd' r1' r2' n'))
  have G2 := row_at h1 (by simp only [szA]; omega) (heap_alloc2_new w (insB op rd r1 r2 n) (insB op' rd' r1' r2' n'))
  have hz1 : w.heap.size + 1 < w1.heap.size := by have := h1.size; simp only [szA] at this; omega
  have hB1 := (below2 w _ _).trans (h1.mono (by simp only [szA]; omega))
  have hF1 := hF.keep hB1 (Nat.le_refl _)
  clear h1
  have G1' := Lib.hid G1; have G2' := Lib.hid G2; clear G1 G2
  go_wp2_with ((refine wpList_load_g (o := ⟨some 12, _, _, _, _, _⟩) rfl 23 (.tmp 2) rfl w.heap.size rfl 23 _ (0, 0) _ (G1'.out) Tryd.underlying23 rfl sizeInstr ?_))
  refine (encode_any op rd r1 r2 n _ hop hF1).mono ?_
  rintro e w2 ⟨rfl, h2⟩
  have G3 := Lib.hid (row_at h2 (by omega) G1'.out)
  have G4 := Lib.hid (row_at h2 (by omega) G2'.out)
  have hz2 : w.heap.size + 1 < w2.heap.size := by have := h2.size; omega
  have hB2 := hB1.trans (h2.mono hB1.size)
  have hF2 := hF.keep hB2 (Nat.le_refl _)
  clear h2 hB1 hF1
  rw [he.out]
  generalize hW : encW op rd r1 r2 n = W at *
  have HW := Lib.hid hW; clear hW
  go_wp2_with ((refine wpList_load_g (o := ⟨some 17, _, _, _, _, _⟩) rfl 23 (.tmp 3) rfl (w.heap.size + 1) rfl 23 _ (0, 0) _ (G4.out) Tryd.underlying23 rfl sizeInstr ?_))
  refine (encode_any op' rd' r1' r2' n' _ hop' hF2).mono ?_
  rintro e w3 ⟨rfl, h3⟩
  rw [he'.out]
  have HN : Hid (W = encW op' rd' r1' r2' n' → op = op' ∧ rd = rd' ∧ r1 = r1' ∧ r2 = r2' ∧ n = n') := Lib.hid fun hE => enc_apart he.out he'.out (HW.out.trans hE)
  have HE : Hid (op = op' ∧ rd = rd' ∧ r1 = r1' ∧ r2 = r2' ∧ n = n' → W = encW op' rd' r1' r2' n') := Lib.hid fun ⟨e1, e2, e3, e4, e5⟩ => by rw [← HW.out, e1, e2, e3, e4, e5]
  generalize hW' : encW op' rd' r1' r2' n' = W' at *
  have HW' := Lib.hid hW'; clear hW'
  have G5 := Lib.hid (row_at h3 (by omega) G3.out)
  have G6 := Lib.hid (row_at h3 (by omega) G4.out)
  go_wp2_with (first | (refine wpList_load_g (o := ⟨some 31, _, _, _, _, _⟩) rfl 23 (.tmp 2) rfl w.heap.size rfl 23 _ (0, 0) _ (G5.out) Tryd.underlying23 rfl sizeInstr ?_) | (refine wpList_load_g (o := ⟨some 32, _, _, _, _, _⟩) rfl 23 (.tmp 3) rfl (w.heap.size + 1) rfl 23 _ (0, 0) _ (G6.out) Tryd.underlying23 rfl sizeInstr ?_))
  all_goals
    have HB := hB2.trans (h3.mono hB2.size)
    go_ret
    refine ⟨retB ?_, HB⟩
    by_cases hE : W = W'
    · obtain ⟨e1, e2, e3, e4, e5⟩ := HN.out hE
      first | (simp [hE]; done) | (exfalso; omega)
    · first | (simp [hE]; done) | (exfalso; exact hE (HE.out ⟨by omega, by omega, by omega, by omega, by omega⟩))

set_option maxHeartbeats 2000000 in
theorem apart_first (op rd r1 r2 n op' rd' r1' r2' n' : Int) (w : World) (hop : (Lit.int .i64 op).wf = true) (hop' : (Lit.int .i64 op').wf = true) (hF : FormsIn w) (hne : encS op rd r1 r2 n ≠ 0) :
    Calls Tryd.prog 6 #[ins op rd r1 r2 n, ins op' rd' r1' r2' n'] w fun e w' => e = .returned (.bool true) ∧ Below w.heap.size w w' := by
  go_enter Tryd.func6, Tryd.ntmps6
  go_wp2_with fail
  refine (awake_any _ (hF.keep (below2 w _ _) (Nat.le_refl _))).mono ?_
  rintro e w1 ⟨rfl, h1⟩
  have G1 := row_at h1 (by simp only [szA]; omega) (heap_alloc2_old w (insB op rd r1 r2 n) (insB op' rd' r1' r2' n'))
  have G2 := row_at h1 (by simp only [szA]; omega) (heap_alloc2_new w (insB op rd r1 r2 n) (insB op' rd' r1' r2' n'))
  have hz1 : w.heap.size + 1 < w1.heap.size := by have := h1.size; simp only [szA] at this; omega
  have hB1 := (below2 w _ _).trans (h1.mono (by simp only [szA]; omega))
  have hF1 := hF.keep hB1 (Nat.le_refl _)
  clear h1
  have G1' := Lib.hid G1; have G2' := Lib.hid G2; clear G1 G2
  go_wp2_with ((refine wpList_load_g (o := ⟨some 12, _, _, _, _, _⟩) rfl 23 (.tmp 2) rfl w.heap.size rfl 23 _ (0, 0) _ (G1'.out) Tryd.underlying23 rfl sizeInstr ?_))
  refine (encode_any op rd r1 r2 n _ hop hF1).mono ?_
  rintro e w2 ⟨rfl, h2⟩
  have G3 := Lib.hid (row_at h2 (by omega) G1'.out)
  have G4 := Lib.hid (row_at h2 (by omega) G2'.out)
  have hz2 : w.heap.size + 1 < w2.heap.size := by have := h2.size; omega
  have hB2 := hB1.trans (h2.mono hB1.size)
  have hF2 := hF.keep hB2 (Nat.le_refl _)
  clear h2 hB1 hF1
  generalize encW op rd r1 r2 n = W at *
  have hb : (encS op rd r1 r2 n == 0) = false := by simp [hne]
  have hb' : (encS op rd r1 r2 n != 0) = true := by simp [hne]
  generalize encS op rd r1 r2 n = S at *
  have Hne := Lib.hid hne; clear hne
  go_wp2_with ((refine wpList_load_g (o := ⟨some 17, _, _, _, _, _⟩) rfl 23 (.tmp 3) rfl (w.heap.size + 1) rfl 23 _ (0, 0) _ (G4.out) Tryd.underlying23 rfl sizeInstr ?_))
  refine (encode_any op' rd' r1' r2' n' _ hop' hF2).mono ?_
  rintro e w3 ⟨rfl, h3⟩
  generalize encW op' rd' r1' r2' n' = W' at *
  generalize encS op' rd' r1' r2' n' = S' at *
  go_wp2
  go_ret
  exact ⟨rfl, hB2.trans (h3.mono hB2.size)⟩

set_option maxHeartbeats 2000000 in
theorem apart_second (op rd r1 r2 n op' rd' r1' r2' n' : Int) (w : World) (hop : (Lit.int .i64 op).wf = true) (hop' : (Lit.int .i64 op').wf = true) (hF : FormsIn w) (he : Hid (encS op rd r1 r2 n = 0)) (hne : encS op' rd' r1' r2' n' ≠ 0) :
    Calls Tryd.prog 6 #[ins op rd r1 r2 n, ins op' rd' r1' r2' n'] w fun e w' => e = .returned (.bool true) ∧ Below w.heap.size w w' := by
  go_enter Tryd.func6, Tryd.ntmps6
  go_wp2_with fail
  refine (awake_any _ (hF.keep (below2 w _ _) (Nat.le_refl _))).mono ?_
  rintro e w1 ⟨rfl, h1⟩
  have G1 := row_at h1 (by simp only [szA]; omega) (heap_alloc2_old w (insB op rd r1 r2 n) (insB op' rd' r1' r2' n'))
  have G2 := row_at h1 (by simp only [szA]; omega) (heap_alloc2_new w (insB op rd r1 r2 n) (insB op' rd' r1' r2' n'))
  have hz1 : w.heap.size + 1 < w1.heap.size := by have := h1.size; simp only [szA] at this; omega
  have hB1 := (below2 w _ _).trans (h1.mono (by simp only [szA]; omega))
  have hF1 := hF.keep hB1 (Nat.le_refl _)
  clear h1
  have G1' := Lib.hid G1; have G2' := Lib.hid G2; clear G1 G2
  go_wp2_with ((refine wpList_load_g (o := ⟨some 12, _, _, _, _, _⟩) rfl 23 (.tmp 2) rfl w.heap.size rfl 23 _ (0, 0) _ (G1'.out) Tryd.underlying23 rfl sizeInstr ?_))
  refine (encode_any op rd r1 r2 n _ hop hF1).mono ?_
  rintro e w2 ⟨rfl, h2⟩
  have G3 := Lib.hid (row_at h2 (by omega) G1'.out)
  have G4 := Lib.hid (row_at h2 (by omega) G2'.out)
  have hz2 : w.heap.size + 1 < w2.heap.size := by have := h2.size; omega
  have hB2 := hB1.trans (h2.mono hB1.size)
  have hF2 := hF.keep hB2 (Nat.le_refl _)
  clear h2 hB1 hF1
  rw [he.out]
  generalize encW op rd r1 r2 n = W at *
  have hb : (encS op' rd' r1' r2' n' == 0) = false := by simp [hne]
  have hb' : (encS op' rd' r1' r2' n' != 0) = true := by simp [hne]
  go_wp2_with ((refine wpList_load_g (o := ⟨some 17, _, _, _, _, _⟩) rfl 23 (.tmp 3) rfl (w.heap.size + 1) rfl 23 _ (0, 0) _ (G4.out) Tryd.underlying23 rfl sizeInstr ?_))
  refine (encode_any op' rd' r1' r2' n' _ hop' hF2).mono ?_
  rintro e w3 ⟨rfl, h3⟩
  generalize encW op' rd' r1' r2' n' = W' at *
  generalize encS op' rd' r1' r2' n' = S' at *
  have Hne := Lib.hid hne; clear hne
  go_wp2
  go_ret
  exact ⟨rfl, hB2.trans (h3.mono hB2.size)⟩

theorem codeApart_walk (op rd r1 r2 n op' rd' r1' r2' n' : Int) (w : World) (hop : (Lit.int .i64 op).wf = true) (hop' : (Lit.int .i64 op').wf = true) (hF : FormsIn w) :
    Calls Tryd.prog 6 #[ins op rd r1 r2 n, ins op' rd' r1' r2' n'] w fun e w' => e = .returned (.bool true) ∧ Below w.heap.size w w' := by
  by_cases h : encS op rd r1 r2 n = 0
  · by_cases h' : encS op' rd' r1' r2' n' = 0
    · exact apart_both op rd r1 r2 n op' rd' r1' r2' n' w hop hop' hF (Lib.hid h) (Lib.hid h')
    · exact apart_second op rd r1 r2 n op' rd' r1' r2' n' w hop hop' hF (Lib.hid h) h'
  · exact apart_first op rd r1 r2 n op' rd' r1' r2' n' w hop hop' hF h
end Go.Proofs.YtoooalkkjnkfjaaDoor
