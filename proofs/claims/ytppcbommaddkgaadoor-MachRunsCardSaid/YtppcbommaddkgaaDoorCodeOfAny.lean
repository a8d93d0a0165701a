/- The document's row of any Op. At most new blocks in memory. Conditions: none on Ops 1 to 55; beyond them the zero row. -/
import Derived.Test.YtppcbommaddkgaaDoorCodeOf
import Derived.Test.YtppcbommaddkgaaDoorCodeOfA
import Derived.Test.YtppcbommaddkgaaDoorCodeOfB
import Derived.Test.YtppcbommaddkgaaDoorCodeOfC
import Derived.Test.YtppcbommaddkgaaDoorCodeOfD
import Derived.Test.YtppcbommaddkgaaDoorCodeOfE
namespace Go.Proofs.YtppcbommaddkgaaDoor
open Go.RowKit
set_option linter.unusedVariables false
set_option linter.unusedSimpArgs false
set_option maxRecDepth 10000
open Pc
/-- Op's row as the document's Row -/
def rowV (r : Int × Int × Int × Int) : Value := .agg #[.int .u8 (letr r.1), .int .i64 r.2.1, .int .i64 r.2.2.1, .int .i64 r.2.2.2]
namespace Pc
theorem rowsU1 : rowOf 51 = (5, 55, 0, 0) := by decide +kernel
theorem rowsU2 : rowOf 52 = (5, 23, 0, 0) := by decide +kernel
theorem rowsJ : rowOf 53 = (6, 111, 0, 0) := by decide +kernel
theorem rowsI4 : rowOf 54 = (1, 103, 0, 0) := by decide +kernel
theorem rowsN : rowOf 55 = (7, 115, 0, 0) := by decide +kernel
end Pc
theorem of_any (op : Int) (w : World) (h1 : 1 ≤ op) (h2 : op ≤ 55) :
    Calls Tryd.prog 37 #[.int .i64 op] w fun e w' => e = .returned (rowV (rowOf op)) ∧ Below w.heap.size w w' := by
  obtain ⟨j, rfl⟩ := Int.eq_ofNat_of_zero_le (show 0 ≤ op by omega)
  by_cases hj : j < 28
  · have hp := plain_at j hj
    by_cases h17 : j ≤ 17
    · rw [rowsR1 j hj ⟨by omega, h17⟩]; exact of_R1 j _ _ w (by omega) h17 hp.1 hp.2
    · rw [rowsR2 j hj (by omega)]; exact of_R2 j _ _ w (by omega) (by omega) hp.1 hp.2
  · obtain ⟨i, rfl⟩ : ∃ i : Nat, j = i + 28 := ⟨j - 28, by omega⟩
    have hi : i < 28 := by omega
    have hf := f3_at i hi
    rw [show ((i + 28 : Nat) : Int) = (i : Int) + 28 by omega]
    by_cases c1 : i + 28 ≤ 33
    · rw [rowsI13 i hi ⟨by omega, c1⟩]; exact of_I13 i _ w (by omega) c1 hf
    by_cases c2 : i + 28 ≤ 35
    · rw [rowsT1 i hi ⟨by omega, c2⟩]; exact of_T1 i _ w (by omega) c2 hf
    by_cases c3 : i + 28 ≤ 36
    · rw [rowsT2 i hi ⟨by omega, c3⟩]; exact of_T2 i _ w (by omega) c3 hf
    by_cases c4 : i + 28 ≤ 37
    · rw [rowsI1b i hi ⟨by omega, c4⟩]; exact of_I1b i _ w (by omega) c4 hf
    by_cases c5 : i + 28 ≤ 41
    · rw [rowsI03 i hi ⟨by omega, c5⟩]; exact of_I03 i _ w (by omega) c5 hf
    by_cases c6 : i + 28 ≤ 44
    · rw [rowsS i hi ⟨by omega, c6⟩]; exact of_S i _ w (by omega) c6 hf
    by_cases c7 : i + 28 ≤ 50
    · rw [rowsB i hi ⟨by omega, c7⟩]; exact of_B i _ w (by omega) c7 hf
    have : i = 23 ∨ i = 24 ∨ i = 25 ∨ i = 26 ∨ i = 27 := by omega
    rcases this with rfl | rfl | rfl | rfl | rfl
    · exact (of_U1 23 _ w (by omega) (by omega) hf).mono fun e w' h => ⟨h.1.trans (congrArg (Ending.returned ∘ rowV) rowsU1).symm, h.2⟩
    · exact (of_U2 24 _ w (by omega) (by omega) hf).mono fun e w' h => ⟨h.1.trans (congrArg (Ending.returned ∘ rowV) rowsU2).symm, h.2⟩
    · exact (of_J 25 _ w (by omega) (by omega) hf).mono fun e w' h => ⟨h.1.trans (congrArg (Ending.returned ∘ rowV) rowsJ).symm, h.2⟩
    · exact (of_I4 26 _ w (by omega) (by omega) hf).mono fun e w' h => ⟨h.1.trans (congrArg (Ending.returned ∘ rowV) rowsI4).symm, h.2⟩
    · exact (of_N 27 _ w (by omega) (by omega) hf).mono fun e w' h => ⟨h.1.trans (congrArg (Ending.returned ∘ rowV) rowsN).symm, h.2⟩
set_option maxRecDepth 100000 in
set_option maxHeartbeats 4000000 in
theorem of_lo (op : Int) (w : World) (h : op < 1) : Calls Tryd.prog 37 #[.int .i64 op] w fun e w' => e = .returned (rowV (8, 0, 0, 0)) ∧ Below w.heap.size w w' := by
  have h0 : decide (op ≥ 1) = false := by simp; omega
  have h1 : decide (op ≥ 18) = false := by simp; omega
  have h2 : decide (op < 28) = true := by simp; omega
  go_enter Tryd.func37, Tryd.ntmps37
  go_wp2_with (first | (refine wpList_store_newg (o := ⟨none, _, _, _, _, _⟩) rfl 108 (.tmp 3) (.tmp 34) rfl plainA _ 108 (w.heap.size + 1) (szA w _).symm rfl rfl size73 rfl plain_one ?_) | (refine wpList_store_newg (o := ⟨none, _, _, _, _, _⟩) rfl 109 (.tmp 4) (.tmp 65) rfl f3A _ 109 (w.heap.size + 1 + 1) (by simp) rfl rfl size74 rfl f3_one ?_))
  refine bodyPost_ret (v := rowV (8, 0, 0, 0)) (results_cell_row Tryd.results37 _ _ w.heap.size 92 _ (0, 0) _ rfl (at3 w _ _ _) Tryd.underlying92 rfl sizeRow2) rfl ⟨rfl, below3 w _ _ _⟩
set_option maxRecDepth 100000 in
set_option maxHeartbeats 4000000 in
theorem of_hi (op : Int) (w : World) (h : 55 < op) : Calls Tryd.prog 37 #[.int .i64 op] w fun e w' => e = .returned (rowV (8, 0, 0, 0)) ∧ Below w.heap.size w w' := by
  have h0 : decide (op ≥ 1) = true := by simp; omega
  have h1 : decide (op ≤ 17) = false := by simp; omega
  have h2 : decide (op ≥ 18) = true := by simp; omega
  have h3 : decide (op ≤ 27) = false := by simp; omega
  have h4 : decide (op < 28) = false := by simp; omega
  have h5 : decide (op > 55) = true := by simp; omega
  go_enter Tryd.func37, Tryd.ntmps37
  go_wp2_with (first | (refine wpList_store_newg (o := ⟨none, _, _, _, _, _⟩) rfl 108 (.tmp 3) (.tmp 34) rfl plainA _ 108 (w.heap.size + 1) (szA w _).symm rfl rfl size73 rfl plain_one ?_) | (refine wpList_store_newg (o := ⟨none, _, _, _, _, _⟩) rfl 109 (.tmp 4) (.tmp 65) rfl f3A _ 109 (w.heap.size + 1 + 1) (by simp) rfl rfl size74 rfl f3_one ?_))
  refine bodyPost_ret (v := rowV (8, 0, 0, 0)) (results_cell_row Tryd.results37 _ _ w.heap.size 92 _ (0, 0) _ rfl (at3 w _ _ _) Tryd.underlying92 rfl sizeRow2) rfl ⟨rfl, below3 w _ _ _⟩
end Go.Proofs.YtppcbommaddkgaaDoor
