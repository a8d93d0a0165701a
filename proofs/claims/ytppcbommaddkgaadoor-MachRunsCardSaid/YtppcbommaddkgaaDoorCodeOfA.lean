/- The document's rows of each Op: 28 to 37. At most new blocks in memory. Conditions: the range of Ops that each theorem names. -/
import Derived.Test.YtppcbommaddkgaaDoorCodeOfH
import Derived.RegionTactic
import Derived.BigRegion
namespace Go.Proofs.YtppcbommaddkgaaDoor
open Go.RowKit
set_option linter.unusedVariables false
set_option linter.unusedSimpArgs false
set_option maxRecDepth 10000
open Pc
set_option maxRecDepth 100000 in
set_option maxHeartbeats 4000000 in
theorem of_I13 (j : Nat) (f : Int) (w : World) (hj : 28 ≤ j + 28) (hj' : j + 28 ≤ 33) (hf : f3A[j]? = some (.int .i64 f)) :
    Calls Tryd.prog 37 #[.int .i64 ((j : Int) + 28)] w fun e w' => e = .returned (.agg #[.int .u8 73, .int .i64 19, .int .i64 f, .int .i64 0]) ∧ Below w.heap.size w w' := by
  have hlt : (j : Int) < 28 := by omega
  have h0 : decide ((j : Int) + 28 ≥ 1) = true := by simp; omega
  have h1 : decide ((j : Int) + 28 ≤ 17) = false := by simp; omega
  have h2 : decide ((j : Int) + 28 ≥ 18) = true := by simp; omega
  have h3 : decide ((j : Int) + 28 ≤ 27) = false := by simp; omega
  have h4 : decide ((j : Int) + 28 < 28) = false := by simp; omega
  have h5 : decide ((j : Int) + 28 > 55) = false := by simp; omega
  have h6 : decide ((j : Int) + 28 ≤ 33) = true := by simp; omega
  go_enter Tryd.func37, Tryd.ntmps37
  go_wp2_with (first | (refine wpList_store_newg (o := ⟨none, _, _, _, _, _⟩) rfl 108 (.tmp 3) (.tmp 34) rfl plainA _ 108 (w.heap.size + 1) (szA w _).symm rfl rfl size73 rfl plain_one ?_) | (refine wpList_store_newg (o := ⟨none, _, _, _, _, _⟩) rfl 109 (.tmp 4) (.tmp 65) rfl f3A _ 109 (w.heap.size + 1 + 1) (by simp) rfl rfl size74 rfl f3_one ?_))
  refine bodyPost_ret (v := .agg #[.int .u8 73, .int .i64 19, .int .i64 f, .int .i64 0]) (results_cell_row Tryd.results37 _ _ w.heap.size 92 _ (0, 0) _ rfl (at3 w _ _ _) Tryd.underlying92 rfl sizeRow2) rfl ⟨rfl, below3 w _ _ _⟩
set_option maxRecDepth 100000 in
set_option maxHeartbeats 4000000 in
theorem of_T2 (j : Nat) (f : Int) (w : World) (hj : 36 ≤ j + 28) (hj' : j + 28 ≤ 36) (hf : f3A[j]? = some (.int .i64 f)) :
    Calls Tryd.prog 37 #[.int .i64 ((j : Int) + 28)] w fun e w' => e = .returned (.agg #[.int .u8 84, .int .i64 19, .int .i64 f, .int .i64 32]) ∧ Below w.heap.size w w' := by
  have hlt : (j : Int) < 28 := by omega
  have h0 : decide ((j : Int) + 28 ≥ 1) = true := by simp; omega
  have h1 : decide ((j : Int) + 28 ≤ 17) = false := by simp; omega
  have h2 : decide ((j : Int) + 28 ≥ 18) = true := by simp; omega
  have h3 : decide ((j : Int) + 28 ≤ 27) = false := by simp; omega
  have h4 : decide ((j : Int) + 28 < 28) = false := by simp; omega
  have h5 : decide ((j : Int) + 28 > 55) = false := by simp; omega
  have h6 : decide ((j : Int) + 28 ≤ 33) = false := by simp; omega
  have h7 : decide ((j : Int) + 28 = 36) = true := by simp; omega
  go_enter Tryd.func37, Tryd.ntmps37
  go_wp2_with (first | (refine wpList_store_newg (o := ⟨none, _, _, _, _, _⟩) rfl 108 (.tmp 3) (.tmp 34) rfl plainA _ 108 (w.heap.size + 1) (szA w _).symm rfl rfl size73 rfl plain_one ?_) | (refine wpList_store_newg (o := ⟨none, _, _, _, _, _⟩) rfl 109 (.tmp 4) (.tmp 65) rfl f3A _ 109 (w.heap.size + 1 + 1) (by simp) rfl rfl size74 rfl f3_one ?_))
  refine bodyPost_ret (v := .agg #[.int .u8 84, .int .i64 19, .int .i64 f, .int .i64 32]) (results_cell_row Tryd.results37 _ _ w.heap.size 92 _ (0, 0) _ rfl (at3 w _ _ _) Tryd.underlying92 rfl sizeRow2) rfl ⟨rfl, below3 w _ _ _⟩
set_option maxRecDepth 100000 in
set_option maxHeartbeats 4000000 in
theorem of_T1 (j : Nat) (f : Int) (w : World) (hj : 34 ≤ j + 28) (hj' : j + 28 ≤ 35) (hf : f3A[j]? = some (.int .i64 f)) :
    Calls Tryd.prog 37 #[.int .i64 ((j : Int) + 28)] w fun e w' => e = .returned (.agg #[.int .u8 84, .int .i64 19, .int .i64 f, .int .i64 0]) ∧ Below w.heap.size w w' := by
  have hlt : (j : Int) < 28 := by omega
  have h0 : decide ((j : Int) + 28 ≥ 1) = true := by simp; omega
  have h1 : decide ((j : Int) + 28 ≤ 17) = false := by simp; omega
  have h2 : decide ((j : Int) + 28 ≥ 18) = true := by simp; omega
  have h3 : decide ((j : Int) + 28 ≤ 27) = false := by simp; omega
  have h4 : decide ((j : Int) + 28 < 28) = false := by simp; omega
  have h5 : decide ((j : Int) + 28 > 55) = false := by simp; omega
  have h6 : decide ((j : Int) + 28 ≤ 33) = false := by simp; omega
  have h7 : decide ((j : Int) + 28 = 36) = false := by simp; omega
  have h8 : decide ((j : Int) + 28 ≤ 35) = true := by simp; omega
  go_enter Tryd.func37, Tryd.ntmps37
  go_wp2_with (first | (refine wpList_store_newg (o := ⟨none, _, _, _, _, _⟩) rfl 108 (.tmp 3) (.tmp 34) rfl plainA _ 108 (w.heap.size + 1) (szA w _).symm rfl rfl size73 rfl plain_one ?_) | (refine wpList_store_newg (o := ⟨none, _, _, _, _, _⟩) rfl 109 (.tmp 4) (.tmp 65) rfl f3A _ 109 (w.heap.size + 1 + 1) (by simp) rfl rfl size74 rfl f3_one ?_))
  refine bodyPost_ret (v := .agg #[.int .u8 84, .int .i64 19, .int .i64 f, .int .i64 0]) (results_cell_row Tryd.results37 _ _ w.heap.size 92 _ (0, 0) _ rfl (at3 w _ _ _) Tryd.underlying92 rfl sizeRow2) rfl ⟨rfl, below3 w _ _ _⟩
set_option maxRecDepth 100000 in
set_option maxHeartbeats 4000000 in
theorem of_I1b (j : Nat) (f : Int) (w : World) (hj : 37 ≤ j + 28) (hj' : j + 28 ≤ 37) (hf : f3A[j]? = some (.int .i64 f)) :
    Calls Tryd.prog 37 #[.int .i64 ((j : Int) + 28)] w fun e w' => e = .returned (.agg #[.int .u8 73, .int .i64 27, .int .i64 f, .int .i64 0]) ∧ Below w.heap.size w w' := by
  have hlt : (j : Int) < 28 := by omega
  have h0 : decide ((j : Int) + 28 ≥ 1) = true := by simp; omega
  have h1 : decide ((j : Int) + 28 ≤ 17) = false := by simp; omega
  have h2 : decide ((j : Int) + 28 ≥ 18) = true := by simp; omega
  have h3 : decide ((j : Int) + 28 ≤ 27) = false := by simp; omega
  have h4 : decide ((j : Int) + 28 < 28) = false := by simp; omega
  have h5 : decide ((j : Int) + 28 > 55) = false := by simp; omega
  have h6 : decide ((j : Int) + 28 ≤ 33) = false := by simp; omega
  have h7 : decide ((j : Int) + 28 = 36) = false := by simp; omega
  have h8 : decide ((j : Int) + 28 ≤ 35) = false := by simp; omega
  have h9 : decide ((j : Int) + 28 = 37) = true := by simp; omega
  go_enter Tryd.func37, Tryd.ntmps37
  go_wp2_with (first | (refine wpList_store_newg (o := ⟨none, _, _, _, _, _⟩) rfl 108 (.tmp 3) (.tmp 34) rfl plainA _ 108 (w.heap.size + 1) (szA w _).symm rfl rfl size73 rfl plain_one ?_) | (refine wpList_store_newg (o := ⟨none, _, _, _, _, _⟩) rfl 109 (.tmp 4) (.tmp 65) rfl f3A _ 109 (w.heap.size + 1 + 1) (by simp) rfl rfl size74 rfl f3_one ?_))
  refine bodyPost_ret (v := .agg #[.int .u8 73, .int .i64 27, .int .i64 f, .int .i64 0]) (results_cell_row Tryd.results37 _ _ w.heap.size 92 _ (0, 0) _ rfl (at3 w _ _ _) Tryd.underlying92 rfl sizeRow2) rfl ⟨rfl, below3 w _ _ _⟩
end Go.Proofs.YtppcbommaddkgaaDoor
