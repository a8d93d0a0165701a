/- The document's rows of each Op: Ops of two ranges. At most new blocks in memory. Conditions: the range of Ops that each theorem names. -/
import Derived.Test.YtppcbommaddkgaaDoorCodeOfH
import Derived.RegionTactic
import Derived.BigRegion
namespace Go.Proofs.YtppcbommaddkgaaDoor
open Go.RowKit
set_option linter.unusedVariables false
set_option linter.unusedSimpArgs false
set_option maxRecDepth 10000
open Pc
set_option maxRecDepth 100000 in
set_option maxHeartbeats 4000000 in
theorem of_I4 (j : Nat) (f : Int) (w : World) (hj : 54 ≤ j + 28) (hj' : j + 28 ≤ 54) (hf : f3A[j]? = some (.int .i64 f)) :
    Calls Tryd.prog 37 #[.int .i64 ((j : Int) + 28)] w fun e w' => e = .returned (.agg #[.int .u8 73, .int .i64 103, .int .i64 0, .int .i64 0]) ∧ Below w.heap.size w w' := by
  have hlt : (j : Int) < 28 := by omega
  have h0 : decide ((j : Int) + 28 ≥ 1) = true := by simp; omega
  have h1 : decide ((j : Int) + 28 ≤ 17) = false := by simp; omega
  have h2 : decide ((j : Int) + 28 ≥ 18) = true := by simp; omega
  have h3 : decide ((j : Int) + 28 ≤ 27) = false := by simp; omega
  have h4 : decide ((j : Int) + 28 < 28) = false := by simp; omega
  have h5 : decide ((j : Int) + 28 > 55) = false := by simp; omega
  have h6 : decide ((j : Int) + 28 ≤ 33) = false := by simp; omega
  have h7 : decide ((j : Int) + 28 = 36) = false := by simp; omega
  have h8 : decide ((j : Int) + 28 ≤ 35) = false := by simp; omega
  have h9 : decide ((j : Int) + 28 = 37) = false := by simp; omega
  have h10 : decide ((j : Int) + 28 ≤ 41) = false := by simp; omega
  have h11 : decide ((j : Int) + 28 ≤ 44) = false := by simp; omega
  have h12 : decide ((j : Int) + 28 ≤ 50) = false := by simp; omega
  have h13 : decide ((j : Int) + 28 = 51) = false := by simp; omega
  have h14 : decide ((j : Int) + 28 = 52) = false := by simp; omega
  have h15 : decide ((j : Int) + 28 = 53) = false := by simp; omega
  have h16 : decide ((j : Int) + 28 = 54) = true := by simp; omega
  go_enter Tryd.func37, Tryd.ntmps37
  go_wp2_with (first | (refine wpList_store_newg (o := ⟨none, _, _, _, _, _⟩) rfl 108 (.tmp 3) (.tmp 34) rfl plainA _ 108 (w.heap.size + 1) (szA w _).symm rfl rfl size73 rfl plain_one ?_) | (refine wpList_store_newg (o := ⟨none, _, _, _, _, _⟩) rfl 109 (.tmp 4) (.tmp 65) rfl f3A _ 109 (w.heap.size + 1 + 1) (by simp) rfl rfl size74 rfl f3_one ?_))
  refine bodyPost_ret (v := .agg #[.int .u8 73, .int .i64 103, .int .i64 0, .int .i64 0]) (results_cell_row Tryd.results37 _ _ w.heap.size 92 _ (0, 0) _ rfl (at3 w _ _ _) Tryd.underlying92 rfl sizeRow2) rfl ⟨rfl, below3 w _ _ _⟩
set_option maxRecDepth 100000 in
set_option maxHeartbeats 4000000 in
theorem of_N (j : Nat) (f : Int) (w : World) (hj : 55 ≤ j + 28) (hj' : j + 28 ≤ 55) (hf : f3A[j]? = some (.int .i64 f)) :
    Calls Tryd.prog 37 #[.int .i64 ((j : Int) + 28)] w fun e w' => e = .returned (.agg #[.int .u8 78, .int .i64 115, .int .i64 0, .int .i64 0]) ∧ Below w.heap.size w w' := by
  have hlt : (j : Int) < 28 := by omega
  have h0 : decide ((j : Int) + 28 ≥ 1) = true := by simp; omega
  have h1 : decide ((j : Int) + 28 ≤ 17) = false := by simp; omega
  have h2 : decide ((j : Int) + 28 ≥ 18) = true := by simp; omega
  have h3 : decide ((j : Int) + 28 ≤ 27) = false := by simp; omega
  have h4 : decide ((j : Int) + 28 < 28) = false := by simp; omega
  have h5 : decide ((j : Int) + 28 > 55) = false := by simp; omega
  have h6 : decide ((j : Int) + 28 ≤ 33) = false := by simp; omega
  have h7 : decide ((j : Int) + 28 = 36) = false := by simp; omega
  have h8 : decide ((j : Int) + 28 ≤ 35) = false := by simp; omega
  have h9 : decide ((j : Int) + 28 = 37) = false := by simp; omega
  have h10 : decide ((j : Int) + 28 ≤ 41) = false := by simp; omega
  have h11 : decide ((j : Int) + 28 ≤ 44) = false := by simp; omega
  have h12 : decide ((j : Int) + 28 ≤ 50) = false := by simp; omega
  have h13 : decide ((j : Int) + 28 = 51) = false := by simp; omega
  have h14 : decide ((j : Int) + 28 = 52) = false := by simp; omega
  have h15 : decide ((j : Int) + 28 = 53) = false := by simp; omega
  have h16 : decide ((j : Int) + 28 = 54) = false := by simp; omega
  go_enter Tryd.func37, Tryd.ntmps37
  go_wp2_with (first | (refine wpList_store_newg (o := ⟨none, _, _, _, _, _⟩) rfl 108 (.tmp 3) (.tmp 34) rfl plainA _ 108 (w.heap.size + 1) (szA w _).symm rfl rfl size73 rfl plain_one ?_) | (refine wpList_store_newg (o := ⟨none, _, _, _, _, _⟩) rfl 109 (.tmp 4) (.tmp 65) rfl f3A _ 109 (w.heap.size + 1 + 1) (by simp) rfl rfl size74 rfl f3_one ?_))
  refine bodyPost_ret (v := .agg #[.int .u8 78, .int .i64 115, .int .i64 0, .int .i64 0]) (results_cell_row Tryd.results37 _ _ w.heap.size 92 _ (0, 0) _ rfl (at3 w _ _ _) Tryd.underlying92 rfl sizeRow2) rfl ⟨rfl, below3 w _ _ _⟩
end Go.Proofs.YtppcbommaddkgaaDoor
