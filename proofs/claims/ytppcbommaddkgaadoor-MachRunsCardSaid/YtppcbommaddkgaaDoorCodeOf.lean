/- The document's rows of each Op: 1 to 27. At most new blocks in memory. Conditions: the range of Ops that each theorem names. -/
import Derived.Test.YtppcbommaddkgaaDoorCodeOfH
import Derived.RegionTactic
import Derived.BigRegion
namespace Go.Proofs.YtppcbommaddkgaaDoor
open Go.RowKit
set_option linter.unusedVariables false
set_option linter.unusedSimpArgs false
set_option maxRecDepth 10000
open Pc
set_option maxRecDepth 100000 in
set_option maxHeartbeats 4000000 in
theorem of_R1 (j : Nat) (f g : Int) (w : World) (hj : 1 ≤ j) (hj' : j ≤ 17) (hf : plainA[j * 2]? = some (.int .i64 f)) (hg : plainA[j * 2 + 1]? = some (.int .i64 g)) :
    Calls Tryd.prog 37 #[.int .i64 (j : Int)] w fun e w' => e = .returned (.agg #[.int .u8 82, .int .i64 51, .int .i64 f, .int .i64 g]) ∧ Below w.heap.size w w' := by
  have hlt : (j : Int) < 28 := by omega
  have h0 : decide ((j : Int) ≥ 1) = true := by simp; omega
  have h1 : decide ((j : Int) ≤ 17) = true := by simp; omega
  go_enter Tryd.func37, Tryd.ntmps37
  go_wp2_with (refine wpList_store_newg (o := ⟨none, _, _, _, _, _⟩) rfl 108 (.tmp 3) (.tmp 34) rfl plainA _ 108 (w.heap.size + 1) (szA w _).symm rfl rfl size73 rfl plain_one ?_)
  go_region
  go_wp2
  refine bodyPost_ret (v := .agg #[.int .u8 82, .int .i64 51, .int .i64 f, .int .i64 g]) (results_cell_row Tryd.results37 _ _ w.heap.size 92 _ (0, 0) _ rfl (at2 w _ _) Tryd.underlying92 rfl sizeRow2) rfl ⟨rfl, (below2 w _ _).drew⟩
set_option maxRecDepth 100000 in
set_option maxHeartbeats 4000000 in
theorem of_R2 (j : Nat) (f g : Int) (w : World) (hj : 18 ≤ j) (hj' : j ≤ 27) (hf : plainA[j * 2]? = some (.int .i64 f)) (hg : plainA[j * 2 + 1]? = some (.int .i64 g)) :
    Calls Tryd.prog 37 #[.int .i64 (j : Int)] w fun e w' => e = .returned (.agg #[.int .u8 82, .int .i64 59, .int .i64 f, .int .i64 g]) ∧ Below w.heap.size w w' := by
  have hlt : (j : Int) < 28 := by omega
  have h0 : decide ((j : Int) ≥ 1) = true := by simp; omega
  have h1 : decide ((j : Int) ≤ 17) = false := by simp; omega
  have h2 : decide ((j : Int) ≥ 18) = true := by simp; omega
  have h3 : decide ((j : Int) ≤ 27) = true := by simp; omega
  go_enter Tryd.func37, Tryd.ntmps37
  go_wp2_with (refine wpList_store_newg (o := ⟨none, _, _, _, _, _⟩) rfl 108 (.tmp 3) (.tmp 34) rfl plainA _ 108 (w.heap.size + 1) (szA w _).symm rfl rfl size73 rfl plain_one ?_)
  go_region
  go_wp2
  refine bodyPost_ret (v := .agg #[.int .u8 82, .int .i64 59, .int .i64 f, .int .i64 g]) (results_cell_row Tryd.results37 _ _ w.heap.size 92 _ (0, 0) _ rfl (at2 w _ _) Tryd.underlying92 rfl sizeRow2) rfl ⟨rfl, (below2 w _ _).drew⟩
end Go.Proofs.YtppcbommaddkgaaDoor
