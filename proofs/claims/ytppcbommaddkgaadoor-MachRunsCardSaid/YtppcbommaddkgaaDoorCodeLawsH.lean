/- The fixed fact of the laws of layer 2, and what words of two instructions say of each other. At most new blocks in memory. Condition: the table of forms as the program lays it. -/
import Derived.Test.YtppcbommaddkgaaDoorCodeEncAny
import Derived.Test.YtppcbommaddkgaaDoorCodeUnpackH
namespace Go.Proofs.YtppcbommaddkgaaDoor
open Go.RowKit
set_option linter.unusedVariables false
set_option linter.unusedSimpArgs false
set_option maxRecDepth 10000
open Pc

namespace Pc
theorem encS_zero {op rd r1 r2 n : Int} (h : encS op rd r1 r2 n = 0) : 1 ≤ op ∧ op ≤ 55 ∧ encSt (rowOf op).1 rd r1 r2 n = 0 ∧ encW op rd r1 r2 n = word (rowOf op).1 (rowOf op).2.1 (rowOf op).2.2.1 (rowOf op).2.2.2 rd r1 r2 n := by
  have h0 := h
  unfold encS at h
  split at h
  · rename_i hop
    exact ⟨hop.1, hop.2, h, by unfold encW; rw [if_pos h0]⟩
  · omega
theorem encW_range (op rd r1 r2 n : Int) : 0 ≤ encW op rd r1 r2 n ∧ encW op rd r1 r2 n < 4294967296 := by
  by_cases h : encS op rd r1 r2 n = 0
  · obtain ⟨o1, o2, hs, hw⟩ := encS_zero h
    have := enc_dec _ _ _ _ rd r1 r2 n (rowOf_ok op o1 o2) hs
    rw [hw]; exact ⟨this.2.2.2.2.2.1, this.2.2.2.2.2.2⟩
  · unfold encW; rw [if_neg h]; omega
end Pc
end Go.Proofs.YtppcbommaddkgaaDoor
