/- The middle functions of package code: whether registers and an Imm may be; a piece put into a word. At most new blocks in memory. Conditions: the ranges that each theorem names. -/
import Derived.Test.YtppcbommaddkgaaDoorCodeLeaf
namespace Go.Proofs.YtppcbommaddkgaaDoor
open Go.RowKit
set_option linter.unusedVariables false
set_option linter.unusedSimpArgs false
open Pc

section
variable (b1 b2 b3 : Bool) (fx lo hi st a0 w0 c0 a1 w1 c1 a2 w2 c2 a3 w3 c3 op rd r1 r2 n : Int)

theorem heap_alloc3_old (w : World) (A C D : Obj) : (((w.alloc A).alloc C).alloc D).heap[w.heap.size]? = some A := by
  rw [Below.heap_alloc ((w.alloc A).alloc C) D w.heap.size (by simp; omega)]
  exact heap_alloc2_old w A C

end
end Go.Proofs.YtppcbommaddkgaaDoor
