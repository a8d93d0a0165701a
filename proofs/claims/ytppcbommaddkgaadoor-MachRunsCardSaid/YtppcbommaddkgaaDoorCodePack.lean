/- A piece of an Imm put into a word, and all that an instruction uses. At most new blocks in memory. Conditions: the ranges that each theorem names. -/
import Derived.Test.YtppcbommaddkgaaDoorCodeLeaf
import Derived.IntWalk
namespace Go.Proofs.YtppcbommaddkgaaDoor
open Go.RowKit
set_option linter.unusedVariables false
set_option linter.unusedSimpArgs false
set_option maxRecDepth 10000
open Pc

theorem ret1' {k : IntKind} {a b : Int} (h : a = b) : Ending.returned (.int k a) = .returned (.int k b) := by rw [h]

theorem belowN {B : Nat} {w w' : World} {n : Nat} (h : Below B w w') : Below B w (w'.drewN n) := by
  induction n generalizing w' with
  | zero => exact h
  | succ n ih => exact (ih h).drew

theorem range_of_row {w : World} {g : Nat} {cs : Array Value} {t : TypeId} {fr : Nat × Nat} (o : Nat) (l : List Value) (hg : w.heap[g]? = some (.cells cs t fr)) (hl : (cs.toList.drop o).take l.length = l) : w.rangeAt g o l := by
  intro j v hv
  rw [cell_of_row w g (o + j) cs t fr hg]
  have hj : j < l.length := (List.getElem?_eq_some_iff.1 hv).1
  rw [← hl, List.getElem?_take, if_pos hj, List.getElem?_drop] at hv
  simpa using hv
theorem sizePieces : (Tryd.prog.info? 132).map (·.size) = some 12 := by kernel_rfl
section
variable (b1 b2 b3 : Bool) (fx lo hi st a0 w0 c0 a1 w1 c1 a2 w2 c2 a3 w3 c3 op rd r1 r2 n : Int)
abbrev prow : Value := .agg #[.int .i64 a0, .int .i64 w0, .int .i64 c0, .int .i64 a1, .int .i64 w1, .int .i64 c1, .int .i64 a2, .int .i64 w2, .int .i64 c2, .int .i64 a3, .int .i64 w3, .int .i64 c3]
theorem idx0 (w : World) : (Instr.index 132 (prow a0 w0 c0 a1 w1 c1 a2 w2 c2 a3 w3 c3) (.int .i64 0)).run Tryd.prog w = .ok (.agg #[.int .i64 a0, .int .i64 w0, .int .i64 c0]) w := by kernel_rfl
theorem idx1 (w : World) : (Instr.index 132 (prow a0 w0 c0 a1 w1 c1 a2 w2 c2 a3 w3 c3) (.int .i64 1)).run Tryd.prog w = .ok (.agg #[.int .i64 a1, .int .i64 w1, .int .i64 c1]) w := by kernel_rfl
theorem idx2 (w : World) : (Instr.index 132 (prow a0 w0 c0 a1 w1 c1 a2 w2 c2 a3 w3 c3) (.int .i64 2)).run Tryd.prog w = .ok (.agg #[.int .i64 a2, .int .i64 w2, .int .i64 c2]) w := by kernel_rfl
theorem idx3 (w : World) : (Instr.index 132 (prow a0 w0 c0 a1 w1 c1 a2 w2 c2 a3 w3 c3) (.int .i64 3)).run Tryd.prog w = .ok (.agg #[.int .i64 a3, .int .i64 w3, .int .i64 c3]) w := by kernel_rfl

end
end Go.Proofs.YtppcbommaddkgaaDoor
