/- The document's rows of each Op. At most new blocks in memory. Conditions: the range of Ops that each theorem names. -/
import Derived.Test.YtppcbommaddkgaaDoorCodeUnpackH
import Derived.RegionTactic
import Derived.BigRegion
namespace Go.Proofs.YtppcbommaddkgaaDoor
open Go.RowKit
set_option linter.unusedVariables false
set_option linter.unusedSimpArgs false
set_option maxRecDepth 10000
open Pc
namespace Pc
def tabP : List (Int × Int) := [(0, 0), (0, 0), (0, 32), (1, 0), (2, 0), (3, 0), (4, 0), (5, 0), (5, 32), (6, 0), (7, 0), (0, 1), (1, 1), (3, 1), (4, 1), (5, 1), (6, 1), (7, 1), (0, 0), (0, 32), (1, 0), (5, 0), (5, 32), (0, 1), (4, 1), (5, 1), (6, 1), (7, 1)]
def tabF : List Int := [0, 2, 3, 4, 6, 7, 1, 5, 5, 0, 0, 4, 2, 3, 0, 2, 3, 0, 1, 4, 5, 6, 7, 0, 0, 0, 0, 0]
def letr (k : Int) : Int := if k = 0 then 82 else if k = 1 then 73 else if k = 2 then 84 else if k = 3 then 83 else if k = 4 then 66 else if k = 5 then 85 else if k = 6 then 74 else if k = 7 then 78 else 0
theorem rowsR1 : ∀ j : Nat, j < 28 → 1 ≤ j ∧ j ≤ 17 → rowOf (j : Int) = (0, 51, (tabP.getD j (0, 0)).1, (tabP.getD j (0, 0)).2) := by decide +kernel
theorem rowsR2 : ∀ j : Nat, j < 28 → 18 ≤ j → rowOf (j : Int) = (0, 59, (tabP.getD j (0, 0)).1, (tabP.getD j (0, 0)).2) := by decide +kernel
theorem rowsI13 : ∀ j : Nat, j < 28 → 28 ≤ j + 28 ∧ j + 28 ≤ 33 → rowOf ((j : Int) + 28) = (1, 19, tabF.getD j 0, 0) := by decide +kernel
theorem rowsT2 : ∀ j : Nat, j < 28 → 36 ≤ j + 28 ∧ j + 28 ≤ 36 → rowOf ((j : Int) + 28) = (2, 19, tabF.getD j 0, 32) := by decide +kernel
theorem rowsT1 : ∀ j : Nat, j < 28 → 34 ≤ j + 28 ∧ j + 28 ≤ 35 → rowOf ((j : Int) + 28) = (2, 19, tabF.getD j 0, 0) := by decide +kernel
theorem rowsI1b : ∀ j : Nat, j < 28 → 37 ≤ j + 28 ∧ j + 28 ≤ 37 → rowOf ((j : Int) + 28) = (1, 27, tabF.getD j 0, 0) := by decide +kernel
theorem rowsI03 : ∀ j : Nat, j < 28 → 38 ≤ j + 28 ∧ j + 28 ≤ 41 → rowOf ((j : Int) + 28) = (1, 3, tabF.getD j 0, 0) := by decide +kernel
theorem rowsS : ∀ j : Nat, j < 28 → 42 ≤ j + 28 ∧ j + 28 ≤ 44 → rowOf ((j : Int) + 28) = (3, 35, tabF.getD j 0, 0) := by decide +kernel
theorem rowsB : ∀ j : Nat, j < 28 → 45 ≤ j + 28 ∧ j + 28 ≤ 50 → rowOf ((j : Int) + 28) = (4, 99, tabF.getD j 0, 0) := by decide +kernel
end Pc
def plainL : List Value := tabP.flatMap fun p => [.int .i64 p.1, .int .i64 p.2]
def plainA : Array Value := plainL.toArray
def f3L : List Value := tabF.map fun x => .int .i64 x
def f3A : Array Value := f3L.toArray
theorem plain_at : ∀ j, j < 28 → plainA[j * 2]? = some (.int .i64 (tabP.getD j (0, 0)).1) ∧ plainA[j * 2 + 1]? = some (.int .i64 (tabP.getD j (0, 0)).2) := by
  intro j hj
  have : j = 0 ∨ j = 1 ∨ j = 2 ∨ j = 3 ∨ j = 4 ∨ j = 5 ∨ j = 6 ∨ j = 7 ∨ j = 8 ∨ j = 9 ∨ j = 10 ∨ j = 11 ∨ j = 12 ∨ j = 13 ∨ j = 14 ∨ j = 15 ∨ j = 16 ∨ j = 17 ∨ j = 18 ∨ j = 19 ∨ j = 20 ∨ j = 21 ∨ j = 22 ∨ j = 23 ∨ j = 24 ∨ j = 25 ∨ j = 26 ∨ j = 27 := by omega
  rcases this with rfl | rfl | rfl | rfl | rfl | rfl | rfl | rfl | rfl | rfl | rfl | rfl | rfl | rfl | rfl | rfl | rfl | rfl | rfl | rfl | rfl | rfl | rfl | rfl | rfl | rfl | rfl | rfl <;> exact ⟨rfl, rfl⟩
theorem f3_at : ∀ j, j < 28 → f3A[j]? = some (.int .i64 (tabF.getD j 0)) := by
  intro j hj
  have : j = 0 ∨ j = 1 ∨ j = 2 ∨ j = 3 ∨ j = 4 ∨ j = 5 ∨ j = 6 ∨ j = 7 ∨ j = 8 ∨ j = 9 ∨ j = 10 ∨ j = 11 ∨ j = 12 ∨ j = 13 ∨ j = 14 ∨ j = 15 ∨ j = 16 ∨ j = 17 ∨ j = 18 ∨ j = 19 ∨ j = 20 ∨ j = 21 ∨ j = 22 ∨ j = 23 ∨ j = 24 ∨ j = 25 ∨ j = 26 ∨ j = 27 := by omega
  rcases this with rfl | rfl | rfl | rfl | rfl | rfl | rfl | rfl | rfl | rfl | rfl | rfl | rfl | rfl | rfl | rfl | rfl | rfl | rfl | rfl | rfl | rfl | rfl | rfl | rfl | rfl | rfl | rfl <;> rfl
theorem size73 : (Tryd.prog.info? 108).map (·.size) = some 56 := by kernel_rfl
theorem size74 : (Tryd.prog.info? 109).map (·.size) = some 28 := by kernel_rfl
theorem sizeRow2 : (Tryd.prog.info? 92).map (·.size) = some 4 := by kernel_rfl
theorem plain_one : plainA.all (·.oneCell') = true := all_oneCell_toArray (by simp [plainL, tabP, Value.oneCell'])
theorem f3_one : f3A.all (·.oneCell') = true := all_oneCell_toArray (by simp [f3L, tabF, Value.oneCell'])

theorem wpList_store_newg {P : Program} {ops : Array Oper} {rest : List Oper} {o : Oper} {a : Act} {w : World} {Q : Exit → Act → World → Prop} (hgd : o.guard = none) (ty : TypeId) (x y : Operand) (ho : o.op = .store ty x y)
    (cells old : Array Value) (t : TypeId) (g : Nat) (hg : g = w.heap.size) (hx : a.eval x = .pointer (some ⟨g, 0, none⟩)) (hy : a.eval y = .agg cells) (hi : (P.info? ty).map (·.size) = some cells.size)
    (hold : old.size = cells.size) (h1 : cells.all (·.oneCell') = true)
    (h : wpList P ops Q rest (a.put o.dst undef) (w.alloc (.cells cells t))) : wpList P ops Q (o :: rest) a (w.alloc (.cells old t)) := by
  subst hg; exact wpList_store_new hgd ty x y ho cells old t hx hy hi hold h1 h

theorem at2 (w : World) (X Y : Obj) : ((w.alloc X).alloc Y).heap[w.heap.size]? = some X := by
  show ((w.heap.push X).push Y)[w.heap.size]? = some X
  simp [Array.getElem?_push]
theorem at3 (w : World) (X Y Z : Obj) : (((w.alloc X).alloc Y).alloc Z).heap[w.heap.size]? = some X := by
  have h : ¬ w.heap.size = w.heap.size + 1 + 1 := by omega
  show (((w.heap.push X).push Y).push Z)[w.heap.size]? = some X
  simp [Array.getElem?_push, h]
end Go.Proofs.YtppcbommaddkgaaDoor
