/- Words for the machine of package mach: its block, its memory's block. No condition. -/
import Derived.Test.YtoehfncgkkfdeaaDoorNumKeep
import Derived.Test.YtoehfncgkkfdeaaDoorCodeLawsH
import Derived.Below
import Derived.Laws.OwnMore
import Derived.Deep.AppendLies
import Derived.Deep.Draws
import Derived.Laws.Rows
import Derived.OwnWalk
import Derived.RegionTactic
import Derived.BigRegion
namespace Go.Proofs.YtoehfncgkkfdeaaDoor
open Go.RowKit
set_option linter.unusedVariables false
set_option linter.unusedSimpArgs false
set_option maxRecDepth 10000
namespace Pm
/-- A machine: memory, registers, place, how it stands, its code. -/
structure Ma where
  mem : List Int
  x : List Int
  pl : Int
  st : Int
  cd : Int
def u8s (l : List Int) : List Value := l.map (Value.int .u8)
def u64s (l : List Int) : List Value := l.map (Value.int .u64)
def Ma.cells (m : Ma) (q : Nat) : List Value := .slice (some ⟨q, 0, none⟩) m.mem.length m.mem.length :: (u64s m.x ++ [.int .u64 m.pl, .int .i64 m.st, .int .u8 m.cd])
def Ma.ok (m : Ma) : Prop := m.x.length = 32 ∧ m.mem.length ≤ 4194304 ∧ (∀ v ∈ m.x, 0 ≤ v ∧ v < 18446744073709551616) ∧ (∀ b ∈ m.mem, 0 ≤ b ∧ b < 256) ∧ (0 ≤ m.pl ∧ m.pl < 18446744073709551616) ∧ m.x.getD 0 0 = 0
end Pm
open Pm
def MachAt (w : World) (p q : Nat) (m : Ma) : Prop :=
  w.heap[p]? = some (.cells (m.cells q).toArray 63) ∧ w.heap[q]? = some (.cells (u8s m.mem).toArray 5)
end Go.Proofs.YtoehfncgkkfdeaaDoor
