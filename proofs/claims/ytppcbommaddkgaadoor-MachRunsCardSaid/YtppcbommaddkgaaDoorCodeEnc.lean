/- Encode of package code answers what encS and encW say, of any instruction, where the table of forms reads as the program lays it; at most new blocks in memory. Conditions: the table, and that the numbers are of 64 bits. -/
import Derived.Test.YtppcbommaddkgaaDoorCodeTab
import Derived.Test.YtppcbommaddkgaaDoorCodeAllow
import Derived.Test.YtppcbommaddkgaaDoorCodePack
import Derived.Deep.RegionHeld3
import Derived.Deep.DeepCutAuto
import Derived.Deep.WholeRow
namespace Go.Proofs.YtppcbommaddkgaaDoor
open Go.RowKit Go.Maps
set_option linter.unusedVariables false
set_option linter.unusedSimpArgs false
set_option maxRecDepth 10000
open Pc

/-- The forms, as values. -/
def fmL : Nat → List Value
  | 0 => [.bool true, .bool true, .bool true, .int .u32 4261441663, .int .i64 1, .int .i64 0, .int .i64 0, .int .i64 0, .int .i64 0, .int .i64 0, .int .i64 0, .int .i64 0, .int .i64 0, .int .i64 0, .int .i64 0, .int .i64 0, .int .i64 0, .int .i64 0, .int .i64 0]
  | 1 => [.bool true, .bool true, .bool false, .int .u32 28799, .int .i64 (-2048), .int .i64 2047, .int .i64 1, .int .i64 0, .int .i64 20, .int .i64 12, .int .i64 0, .int .i64 0, .int .i64 0, .int .i64 0, .int .i64 0, .int .i64 0, .int .i64 0, .int .i64 0, .int .i64 0]
  | 2 => [.bool true, .bool true, .bool false, .int .u32 4227887231, .int .i64 0, .int .i64 63, .int .i64 1, .int .i64 0, .int .i64 20, .int .i64 6, .int .i64 0, .int .i64 0, .int .i64 0, .int .i64 0, .int .i64 0, .int .i64 0, .int .i64 0, .int .i64 0, .int .i64 0]
  | 3 => [.bool false, .bool true, .bool true, .int .u32 28799, .int .i64 (-2048), .int .i64 2047, .int .i64 1, .int .i64 0, .int .i64 7, .int .i64 5, .int .i64 5, .int .i64 25, .int .i64 7, .int .i64 0, .int .i64 0, .int .i64 0, .int .i64 0, .int .i64 0, .int .i64 0]
  | 4 => [.bool false, .bool true, .bool true, .int .u32 28799, .int .i64 (-4096), .int .i64 4094, .int .i64 2, .int .i64 11, .int .i64 7, .int .i64 1, .int .i64 1, .int .i64 8, .int .i64 4, .int .i64 5, .int .i64 25, .int .i64 6, .int .i64 12, .int .i64 31, .int .i64 1]
  | 5 => [.bool true, .bool false, .bool false, .int .u32 127, .int .i64 (-524288), .int .i64 524287, .int .i64 1, .int .i64 0, .int .i64 12, .int .i64 20, .int .i64 0, .int .i64 0, .int .i64 0, .int .i64 0, .int .i64 0, .int .i64 0, .int .i64 0, .int .i64 0, .int .i64 0]
  | 6 => [.bool true, .bool false, .bool false, .int .u32 127, .int .i64 (-1048576), .int .i64 1048574, .int .i64 2, .int .i64 12, .int .i64 12, .int .i64 8, .int .i64 11, .int .i64 20, .int .i64 1, .int .i64 1, .int .i64 21, .int .i64 10, .int .i64 20, .int .i64 31, .int .i64 1]
  | 7 => [.bool false, .bool false, .bool false, .int .u32 4294967295, .int .i64 1, .int .i64 0, .int .i64 0, .int .i64 0, .int .i64 0, .int .i64 0, .int .i64 0, .int .i64 0, .int .i64 0, .int .i64 0, .int .i64 0, .int .i64 0, .int .i64 0, .int .i64 0, .int .i64 0]
  | _ => []
def formCells : List Value := fmL 0 ++ fmL 1 ++ fmL 2 ++ fmL 3 ++ fmL 4 ++ fmL 5 ++ fmL 6 ++ fmL 7
/-- The table of forms reads as the program lays it. -/
def FormsIn (w : World) : Prop := 1 < w.heap.size ∧ w.rangeAt 1 0 formCells
theorem FormsIn.keep {w w' : World} {B : Nat} (h : FormsIn w) (hb : Below B w w') (hB : w.heap.size ≤ B) : FormsIn w' :=
  ⟨Nat.lt_of_lt_of_le h.1 hb.size, fun j v hv => (hb.cell (p := ⟨1, 0 + j, none⟩) (Nat.lt_of_lt_of_le h.1 hB)).trans (h.2 j v hv)⟩
abbrev frmL (b1 b2 b3 : Bool) (fx lo hi st a0 w0 c0 a1 w1 c1 a2 w2 c2 a3 w3 c3 : Int) : List Value :=
  [.bool b1, .bool b2, .bool b3, .int .u32 fx, .int .i64 lo, .int .i64 hi, .int .i64 st, .int .i64 a0, .int .i64 w0, .int .i64 c0, .int .i64 a1, .int .i64 w1, .int .i64 c1, .int .i64 a2, .int .i64 w2, .int .i64 c2, .int .i64 a3, .int .i64 w3, .int .i64 c3]
theorem forms_part : ∀ k, k < 8 → (formCells.drop (19 * k)).take 19 = fmL k := by
  intro k hk
  match k, hk with
  | 0, _ => rfl
  | 1, _ => rfl
  | 2, _ => rfl
  | 3, _ => rfl
  | 4, _ => rfl
  | 5, _ => rfl
  | 6, _ => rfl
  | 7, _ => rfl
theorem FormsIn.at (k : Nat) (hk : k < 8) {w : World} (h : FormsIn w) : w.rangeAt 1 (19 * k) (fmL k) := by
  intro j v hv
  rw [← forms_part k hk, List.getElem?_take] at hv
  split at hv
  · rw [List.getElem?_drop] at hv
    have := h.2 (19 * k + j) v hv
    rwa [Nat.zero_add] at this
  · cases hv

theorem bcell {W w1 : World} (hb : Below W.heap.size W w1) : (∀ b o, b < W.heap.size → w1.cell? ⟨b, o, none⟩ = W.cell? ⟨b, o, none⟩) ∧ (∀ b o, b < W.heap.size → w1.frozen? ⟨b, o, none⟩ = W.frozen? ⟨b, o, none⟩) :=
  ⟨fun b o h => hb.cell (p := ⟨b, o, none⟩) h, fun b o h => hb.frozen (p := ⟨b, o, none⟩) h⟩
theorem szA (w : World) (o : Obj) : (w.alloc o).heap.size = w.heap.size + 1 := by simp
theorem szD (w : World) : w.drew.heap.size = w.heap.size := rfl
theorem sizeForm' : (Tryd.prog.info? 134).map (·.size) = some 19 := by kernel_rfl

theorem frm_one (b1 b2 b3 : Bool) (fx lo hi st a0 w0 c0 a1 w1 c1 a2 w2 c2 a3 w3 c3 : Int) : (frmL b1 b2 b3 fx lo hi st a0 w0 c0 a1 w1 c1 a2 w2 c2 a3 w3 c3).toArray.all (·.oneCell') = true := all_oneCell_toArray (by simp [frmL, Value.oneCell'])
theorem wpList_store_new {P : Program} {ops : Array Oper} {rest : List Oper} {o : Oper} {a : Act} {w : World} {Q : Exit → Act → World → Prop} (hgd : o.guard = none) (ty : TypeId) (x y : Operand) (ho : o.op = .store ty x y)
    (cells old : Array Value) (t : TypeId) (hx : a.eval x = .pointer (some ⟨w.heap.size, 0, none⟩)) (hy : a.eval y = .agg cells) (hi : (P.info? ty).map (·.size) = some cells.size)
    (hold : old.size = cells.size) (h1 : cells.all (·.oneCell') = true)
    (h : wpList P ops Q rest (a.put o.dst undef) (w.alloc (.cells cells t))) : wpList P ops Q (o :: rest) a (w.alloc (.cells old t)) :=
  wpList_store_row hgd ty x y ho w.heap.size cells hx hy t old (heap_alloc_new w _) hi hold h1 (by rw [World.setRow_alloc_new]; exact h)
theorem yieldsIf_load_row {P : Program} {ops : Array Oper} {S : World → Prop} {op : Oper} {a : Act} (hw : Region.wanted op (yielded ops a.tmps) = true) (ty : TypeId) (x : Operand) (ho : op.op = .load ty x)
    (g : Nat) (hx : a.eval x = .pointer (some ⟨g, 0, none⟩)) (t : TypeId) (cs : Array Value) (fr : Nat × Nat) (d : TypeDesc) (hS : ∀ w : World, S w → w.heap[g]? = some (.cells cs t fr))
    (hu : P.underlying ty = some d) (hd : (match d with | .struct _ | .array _ _ => true | _ => false) = true) (hi : (P.info? ty).map (·.size) = some cs.size) : YieldsIf P ops S op (.agg cs) a :=
  .inl ⟨hw, fun w hw' => by
    unfold execOp
    simp only [ho, hx, Instr.loadAt, Instr.sureAddr, Sem.run_bind, Sem.run_pure, Result.andThen_ok, run_loadVar_row w g t ty cs fr d (hS w hw') hu hd hi]⟩
theorem row_at {w w' : World} {B g : Nat} {o : Obj} (hb : Below B w w') (hg : g < B) (h : w.heap[g]? = some o) : w'.heap[g]? = some o := (hb.block g hg).trans h
end Go.Proofs.YtppcbommaddkgaaDoor
