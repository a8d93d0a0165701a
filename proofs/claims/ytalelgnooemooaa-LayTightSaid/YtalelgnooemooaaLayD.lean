/- What package lay says of structs. Conditions: each theorem's. -/
import Derived.Test.YtalelgnooemooaaLayC
import Derived.Deep.RegionHeld3
namespace Go.Proofs.Ytalelgnooemooaa
open Go.RowKit
set_option linter.unusedVariables false
set_option linter.unusedSimpArgs false
set_option maxRecDepth 10000
open Py
theorem bcell {W w1 : World} (hb : Below W.heap.size W w1) : (∀ b o, b < W.heap.size → w1.cell? ⟨b, o, none⟩ = W.cell? ⟨b, o, none⟩) ∧ (∀ b o, b < W.heap.size → w1.frozen? ⟨b, o, none⟩ = W.frozen? ⟨b, o, none⟩) :=
  ⟨fun b o h => hb.cell (p := ⟨b, o, none⟩) h, fun b o h => hb.frozen (p := ⟨b, o, none⟩) h⟩
theorem szD (w : World) : w.drew.heap.size = w.heap.size := rfl
theorem row_below {w w' : World} {B b : Nat} {x : Obj} (hb : Below B w w') (h : w.heap[b]? = some x) (hlt : b < B) : w'.heap[b]? = some x := (hb.block b hlt).trans h
theorem fd_cells {w : World} {b : Nat} {f : Fe} {t : TypeId} (h : w.heap[b]? = some (.cells #[.string f.nm, .int .i64 f.ty.ba, .int .i64 f.ty.st, .string f.ty.sn, .int .i64 f.at_] t)) :
    w.cell? ⟨b, 0, none⟩ = some (.string f.nm) ∧ w.cell? ⟨b, 1, none⟩ = some (.int .i64 f.ty.ba) ∧ w.cell? ⟨b, 2, none⟩ = some (.int .i64 f.ty.st) ∧ w.cell? ⟨b, 3, none⟩ = some (.string f.ty.sn) ∧ w.cell? ⟨b, 4, none⟩ = some (.int .i64 f.at_) :=
  ⟨by rw [cell_of_row w b 0 _ _ _ h]; rfl, by rw [cell_of_row w b 1 _ _ _ h]; rfl, by rw [cell_of_row w b 2 _ _ _ h]; rfl, by rw [cell_of_row w b 3 _ _ _ h]; rfl, by rw [cell_of_row w b 4 _ _ _ h]; rfl⟩
theorem sc_cells {w : World} {b : Nat} {x y z : Value} {t : TypeId} (h : w.heap[b]? = some (.cells #[x, y, z] t)) :
    w.cell? ⟨b, 0, none⟩ = some x ∧ w.cell? ⟨b, 1, none⟩ = some y ∧ w.cell? ⟨b, 2, none⟩ = some z :=
  ⟨by rw [cell_of_row w b 0 _ _ _ h]; rfl, by rw [cell_of_row w b 1 _ _ _ h]; rfl, by rw [cell_of_row w b 2 _ _ _ h]; rfl⟩
theorem isStruct_n {w : World} {B n : Nat} {A : Option Addr} {c : Nat} {l : List Sc} (nm : ByteArray) (hn : l.length = n) (hS : ScsAt w B A l) (hB : B ≤ w.heap.size) (hl : l.length ≤ 1099511627776) :
    Calls Try.prog 26 #[.slice A n c, .string nm] w fun e w' => e = .returned (.bool (decide (0 ≤ sIdx l nm))) ∧ Below w.heap.size w w' := by
  subst hn; exact isStruct_any nm hS hB hl
theorem fldB_eq {l : List Sc} {fs pre : List Fe} {j : Nat} {nm : ByteArray} {t : Ty} {a : Int} (h1 : fs.take j = pre) (h2 : fs.getD j fd0 = ⟨nm, t, a⟩) :
    fldB l fs j = if 0 ≤ fIdx pre nm ∨ (t.ba = 4 ∧ sIdx l t.sn < 0) then (a, 13) else if mayBe l t = true then (0, 0) else (a, 14) := by
  unfold fldB; rw [h1, h2]
theorem fd_cells' {w : World} {b : Nat} {x0 x1 x2 x3 x4 : Value} {t : TypeId} (h : w.heap[b]? = some (.cells #[x0, x1, x2, x3, x4] t)) :
    w.cell? ⟨b, 0, none⟩ = some x0 ∧ w.cell? ⟨b, 1, none⟩ = some x1 ∧ w.cell? ⟨b, 2, none⟩ = some x2 ∧ w.cell? ⟨b, 3, none⟩ = some x3 ∧ w.cell? ⟨b, 4, none⟩ = some x4 :=
  ⟨by rw [cell_of_row w b 0 _ _ _ h]; rfl, by rw [cell_of_row w b 1 _ _ _ h]; rfl, by rw [cell_of_row w b 2 _ _ _ h]; rfl, by rw [cell_of_row w b 3 _ _ _ h]; rfl, by rw [cell_of_row w b 4 _ _ _ h]; rfl⟩
end Go.Proofs.Ytalelgnooemooaa
