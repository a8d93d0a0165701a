/- The document's comparison of programs. Conditions: each theorem's. -/
import Derived.Test.YtfjobnljdkiihaaGreatDoorQtParSp
import Derived.Test.YtfjobnljdkiihaaGreatDoorQtParSx
import Derived.Test.YtfjobnljdkiihaaGreatDoorQtParSy
namespace Go.Proofs.YtfjobnljdkiihaaGreatDoor
open Go.RowKit Go.Maps
open Lx Pa
theorem same_any (p q : PPr) (pl : Bool) (vs vv vf us uv uf : Value) (w : World) (S1 S2 : Nat → Prop) (h1 : PrAt w S1 p vs vv vf) (h2 : PrAt w S2 q us uv uf) :
  Calls Tryz.prog 9 #[.agg #[vs, vv, vf], .agg #[us, uv, uf], .bool pl] w fun e w' => e = .returned (.bool (sameB (EqP pl p q))) ∧ Below w.heap.size w w' := by
 obtain ⟨A1, c1, rfl⟩ := h1.s.slice
 obtain ⟨A2, c2, rfl⟩ := h1.v.slice
 obtain ⟨A3, c3, rfl⟩ := h1.f.slice
 obtain ⟨A4, c4, rfl⟩ := h2.s.slice
 obtain ⟨A5, c5, rfl⟩ := h2.v.slice
 obtain ⟨A6, c6, rfl⟩ := h2.f.slice
 cases pl with
 | true => exact same_true p q _ _ _ _ _ _ _ _ _ _ _ _ w S1 S2 h1 h2
 | false => exact same_false p q _ _ _ _ _ _ _ _ _ _ _ _ w S1 S2 h1 h2
end Go.Proofs.YtfjobnljdkiihaaGreatDoor
