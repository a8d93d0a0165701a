/- What package lay says of lists of structs. Conditions: each theorem's. -/
import Derived.Test.YtalelgnooemooaaLayD
namespace Go.Proofs.Ytalelgnooemooaa
open Go.RowKit
set_option linter.unusedVariables false
set_option linter.unusedSimpArgs false
set_option maxRecDepth 10000
open Py
theorem strB_eq {l pre : List Sc} {j : Nat} {nm : ByteArray} {fs : List Fe} {a : Int} (h1 : l.take j = pre) (h2 : l.getD j sc0 = ⟨nm, fs, a⟩) :
    strB l j = if 0 ≤ sIdx pre nm then (a, 13) else if fs.length = 0 ∨ 12 < fs.length then (a, 3) else chkF l fs := by
  unfold strB; rw [h1, h2]
end Go.Proofs.Ytalelgnooemooaa
