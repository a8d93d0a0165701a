/- A field of a struct, in the program and in the document. Conditions: each theorem's. -/
import Derived.Test.YtalelgnooemooaaLayX
import Derived.Test.YtalelgnooemooaaLayV
namespace Go.Proofs.Ytalelgnooemooaa
open Go.RowKit Go.Maps
set_option linter.unusedVariables false
set_option linter.unusedSimpArgs false
set_option maxRecDepth 10000
open Py
end Go.Proofs.Ytalelgnooemooaa
