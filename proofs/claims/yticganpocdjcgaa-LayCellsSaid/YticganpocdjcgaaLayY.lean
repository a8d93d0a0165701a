/- A field of a struct, in the program and in the document. Conditions: each theorem's. -/
import Derived.Test.YticganpocdjcgaaLayX
import Derived.Test.YticganpocdjcgaaLayV
namespace Go.Proofs.Yticganpocdjcgaa
open Go.RowKit Go.Maps
set_option linter.unusedVariables false
set_option linter.unusedSimpArgs false
set_option maxRecDepth 10000
open Py
end Go.Proofs.Yticganpocdjcgaa
