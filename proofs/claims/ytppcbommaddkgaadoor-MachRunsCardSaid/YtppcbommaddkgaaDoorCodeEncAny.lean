/- Encode of package code, any instruction: the word, or what is wrong. Conditions: the table of forms as the program lays it, and that the numbers are of 64 bits. -/
import Derived.Test.YtppcbommaddkgaaDoorCodeEnc
namespace Go.Proofs.YtppcbommaddkgaaDoor
open Go.RowKit Go.Maps
set_option linter.unusedVariables false
set_option linter.unusedSimpArgs false
set_option maxRecDepth 10000
open Pc

section
variable (b1 b2 b3 : Bool) (fx lo hi st a0 w0 c0 a1 w1 c1 a2 w2 c2 a3 w3 c3 op rd r1 r2 n : Int)
end
end Go.Proofs.YtppcbommaddkgaaDoor
