/- Chapter 2: the code's own way to a word, by or of pieces, is the sum of its fields. Plain arithmetic; no program. Conditions: those that each theorem names. -/
import Derived.Test.YtppcbommaddkgaaDoorCodePlain
namespace Go.Proofs.YtppcbommaddkgaaDoor
namespace Pc
set_option linter.unusedVariables false
set_option linter.unusedSimpArgs false

/-! ### the code's own way to a word: or -/
def keyV (opc f3 f7 : Int) : Int := orI (orI opc (f3 * 4096)) (f7 * 33554432)
end Pc
end Go.Proofs.YtppcbommaddkgaaDoor
