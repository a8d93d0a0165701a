/- The document's comparison of programs. Conditions: each theorem's. -/
import Derived.Test.YtfjobnljdkiihaaGreatDoorQtParSp
import Derived.Test.YtfjobnljdkiihaaGreatDoorQtParSx
namespace Go.Proofs.YtfjobnljdkiihaaGreatDoor
open Go.RowKit Go.Maps
open Lx Pa
end Go.Proofs.YtfjobnljdkiihaaGreatDoor
