/- LayFields answers true, of any structs; at most new blocks in memory. Conditions: structs as they lie in memory, of their Go types. -/
import Derived.Test.YtalelgnooemooaaLayV
import Derived.Test.YtalelgnooemooaaLayP
import Derived.Test.YtalelgnooemooaaLayS
namespace Go.Proofs.Ytalelgnooemooaa
open Go.RowKit Go.Maps
set_option linter.unusedVariables false
set_option linter.unusedSimpArgs false
set_option maxRecDepth 10000
open Py
theorem scsOk_of {l : List Sc} (h : rightV l = true) (hok : ∀ k, k < l.length → scOk (l.getD k sc0)) : ScsOk l := fun i hi => by
  obtain ⟨-, hf⟩ := right_facts h
  obtain ⟨-, -, h12, -⟩ := hf i hi
  exact ⟨by omega, fun k hk => ((hok i hi).2 k hk).2.1⟩
end Go.Proofs.Ytalelgnooemooaa
