/- LayPlaces answers true, of any structs and names; at most new blocks in memory. Conditions: structs as they lie in memory, of their Go types. -/
import Derived.Test.YtalelgnooemooaaLayZ
import Derived.Test.YtalelgnooemooaaLayW
namespace Go.Proofs.Ytalelgnooemooaa
open Go.RowKit Go.Maps
set_option linter.unusedVariables false
set_option linter.unusedSimpArgs false
set_option maxRecDepth 10000
open Py
theorem own_row {w : World} {base n : Nat} {v : Value} {O : List Int} (h : w.ownsRow base 3 1 v n (ints O)) (hn : 0 < n) (hO : O.length = n) : ∃ g cap cur, v = .slice (some ⟨g, 0, none⟩) n cap ∧ base ≤ g ∧ w.heap[g]? = some (.cells cur 3 (0, 0)) ∧ ∀ k, k < n → cur[k]? = some (.int .i64 (O.getD k 0)) := by
  rcases h.2 with ⟨rfl, hz⟩ | ⟨g, cap, cur, rfl, hg, hh, hnc, _, hsz, htk⟩
  · omega
  · refine ⟨g, cap, cur, rfl, hg, hh, fun k hk => ?_⟩
    have h1 := getD_ints O k (by omega)
    rw [← htk, List.getElem?_take] at h1
    split at h1
    · simpa using h1
    · cases h1
end Go.Proofs.Ytalelgnooemooaa
