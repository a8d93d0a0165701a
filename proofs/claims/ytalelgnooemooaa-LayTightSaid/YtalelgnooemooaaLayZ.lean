/- The document's field of a struct. Conditions: each theorem's. -/
import Derived.Test.YtalelgnooemooaaLayY
import Derived.Deep.RegionWith
namespace Go.Proofs.Ytalelgnooemooaa
open Go.RowKit Go.Maps
set_option linter.unusedVariables false
set_option linter.unusedSimpArgs false
set_option maxRecDepth 10000
open Py
theorem own_atB {w : World} {base k : Nat} {v : Value} {xs : List Int} (h : w.ownsRow base 3 1 v xs.length (ints xs)) (hk : k < xs.length) : ∃ g cap, v = .slice (some ⟨g, 0, none⟩) xs.length cap ∧ base ≤ g ∧ g < w.heap.size ∧ w.cell? ⟨g, k, none⟩ = some (.int .i64 (xs.getD k 0)) := by
  rcases h.2 with ⟨rfl, hn⟩ | ⟨g, cap, cur, rfl, hg, hh, hnc, _, hsz, htk⟩
  · omega
  · refine ⟨g, cap, rfl, hg, lt_of_row hh, ?_⟩
    rw [cell_of_row w g k _ _ _ hh]
    have h1 := getD_ints xs k hk
    rw [← htk, List.getElem?_take] at h1
    split at h1
    · simpa using h1
    · cases h1
theorem fnd_at {l : List Sc} {nm : ByteArray} {i : Nat} (hi : sIdx l nm = i) : fnd l nm = l.getD i sc0 := by unfold fnd; rw [hi, if_pos (by omega), Int.toNat_natCast]
end Go.Proofs.Ytalelgnooemooaa
