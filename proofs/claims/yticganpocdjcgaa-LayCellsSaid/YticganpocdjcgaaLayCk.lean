/- LayCells answers true, of any structs, types and counts; at most new blocks in memory. Conditions: arguments as they lie in memory, of their Go types. -/
import Derived.Test.YticganpocdjcgaaLayCi
import Derived.Test.YticganpocdjcgaaLayCj
namespace Go.Proofs.Yticganpocdjcgaa
open Go.RowKit Go.Maps
set_option linter.unusedVariables false
set_option linter.unusedSimpArgs false
set_option maxRecDepth 10000
open Py
theorem layCells_walk {w : World} {A : Option Addr} {c : Nat} {l : List Sc} (t : Ty) (n : Int) (ht : tyOk t) (hS : ScsAt w w.heap.size A l) (hlc : l.length ≤ c) (hcm : c ≤ maxLen) (hok : ∀ k, k < l.length → scOk (l.getD k sc0)) :
    Calls Try.prog 3 #[.slice A l.length c, .agg #[.int .i64 t.ba, .int .i64 t.st, .string t.sn], .int .i64 n] w fun e w' => e = .returned (.bool true) ∧ Below w.heap.size w w' :=
  layCells_over t n hS hlc hcm fun hf => by
    obtain ⟨hl, hR⟩ := right_facts hf
    obtain ⟨C, ec, hC, h⟩ := cells_both (c := c) t n ht (scsOk_of hf hok) hl hR
    exact ⟨C, ec, hC, fun W hS hB => h W w.heap.size A hS hB⟩
end Go.Proofs.Yticganpocdjcgaa
