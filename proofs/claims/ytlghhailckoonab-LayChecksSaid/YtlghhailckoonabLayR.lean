/- LayChecks answers true, of any structs; at most new blocks in memory. Conditions: structs as they lie in memory. -/
import Derived.Test.YtlghhailckoonabLayF
import Derived.Test.YtlghhailckoonabLayQ
namespace Go.Proofs.Ytlghhailckoonab
open Go.RowKit Go.Maps
set_option linter.unusedVariables false
set_option linter.unusedSimpArgs false
set_option maxRecDepth 10000
open Py
theorem few_len {l : List Sc} (h : few l = true) : l.length ≤ 40 := by
  unfold few at h
  have := (Bool.and_eq_true_iff.1 h).1
  simpa using this
set_option maxHeartbeats 2000000 in
theorem layChecks_walk {w : World} {A : Option Addr} {c : Nat} {l : List Sc} (hS : ScsAt w w.heap.size A l) (hlc : l.length ≤ c) (hcm : c ≤ maxLen) :
    Calls Try.prog 3 #[.slice A l.length c] w fun e w' => e = .returned (.bool true) ∧ Below w.heap.size w w' := by
  go_enter Try.func3, Try.ntmps3
  go_wp2_with fail
  refine (awake_any _).mono ?_
  rintro e w1 ⟨rfl, b1⟩
  go_wp2_with fail
  refine (few_any (hS.keep b1 (Nat.le_refl _)) b1.size).mono ?_
  rintro e w2 ⟨rfl, h2⟩
  have b2 := b1.trans (h2.mono b1.size)
  cases hf : few l
  · go_wp2_with fail
    refine (awake_any _).mono ?_
    rintro e w3 ⟨rfl, h3⟩
    go_wp2
    go_ret
    exact ⟨rfl, b2.trans (h3.mono b2.size)⟩
  · have hl := few_len hf
    go_wp2_with fail
    refine (check_any (hS.keep b2 (Nat.le_refl _)) b2.size (by omega) hlc hcm).mono ?_
    rintro e w3 ⟨rfl, h3⟩
    have b3 := b2.trans (h3.mono b2.size)
    go_wp2_with fail
    refine (rcheck_any (hS.keep b3 (Nat.le_refl _)) b3.size (by omega) hlc hcm).mono ?_
    rintro e w4 ⟨rfl, h4⟩
    go_wp2
    go_ret
    exact ⟨rfl, b3.trans (h4.mono b3.size)⟩
end Go.Proofs.Ytlghhailckoonab
