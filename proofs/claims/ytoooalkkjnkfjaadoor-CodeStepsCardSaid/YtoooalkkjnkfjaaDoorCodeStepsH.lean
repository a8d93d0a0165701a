/- CodeSteps: each Imm of a form comes back, and the next one has another word: it answers true; at most new blocks in memory. Conditions: the table of forms as the program lays it, and that the arguments are of their Go types. -/
import Derived.Test.YtoooalkkjnkfjaaDoorCodeRoom
namespace Go.Proofs.YtoooalkkjnkfjaaDoor
open Go.RowKit
set_option linter.unusedVariables false
set_option linter.unusedSimpArgs false
open Pc

namespace Pc
/-- A word that was made is found again. -/
theorem found {op k o f g n : Int} (hr : rowOf op = (k, o, f, g)) (h : encS op 0 0 0 n = 0) : findOp (encW op 0 0 0 n) = op ∧ dI k (encW op 0 0 0 n) = n ∧ dRd k (encW op 0 0 0 n) = 0 ∧ dR1 k (encW op 0 0 0 n) = 0 ∧ dR2 k (encW op 0 0 0 n) = 0 := by
  obtain ⟨o1, o2, hs, hw⟩ := encS_zero h
  obtain ⟨m, d1, d2, d3, d4, -⟩ := enc_dec _ _ _ _ 0 0 0 n (rowOf_ok op o1 o2) hs
  rw [← hw] at m d1 d2 d3 d4
  have e := findOp_of op _ o1 o2 (show mtR (rowOf op) _ = true from m)
  rw [hr] at d1 d2 d3 d4
  exact ⟨e, d4, d1, d2, d3⟩
theorem enc_ok {op k o f g n : Int} (h1 : 1 ≤ op) (h2 : op ≤ 55) (hr : rowOf op = (k, o, f, g)) (hi : immB k n = true) : encS op 0 0 0 n = 0 ∨ hasI k = false := by
  by_cases hh : hasI k = true
  · left
    unfold encS
    rw [if_pos ⟨h1, h2⟩, hr]
    simp [encSt, zeroB, allowB, regB, hi, hh]
  · right; simpa using hh
end Pc
theorem decode_made {op k o f g n : Int} (w : World) (h0 : op ≠ 0) (hr : rowOf op = (k, o, f, g)) (h : encS op 0 0 0 n = 0) (hF : FormsIn w) :
    Calls Tryd.prog 11 #[.int .u32 (encW op 0 0 0 n)] w fun e w' => e = .returned (.tuple #[ins op 0 0 0 n, .int .i64 0]) ∧ Below w.heap.size w w' := by
  have hR := encW_range op 0 0 0 n
  refine (decode_gen _ w hR.1 hR.2 hF).mono fun e w' hp => ?_
  unfold DecPost at hp
  obtain ⟨e1, e2, e3, e4, e5⟩ := found hr h
  rw [e1, hr] at hp
  simp only [if_neg h0, e2, e3, e4, e5] at hp
  exact hp
end Go.Proofs.YtoooalkkjnkfjaaDoor
