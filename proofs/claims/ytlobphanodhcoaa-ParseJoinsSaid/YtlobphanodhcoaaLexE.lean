/- What digits mean, in the document. Conditions: each theorem's. -/
import Derived.Test.YtlobphanodhcoaaLexC
import Derived.Test.YtlobphanodhcoaaLexD
namespace Go.Proofs.Ytlobphanodhcoaa
open Go.RowKit
set_option linter.unusedVariables false
set_option linter.unusedSimpArgs false
set_option maxRecDepth 10000
open Lx
namespace Lx
theorem mnD_bad {base : Int} {l : List UInt8} (h0 : l ≠ []) (h : base ≤ dv (bt (l.getD 0 0))) : meanIn base l = none := by
  cases l with
  | nil => exact absurd rfl h0
  | cons c l =>
    rw [List.getD_cons_zero] at h
    simp [meanIn, mnD, bad_ge h]
theorem qt_iff (c : Int) : qt c = true ↔ 32 ≤ c ∧ c ≤ 126 ∧ c ≠ 39 ∧ c ≠ 92 := by simp [qt, and_assoc]
theorem qt_no {c : Int} (h : ¬ (32 ≤ c ∧ c ≤ 126 ∧ c ≠ 39 ∧ c ≠ 92)) : qt c = false := by
  cases hq : qt c with
  | false => rfl
  | true => exact absurd ((qt_iff c).1 hq) h
theorem dv_no {c : Int} (h : dg c = false) : 10 ≤ dv c := by
  unfold dg at h
  unfold dv
  simp at h
  split
  · omega
  · split <;> omega
theorem no_x {l : List UInt8} (h : dg (bt (l.getD 0 0)) = false) : Lib.hasPrefix l [48, 120] = false := by
  cases l with
  | nil => rfl
  | cons c l =>
    rw [List.getD_cons_zero] at h
    have : c ≠ 48 := fun e => by subst e; revert h; decide
    simp only [Lib.hasPrefix, List.isPrefixOf, Bool.and_eq_false_iff, beq_eq_false_iff_ne]
    exact .inl fun e => this e.symm
/-- Where a text begins with no digit, and is no byte between two signs, it means nothing. -/
theorem mean_no {l : List UInt8} (hq : isQ l = false) (h : dg (bt (l.getD 0 0)) = false) : meanV l = none := by
  unfold meanV
  rw [hq, if_neg (by simp), no_x h]
  split
  · rfl
  · rw [if_neg (by simp)]
    by_cases h0 : l = []
    · subst h0; rfl
    · exact mnD_bad h0 (dv_no h)
end Lx
theorem retUB {a b : Int} {x y : Bool} (h : a = b) (h2 : x = y) : Ending.returned (.tuple #[.int .u64 a, .bool x]) = Ending.returned (.tuple #[.int .u64 b, .bool y]) := by rw [h, h2]
end Go.Proofs.Ytlobphanodhcoaa
