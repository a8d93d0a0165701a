/- What the map of shapes holds at each Op, and at no other number. Conditions: those that each theorem names. -/
import Derived.Test.YtppcbommaddkgaaDoorCodeMap
import Derived.Test.YtppcbommaddkgaaDoorCodePlain
namespace Go.Proofs.YtppcbommaddkgaaDoor
open Go.RowKit Go.Maps
set_option linter.unusedVariables false
open Pc

theorem shapeR_inv {v : Value} {a b c d : Int} {ps : List MemPlace} (h : shapeR v = some (shapeD a b c d, ps)) : v = .agg #[.int .u8 a, .int .u8 b, .int .u8 c, .int .u8 d] := by
  unfold shapeR at h
  split at h
  · rename_i cs
    obtain ⟨l⟩ := cs
    split at h
    · rename_i h2
      simp [shapeD] at h h2
      obtain ⟨⟨rfl, rfl, rfl, rfl⟩, _⟩ := h
      rw [h2]
    · cases h
  · cases h

/-- The map, in the order of its keys. -/
def rowD (j : Nat) : DataW Unit := shapeD (tab.getD j (8, 0, 0, 0)).2.1 (tab.getD j (8, 0, 0, 0)).2.2.1 (tab.getD j (8, 0, 0, 0)).2.2.2 (tab.getD j (8, 0, 0, 0)).1
def tabD : List (Lit × DataW Unit) := (List.range 55).map fun j : Nat => (.int .i64 ((j : Int) + 1), rowD j)
set_option maxRecDepth 100000 in
theorem D13_eq : D13 = .map tabD := by kernel_rfl
theorem D13_has (op : Int) : Maps.has D13 (.int .i64 op) = decide (1 ≤ op ∧ op ≤ 55) := by
  rw [D13_eq, Maps.has_eq, Bool.eq_iff_iff, List.any_eq_true]
  simp only [tabD, List.mem_map, List.mem_range, decide_eq_true_eq]
  constructor
  · rintro ⟨p, ⟨j, hj, rfl⟩, h⟩
    simp [Lit.sameKey] at h
    omega
  · intro h
    exact ⟨_, ⟨(op - 1).toNat, by omega, rfl⟩, by simp [Lit.sameKey]; omega⟩
theorem find_tab (op : Int) (h1 : 1 ≤ op) (h2 : op ≤ 55) : tabD.find? (fun p => p.1.sameKey (.int .i64 op)) = some (.int .i64 op, rowD (op - 1).toNat) := by
  unfold tabD
  rw [List.find?_map]
  have : (List.range 55).find? ((fun p : Lit × DataW Unit => p.1.sameKey (.int .i64 op)) ∘ fun j : Nat => (Lit.int .i64 ((j : Int) + 1), rowD j)) = some (op - 1).toNat := by
    rw [List.find?_range_eq_some]
    refine ⟨by simp [Lit.sameKey]; omega, by simp; omega, ?_⟩
    intro j hj
    simp [Lit.sameKey]
    omega
  rw [this]
  simp
  omega
theorem D13_at (op : Int) (h1 : 1 ≤ op) (h2 : op ≤ 55) (z : DataW Unit) : D13.atKey (.int .i64 op) z = shapeD (rowOf op).2.1 (rowOf op).2.2.1 (rowOf op).2.2.2 (rowOf op).1 := by
  rw [D13_eq]
  unfold DataW.atKey
  simp only [find_tab op h1 h2]
  rfl
theorem D13_not (op : Int) (h : ¬ (1 ≤ op ∧ op ≤ 55)) (z : DataW Unit) : D13.atKey (.int .i64 op) z = z := by
  rw [D13_eq]
  unfold DataW.atKey
  have : tabD.find? (fun p => p.1.sameKey (.int .i64 op)) = none := by
    rw [List.find?_eq_none]
    intro p hp
    simp only [tabD, List.mem_map, List.mem_range] at hp
    obtain ⟨j, hj, rfl⟩ := hp
    simp [Lit.sameKey]
    omega
  simp only [this]

end Go.Proofs.YtppcbommaddkgaaDoor
