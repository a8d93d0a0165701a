/- Cells don't overlap: the pure side. Conditions: each theorem's. -/
import Derived.Test.YtalelgnooemooaaLayC0
namespace Go.Proofs.Ytalelgnooemooaa
open Go.RowKit Go.Maps
set_option linter.unusedVariables false
set_option linter.unusedSimpArgs false
set_option maxRecDepth 10000
open Py
namespace Py
/-- One of a type of size z has the cells C, which stand apart, each in line. -/
def OneAp (z : Int) (C : List Cl) : Prop := ∀ j, j < C.length → 1 ≤ sizeV (C.getD j cl0).ty ∧ 0 ≤ (C.getD j cl0).off ∧ (C.getD j cl0).off % sizeV (C.getD j cl0).ty = 0 ∧ z % sizeV (C.getD j cl0).ty = 0 ∧ (C.getD j cl0).off + sizeV (C.getD j cl0).ty ≤ (if j + 1 < C.length then (C.getD (j + 1) cl0).off else z)
theorem oneAp_in {z : Int} {C : List Cl} (h : OneAp z C) (d : Nat) : ∀ j, j < C.length → C.length - j = d + 1 → (C.getD j cl0).off + sizeV (C.getD j cl0).ty ≤ z := by
  induction d with
  | zero =>
    intro j hj hd
    have := (h j hj).2.2.2.2
    rw [if_neg (by omega)] at this
    exact this
  | succ d ih =>
    intro j hj hd
    have h1 := (h j hj).2.2.2.2
    rw [if_pos (by omega)] at h1
    have h2 := ih (j + 1) (by omega) (by omega)
    have h3 := (h (j + 1) (by omega)).1
    omega
theorem allC_get (z : Int) (C : List Cl) (n i j : Nat) (hi : i < n) (hj : j < C.length) : (allC z C n).getD (i * C.length + j) cl0 = ⟨i * z + (C.getD j cl0).off, (C.getD j cl0).ty⟩ := by
  induction n with
  | zero => omega
  | succ n ih =>
    rw [allC_succ, List.getD_eq_getElem?_getD]
    have hl := allC_len z C n
    by_cases h : i < n
    · rw [List.getElem?_append_left (by rw [hl]; calc i * C.length + j < i * C.length + C.length := by omega
        _ = (i + 1) * C.length := by rw [Nat.succ_mul]
        _ ≤ n * C.length := Nat.mul_le_mul_right _ h), ← List.getD_eq_getElem?_getD]
      exact ih h
    · obtain rfl : i = n := by omega
      rw [List.getElem?_append_right (by rw [hl]; omega), hl, show i * C.length + j - i * C.length = j by omega]
      simp [shiftC, List.getD, hj]
/-- What LayApart asks of all cells, a list of them of so many. -/
def AllAp (e : Int) (C : List Cl) : Prop := ∀ k, k < C.length → 1 ≤ sizeV (C.getD k cl0).ty ∧ 0 ≤ (C.getD k cl0).off ∧ (C.getD k cl0).off % sizeV (C.getD k cl0).ty = 0 ∧ (C.getD k cl0).off + sizeV (C.getD k cl0).ty ≤ e ∧ (k + 1 < C.length → (C.getD k cl0).off + sizeV (C.getD k cl0).ty ≤ (C.getD (k + 1) cl0).off)
theorem allAp {z : Int} {C : List Cl} (n : Nat) (h0 : 0 < C.length) (hz : 0 ≤ z) (h : OneAp z C) : AllAp (n * z) (allC z C n) := by
  intro k hk
  rw [allC_len] at hk
  obtain ⟨i, j, hij, hj⟩ : ∃ i j, k = i * C.length + j ∧ j < C.length := ⟨k / C.length, k % C.length, by rw [Nat.mul_comm]; exact (Nat.div_add_mod k C.length).symm, Nat.mod_lt _ h0⟩
  have hi : i < n := by
    by_cases h : i < n
    · exact h
    · have := Nat.mul_le_mul_right C.length (Nat.le_of_not_lt h)
      omega
  have hge := allC_get z C n i j hi hj
  rw [← hij] at hge
  obtain ⟨p1, p2, p3, p4, p5⟩ := h j hj
  have pin := oneAp_in h (C.length - j - 1) j hj (by omega)
  have hiz : 0 ≤ (i : Int) * z := Int.mul_nonneg (by omega) hz
  have hin : ((i : Int) + 1) * z ≤ n * z := Int.mul_le_mul_of_nonneg_right (by omega) hz
  rw [Int.add_mul, Int.one_mul] at hin
  rw [hge]
  refine ⟨p1, by dsimp only; omega, ?_, by dsimp only; omega, fun hk1 => ?_⟩
  · dsimp only
    rw [Int.add_emod, Int.mul_emod, p4, p3]
    simp
  · dsimp only
    rw [allC_len] at hk1
    by_cases hj1 : j + 1 < C.length
    · have h2 := allC_get z C n i (j + 1) hi hj1
      rw [show i * C.length + (j + 1) = k + 1 by omega] at h2
      rw [h2]
      rw [if_pos hj1] at p5
      dsimp only
      omega
    · have hi1 : i + 1 < n := by
        by_cases h : i + 1 < n
        · exact h
        · have := Nat.mul_le_mul_right C.length (Nat.le_of_not_lt h)
          rw [Nat.succ_mul] at this
          omega
      have h2 := allC_get z C n (i + 1) 0 hi1 h0
      rw [show (i + 1) * C.length + 0 = k + 1 by rw [Nat.succ_mul]; omega] at h2
      have q2 := (h 0 h0).2.1
      rw [h2]
      dsimp only
      rw [Int.natCast_add, Int.add_mul]
      omega
theorem next_mul {n z : Int} (hz : z = 1 ∨ z = 4 ∨ z = 8) : nextV n z % z = 0 := by
  unfold nextV
  rcases hz with rfl | rfl | rfl <;> simp
theorem line_ge (fs : List Fe) (k m : Nat) (hk : k < m) (hm : m ≤ fs.length) : sizeV (fs.getD k fd0).ty ≤ (layN fs m).line := by
  induction m with
  | zero => omega
  | succ m ih =>
    rw [layN_succ fs m (by omega)]
    simp only [layStep]
    by_cases h : k < m
    · have := ih h (by omega)
      split <;> omega
    · obtain rfl : k = m := by omega
      split <;> omega
theorem mod_sz {n a b : Int} (ha : a = 1 ∨ a = 4 ∨ a = 8) (hb : b = 1 ∨ b = 4 ∨ b = 8) (hab : a ≤ b) (h : n % b = 0) : n % a = 0 := by
  rcases ha with rfl | rfl | rfl <;> rcases hb with rfl | rfl | rfl <;> omega
theorem fldN_at (fs : List Fe) (j : Nat) (hj : j < fs.length) : (fldN fs fs.length).getD j cl0 = ⟨(layV fs).offs.getD j 0, (fs.getD j fd0).ty⟩ := by
  simp [fldN, List.getD, hj]
theorem one_fields (fs : List Fe) (hz : ∀ k, k < fs.length → sizeV (fs.getD k fd0).ty = 1 ∨ sizeV (fs.getD k fd0).ty = 4 ∨ sizeV (fs.getD k fd0).ty = 8) : OneAp (layV fs).size (fldN fs fs.length) := by
  intro j hj
  rw [fldN_len] at hj
  have he := lay_ends fs hz j hj
  have hzj := hz j hj
  have ho : (layV fs).offs.getD j 0 = nextV (layN fs j).size (sizeV (fs.getD j fd0).ty) := offs_at fs j fs.length hj (Nat.le_refl _)
  have hlin := line_pos fs fs.length (by omega) (Nat.le_refl _) hz
  have hsz : (layV fs).size = nextV (layN fs fs.length).size (layN fs fs.length).line := rfl
  rw [fldN_at fs j hj, fldN_len]
  refine ⟨by dsimp only; omega, he.1, ?_, ?_, ?_⟩
  · dsimp only
    rw [ho]
    exact next_mul hzj
  · dsimp only
    exact mod_sz hzj hlin (line_ge fs j fs.length hj (Nat.le_refl _)) (by rw [hsz]; exact next_mul hlin)
  · dsimp only
    have h2 := he.2.1
    by_cases h : j + 1 < fs.length
    · rw [if_pos h] at h2 ⊢
      rw [fldN_at fs (j + 1) h]
      exact h2
    · rw [if_neg h] at h2 ⊢
      exact h2
theorem one_plain {t : Ty} (h : 1 ≤ sizeV t) : OneAp (sizeV t) [⟨0, t⟩] := by
  intro j hj
  have hj0 : j = 0 := by simp at hj; omega
  subst hj0
  refine ⟨h, Int.le_refl _, Int.zero_emod _, Int.emod_self, ?_⟩
  rw [if_neg (by simp)]
  show 0 + sizeV t ≤ sizeV t
  omega
theorem allC_mem (z : Int) (C : List Cl) (n : Nat) (k : Nat) (hk : k < n * C.length) : ∃ j, j < C.length ∧ ((allC z C n).getD k cl0).ty = (C.getD j cl0).ty := by
  have h0 : 0 < C.length := by
    by_cases h : 0 < C.length
    · exact h
    · rw [show C.length = 0 by omega] at hk; omega
  have hj : k % C.length < C.length := Nat.mod_lt _ h0
  have hi : k / C.length < n := (Nat.div_lt_iff_lt_mul h0).2 hk
  refine ⟨k % C.length, hj, ?_⟩
  have := allC_get z C n (k / C.length) (k % C.length) hi hj
  rw [show k / C.length * C.length + k % C.length = k by rw [Nat.mul_comm]; exact Nat.div_add_mod k C.length] at this
  rw [this]
/-- Where the cell ahead of a cell ends. -/
def endV (C : List Cl) (k : Nat) : Int := if k = 0 then 0 else (C.getD (k - 1) cl0).off + sizeV (C.getD (k - 1) cl0).ty
theorem end_le {e : Int} {C : List Cl} (h : AllAp e C) (k : Nat) (hk : k < C.length) : endV C k ≤ (C.getD k cl0).off := by
  unfold endV
  split
  · exact (h k hk).2.1
  · have := (h (k - 1) (by omega)).2.2.2.2 (by omega)
    rw [show k - 1 + 1 = k by omega] at this
    exact this
end Py
end Go.Proofs.Ytalelgnooemooaa
