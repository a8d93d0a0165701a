/- Encode of package code, any instruction: the word, or what is wrong. Conditions: the table of forms as the program lays it, and that the numbers are of 64 bits. -/
import Derived.Test.YtoehfncgkkfdeaaDoorCodeEnc
namespace Go.Proofs.YtoehfncgkkfdeaaDoor
open Go.RowKit Go.Maps
set_option linter.unusedVariables false
set_option linter.unusedSimpArgs false
set_option maxRecDepth 10000
open Pc

section
variable (b1 b2 b3 : Bool) (fx lo hi st a0 w0 c0 a1 w1 c1 a2 w2 c2 a3 w3 c3 op rd r1 r2 n : Int)
end
theorem regB_out {r : Int} (h : regB r = true) : 0 ≤ r ∧ r < 32 := by simpa [regB] using h
theorem allowB_out {k rd r1 r2 n : Int} (h : allowB k rd r1 r2 n = true) : regB rd = true ∧ regB r1 = true ∧ regB r2 = true := by
  unfold allowB at h
  simp only [Bool.and_eq_true] at h
  exact ⟨h.1.1.1, h.1.1.2, h.1.2⟩
theorem packV_range (k rd r1 r2 n : Int) (hrd : 0 ≤ rd ∧ rd < 32) (hr1 : 0 ≤ r1 ∧ r1 < 32) (hr2 : 0 ≤ r2 ∧ r2 < 32) (hp : ∀ p ∈ [(pcs k).getD 0 (0, 0, 0), (pcs k).getD 1 (0, 0, 0), (pcs k).getD 2 (0, 0, 0), (pcs k).getD 3 (0, 0, 0)], p.2.1 + p.2.2 ≤ 32) : 0 ≤ packV k rd r1 r2 n ∧ packV k rd r1 r2 n < 4294967296 := by
  refine ⟨orI_nonneg _ _, ?_⟩
  have q := fun p hp' => (putV_range p.1 p.2.1 p.2.2 n (hp p hp')).2
  unfold packV
  exact orI_lt _ _ (orI_lt _ _ (orI_lt _ _ (orI_lt _ _ (orI_lt _ _ (orI_lt _ _ (by omega) (by omega)) (by omega)) (q _ (by simp))) (q _ (by simp))) (q _ (by simp))) (q _ (by simp))
theorem keyV_range (o f g : Int) (ho : 0 ≤ o ∧ o < 128) (hf : 0 ≤ f ∧ f < 8) (hg : 0 ≤ g ∧ g < 128) : 0 ≤ keyV o f g ∧ keyV o f g < 4294967296 :=
  ⟨orI_nonneg _ _, orI_lt _ _ (orI_lt _ _ (by omega) (by omega)) (by omega)⟩
/-- The program's or, of the key and what is packed, is the word. -/
theorem or_final (k o f g rd r1 r2 n : Int) (hrow : okRow k o f g = true) (hz : zeroB k rd r1 r2 n = true) (ha : allowB k rd r1 r2 n = true) (hp : ∀ p ∈ [(pcs k).getD 0 (0, 0, 0), (pcs k).getD 1 (0, 0, 0), (pcs k).getD 2 (0, 0, 0), (pcs k).getD 3 (0, 0, 0)], p.2.1 + p.2.2 ≤ 32) :
    bits .or .u32 (keyV o f g) (packV k rd r1 r2 n) = word k o f g rd r1 r2 n := by
  obtain ⟨-, h1, h2, h3, h4, h5, h6, -⟩ := okRow_out hrow
  obtain ⟨q1, q2, q3⟩ := allowB_out ha
  have kr := keyV_range o f g ⟨h1, h2⟩ ⟨h3, h4⟩ ⟨h5, h6⟩
  have pr := packV_range k rd r1 r2 n (regB_out q1) (regB_out q2) (regB_out q3) hp
  rw [or32 _ _ kr.1 kr.2 pr.1 pr.2]
  exact or_word k o f g rd r1 r2 n hrow (by simp [encSt, hz, ha])

end Go.Proofs.YtoehfncgkkfdeaaDoor
