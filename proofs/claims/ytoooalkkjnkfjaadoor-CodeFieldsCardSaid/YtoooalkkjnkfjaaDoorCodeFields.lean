/- CodeFields: the registers of an instruction of three stand in the word's fields: it answers true, of any arguments; at most new blocks in memory. Conditions: the table of forms as the program lays it, and that the arguments are of their Go types. -/
import Derived.Test.YtoooalkkjnkfjaaDoorCodeLawsA
import Derived.Test.YtoooalkkjnkfjaaDoorCodeTake
import Derived.Test.YtoooalkkjnkfjaaDoorCodeMask
namespace Go.Proofs.YtoooalkkjnkfjaaDoor
open Go.RowKit
set_option linter.unusedVariables false
set_option linter.unusedSimpArgs false
open Pc

namespace Pc
theorem rowsR : ∀ j : Nat, j < 28 → 1 ≤ j → (rowOf (j : Int)).1 = 0 := by decide +kernel
theorem encR (op rd r1 r2 : Int) (h1 : 1 ≤ op) (h2 : op ≤ 27) (hrd : 0 ≤ rd ∧ rd < 32) (hr1 : 0 ≤ r1 ∧ r1 < 32) (hr2 : 0 ≤ r2 ∧ r2 < 32) :
    encS op rd r1 r2 0 = 0 ∧ encW op rd r1 r2 0 = (rowOf op).2.1 + rd * 128 + (rowOf op).2.2.1 * 4096 + r1 * 32768 + r2 * 1048576 + (rowOf op).2.2.2 * 33554432 := by
  obtain ⟨j, rfl⟩ := Int.eq_ofNat_of_zero_le (show 0 ≤ op by omega)
  have k0 := rowsR j (by omega) (by omega)
  have e : encS (j : Int) rd r1 r2 0 = 0 := by
    unfold encS
    rw [if_pos (by omega), k0]
    simp [encSt, zeroB, allowB, uRd, uR1, uR2, regB, immB, hasI, hrd, hr1, hr2]
  refine ⟨e, ?_⟩
  unfold encW
  rw [if_pos e, k0]
  simp [word, immW]
/-- The fields, read off the word. -/
theorem fields (o f g rd r1 r2 : Int) (ho : 0 ≤ o ∧ o < 128) (hf : 0 ≤ f ∧ f < 8) (hg : 0 ≤ g ∧ g < 128) (hrd : 0 ≤ rd ∧ rd < 32) (hr1 : 0 ≤ r1 ∧ r1 < 32) (hr2 : 0 ≤ r2 ∧ r2 < 32) (W : Int) (hW : W = o + rd * 128 + f * 4096 + r1 * 32768 + r2 * 1048576 + g * 33554432) :
    0 ≤ W ∧ W < 4294967296 ∧ bits .andNot .u32 W 33525632 = o + f * 4096 + g * 33554432 ∧ bits .and .u32 (W / 128) 31 = rd ∧ bits .and .u32 (W / 32768) 31 = r1 ∧ bits .and .u32 (W / 1048576) 31 = r2 := by
  have h0 : 0 ≤ W := by omega
  have h1 : W < 4294967296 := by omega
  refine ⟨h0, h1, ?_, ?_, ?_, ?_⟩
  · rw [strike W h0 h1]; subst hW
    have e1 : (o + rd * 128 + f * 4096 + r1 * 32768 + r2 * 1048576 + g * 33554432) % 128 = o := by omega
    have e2 : (o + rd * 128 + f * 4096 + r1 * 32768 + r2 * 1048576 + g * 33554432) / 4096 % 8 = f := by omega
    have e3 : (o + rd * 128 + f * 4096 + r1 * 32768 + r2 * 1048576 + g * 33554432) / 33554432 % 128 = g := by omega
    rw [e1, e2, e3]
  · rw [and31 _ (by omega) (by omega)]; subst hW; omega
  · rw [and31 _ (by omega) (by omega)]; subst hW; omega
  · rw [and31 _ (by omega) (by omega)]; subst hW; omega
end Pc

set_option maxHeartbeats 2000000 in
theorem codeFields_walk (op x0 x1 x2 y0 y1 y2 : Int) (w : World) (hop : 0 ≤ op ∧ op < 256) (hx0 : 0 ≤ x0 ∧ x0 < 256) (hx1 : 0 ≤ x1 ∧ x1 < 256) (hx2 : 0 ≤ x2 ∧ x2 < 256) (hy0 : 0 ≤ y0 ∧ y0 < 256) (hy1 : 0 ≤ y1 ∧ y1 < 256) (hy2 : 0 ≤ y2 ∧ y2 < 256) (hF : FormsIn w) :
    Calls Tryd.prog 5 #[.int .u8 op, .agg #[.int .u8 x0, .int .u8 x1, .int .u8 x2], .agg #[.int .u8 y0, .int .u8 y1, .int .u8 y2]] w fun e w' => e = .returned (.bool true) ∧ Below w.heap.size w w' := by
  go_enter Tryd.func5, Tryd.ntmps5
  go_wp2_with fail
  refine (awake_any _ (hF.keep (below2 w _ _) (Nat.le_refl _))).mono ?_
  rintro e w1 ⟨rfl, h1⟩
  obtain ⟨hc1, hf1⟩ := bcell h1
  have hz1 : w.heap.size + 1 < w1.heap.size := by have := h1.size; simp only [szA] at this; omega
  have hB1 := (below2 w _ _).trans (h1.mono (by simp only [szA]; omega))
  have hF1 := hF.keep hB1 (Nat.le_refl _)
  have c0 : w1.cell? ⟨w.heap.size, 0, none⟩ = some (.int .u8 x0) := by rw [hc1 _ _ (by simp only [szA]; omega)]; go_simp
  have c1 : w1.cell? ⟨w.heap.size, 1, none⟩ = some (.int .u8 x1) := by rw [hc1 _ _ (by simp only [szA]; omega)]; go_simp
  have c2 : w1.cell? ⟨w.heap.size, 2, none⟩ = some (.int .u8 x2) := by rw [hc1 _ _ (by simp only [szA]; omega)]; go_simp
  have d0 : w1.cell? ⟨w.heap.size + 1, 0, none⟩ = some (.int .u8 y0) := by rw [hc1 _ _ (by simp only [szA]; omega)]; go_simp
  have d1 : w1.cell? ⟨w.heap.size + 1, 1, none⟩ = some (.int .u8 y1) := by rw [hc1 _ _ (by simp only [szA]; omega)]; go_simp
  have d2 : w1.cell? ⟨w.heap.size + 1, 2, none⟩ = some (.int .u8 y2) := by rw [hc1 _ _ (by simp only [szA]; omega)]; go_simp
  clear hc1 hf1 h1
  have k1 : 1 ≤ op % 27 + 1 := by omega
  have k2 : op % 27 + 1 ≤ 27 := by omega
  obtain ⟨E1, E2⟩ := encR (op % 27 + 1) (x0 % 32) (x1 % 32) (x2 % 32) k1 k2 (by omega) (by omega) (by omega)
  obtain ⟨E3, E4⟩ := encR (op % 27 + 1) (y0 % 32) (y1 % 32) (y2 % 32) k1 k2 (by omega) (by omega) (by omega)
  obtain ⟨-, q1, q2, q3, q4, q5, q6, -⟩ := okRow_out (rowOf_ok (op % 27 + 1) k1 (by omega))
  obtain ⟨-, -, f1, f2, f3, f4⟩ := fields _ _ _ (x0 % 32) (x1 % 32) (x2 % 32) ⟨q1, q2⟩ ⟨q3, q4⟩ ⟨q5, q6⟩ (by omega) (by omega) (by omega) _ E2
  obtain ⟨-, -, g1, -⟩ := fields _ _ _ (y0 % 32) (y1 % 32) (y2 % 32) ⟨q1, q2⟩ ⟨q3, q4⟩ ⟨q5, q6⟩ (by omega) (by omega) (by omega) _ E4
  have HE1 := Lib.hid E1; have HE3 := Lib.hid E3
  have hop' : (Lit.int .i64 (op % 27 + 1)).wf = true := wfI (by omega)
  clear E1 E2 E3 E4
  go_wp2_with fail
  refine (encode_any _ _ _ _ _ _ hop' hF1).mono ?_
  rintro e w2 ⟨rfl, h2⟩
  rw [HE1.out]
  obtain ⟨hc2, hf2⟩ := bcell h2
  have hz2 : w.heap.size + 1 < w2.heap.size := by have := h2.size; omega
  have hB2 := hB1.trans (h2.mono hB1.size)
  have hF2 := hF.keep hB2 (Nat.le_refl _)
  have c0' : w2.cell? ⟨w.heap.size, 0, none⟩ = some (.int .u8 x0) := by rw [hc2 _ _ (by omega)]; exact c0
  have c1' : w2.cell? ⟨w.heap.size, 1, none⟩ = some (.int .u8 x1) := by rw [hc2 _ _ (by omega)]; exact c1
  have c2' : w2.cell? ⟨w.heap.size, 2, none⟩ = some (.int .u8 x2) := by rw [hc2 _ _ (by omega)]; exact c2
  have d0' : w2.cell? ⟨w.heap.size + 1, 0, none⟩ = some (.int .u8 y0) := by rw [hc2 _ _ (by omega)]; exact d0
  have d1' : w2.cell? ⟨w.heap.size + 1, 1, none⟩ = some (.int .u8 y1) := by rw [hc2 _ _ (by omega)]; exact d1
  have d2' : w2.cell? ⟨w.heap.size + 1, 2, none⟩ = some (.int .u8 y2) := by rw [hc2 _ _ (by omega)]; exact d2
  clear hc2 hf2 h2 c0 c1 c2 d0 d1 d2
  generalize encW (op % 27 + 1) (x0 % 32) (x1 % 32) (x2 % 32) 0 = W at *
  go_wp2_with fail
  refine (encode_any _ _ _ _ _ _ hop' hF2).mono ?_
  rintro e w3 ⟨rfl, h3⟩
  rw [HE3.out]
  obtain ⟨hc3, hf3⟩ := bcell h3
  have hz3 : w.heap.size + 1 < w3.heap.size := by have := h3.size; omega
  have c0'' : w3.cell? ⟨w.heap.size, 0, none⟩ = some (.int .u8 x0) := by rw [hc3 _ _ (by omega)]; exact c0'
  have c1'' : w3.cell? ⟨w.heap.size, 1, none⟩ = some (.int .u8 x1) := by rw [hc3 _ _ (by omega)]; exact c1'
  have c2'' : w3.cell? ⟨w.heap.size, 2, none⟩ = some (.int .u8 x2) := by rw [hc3 _ _ (by omega)]; exact c2'
  have HB := hB2.trans (h3.mono hB2.size)
  clear hc3 hf3 h3 d0' d1' d2' c0' c1' c2'
  generalize encW (op % 27 + 1) (y0 % 32) (y1 % 32) (y2 % 32) 0 = W' at *
  go_wp2
  go_ret
  exact ⟨rfl, HB⟩
end Go.Proofs.YtoooalkkjnkfjaaDoor
