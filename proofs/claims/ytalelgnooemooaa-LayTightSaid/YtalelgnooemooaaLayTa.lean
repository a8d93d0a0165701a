/- Sizes of structs against the sum of their fields' sizes: the pure side. Conditions: each theorem's. -/
import Derived.Test.YtalelgnooemooaaLayAp
import Derived.Laws.BytesArg
namespace Go.Proofs.Ytalelgnooemooaa
open Go.RowKit Go.Maps
set_option linter.unusedVariables false
set_option linter.unusedSimpArgs false
set_option maxRecDepth 10000
open Py
namespace Py
def szs (fs : List Fe) : List Int := fs.map fun f => sizeV f.ty
def sumV (fs : List Fe) : Int := (szs fs).sum
def sumN (fs : List Fe) (k : Nat) : Int := sumV (fs.take k)
theorem sumV_app (a b : List Fe) : sumV (a ++ b) = sumV a + sumV b := by simp [sumV, szs, List.sum_append]
theorem sumV_one (f : Fe) : sumV [f] = sizeV f.ty := by simp [sumV, szs]
theorem sumV_rev (fs : List Fe) : sumV fs.reverse = sumV fs := by
  induction fs with
  | nil => rfl
  | cons f fs ih => rw [List.reverse_cons, sumV_app, ih, sumV_one, show f :: fs = [f] ++ fs from rfl, sumV_app, sumV_one]; omega
theorem sumN_succ (fs : List Fe) (k : Nat) (hk : k < fs.length) : sumN fs (k + 1) = sumN fs k + sizeV (fs.getD k fd0).ty := by
  unfold sumN
  rw [List.take_succ_eq_append_getElem hk, sumV_app, sumV_one]
  simp [List.getD, hk]
theorem next_most {n z : Int} (hz : z = 1 ∨ z = 4 ∨ z = 8) : nextV n z ≤ n + (z - 1) := by
  unfold nextV
  rcases hz with rfl | rfl | rfl <;> simp <;> omega
abbrev Szs (fs : List Fe) : Prop := ∀ k, k < fs.length → sizeV (fs.getD k fd0).ty = 1 ∨ sizeV (fs.getD k fd0).ty = 4 ∨ sizeV (fs.getD k fd0).ty = 8
theorem lay_sum {fs : List Fe} (hz : Szs fs) (k : Nat) (hk : k ≤ fs.length) : sumN fs k ≤ (layN fs k).size := by
  induction k with
  | zero => exact Int.le_refl _
  | succ k ih =>
    have h1 := ih (by omega)
    rw [sumN_succ fs k (by omega), layN_succ fs k (by omega)]
    have h2 := next_le (layN_ok fs k (by omega)).2.1 (hz k (by omega))
    simp only [layStep]
    omega
theorem lay_most {fs : List Fe} {W : Int} (hW : W = 1 ∨ W = 4 ∨ W = 8) (hz : Szs fs) (hle : ∀ k, k < fs.length → sizeV (fs.getD k fd0).ty ≤ W) (k : Nat) (hk : k < fs.length) : (layN fs (k + 1)).size ≤ sumN fs (k + 1) + k * (W - 1) := by
  induction k with
  | zero =>
    rw [sumN_succ fs 0 hk, layN_succ fs 0 hk]
    have h0 : (layN fs 0).size = 0 := rfl
    have h1 : sumN fs 0 = 0 := rfl
    simp only [layStep]
    rw [h0, h1]
    have h2 : nextV 0 (sizeV (fs.getD 0 fd0).ty) = 0 := by
      unfold nextV
      rcases hz 0 hk with e | e | e <;> rw [e] <;> decide
    rw [h2]
    omega
  | succ k ih =>
    have h1 := ih (by omega)
    rw [sumN_succ fs (k + 1) hk, layN_succ fs (k + 1) hk]
    have h2 := next_most (n := (layN fs (k + 1)).size) (hz (k + 1) hk)
    have h3 := hle (k + 1) hk
    simp only [layStep]
    have h4 : ((k + 1 : Nat) : Int) * (W - 1) = k * (W - 1) + (W - 1) := by rw [Int.natCast_add, Int.add_mul]; omega
    rw [h4]
    omega
theorem lay_same {fs : List Fe} {z : Int} (hz1 : z = 1 ∨ z = 4 ∨ z = 8) (hz : ∀ k, k < fs.length → sizeV (fs.getD k fd0).ty = z) (k : Nat) (hk : k ≤ fs.length) : (layN fs k).size = k * z ∧ sumN fs k = k * z ∧ (0 < k → (layN fs k).line = z) := by
  induction k with
  | zero => exact ⟨by rw [Int.natCast_zero, Int.zero_mul]; rfl, by rw [Int.natCast_zero, Int.zero_mul]; rfl, fun h => by omega⟩
  | succ k ih =>
    obtain ⟨a, b, d⟩ := ih (by omega)
    rw [sumN_succ fs k (by omega), layN_succ fs k (by omega), hz k (by omega), b]
    simp only [layStep]
    rw [hz k (by omega), a]
    have e : nextV (k * z) z = k * z := by
      unfold nextV
      rcases hz1 with rfl | rfl | rfl <;> simp <;> omega
    rw [e]
    refine ⟨by rw [Int.natCast_add, Int.add_mul]; omega, by rw [Int.natCast_add, Int.add_mul]; omega, fun _ => ?_⟩
    by_cases h : 0 < k
    · rw [d h, if_neg (by omega)]
    · obtain rfl : k = 0 := by omega
      have : (layN fs 0).line = 0 := rfl
      rw [this, if_pos (by omega)]
theorem line_in (fs : List Fe) (m : Nat) (h0 : 0 < m) (hm : m ≤ fs.length) (hz : Szs fs) : ∃ k, k < m ∧ (layN fs m).line = sizeV (fs.getD k fd0).ty := by
  induction m with
  | zero => omega
  | succ m ih =>
    rw [layN_succ fs m (by omega)]
    simp only [layStep]
    split
    · exact ⟨m, by omega, rfl⟩
    · by_cases h : 0 < m
      · obtain ⟨k, hk, e⟩ := ih h (by omega)
        exact ⟨k, by omega, e⟩
      · obtain rfl : m = 0 := by omega
        rename_i hn
        have h1 : (layN fs 0).line = 0 := rfl
        have := hz 0 (by omega)
        rw [h1] at hn
        omega
theorem getD_rev (fs : List Fe) (k : Nat) (hk : k < fs.length) : fs.reverse.getD k fd0 = fs.getD (fs.length - 1 - k) fd0 := by
  rw [List.getD_eq_getElem?_getD, List.getD_eq_getElem?_getD, List.getElem?_reverse hk]
theorem szs_rev {fs : List Fe} (h : Szs fs) : Szs fs.reverse := by
  intro k hk
  rw [List.length_reverse] at hk
  rw [getD_rev fs k hk]
  exact h _ (by omega)
theorem line_rev {fs : List Fe} (h0 : 0 < fs.length) (hz : Szs fs) : (layV fs.reverse).line = (layV fs).line := by
  show (layN fs.reverse fs.reverse.length).line = (layN fs fs.length).line
  rw [List.length_reverse]
  obtain ⟨k1, hk1, e1⟩ := line_in fs fs.length h0 (Nat.le_refl _) hz
  obtain ⟨k2, hk2, e2⟩ := line_in fs.reverse fs.length h0 (by rw [List.length_reverse]; exact Nat.le_refl _) (szs_rev hz)
  have g1 := line_ge fs (fs.length - 1 - k2) fs.length (by omega) (Nat.le_refl _)
  have g2 := line_ge fs.reverse (fs.length - 1 - k1) fs.length (by omega) (by rw [List.length_reverse]; exact Nat.le_refl _)
  rw [getD_rev fs k2 hk2] at e2
  rw [getD_rev fs _ (by omega), show fs.length - 1 - (fs.length - 1 - k1) = k1 by omega] at g2
  omega
def allZ (z : Int) (fs : List Fe) : Bool := fs.all fun f => sizeV f.ty == z
theorem allZ_get {z : Int} {fs : List Fe} (h : allZ z fs = true) (k : Nat) (hk : k < fs.length) : sizeV (fs.getD k fd0).ty = z := by
  unfold allZ at h
  rw [List.all_eq_true] at h
  have h1 := h (fs.getD k fd0) (by rw [List.getD_eq_getElem?_getD, List.getElem?_eq_getElem hk]; exact List.getElem_mem hk)
  simpa using h1
theorem allZ_rev (z : Int) (fs : List Fe) : allZ z fs.reverse = allZ z fs := by simp [allZ]
/-- What LayTight asks of one order of the fields. -/
theorem tight_one {fs : List Fe} (h0 : 0 < fs.length) (hz : Szs fs) : sumV fs ≤ (layV fs).size ∧ (layV fs).size < sumV fs + (layV fs).line * fs.length ∧ (layV fs).size % (layV fs).line = 0 ∧ ((layV fs).line = 1 ∨ (layV fs).line = 4 ∨ (layV fs).line = 8) ∧ ∀ z, (z = 1 ∨ z = 4 ∨ z = 8) → allZ z fs = true → (layV fs).size = sumV fs := by
  have hlin : (layV fs).line = 1 ∨ (layV fs).line = 4 ∨ (layV fs).line = 8 := line_pos fs fs.length h0 (Nat.le_refl _) hz
  have hsz : (layV fs).size = nextV (layN fs fs.length).size (layV fs).line := rfl
  have hs : sumN fs fs.length = sumV fs := by unfold sumN; rw [List.take_length]
  have h1 := lay_sum hz fs.length (Nat.le_refl _)
  have h2 := next_le (n := (layN fs fs.length).size) (layN_ok fs fs.length (Nat.le_refl _)).2.1 hlin
  have h3 := lay_most hlin hz (fun k hk => line_ge fs k fs.length hk (Nat.le_refl _)) (fs.length - 1) (by omega)
  rw [show fs.length - 1 + 1 = fs.length by omega] at h3
  have h4 := next_most (n := (layN fs fs.length).size) hlin
  refine ⟨by omega, ?_, by rw [hsz]; exact next_mul hlin, hlin, fun z hz1 ha => ?_⟩
  · rw [hsz]
    rw [hs] at h3
    generalize (layV fs).line = W at *
    rcases hlin with rfl | rfl | rfl <;> omega
  · obtain ⟨a, b, d⟩ := lay_same hz1 (allZ_get ha) fs.length (Nat.le_refl _)
    have hl : (layV fs).line = z := d h0
    rw [hsz, hl, a, ← hs, b]
    unfold nextV
    rcases hz1 with rfl | rfl | rfl <;> simp <;> omega
/-- The fields of LayTight, by their kinds. -/
def tyK (k : Nat) : Ty := if k % 4 = 0 then ⟨1, 0, ⟨#[]⟩⟩ else if k % 4 = 1 then ⟨2, 0, ⟨#[]⟩⟩ else if k % 4 = 2 then ⟨3, 0, ⟨#[]⟩⟩ else ⟨1, 1, ⟨#[]⟩⟩
def feK (i k : Nat) : Fe := ⟨strOfNums [97 + (i : Int)], tyK k, 0⟩
def fasK (ks : List Nat) (j : Nat) : List Fe := (List.range j).map fun i => feK i (ks.getD i 0)
theorem fasK_len (ks : List Nat) (j : Nat) : (fasK ks j).length = j := by simp [fasK]
theorem fasK_succ (ks : List Nat) (j : Nat) : fasK ks (j + 1) = fasK ks j ++ [feK j (ks.getD j 0)] := by simp [fasK, List.range_succ]
theorem fasK_rev (ks : List Nat) (j : Nat) : (fasK ks (j + 1)).reverse = feK j (ks.getD j 0) :: (fasK ks j).reverse := by rw [fasK_succ]; simp
theorem fasK_take (ks : List Nat) (n j : Nat) (h : j ≤ n) : (fasK ks n).take j = fasK ks j := by
  simp only [fasK, ← List.map_take, List.take_range, Nat.min_eq_left h]
theorem fasK_get (ks : List Nat) (n j : Nat) (h : j < n) : (fasK ks n).getD j fd0 = feK j (ks.getD j 0) := by simp [fasK, List.getD, h]
theorem sizeK (k : Nat) : sizeV (tyK k) = if k % 4 = 0 then 1 else if k % 4 = 1 then 4 else 8 := by
  unfold tyK
  repeat' split
  all_goals decide
theorem sizeK3 (k : Nat) : sizeV (tyK k) = 1 ∨ sizeV (tyK k) = 4 ∨ sizeV (tyK k) = 8 := by
  rw [sizeK]
  repeat' split
  all_goals simp
theorem fasK_szs (ks : List Nat) (n : Nat) : Szs (fasK ks n) := by
  intro k hk
  rw [fasK_len] at hk
  rw [fasK_get ks n k hk]
  exact sizeK3 _
theorem tyK_ok (k : Nat) : tyOk (tyK k) := by
  unfold tyK tyOk
  repeat' split
  all_goals exact ⟨by decide, by decide, by decide⟩
theorem lineK_succ (ks : List Nat) (j : Nat) : (layV (fasK ks (j + 1))).line = if (layV (fasK ks j)).line < sizeV (tyK (ks.getD j 0)) then sizeV (tyK (ks.getD j 0)) else (layV (fasK ks j)).line := by
  show (layN (fasK ks (j + 1)) (fasK ks (j + 1)).length).line = if (layN (fasK ks j) (fasK ks j).length).line < _ then _ else (layN (fasK ks j) (fasK ks j).length).line
  rw [fasK_len, fasK_len, layN_succ _ j (by rw [fasK_len]; omega), fasK_get ks (j + 1) j (by omega)]
  simp only [layStep, feK]
  have e : layN (fasK ks (j + 1)) j = layN (fasK ks j) j := by
    unfold layN
    rw [fasK_take ks (j + 1) j (by omega), fasK_take ks j j (Nat.le_refl _)]
  rw [e]
  first | rfl | congr
theorem sumK_succ (ks : List Nat) (j : Nat) : sumV (fasK ks (j + 1)) = sumV (fasK ks j) + sizeV (tyK (ks.getD j 0)) := by rw [fasK_succ, sumV_app, sumV_one]; rfl
theorem allK_succ (z : Int) (ks : List Nat) (j : Nat) : allZ z (fasK ks (j + 1)) = (allZ z (fasK ks j) && (sizeV (tyK (ks.getD j 0)) == z)) := by rw [fasK_succ]; simp [allZ, feK]
theorem sumK_bd (ks : List Nat) (j : Nat) : 0 ≤ sumV (fasK ks j) ∧ sumV (fasK ks j) ≤ 8 * j := by
  induction j with
  | zero => exact ⟨Int.le_refl _, Int.le_refl _⟩
  | succ j ih =>
    rw [sumK_succ]
    have := sizeK3 (ks.getD j 0)
    omega
end Py
end Go.Proofs.Ytalelgnooemooaa
