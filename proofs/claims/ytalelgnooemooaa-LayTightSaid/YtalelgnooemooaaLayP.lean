/- What right structs are; that fields don't overlap. No condition. -/
import Derived.Test.YtalelgnooemooaaLayU
import Derived.WideShapes
namespace Go.Proofs.Ytalelgnooemooaa
open Go.RowKit Go.Maps
set_option linter.unusedVariables false
set_option linter.unusedSimpArgs false
set_option maxRecDepth 10000
open Py
namespace Py
theorem fb_zero (p : Nat → Int × Int) (n : Nat) (h : (fb p n).2 = 0) : ∀ j, j < n → (p j).2 = 0 := by
  induction n with
  | zero => intro j hj; omega
  | succ n ih =>
    rw [fb] at h
    split at h
    · rename_i hc; exact absurd h hc
    · rename_i hc
      intro j hj
      by_cases e : j = n
      · subst e; exact h
      · exact ih (by simpa using hc) j (by omega)
theorem idx_neg {α : Type} (p : α → Bool) (l : List α) (d : α) (h : idx p l < 0) : ∀ j, j < l.length → p (l.getD j d) = false := by
  induction l with
  | nil => intro j hj; simp at hj
  | cons x l ih =>
    simp only [idx] at h
    split at h
    · omega
    · rename_i hx
      split at h
      · rename_i hn
        intro j hj
        cases j with
        | zero => rw [List.getD_cons_zero]; simpa using hx
        | succ j => rw [List.getD_cons_succ]; exact ih hn j (by simpa using hj)
      · have := (idx_range p l).1; omega
theorem getD_take {α : Type} (l : List α) (d : α) (i j : Nat) (h : j < i) : (l.take i).getD j d = l.getD j d := by simp [List.getD, h]
theorem right_facts {l : List Sc} (h : rightV l = true) : l.length ≤ 40 ∧ ∀ i, i < l.length → sIdx l (l.getD i sc0).nm = i ∧ 0 < (l.getD i sc0).fs.length ∧ (l.getD i sc0).fs.length ≤ 12 ∧ ∀ k, k < (l.getD i sc0).fs.length → fIdx (l.getD i sc0).fs ((l.getD i sc0).fs.getD k fd0).nm = k ∧ mayBe l ((l.getD i sc0).fs.getD k fd0).ty = true := by
  unfold rightV at h
  obtain ⟨hf, hc⟩ := Bool.and_eq_true_iff.1 h
  have hc : (chk l).2 = 0 := by simpa using hc
  have hl := few_len' hf
  refine ⟨hl, fun i hi => ?_⟩
  have hz : (strB l i).2 = 0 := by
    unfold chk at hc
    split at hc
    · simp at hc
    · exact fb_zero _ _ hc i hi
  unfold strB at hz
  by_cases h1 : 0 ≤ sIdx (l.take i) (l.getD i sc0).nm
  · rw [if_pos h1] at hz; simp at hz
  rw [if_neg h1] at hz
  by_cases h2 : (l.getD i sc0).fs.length = 0 ∨ 12 < (l.getD i sc0).fs.length
  · rw [if_pos h2] at hz; simp at hz
  rw [if_neg h2] at hz
  refine ⟨?_, by omega, by omega, fun k hk => ?_⟩
  · refine idx_hit _ l sc0 i hi (fun j hj => ?_) (by simp)
    have h9 : (((l.take i).getD j sc0).nm.toList == (l.getD i sc0).nm.toList) = false := idx_neg (fun s : Sc => s.nm.toList == (l.getD i sc0).nm.toList) (l.take i) sc0 (Int.not_le.mp h1) j (by simp; omega)
    rw [getD_take l sc0 i j hj] at h9
    exact h9
  · have hzk := fb_zero _ _ hz k hk
    unfold fldB at hzk
    by_cases h3 : 0 ≤ fIdx ((l.getD i sc0).fs.take k) ((l.getD i sc0).fs.getD k fd0).nm ∨ (((l.getD i sc0).fs.getD k fd0).ty.ba = 4 ∧ sIdx l ((l.getD i sc0).fs.getD k fd0).ty.sn < 0)
    · rw [if_pos h3] at hzk; simp at hzk
    rw [if_neg h3] at hzk
    refine ⟨?_, ?_⟩
    · refine idx_hit _ (l.getD i sc0).fs fd0 k hk (fun j hj => ?_) (by simp)
      have h9 : ((((l.getD i sc0).fs.take k).getD j fd0).nm.toList == ((l.getD i sc0).fs.getD k fd0).nm.toList) = false := idx_neg (fun s : Fe => s.nm.toList == ((l.getD i sc0).fs.getD k fd0).nm.toList) ((l.getD i sc0).fs.take k) fd0 (Int.not_le.mp fun h => h3 (.inl h)) j (by rw [List.length_take]; omega)
      rw [getD_take _ fd0 k j hj] at h9
      exact h9
    · split at hzk
      · assumption
      · simp at hzk
theorem mayBe_facts {l : List Sc} {t : Ty} (h : mayBe l t = true) : known l t = true ∧ t.ba ≠ 0 ∧ whole t = false := by
  unfold mayBe at h
  obtain ⟨h1, h2⟩ := Bool.and_eq_true_iff.1 h
  obtain ⟨h3, h4⟩ := Bool.and_eq_true_iff.1 h1
  exact ⟨h3, by simpa using h4, by simpa using h2⟩
theorem size_pos {l : List Sc} {t : Ty} (h : mayBe l t = true) : sizeV t = 1 ∨ sizeV t = 4 ∨ sizeV t = 8 := by
  obtain ⟨hk, h0, hw⟩ := mayBe_facts h
  unfold sizeV
  by_cases hs : 0 < t.st
  · rw [if_pos hs]; simp
  rw [if_neg hs]
  unfold known at hk
  by_cases h1 : t.st < 0 ∨ 4 < t.st
  · rw [if_pos h1] at hk; cases hk
  rw [if_neg h1] at hk
  have hst : t.st = 0 := by omega
  by_cases h4 : t.ba = 4
  · exfalso; simp [whole, h4, hst] at hw
  rw [if_neg h4] at hk
  simp only [Bool.and_eq_true, decide_eq_true_eq] at hk
  obtain ⟨⟨a, b⟩, e⟩ := hk
  have hsn : t.sn = ByteArray.empty := by
    apply Go.WideShapes.bytes_inj
    have : t.sn.toList = [] := by simpa using e
    rw [ByteArray.toList_eq] at this
    rw [this]; rfl
  obtain ⟨tb, ts, tn⟩ := t
  dsimp only at *
  subst hst hsn
  have hb : tb = 1 ∨ tb = 2 ∨ tb = 3 := by omega
  rcases hb with rfl | rfl | rfl <;> decide
theorem next_le {n z : Int} (hn : 0 ≤ n) (hz : z = 1 ∨ z = 4 ∨ z = 8) : n ≤ nextV n z := by
  unfold nextV
  rcases hz with rfl | rfl | rfl <;> simp <;> omega
theorem offs_at (fs : List Fe) (k m : Nat) (hk : k < m) (hm : m ≤ fs.length) : (layN fs m).offs.getD k 0 = nextV (layN fs k).size (sizeV (fs.getD k fd0).ty) := by
  induction m with
  | zero => omega
  | succ m ih =>
    rw [layN_succ fs m (by omega)]
    have hl := (layN_ok fs m (by omega)).1
    simp only [layStep, List.getD_eq_getElem?_getD]
    by_cases h : k < m
    · rw [List.getElem?_append_left (by omega)]
      have := ih h (by omega)
      rw [List.getD_eq_getElem?_getD, List.getD_eq_getElem?_getD] at this
      exact this
    · obtain rfl : k = m := by omega
      rw [List.getElem?_append_right (by omega), hl]
      simp [List.getD_eq_getElem?_getD]
theorem line_pos (fs : List Fe) (m : Nat) (h0 : 0 < m) (hm : m ≤ fs.length) (hz : ∀ k, k < fs.length → sizeV (fs.getD k fd0).ty = 1 ∨ sizeV (fs.getD k fd0).ty = 4 ∨ sizeV (fs.getD k fd0).ty = 8) : (layN fs m).line = 1 ∨ (layN fs m).line = 4 ∨ (layN fs m).line = 8 := by
  cases m with
  | zero => omega
  | succ m =>
    have h := (layN_ok fs m (by omega)).2.2.2
    rw [layN_succ fs m (by omega)]
    simp only [layStep]
    have hz' := hz m (by omega)
    rcases h with e | e | e | e <;> rcases hz' with e' | e' | e' <;> rw [e, e'] <;> decide
/-- A field ends ahead of the next one, or within the struct. -/
theorem lay_ends (fs : List Fe) (hz : ∀ k, k < fs.length → sizeV (fs.getD k fd0).ty = 1 ∨ sizeV (fs.getD k fd0).ty = 4 ∨ sizeV (fs.getD k fd0).ty = 8) (k : Nat) (hk : k < fs.length) :
    0 ≤ (layV fs).offs.getD k 0 ∧ (layV fs).offs.getD k 0 + sizeV (fs.getD k fd0).ty ≤ (if k + 1 < fs.length then (layV fs).offs.getD (k + 1) 0 else (layV fs).size) ∧ (layV fs).offs.getD k 0 ≤ 16 * fs.length ∧ (layV fs).size ≤ 16 * fs.length + 16 := by
  have o1 : (layV fs).offs.getD k 0 = nextV (layN fs k).size (sizeV (fs.getD k fd0).ty) := offs_at fs k fs.length hk (Nat.le_refl _)
  have hs1 : (layN fs (k + 1)).size = nextV (layN fs k).size (sizeV (fs.getD k fd0).ty) + sizeV (fs.getD k fd0).ty := by rw [layN_succ fs k hk]; rfl
  obtain ⟨-, a1, a2, -⟩ := layN_ok fs k (by omega)
  obtain ⟨-, b1, b2, -⟩ := layN_ok fs (k + 1) (by omega)
  obtain ⟨-, c1, c2, -⟩ := layN_ok fs fs.length (Nat.le_refl _)
  have hzk := hz k hk
  have hn := next_room (layN fs k).size (sizeV (fs.getD k fd0).ty) a1 (by omega)
  have hlin := line_pos fs fs.length (by omega) (Nat.le_refl _) hz
  have hsz : (layV fs).size = nextV (layN fs fs.length).size (layN fs fs.length).line := rfl
  have hn2 := next_room (layN fs fs.length).size (layN fs fs.length).line c1 (by omega)
  have hle2 := next_le c1 hlin
  rw [o1, hsz]
  refine ⟨hn.1, ?_, by omega, by omega⟩
  split
  · rename_i h
    have o2 : (layV fs).offs.getD (k + 1) 0 = nextV (layN fs (k + 1)).size (sizeV (fs.getD (k + 1) fd0).ty) := offs_at fs (k + 1) fs.length h (Nat.le_refl _)
    rw [o2, ← hs1]
    exact next_le b1 (hz (k + 1) h)
  · rename_i h
    have e : k + 1 = fs.length := by omega
    rw [← hs1, e]
    exact hle2
end Py
end Go.Proofs.Ytalelgnooemooaa
