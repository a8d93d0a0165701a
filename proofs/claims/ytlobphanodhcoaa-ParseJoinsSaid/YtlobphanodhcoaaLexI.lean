/- The document's tokens of package lex. Conditions: each theorem's. -/
import Derived.Test.YtlobphanodhcoaaLexE
import Derived.Test.YtlobphanodhcoaaLexG
import Derived.WalkSmall
namespace Go.Proofs.Ytlobphanodhcoaa
open Go.RowKit Go.Maps
set_option linter.unusedVariables false
set_option linter.unusedSimpArgs false
set_option maxRecDepth 10000
open Lx
namespace Lx
def twoT : List (Int × Int) := [(45, 62), (60, 60), (62, 62), (60, 61), (62, 61), (61, 61), (33, 61), (38, 38), (124, 124)]
def oneT : List Int := [43, 45, 42, 47, 37, 38, 124, 94, 126, 33, 60, 62, 61, 40, 41, 123, 125, 91, 93, 59, 44, 46]
theorem sg_tab : ∀ k, k < 31 → sgN k = if (sgA k, sgB k) ∈ twoT then 2 else if sgB k = 0 ∧ sgA k ∈ oneT then 1 else 0 := by decide
theorem two_in : ∀ p ∈ twoT, (List.range 31).any (fun k => decide (sgA k = p.1 ∧ sgB k = p.2)) = true := by decide
theorem one_in : ∀ p ∈ oneT, (List.range 31).any (fun k => decide (sgA k = p ∧ sgB k = 0)) = true := by decide
theorem sgV_eq (x y : Int) : sgV x y = if (x, y) ∈ twoT then 2 else if y = 0 ∧ x ∈ oneT then 1 else 0 := by
  by_cases h : ∃ k, k < 31 ∧ sgA k = x ∧ sgB k = y
  · obtain ⟨k, hk, rfl, rfl⟩ := h
    obtain ⟨_, _, _, _, _, r6⟩ := sg_range k hk
    rw [r6]
    exact sg_tab k hk
  · rw [sg_none (fun k hk e => h ⟨k, hk, e.1, e.2⟩), if_neg, if_neg]
    · rintro ⟨rfl, hx⟩
      have := one_in x hx
      rw [List.any_eq_true] at this
      obtain ⟨k, hk, e⟩ := this
      exact h ⟨k, List.mem_range.1 hk, by simpa using e⟩
    · intro hx
      have := two_in _ hx
      rw [List.any_eq_true] at this
      obtain ⟨k, hk, e⟩ := this
      exact h ⟨k, List.mem_range.1 hk, by simpa using e⟩
theorem two_not0 {x y : Int} (h : (x, y) ∈ twoT) : y ≠ 0 := by
  have : ∀ p ∈ twoT, p.2 ≠ 0 := by decide
  exact this _ h
theorem sgW_eq (l : List UInt8) : sgW l = if (bt (l.getD 0 0), bt (l.getD 1 0)) ∈ twoT then 2 else if bt (l.getD 0 0) ∈ oneT then 1 else 0 := by
  unfold sgW
  rw [sgV_eq, sgV_eq]
  generalize bt (l.getD 0 0) = x
  generalize bt (l.getD 1 0) = y
  by_cases h : (x, y) ∈ twoT
  · rw [if_pos h, if_pos h, if_pos (by omega)]; rfl
  · have h0 : ¬ (x, (0 : Int)) ∈ twoT := fun e => two_not0 e rfl
    rw [if_neg h, if_neg h, if_neg h0]
    by_cases h1 : x ∈ oneT
    · rw [if_pos h1, if_pos (show (0 : Int) = 0 ∧ x ∈ oneT from ⟨rfl, h1⟩)]
      split <;> first | rfl | (split <;> first | rfl | (exfalso; omega))
    · rw [if_neg h1, if_neg (fun e : y = 0 ∧ x ∈ oneT => h1 e.2), if_neg (by simp), if_neg (fun e : (0 : Int) = 0 ∧ x ∈ oneT => h1 e.2)]; rfl
/-- A list begins with two bytes. -/
theorem pre_two (l : List UInt8) (a b : UInt8) (hb : b ≠ 0) : Lib.hasPrefix l [a, b] = true ↔ l.getD 0 0 = a ∧ l.getD 1 0 = b ∧ 0 < l.length := by
  cases l with
  | nil => simp [Lib.hasPrefix]
  | cons x l =>
    cases l with
    | nil => simp [Lib.hasPrefix, List.isPrefixOf]; intro _ e; exact hb e.symm
    | cons y l => simp [Lib.hasPrefix, List.isPrefixOf]; constructor <;> rintro ⟨h1, h2⟩ <;> exact ⟨h1.symm, h2.symm⟩
def twoL (j : Nat) : List UInt8 := [((twoT.getD j (0, 0)).1.toNat).toUInt8, ((twoT.getD j (0, 0)).2.toNat).toUInt8]
theorem twoL_facts : ∀ j, j < 9 → ∃ a b : UInt8, twoL j = [a, b] ∧ b ≠ 0 ∧ twoT.getD j (0, 0) = (bt a, bt b) := by
  intro j hj
  have : j = 0 ∨ j = 1 ∨ j = 2 ∨ j = 3 ∨ j = 4 ∨ j = 5 ∨ j = 6 ∨ j = 7 ∨ j = 8 := by omega
  rcases this with rfl | rfl | rfl | rfl | rfl | rfl | rfl | rfl | rfl
  all_goals exact ⟨_, _, rfl, by decide, by decide⟩
theorem bt_inj {a b : UInt8} (h : bt a = bt b) : a = b := UInt8.toNat_inj.1 (by unfold bt at h; omega)
theorem two_yes {l : List UInt8} {j : Nat} (hj : j < 9) (h : Lib.hasPrefix l (twoL j) = true) : sgW l = 2 := by
  obtain ⟨a, b, e, hb, et⟩ := twoL_facts j hj
  rw [e, pre_two l a b hb] at h
  rw [sgW_eq, h.1, h.2.1, if_pos]
  rw [← et]
  have hj' : j < twoT.length := hj
  rw [List.getD_eq_getElem?_getD, List.getElem?_eq_getElem hj']
  exact List.getElem_mem _
theorem two_no {l : List UInt8} (h0 : 0 < l.length) (h : ∀ j, j < 9 → Lib.hasPrefix l (twoL j) = false) : ¬ (bt (l.getD 0 0), bt (l.getD 1 0)) ∈ twoT := by
  intro hm
  obtain ⟨j, hj, e⟩ := List.mem_iff_getElem.1 hm
  have hj' : j < 9 := hj
  obtain ⟨a, b, e1, hb, et⟩ := twoL_facts j hj'
  have := h j hj'
  rw [e1] at this
  rw [List.getD_eq_getElem?_getD, List.getElem?_eq_getElem hj] at et
  simp only [Option.getD_some] at et
  rw [et] at e
  injection e with e2 e3
  rw [(pre_two l a b hb).2 ⟨(bt_inj e2).symm, (bt_inj e3).symm, h0⟩] at this
  cases this
def rtV (k : Nat) (l : List UInt8) : Int × Int := if (tokV l).2 = 0 then (0, 0) else ((tokV l).1, (k : Int) + ((tokV l).2 : Int))
theorem al_no_dg {c : Int} (h : al c = true) : dg c = false ∧ c ≠ 39 ∧ nm c = true := by
  refine ⟨?_, ?_, by unfold nm; rw [h]; rfl⟩
  · cases hd : dg c with
    | false => rfl
    | true => exfalso; simp [al, dg] at h hd; omega
  · rintro rfl; revert h; decide
theorem wd_short {l : List UInt8} (h : wdB l = true) : l.length ≤ 8 := by
  unfold wdB at h
  rw [List.any_eq_true] at h
  obtain ⟨x, hx, e⟩ := h
  have hall : ∀ x ∈ wdTab, x.length ≤ 8 := by decide
  have := hall x hx
  have e' : l = x := by simpa using e
  rw [e']; exact this
end Lx
def twoX (j : Nat) : ByteArray := ⟨(twoL j).toArray⟩
end Go.Proofs.Ytlobphanodhcoaa
