/- What the document's blocks say of what can be seen of a heap; pure. Conditions: each theorem's. -/
import Derived.Test.YtjianllngobhhaaHeapRh
namespace Go.Proofs.Ytjianllngobhhaa
open Go.RowKit Go.Maps
set_option linter.unusedVariables false
set_option linter.unusedSimpArgs false
set_option maxRecDepth 100000
open Hp
namespace Hp
structure Rel (A : Ab) (l : List Rb) : Prop where
  made : A.made = l.length
  room : ∀ b, A.room b = (rbOf l b).bind fun r => if r.live then some (r.size, r.free) else none
  st : ∀ b o, A.st b o = match rbOf l b with | some r => if r.live then celOf r.cs o else v0 | none => v0
def stored (cs : List (Int × Val)) (o : Int) (x : Val) : List (Int × Val) := (o, x) :: cs.filter fun c => decide (c.1 ≠ o)
def Rb.store (r : Rb) (row : Value) (o : Int) (x : Val) : Rb := ⟨r.size, r.free, r.live, row, stored r.cs o x⟩
theorem celOf_filter {o o' : Int} (h : o' ≠ o) (cs : List (Int × Val)) : celOf (cs.filter fun c => decide (c.1 ≠ o)) o' = celOf cs o' := by
  induction cs with
  | nil => rfl
  | cons c cs ih =>
    by_cases e : c.1 = o
    · rw [List.filter_cons_of_neg (by simpa using e), ih]
      have e2 : ¬ c.1 = o' := fun q => h (q.symm.trans e)
      conv => rhs; unfold celOf
      rw [if_neg e2]
    · rw [List.filter_cons_of_pos (by simpa using e)]
      unfold celOf
      rw [ih]
theorem celOf_stored (cs : List (Int × Val)) (o o' : Int) (x : Val) : celOf (stored cs o x) o' = if o' = o then x else celOf cs o' := by
  show (if o = o' then x else celOf (cs.filter fun c => decide (c.1 ≠ o)) o') = _
  by_cases e : o' = o
  · rw [if_pos e, if_pos e.symm]
  · rw [if_neg e, if_neg (fun q => e q.symm), celOf_filter e]
theorem rbOf_set {l : List Rb} {k : Nat} (hk : k < l.length) (r : Rb) (b : Int) : rbOf (l.set k r) b = if b = (k : Int) + 1 then some r else rbOf l b := by
  unfold rbOf
  by_cases h1 : 1 ≤ b
  · rw [if_pos h1, if_pos h1, List.getElem?_set]
    by_cases e : b = (k : Int) + 1
    · rw [if_pos e, if_pos (by omega), if_pos hk]
    · rw [if_neg e, if_neg (by omega)]
  · rw [if_neg h1, if_neg h1, if_neg (by omega)]
theorem rbOf_app {l : List Rb} (r : Rb) (b : Int) : rbOf (l ++ [r]) b = if b = (l.length : Int) + 1 then some r else rbOf l b := by
  unfold rbOf
  by_cases h1 : 1 ≤ b
  · rw [if_pos h1, if_pos h1]
    by_cases e : b = (l.length : Int) + 1
    · rw [if_pos e, List.getElem?_append_right (by omega), show (b - 1).toNat - l.length = 0 by omega]
      rfl
    · rw [if_neg e]
      by_cases h : (b - 1).toNat < l.length
      · rw [List.getElem?_append_left h]
      · rw [List.getElem?_eq_none (by simp; omega), List.getElem?_eq_none (by omega)]
  · rw [if_neg h1, if_neg h1, if_neg (by omega)]
theorem rbOf_at {l : List Rb} {b : Int} {r : Rb} (h : rbOf l b = some r) : ∃ k, ∃ hk : k < l.length, b = (k : Int) + 1 ∧ l[k] = r ∧ (b - 1).toNat = k := by
  unfold rbOf at h
  split at h
  · next h1 =>
    obtain ⟨hk, e⟩ := List.getElem?_eq_some_iff.1 h
    exact ⟨_, hk, by omega, e, rfl⟩
  · cases h
theorem rbOf_nil (b : Int) : rbOf [] b = none := by unfold rbOf; split <;> rfl
theorem rel0 : Rel ab0 [] := ⟨rfl, fun b => by rw [rbOf_nil]; rfl, fun b o => by rw [rbOf_nil]; rfl⟩
theorem Rel.live {A : Ab} {l : List Rb} (h : Rel A l) (b : Int) : (A.room b).isSome = rLiv l b := by
  rw [h.room]
  unfold rLiv
  cases rbOf l b with
  | none => rfl
  | some r => cases hl : r.live <;> simp [hl]
theorem Rel.at_ {A : Ab} {l : List Rb} (h : Rel A l) (p : Ptr) (n : Int) : A.at_ p n = atV (rLiv l p.bl) p n := by
  unfold Ab.at_ atV
  rw [← h.live]
  cases A.room p.bl <;> simp
theorem Rel.load {A : Ab} {l : List Rb} (h : Rel A l) (p : Ptr) (n : Int) : A.load p n = rLoadV l p n := by
  unfold Ab.load rLoadV
  rw [h.at_]
  by_cases e : atV (rLiv l p.bl) p n = 0
  · rw [if_pos e, if_pos e, h.st]
    have hl : rLiv l p.bl = true := by
      cases hL : rLiv l p.bl
      · rw [hL] at e
        unfold atV at e
        exfalso
        revert e
        cases wid n
        · simp
        · simp only [if_true, if_false, Bool.true_eq_false]
          split <;> simp
      · rfl
    unfold rLiv at hl
    cases hr : rbOf l p.bl with
    | none => simp [hr] at hl
    | some r => rw [hr] at hl; simp only at hl ⊢; rw [hl]; rfl
  · rw [if_neg e, if_neg e]
theorem Rel.nb {A : Ab} {l : List Rb} (h : Rel A l) (b : Int) : A.nb b = rClearE l b := by
  unfold Ab.nb rClearE
  rw [h.made, h.room]
  by_cases e : 1 ≤ b ∧ b ≤ l.length
  · obtain ⟨k, hk, _, h2⟩ := rbOf_some e.1 e.2
    rw [if_neg (by omega), h2]
    cases hl : l[k].live <;> simp [hl]
  · rw [if_pos (by omega), rbOf_none e]
theorem Rel.setSt {A : Ab} {l : List Rb} (h : Rel A l) {b : Int} {r r' : Rb} (hb : rbOf l b = some r) {A' : Ab} (hm : A'.made = A.made) (hr : ∀ b', A'.room b' = if b' = b then (if r'.live then some (r'.size, r'.free) else none) else A.room b')
    (hs : ∀ b' o, A'.st b' o = if b' = b then (if r'.live then celOf r'.cs o else v0) else A.st b' o) : Rel A' (l.set (b - 1).toNat r') := by
  obtain ⟨k, hk, rfl, e, hk2⟩ := rbOf_at hb
  rw [hk2]
  refine ⟨by rw [hm, h.made, List.length_set], fun b' => ?_, fun b' o => ?_⟩
  · rw [hr, rbOf_set hk]
    by_cases e : b' = (k : Int) + 1
    · rw [if_pos e, if_pos e]; rfl
    · rw [if_neg e, if_neg e, h.room]
  · rw [hs, rbOf_set hk]
    by_cases e : b' = (k : Int) + 1
    · rw [if_pos e, if_pos e]
    · rw [if_neg e, if_neg e, h.st]
theorem Rel.clear {A : Ab} {l : List Rb} (h : Rel A l) (b : Int) : Rel (A.clearE b) (rClear l b) := by
  unfold Ab.clearE
  rw [h.nb]
  cases hr : rbOf l b with
  | none =>
    have hE : rClearE l b = 1 := by unfold rClearE; rw [hr]
    have hC : rClear l b = l := by unfold rClear; rw [hr]
    rw [hE, hC, if_neg (by decide)]; exact h
  | some r =>
    by_cases hl : r.live = true
    rotate_left
    · have hE : rClearE l b = 20 := by unfold rClearE; rw [hr]; exact if_neg hl
      have hC : rClear l b = l := by unfold rClear; rw [hr]; exact if_neg hl
      rw [hE, hC, if_neg (by decide)]; exact h
    · have hE : rClearE l b = 0 := by unfold rClearE; rw [hr]; exact if_pos hl
      have hC : rClear l b = l.set (b - 1).toNat r.clear := by unfold rClear; rw [hr]; exact if_pos hl
      rw [hE, hC, if_pos rfl]
      refine h.setSt hr rfl (fun b' => ?_) (fun b' o => ?_)
      · by_cases e : b' = b
        · subst e; rw [if_pos rfl]; show A.room b' = _; rw [h.room, hr]; simp [Rb.clear, hl]
        · rw [if_neg e]; rfl
      · show (if b' = b then v0 else A.st b' o) = _
        by_cases e : b' = b
        · rw [if_pos e, if_pos e]; simp [Rb.clear, hl, celOf]
        · rw [if_neg e, if_neg e]
theorem Rel.end_ {A : Ab} {l : List Rb} (h : Rel A l) (b : Int) : Rel (A.endE b) (rEnd l b) := by
  unfold Ab.endE
  rw [h.nb]
  cases hr : rbOf l b with
  | none =>
    have hE : rClearE l b = 1 := by unfold rClearE; rw [hr]
    have hC : rEnd l b = l := by unfold rEnd; rw [hr]
    rw [hE, hC, if_neg (by decide)]; exact h
  | some r =>
    by_cases hl : r.live = true
    rotate_left
    · have hE : rClearE l b = 20 := by unfold rClearE; rw [hr]; exact if_neg hl
      have hC : rEnd l b = l := by unfold rEnd; rw [hr]; exact if_neg hl
      rw [hE, hC, if_neg (by decide)]; exact h
    · have hE : rClearE l b = 0 := by unfold rClearE; rw [hr]; exact if_pos hl
      have hC : rEnd l b = l.set (b - 1).toNat r.gone := by unfold rEnd; rw [hr]; exact if_pos hl
      rw [hE, hC, if_pos rfl]
      refine h.setSt hr rfl (fun b' => ?_) (fun b' o => ?_)
      · show (if b' = b then none else A.room b') = _
        by_cases e : b' = b
        · rw [if_pos e, if_pos e]; simp [Rb.gone]
        · rw [if_neg e, if_neg e]
      · show (if b' = b then v0 else A.st b' o) = _
        by_cases e : b' = b
        · rw [if_pos e, if_pos e]; simp [Rb.gone]
        · rw [if_neg e, if_neg e]
theorem Rel.make {A : Ab} {l : List Rb} (h : Rel A l) (s : Int) (f : Bool) : Rel (A.make s f) (rMake l s f) := by
  unfold Ab.make rMake
  cases hb : big s
  · simp only [Bool.false_eq_true, if_false]
    refine ⟨by simp [h.made], fun b => ?_, fun b o => ?_⟩
    · show (if b = A.made + 1 then some (s, f) else A.room b) = _
      rw [rbOf_app, h.made]
      by_cases e : b = (l.length : Int) + 1
      · rw [if_pos e, if_pos e]; rfl
      · rw [if_neg e, if_neg e, h.room]
    · show A.st b o = _
      rw [rbOf_app, h.st]
      by_cases e : b = (l.length : Int) + 1
      · rw [if_pos e, rbOf_none (by omega)]; rfl
      · rw [if_neg e]
  · simpa using h
theorem Rel.makeV {A : Ab} {l : List Rb} (h : Rel A l) (s : Int) : A.makeV s = rMakeV l s := by
  unfold Ab.makeV rMakeV
  rw [h.made]
theorem Rel.fr {A : Ab} {l : List Rb} (h : Rel A l) (p : Ptr) : A.fr p = rFreeE l p := by
  unfold Ab.fr rFreeE
  by_cases e : p.bl = 0
  · rw [if_pos e, if_pos e]
  · rw [if_neg e, if_neg e, h.room]
    cases hr : rbOf l p.bl with
    | none => rfl
    | some r =>
      cases hl : r.live
      · simp [hl]
      · simp only [Option.bind_some, hl, if_true]
        obtain ⟨bl, off, lo, hi⟩ := p
        unfold rFits
        simp only [Ptr.mk.injEq, true_and, beq_iff_eq, Bool.and_eq_true, and_assoc]
theorem Rel.free {A : Ab} {l : List Rb} (h : Rel A l) (p : Ptr) : Rel (A.freeE p) (rFree l p) := by
  unfold Ab.freeE rFree
  rw [h.fr]
  by_cases e : rFreeE l p = 0
  · rw [if_pos e, if_pos e]
    have hE : A.endE p.bl = A.drop p.bl := by
      unfold Ab.endE
      rw [if_pos ?_]
      rw [h.nb]
      unfold rFreeE at e
      unfold rClearE
      split at e
      · cases e
      · cases hr : rbOf l p.bl with
        | none => rw [hr] at e; cases e
        | some r =>
          rw [hr] at e
          cases hl : r.live
          · simp [hl] at e
          · simp [hl]
    rw [← hE]
    exact h.end_ _
  · rw [if_neg e, if_neg e]; exact h
theorem Rel.store {A : Ab} {l : List Rb} (h : Rel A l) {b : Int} {r : Rb} (hr : rbOf l b = some r) (hl : r.live = true) (row : Value) (o : Int) (x : Val) : Rel (A.put b o x) (l.set (b - 1).toNat (r.store row o x)) := by
  refine h.setSt hr rfl (fun b' => ?_) (fun b' o' => ?_)
  · by_cases e : b' = b
    · subst e; rw [if_pos rfl]; show A.room b' = _; rw [h.room, hr]; simp [Rb.store, hl]
    · rw [if_neg e]; rfl
  · show (if b' = b ∧ o' = o then x else A.st b' o') = _
    by_cases e : b' = b
    · subst e
      rw [if_pos rfl]
      simp only [Rb.store, hl, if_true, true_and]
      rw [celOf_stored, h.st, hr]
      simp only [hl, if_true]
    · rw [if_neg e, if_neg (fun q => e q.1)]
end Hp
end Go.Proofs.Ytjianllngobhhaa
