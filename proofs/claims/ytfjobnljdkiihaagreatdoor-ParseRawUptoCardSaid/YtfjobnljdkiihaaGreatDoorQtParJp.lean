/- Two texts one behind the other: their program; pure. Conditions: each theorem's. -/
import Derived.Test.YtfjobnljdkiihaaGreatDoorQtParSh
namespace Go.Proofs.YtfjobnljdkiihaaGreatDoor
open Go.RowKit Go.Maps
set_option linter.unusedVariables false
set_option linter.unusedSimpArgs false
set_option maxRecDepth 100000
open Lx Pa
namespace Pa
structure J (R : List Tk) (s t : S) : Prop where
 e1 : s.er = 0
 e2 : t.er = 0
 ex : ∃ A B p, s.tk = A ++ [⟨0, ⟨#[]⟩, p⟩] ∧ t.tk = B ++ R ∧ B.map pr = A.map pr ∧ ∀ x ∈ A, x.kd ≠ 0
theorem tx_eq {a b : ByteArray} (h : a.data.toList = b.data.toList) : a = b := by
 obtain ⟨⟨a⟩⟩ := a
 obtain ⟨⟨b⟩⟩ := b
 dsimp only at h
 rw [h]
theorem pr_eq {a b : Tk} (h : pr b = pr a) : b.kd = a.kd ∧ b.tx = a.tx := by
 unfold pr at h
 injection h with h1 h2
 exact ⟨h1, tx_eq h2⟩
section
variable {R : List Tk} {s t : S}
theorem J.cons (h : J R s t) (h2 : 2 ≤ s.tk.length) : ∃ a b, s.hd = a ∧ t.hd = b ∧ b.kd = a.kd ∧ b.tx = a.tx ∧ a.kd ≠ 0 ∧ J R s.tl t.tl := by
 obtain ⟨e1, e2, A, B, p, hA, hB, hm, hk⟩ := h
 cases A with
 | nil => rw [hA] at h2; simp at h2
 | cons a A =>
  cases B with
  | nil => simp at hm
  | cons b B =>
   simp only [List.map_cons, List.cons.injEq] at hm
   obtain ⟨k1, k2⟩ := pr_eq hm.1
   refine ⟨a, b, by unfold S.hd; rw [hA]; rfl, by unfold S.hd; rw [hB]; rfl, k1, k2, hk a (by simp), e1, e2, A, B, p, by unfold S.tl; rw [hA]; rfl, by unfold S.tl; rw [hB]; rfl, hm.2, fun x hx => hk x (List.mem_cons_of_mem _ hx)⟩
theorem J.hd (h : J R s t) (h2 : 2 ≤ s.tk.length) : t.hd.kd = s.hd.kd ∧ t.hd.tx = s.hd.tx ∧ s.hd.kd ≠ 0 := by
 obtain ⟨a, b, rfl, rfl, h3, h4, h5, _⟩ := h.cons h2; exact ⟨h3, h4, h5⟩
theorem J.tl (h : J R s t) (h2 : 2 ≤ s.tk.length) : J R s.tl t.tl := by
 obtain ⟨a, b, _, _, _, _, _, h3⟩ := h.cons h2; exact h3
theorem J.is (h : J R s t) (h2 : 2 ≤ s.tk.length) (x : ByteArray) : t.is x = s.is x := by unfold S.is; rw [(h.hd h2).2.1]
theorem J.two (h : J R s t) (hx : s.hd.tx ≠ ⟨#[]⟩ ∨ s.hd.kd ≠ 0) : 2 ≤ s.tk.length := by
 obtain ⟨e1, e2, A, B, p, hA, hB, hm, hk⟩ := h
 cases A with
 | nil => exfalso; unfold S.hd at hx; rw [hA] at hx; simp at hx
 | cons a A => rw [hA]; simp
theorem J.ahead (h : J R s t) (n : Nat) (h2 : n + 2 ≤ s.tk.length) : (t.ahead n).tx = (s.ahead n).tx := by
 obtain ⟨e1, e2, A, B, p, hA, hB, hm, hk⟩ := h
 have hl := congrArg List.length hm
 simp at hl
 rw [hA] at h2
 simp at h2
 have h3 : pr (B[n]'(by omega)) = pr (A[n]'(by omega)) := by
  have h4 : (B.map pr)[n]? = (A.map pr)[n]? := by rw [hm]
  rw [List.getElem?_map, List.getElem?_map, List.getElem?_eq_getElem (by omega), List.getElem?_eq_getElem (by omega)] at h4
  simpa using h4
 unfold S.ahead
 rw [hA, hB, Nat.min_eq_left (by simp; omega), Nat.min_eq_left (by simp; omega), List.getD_eq_getElem?_getD, List.getD_eq_getElem?_getD, List.getElem?_append_left (by omega), List.getElem?_append_left (by omega), List.getElem?_eq_getElem (by omega), List.getElem?_eq_getElem (by omega)]
 exact (pr_eq h3).2
theorem J.want (h : J R s t) {x : ByteArray} (hx : x ≠ ⟨#[]⟩) (he : (s.want x).er = 0) : J R (s.want x) (t.want x) := by
 unfold S.want at he ⊢
 by_cases hi : s.is x = true
 ·have h2 := h.two (is_ne hi hx)
  rw [if_pos hi, if_pos (by rw [h.is h2]; exact hi)]
  exact h.tl h2
 ·rw [if_neg hi] at he
  exact absurd he (fail_er (by decide))
theorem J.one (h : J R s t) {k : Int} (hk : k ≠ 0) (he : (s.one k).er = 0) : J R (s.one k) (t.one k) ∧ t.oneT k = s.oneT k := by
 unfold S.one at he ⊢
 unfold S.oneT
 by_cases hi : s.hd.kd = k
 ·have h2 := h.two (.inr (by rw [hi]; exact hk))
  have h3 := h.hd h2
  rw [if_pos hi, if_pos (by rw [h3.1]; exact hi), if_pos hi, if_pos (by rw [h3.1]; exact hi)]
  exact ⟨h.tl h2, h3.2.1⟩
 ·rw [if_neg hi] at he
  exact absurd he (fail_er (by decide))
end
theorem EqEs.one {x y : PEx} (h : EqE false x y) : EqEs false [x] [y] := ⟨rfl, fun i hi => by
 have : i = 0 := by simp at hi; omega
 subst this; exact h⟩
theorem EqEs.nil : EqEs false [] [] := ⟨rfl, fun i hi => by simp at hi⟩
theorem EqEs.two {x y u v : PEx} (h : EqE false x y) (g : EqE false u v) : EqEs false [x, u] [y, v] := ⟨rfl, fun i hi => by
 have : i = 0 ∨ i = 1 := by simp at hi; omega
 rcases this with rfl | rfl
 ·exact h
 ·exact g⟩
theorem ex0_eq : EqE false ex0 ex0 := eqE_iff.2 ⟨rfl, rfl, rfl, rfl, rfl, (fun h => by cases h), EqEs.nil⟩
theorem EqEs.hd {a b : List PEx × S} (h : EqEs false a.1 b.1) : EqE false (hd1 a) (hd1 b) := by
 obtain ⟨l, s⟩ := a
 obtain ⟨m, t⟩ := b
 obtain ⟨h1, h2⟩ := h
 unfold hd1
 cases l with
 | nil =>
  cases m with
  | nil => exact ex0_eq
  | cons y m => simp at h1
 | cons x l =>
  cases m with
  | nil => simp at h1
  | cons y m => exact h2 0 (by simp)
inductive QE : Qe → Qe → Prop
 | expr (d : Nat) : QE (.expr d) (.expr d)
 | bin (d : Nat) (l : Int) : QE (.bin d l) (.bin d l)
 | binL (d : Nat) (l : Int) {x y : PEx} (h : EqE false x y) : QE (.binL d l x) (.binL d l y)
 | un (d : Nat) : QE (.un d) (.un d)
 | cast (a b d : Nat) : QE (.cast a d) (.cast b d)
 | inside (d : Nat) : QE (.inside d) (.inside d)
 | post (d : Nat) : QE (.post d) (.post d)
 | posL (d : Nat) {x y : PEx} (h : EqE false x y) : QE (.posL d x) (.posL d y)
 | atom (d : Nat) : QE (.atom d) (.atom d)
 | use (nm : ByteArray) (a b d : Nat) : QE (.use nm a d) (.use nm b d)
 | betE (d : Nat) : QE (.betE d) (.betE d)
 | betL (d : Nat) {l m : List PEx} (h : EqEs false l m) : QE (.betL d l) (.betL d m)
end Pa
namespace Pa
section
variable {R : List Tk} {s t : S}
theorem va0_eq : EqVa false va0 va0 := ⟨rfl, rfl, rfl, fun _ => rfl⟩
theorem EqSs.nil : EqSs false [] [] := ⟨rfl, fun i hi => by simp at hi⟩
theorem EqSs.one {x y : PSt} (h : EqS false x y) : EqSs false [x] [y] := ⟨rfl, fun i hi => by
 have : i = 0 := by simp at hi; omega
 subst this; exact h⟩
theorem EqSs.two {x y u v : PSt} (h : EqS false x y) (g : EqS false u v) : EqSs false [x, u] [y, v] := ⟨rfl, fun i hi => by
 have : i = 0 ∨ i = 1 := by simp at hi; omega
 rcases this with rfl | rfl
 ·exact h
 ·exact g⟩
theorem st0_eq : EqS false st0 st0 := eqS_iff.2 ⟨rfl, (fun h => by cases h), va0_eq, EqEs.nil, EqSs.nil⟩
theorem EqSs.hd {a b : List PSt × S} (h : EqSs false a.1 b.1) : EqS false (hdS a) (hdS b) := by
 obtain ⟨l, s⟩ := a
 obtain ⟨m, t⟩ := b
 obtain ⟨h1, h2⟩ := h
 unfold hdS
 cases l with
 | nil =>
  cases m with
  | nil => exact st0_eq
  | cons y m => simp at h1
 | cons x l =>
  cases m with
  | nil => simp at h1
  | cons y m => exact h2 0 (by simp)
end
inductive QS : Qs → Qs → Prop
 | stmt (d : Nat) : QS (.stmt d) (.stmt d)
 | block (d : Nat) : QS (.block d) (.block d)
 | untS (d : Nat) {l m : List PSt} (h : EqSs false l m) : QS (.untS d l) (.untS d m)
section
variable {R : List Tk} {s t : S}
theorem J.len (hj : J R s t) (hR : R ≠ []) : s.tk.length ≤ t.tk.length := by
 obtain ⟨e1, e2, A, B, p, hA, hB, hm, hk⟩ := hj
 have hl := congrArg List.length hm
 simp at hl
 have : 1 ≤ R.length := by cases R with | nil => exact absurd rfl hR | cons a R => simp
 rw [hA, hB]
 simp
 omega
end
theorem progL_er : ∀ f p (s : S), Ok s → Le s (progL f p s).2 := by
 intro f
 induction f with
 | zero => intro p s h; simp only [progL]; exact Le.refl h
 | succ f ih =>
  intro p s h
  simp only [progL]
  split
  ·exact Le.refl h
  ·have h1 := (topV_lt (p := p) h).le
   exact h1.trans (ih _ _ h1.ok)
end Pa
namespace Lx
end Lx
namespace Pa
theorem EqE.symm {x y : PEx} (h : EqE false x y) : EqE false y x := by
 induction h with
 | mk ha hl hk ih => exact .mk (fun e => by cases e) hl.symm (fun i hi => ih i (by omega))
theorem EqEs.symm {l m : List PEx} (h : EqEs false l m) : EqEs false m l := ⟨h.1.symm, fun i hi => (h.2 i (by rw [h.1]; exact hi)).symm⟩
theorem EqVa.symm {x y : PVa} (h : EqVa false x y) : EqVa false y x := ⟨h.nm.symm, h.ty.symm, h.ln.symm, fun e => by cases e⟩
theorem EqVas.symm {l m : List PVa} (h : EqVas false l m) : EqVas false m l := ⟨h.1.symm, fun i hi => (h.2 i (by rw [h.1]; exact hi)).symm⟩
theorem EqS.symm {x y : PSt} (h : EqS false x y) : EqS false y x := by
 induction h with
 | mk ha hv he hl hk ih => exact .mk (fun e => by cases e) hv.symm he.symm hl.symm (fun i hi => ih i (by omega))
theorem EqL.symm {α : Type} {Q : α → α → Prop} {d : α} (hQ : ∀ x y, Q x y → Q y x) {l m : List α} (h : EqL Q d l m) : EqL Q d m l := ⟨h.1.symm, fun i hi => hQ _ _ (h.2 i (by rw [h.1]; exact hi))⟩
theorem EqFd.symm {x y : PFd} (h : EqFd false x y) : EqFd false y x := ⟨h.nm.symm, h.ty.symm, fun e => by cases e⟩
theorem EqSr.symm {x y : PSr} (h : EqSr false x y) : EqSr false y x := ⟨h.nm.symm, fun e => (by cases e), h.fds.symm fun _ _ => EqFd.symm⟩
theorem EqFn.symm {x y : PFn} (h : EqFn false x y) : EqFn false y x := ⟨h.nm.symm, h.ty.symm, fun e => (by cases e), h.params.symm, h.body.symm⟩
theorem EqP.symm {p q : PPr} (h : EqP false p q) : EqP false q p := ⟨h.ss.symm fun _ _ => EqSr.symm, h.vs.symm, h.fs.symm fun _ _ => EqFn.symm⟩
def pr0 : PPr := ⟨[], [], []⟩
theorem EqP.nil : EqP false pr0 pr0 := ⟨⟨rfl, fun i hi => by simp [pr0] at hi⟩, ⟨rfl, fun i hi => by simp [pr0] at hi⟩, ⟨rfl, fun i hi => by simp [pr0] at hi⟩⟩
theorem parse_ok {a : ByteArray} (h : (parseV a).2.2 = 0) : (lexV a).er = 0 ∧ (progL ((lexV a).tk.length + 1) pr0 ⟨(lexV a).tk, 0⟩).2.er = 0 ∧ (parseV a).1 = (progL ((lexV a).tk.length + 1) pr0 ⟨(lexV a).tk, 0⟩).1 := by
 unfold parseV at h ⊢
 by_cases h1 : (lexV a).er ≠ 0
 ·rw [if_pos h1] at h; exact absurd h h1
 ·rw [if_neg h1] at h ⊢
  have h1' : (lexV a).er = 0 := by omega
  simp only at h ⊢
  by_cases h2 : (progV ⟨(lexV a).tk, 0⟩).2.er ≠ 0
  ·rw [if_pos h2] at h; exact absurd h h2
  ·rw [if_neg h2]
   exact ⟨h1', by have : (progV ⟨(lexV a).tk, 0⟩).2.er = 0 := by omega
                  exact this, rfl⟩
end Pa
end Go.Proofs.YtfjobnljdkiihaaGreatDoor
