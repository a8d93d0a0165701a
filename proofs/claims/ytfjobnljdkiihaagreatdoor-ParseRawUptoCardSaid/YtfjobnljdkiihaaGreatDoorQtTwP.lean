/- A parsed program is told: what Tree asks of it. Conditions: each theorem's. -/
import Derived.Test.YtfjobnljdkiihaaGreatDoorQtTreeN
import Derived.Test.YtfjobnljdkiihaaGreatDoorQtParJp
import Derived.Test.YtfjobnljdkiihaaGreatDoorQtTwO
namespace Go.Proofs.YtfjobnljdkiihaaGreatDoor
open Go.RowKit Go.Maps
set_option linter.unusedVariables false
set_option linter.unusedSimpArgs false
set_option maxRecDepth 100000
open Lx
namespace Pa
def shV (v : PVa) : Prop := v.nm.size ≤ 8192 ∧ shT v.ty ∧ fitI v.ln
mutual
def nS : PSt → Nat
 | .mk _ exprs kids _ _ => nEs exprs + nSs kids + 1
def nSs : List PSt → Nat
 | [] => 0
 | x :: l => nS x + nSs l
end
mutual
def shS : PSt → Prop
 | .mk kd exprs kids v _ => (shEs exprs ∧ shV v ∧ fitI kd) ∧ shSs kids
def shSs : List PSt → Prop
 | [] => True
 | x :: l => shS x ∧ shSs l
end
theorem shSs_app : ∀ {l m : List PSt}, shSs l → shSs m → shSs (l ++ m)
 | [], m, _, h => h
 | x :: l, m, h, g => ⟨h.1, shSs_app h.2 g⟩
theorem nSs_app : ∀ (l m : List PSt), nSs (l ++ m) = nSs l + nSs m
 | [], m => by simp [nSs]
 | x :: l, m => by simp only [List.cons_append, nSs, nSs_app l m]; omega
theorem va0_sh : shV va0 := ⟨sz0, szT, by decide⟩
theorem shS0 : shS st0 := ⟨⟨trivial, va0_sh, by decide⟩, trivial⟩
theorem hdS_sh {r : List PSt × S} (h : shSs r.1) : shS (hdS r) := by
 unfold hdS
 cases hr : r.1 with
 | nil => exact shS0
 | cons x l => rw [hr] at h; exact h.1
theorem wrapI64_rg (n : Int) : fitI (IntKind.i64.wrap n) := by
 have e : IntKind.i64.wrap n = if n % 18446744073709551616 ≥ 9223372036854775808 then n % 18446744073709551616 - 18446744073709551616 else n % 18446744073709551616 := by
  unfold IntKind.wrap
  simp [IntKind.bits, IntKind.signed]
 rw [e]
 unfold fitI
 split <;> omega
theorem named_sh {s : S} (h : Ok s) : shV (namedV s).1 := ⟨oneT_sz (type_lt h).le.ok 1, typeV_sz h, by show fitI 0; decide⟩
theorem length_fit (s : S) : fitI (lengthV s).1 := by
 unfold lengthV
 split
 ·show fitI (IntKind.i64.wrap _)
  have := wrapI64_rg ((meanV s.tl.hd.tx.data.toList).getD 0)
  exact this
 ·show fitI 0; decide
theorem lv_sh {s : S} (h : Ok s) (a : Nat) : shV ⟨(namedV s).1.nm, (namedV s).1.ty, (lengthV (namedV s).2).1, a⟩ := ⟨(named_sh h).1, (named_sh h).2.1, length_fit _⟩
theorem cond_n {f d : Nat} {s : S} (h : Ok s) (h1 : 8 * s.tk.length + 5 ≤ f) : shEs (condV f d s).1 ∧ ((condV f d s).2.er = 0 → nEs (condV f d s).1 + (condV f d s).2.tk.length ≤ s.tk.length) := by
 unfold condV
 have h2 := want_lt h (x := ⟨#[40]⟩) (by decide)
 have e1 : En (.expr (d + 1)) (s.want ⟨#[40]⟩) f := ⟨h2.le.ok, by simp only [rank]; have := h2.le.len; omega, trivial⟩
 obtain ⟨s1, n1⟩ := runE_n _ _ _ e1
 have ha := (runE_le f _ _ e1).1
 have hw := (want_lt ha.ok (x := ⟨#[41]⟩) (by decide)).le
 refine ⟨⟨hd1_sh (s1 trivial), trivial⟩, fun he => ?_⟩
 have g1 := n1 (hw.er he)
 have := hw.len
 have := h2.le.len
 simp only [outW, inW, nEs] at g1 ⊢
 omega
theorem maybe_n {f d : Nat} {s : S} (h : Ok s) (h1 : 8 * s.tk.length + 5 ≤ f) : shEs (maybeV f d s).1 ∧ ((maybeV f d s).2.er = 0 → nEs (maybeV f d s).1 + 1 + (maybeV f d s).2.tk.length ≤ s.tk.length) := by
 unfold maybeV
 split
 ·rename_i h2
  have hz := (tl_ok h (is_ne h2 (by decide))).2
  refine ⟨trivial, fun he => ?_⟩
  simp only [nEs]
  omega
 ·have e1 : En (.expr (d + 1)) s f := ⟨h, by simp only [rank]; omega, trivial⟩
  obtain ⟨s1, n1⟩ := runE_n _ _ _ e1
  have ha := (runE_le f _ _ e1).1
  have hw := want_lt ha.ok (x := ⟨#[59]⟩) (by decide)
  refine ⟨⟨hd1_sh (s1 trivial), trivial⟩, fun he => ?_⟩
  have g1 := n1 (hw.le.er he)
  have := hw.lt he
  simp only [outW, inW, nEs] at g1 ⊢
  omega
theorem local_n {f d : Nat} {s : S} (h : Ok s) (h1 : 8 * s.tk.length ≤ f) : shS (localV f d s).1 ∧ ((localV f d s).2.er = 0 → nS (localV f d s).1 + (localV f d s).2.tk.length ≤ s.tk.length) := by
 unfold localV
 have h2 := (named_lt h).trans (length_le (named_lt h).le.ok)
 have hlen := h2.le.len
 have hv := lv_sh h (namedV s).1.at_
 simp only
 split
 ·rename_i h3
  have ht := tl_lt h2.le.ok (is_ne h3 (by decide))
  have hz := (tl_ok h2.le.ok (is_ne h3 (by decide))).2
  have e1 : En (.expr (d + 1)) (lengthV (namedV s).2).2.tl f := ⟨ht.le.ok, by simp only [rank]; omega, trivial⟩
  obtain ⟨s1, n1⟩ := runE_n _ _ _ e1
  have ha := (runE_le f _ _ e1).1
  have hw := (want_lt ha.ok (x := ⟨#[59]⟩) (by decide)).le
  refine ⟨⟨⟨⟨hd1_sh (s1 trivial), trivial⟩, hv, by decide⟩, trivial⟩, fun he => ?_⟩
  have g1 := n1 (hw.er he)
  have := hw.len
  simp only [outW, inW, nS, nSs, nEs] at g1 ⊢
  omega
 ·have hw := want_lt h2.le.ok (x := ⟨#[59]⟩) (by decide)
  refine ⟨⟨⟨trivial, hv, by decide⟩, trivial⟩, fun he => ?_⟩
  have := hw.lt he
  simp only [nS, nSs, nEs]
  omega
def inWS : Qs → Nat
 | .untS _ l => nSs l | _ => 0
def inShS : Qs → Prop
 | .untS _ l => shSs l | _ => True
def outWS : Qs → List PSt × S → Nat
 | .untS _ _, r => nSs r.1 | _, r => nS (hdS r)
theorem hdS_one (x : PSt) (s : S) : hdS ([x], s) = x := rfl
def CnS (q : Qs) (s : S) (r : List PSt × S) : Prop := (inShS q → shSs r.1) ∧ (r.2.er = 0 → outWS q r + r.2.tk.length ≤ inWS q + s.tk.length)
theorem runS_n : ∀ f q s, EnS q s f → CnS q s (runS f q s) := by
 intro f
 induction f with
 | zero =>
  intro q s ⟨h, h1⟩
  have hp := h.pos
  cases q with
  | stmt d => simp only [rankS] at h1; omega
  | block d => simp only [rankS] at h1; omega
  | untS d l => simp only [runS]; exact ⟨fun hs => hs, fun _ => Nat.le_refl _⟩
 | succ f ih =>
  intro q s ⟨h, h1⟩
  have hp := h.pos
  cases q with
  | stmt d =>
   simp only [rankS] at h1
   have hd := deep_le h d
   simp only [runS]
   generalize deepS d s = s' at *
   have h := hd.ok
   have hlen := hd.len
   split
   ·obtain ⟨s1, n1⟩ := local_n (f := f) (d := d) h (by omega)
    refine ⟨fun _ => ⟨s1, trivial⟩, fun he => ?_⟩
    have := n1 he
    simp only [outWS, inWS, hdS_one]
    omega
   split
   ·have e1 : EnS (.block d) s' f := ⟨h, by simp only [rankS]; omega⟩
    obtain ⟨s1, n1⟩ := ih _ _ e1
    refine ⟨fun _ => ⟨hdS_sh (s1 trivial), trivial⟩, fun he => ?_⟩
    have g1 := n1 he
    simp only [outWS, inWS, hdS_one] at g1 ⊢
    omega
   split
   ·rename_i h2
    have ht := tl_lt h (is_ne h2 (by decide))
    have hz := (tl_ok h (is_ne h2 (by decide))).2
    have hc := cond_lt (f := f) (d := d) ht.le.ok (by omega)
    obtain ⟨c1, c2⟩ := cond_n (f := f) (d := d) ht.le.ok (by omega)
    have hl2 := hc.le.len
    have e1 : EnS (.stmt (d + 1)) (condV f d s'.tl).2 f := ⟨hc.le.ok, by simp only [rankS]; omega⟩
    obtain ⟨s1, n1⟩ := ih _ _ e1
    have ha := (runS_le f _ _ e1).1
    split
    ·rename_i h3
     have ht2 := tl_lt ha.ok (is_ne h3 (by decide))
     have hz2 := (tl_ok ha.ok (is_ne h3 (by decide))).2
     have e2 : EnS (.stmt (d + 1)) (runS f (.stmt (d + 1)) (condV f d s'.tl).2).2.tl f := ⟨ht2.le.ok, by simp only [rankS]; have := ha.len; omega⟩
     obtain ⟨s2, n2⟩ := ih _ _ e2
     have hb := (runS_le f _ _ e2).1
     refine ⟨fun _ => ⟨⟨⟨c1, va0_sh, by decide⟩, ⟨hdS_sh (s1 trivial), hdS_sh (s2 trivial), trivial⟩⟩, trivial⟩, fun he => ?_⟩
     have g2 := n2 he
     have g1 := n1 (ht2.le.er (hb.er he))
     have g0 := c2 (ha.er (ht2.le.er (hb.er he)))
     simp only [outWS, inWS, hdS_one, nS, nSs] at g1 g2 ⊢
     omega
    ·refine ⟨fun _ => ⟨⟨⟨c1, va0_sh, by decide⟩, ⟨hdS_sh (s1 trivial), trivial⟩⟩, trivial⟩, fun he => ?_⟩
     have g1 := n1 he
     have g0 := c2 (ha.er he)
     simp only [outWS, inWS, hdS_one, nS, nSs] at g1 ⊢
     omega
   split
   ·rename_i h2
    have ht := tl_lt h (is_ne h2 (by decide))
    have hz := (tl_ok h (is_ne h2 (by decide))).2
    have hc := cond_lt (f := f) (d := d) ht.le.ok (by omega)
    obtain ⟨c1, c2⟩ := cond_n (f := f) (d := d) ht.le.ok (by omega)
    have hl2 := hc.le.len
    have e1 : EnS (.stmt (d + 1)) (condV f d s'.tl).2 f := ⟨hc.le.ok, by simp only [rankS]; omega⟩
    obtain ⟨s1, n1⟩ := ih _ _ e1
    have ha := (runS_le f _ _ e1).1
    refine ⟨fun _ => ⟨⟨⟨c1, va0_sh, by decide⟩, ⟨hdS_sh (s1 trivial), trivial⟩⟩, trivial⟩, fun he => ?_⟩
    have g1 := n1 he
    have g0 := c2 (ha.er he)
    simp only [outWS, inWS, hdS_one, nS, nSs] at g1 ⊢
    omega
   split
   ·rename_i h2
    have ht := tl_lt h (is_ne h2 (by decide))
    have hz := (tl_ok h (is_ne h2 (by decide))).2
    obtain ⟨m1, m2⟩ := maybe_n (f := f) (d := d) ht.le.ok (by omega)
    refine ⟨fun _ => ⟨⟨⟨m1, va0_sh, by decide⟩, trivial⟩, trivial⟩, fun he => ?_⟩
    have := m2 he
    simp only [outWS, inWS, hdS_one, nS, nSs]
    omega
   split
   ·rename_i h2
    have ht := tl_lt h (is_ne h2 (by decide))
    have hz := (tl_ok h (is_ne h2 (by decide))).2
    have hw := (want_lt ht.le.ok (x := ⟨#[59]⟩) (by decide)).le.len
    refine ⟨fun _ => ⟨⟨⟨trivial, va0_sh, by decide⟩, trivial⟩, trivial⟩, fun he => ?_⟩
    simp only [outWS, inWS, hdS_one, nS, nSs, nEs]
    omega
   split
   ·rename_i h2
    have ht := tl_lt h (is_ne h2 (by decide))
    have hz := (tl_ok h (is_ne h2 (by decide))).2
    have hw := (want_lt ht.le.ok (x := ⟨#[59]⟩) (by decide)).le.len
    refine ⟨fun _ => ⟨⟨⟨trivial, va0_sh, by decide⟩, trivial⟩, trivial⟩, fun he => ?_⟩
    simp only [outWS, inWS, hdS_one, nS, nSs, nEs]
    omega
   ·obtain ⟨m1, m2⟩ := maybe_n (f := f) (d := d) h (by omega)
    refine ⟨fun _ => ⟨⟨⟨m1, va0_sh, by decide⟩, trivial⟩, trivial⟩, fun he => ?_⟩
    have := m2 he
    simp only [outWS, inWS, hdS_one, nS, nSs]
    omega
  | block d =>
   simp only [rankS] at h1
   simp only [runS]
   have hw := want_lt h (x := ⟨#[123]⟩) (by decide)
   have e1 : EnS (.untS (d + 1) []) (s.want ⟨#[123]⟩) f := ⟨hw.le.ok, by
    by_cases he : (s.want ⟨#[123]⟩).er = 0
    ·exact .inr (by have := hw.lt he; omega)
    ·exact .inl he⟩
   obtain ⟨s1, n1⟩ := ih _ _ e1
   have ha := (runS_le f _ _ e1).1
   refine ⟨fun _ => ⟨⟨⟨trivial, va0_sh, by decide⟩, s1 trivial⟩, trivial⟩, fun he => ?_⟩
   have g1 := n1 he
   have := hw.lt (ha.er he)
   simp only [outWS, inWS, hdS_one, nS, nSs, nEs] at g1 ⊢
   omega
  | untS d l =>
   simp only [runS]
   simp only at h1
   split
   ·rename_i h2
    exact ⟨fun hs => hs, fun he => absurd he h2⟩
   ·rename_i h2
    have h1 : 8 * s.tk.length + 8 ≤ f + 1 := by rcases h1 with h1 | h1; exact absurd h1 h2; exact h1
    split
    ·rename_i h3
     have hz := (tl_ok h (is_ne h3 (by decide))).2
     refine ⟨fun hs => hs, fun he => ?_⟩
     simp only [outWS, inWS]
     omega
    ·have e1 : EnS (.stmt d) s f := ⟨h, by simp only [rankS]; omega⟩
     obtain ⟨s1, n1⟩ := ih _ _ e1
     have ha := (runS_le f _ _ e1).2 trivial
     have e2 : EnS (.untS d (l ++ [hdS (runS f (.stmt d) s)])) (runS f (.stmt d) s).2 f := ⟨ha.le.ok, by
      by_cases he : (runS f (.stmt d) s).2.er = 0
      ·exact .inr (by have := ha.lt he; omega)
      ·exact .inl he⟩
     obtain ⟨s2, n2⟩ := ih _ _ e2
     have hb := (runS_le f _ _ e2).1
     refine ⟨fun hs => s2 (shSs_app hs ⟨hdS_sh (s1 trivial), trivial⟩), fun he => ?_⟩
     have g2 := n2 he
     have g1 := n1 (hb.er he)
     simp only [outWS, inWS, nSs, nSs_app] at g1 g2 ⊢
     omega
end Pa
open Lx Pa Go.Lib Qi
namespace Pa
def shFd (f : PFd) : Prop := f.nm.size ≤ 8192 ∧ shT f.ty
def shSr (s : PSr) : Prop := s.nm.size ≤ 8192 ∧ ∀ f ∈ s.fds, shFd f
def shFn (f : PFn) : Prop := f.nm.size ≤ 8192 ∧ shT f.ty ∧ (∀ v ∈ f.params, shV v) ∧ shS f.body
structure shP (p : PPr) : Prop where
 ss : ∀ s ∈ p.ss, shSr s
 vs : ∀ v ∈ p.vs, shV v
 fs : ∀ f ∈ p.fs, shFn f
def nSr (s : PSr) : Nat := s.fds.length + 1
def nFn (f : PFn) : Nat := f.params.length + nS f.body + 1
def nP (p : PPr) : Nat := (p.ss.map nSr).sum + p.vs.length + (p.fs.map nFn).sum
theorem snocM {α : Type} {P : α → Prop} {l : List α} {x : α} (h : ∀ y ∈ l, P y) (hx : P x) : ∀ y ∈ l ++ [x], P y := fun y hy => by
 rcases List.mem_append.1 hy with hy | hy
 ·exact h y hy
 ·rw [List.mem_singleton.1 hy]; exact hx
theorem untF_n : ∀ f l (s : S), Ok s → ((∀ x ∈ l, shFd x) → ∀ x ∈ (untF f l s).1, shFd x) ∧ ((untF f l s).2.er = 0 → (untF f l s).1.length + (untF f l s).2.tk.length ≤ l.length + s.tk.length) := by
 intro f
 induction f with
 | zero => intro l s h; simp only [untF]; exact ⟨id, fun _ => Nat.le_refl _⟩
 | succ f ih =>
  intro l s h
  simp only [untF]
  split
  ·exact ⟨id, fun _ => Nat.le_refl _⟩
  split
  ·rename_i h2
   have hz := (tl_ok h (is_ne h2 (by decide))).2
   exact ⟨id, fun _ => by show l.length + s.tl.tk.length ≤ _; omega⟩
  ·have h1 := named_lt h
   have h2 := h1.trans (want_lt h1.le.ok (x := ⟨#[59]⟩) (by decide)).le
   obtain ⟨i1, i2⟩ := ih (l ++ [⟨(namedV s).1.nm, (namedV s).1.ty, (namedV s).1.at_⟩]) _ h2.le.ok
   have h3 := untF_le f (l ++ [⟨(namedV s).1.nm, (namedV s).1.ty, (namedV s).1.at_⟩]) _ h2.le.ok
   refine ⟨fun hs => i1 (snocM hs ⟨(named_sh h).1, (named_sh h).2.1⟩), fun he => ?_⟩
   have := i2 he
   have := h2.lt (h3.er he)
   simp only [List.length_append, List.length_singleton] at *
   omega
theorem betPL_n : ∀ f l (s : S), Ok s → ((∀ x ∈ l, shV x) → ∀ x ∈ (betPL f l s).1, shV x) ∧ (s.tk.length + 1 ≤ f → (betPL f l s).2.er = 0 → (betPL f l s).1.length + (betPL f l s).2.tk.length ≤ l.length + s.tk.length) := by
 intro f
 induction f with
 | zero => intro l s h; simp only [betPL]; exact ⟨id, fun _ _ => Nat.le_refl _⟩
 | succ f ih =>
  intro l s h
  simp only [betPL]
  split
  ·rename_i h2
   have ht := tl_lt h (is_ne h2 (by decide))
   have hz := (tl_ok h (is_ne h2 (by decide))).2
   split
   ·exact ⟨(fun _ x hx => by cases hx), fun _ he => absurd he (fail_er (by decide))⟩
   ·have h1 := named_lt ht.le.ok
    obtain ⟨i1, i2⟩ := ih (l ++ [(namedV s.tl).1]) _ h1.le.ok
    refine ⟨fun hs => i1 (snocM hs (named_sh ht.le.ok)), fun hf he => ?_⟩
    have hl := h1.le.len
    have := i2 (by omega) he
    simp only [List.length_append, List.length_singleton] at *
    omega
  ·have hw := (want_lt h (x := ⟨#[41]⟩) (by decide)).le.len
   exact ⟨id, fun _ _ => Nat.add_le_add_left hw _⟩
theorem betP_n {s : S} (h : Ok s) : (∀ x ∈ (betP s).1, shV x) ∧ ((betP s).2.er = 0 → (betP s).1.length + (betP s).2.tk.length ≤ s.tk.length) := by
 unfold betP
 split
 ·rename_i h2
  have hz := (tl_ok h (is_ne h2 (by decide))).2
  exact ⟨(fun x hx => by cases hx), fun _ => by show 0 + s.tl.tk.length ≤ _; omega⟩
 ·have h1 := named_lt h
  obtain ⟨i1, i2⟩ := betPL_n ((namedV s).2.tk.length + 1) [(namedV s).1] _ h1.le.ok
  have h2 := betPL_le ((namedV s).2.tk.length + 1) [(namedV s).1] _ h1.le.ok (Nat.le_refl _)
  refine ⟨i1 (fun x hx => by rw [List.mem_singleton.1 hx]; exact named_sh h), fun he => ?_⟩
  have := i2 (Nat.le_refl _) he
  have := h1.lt (h2.er he)
  simp only [List.length_singleton] at *
  omega
theorem structV_n {s : S} (h : Ok s) : shSr (structV s).1 ∧ ((structV s).2.er = 0 → nSr (structV s).1 + (structV s).2.tk.length ≤ s.tk.length) := by
 unfold structV
 have h1 := want_lt h (x := ⟨#[115, 116, 114, 117, 99, 116]⟩) (by decide)
 have h2 := one_lt h1.le.ok (k := 1) (by decide)
 have h3 := (want_lt h2.le.ok (x := ⟨#[123]⟩) (by decide)).le
 simp only
 generalize (((s.want ⟨#[115, 116, 114, 117, 99, 116]⟩).one 1).want ⟨#[123]⟩) = u at *
 obtain ⟨i1, i2⟩ := untF_n (u.tk.length + 1) [] u h3.ok
 have h4 := untF_le (u.tk.length + 1) [] u h3.ok
 have h5 := want_lt h4.ok (x := ⟨#[59]⟩) (by decide)
 refine ⟨⟨oneT_sz h1.le.ok 1, i1 (fun x hx => by cases hx)⟩, fun he => ?_⟩
 have g1 := i2 (h5.le.er he)
 have g2 := h5.lt he
 have g3 := h1.le.len
 have g4 := h2.le.len
 have g5 := h3.len
 simp only [nSr, List.length_nil] at *
 omega
theorem funcV_n {v : PVa} {s : S} (h : Ok s) (hv : shV v) : shFn (funcV v s).1 ∧ ((funcV v s).2.er = 0 → nFn (funcV v s).1 + (funcV v s).2.tk.length ≤ s.tk.length + 1) := by
 unfold funcV
 have h1 := betP_le' h
 obtain ⟨b1, b2⟩ := betP_n h
 have e1 : EnS (.block 0) (betP s).2 (fuelOf (betP s).2) := ⟨h1.ok, by simp only [rankS]; unfold fuelOf; omega⟩
 obtain ⟨s1, n1⟩ := runS_n _ _ _ e1
 have h2 := (runS_le _ _ _ e1).1
 refine ⟨⟨hv.1, hv.2.1, b1, hdS_sh (s1 trivial)⟩, fun he => ?_⟩
 have g1 := n1 he
 have g2 := b2 (h2.er he)
 simp only [nFn, outWS, inWS] at g1 ⊢
 omega
theorem topV_n {s : S} (h : Ok s) {p : PPr} (hp : shP p) : shP (topV p s).1 ∧ ((topV p s).2.er = 0 → nP (topV p s).1 + (topV p s).2.tk.length ≤ nP p + s.tk.length) := by
 unfold topV
 split
 ·obtain ⟨s1, n1⟩ := structV_n h
  refine ⟨⟨snocM hp.ss s1, hp.vs, hp.fs⟩, fun he => ?_⟩
  have := n1 he
  simp only [nP, List.map_append, List.sum_append, List.map_cons, List.map_nil, List.sum_cons, List.sum_nil]
  omega
 ·have h1 := named_lt h
  simp only
  split
  ·rename_i h2
   have ht := tl_lt h1.le.ok (is_ne h2 (by decide))
   have hz := (tl_ok h1.le.ok (is_ne h2 (by decide))).2
   obtain ⟨s1, n1⟩ := funcV_n (v := (namedV s).1) ht.le.ok (named_sh h)
   refine ⟨⟨hp.ss, hp.vs, snocM hp.fs s1⟩, fun he => ?_⟩
   have := n1 he
   have := h1.le.len
   simp only [nP, List.map_append, List.sum_append, List.map_cons, List.map_nil, List.sum_cons, List.sum_nil]
   omega
  ·have h2 := (length_le h1.le.ok)
   have h3 := (want_lt h2.ok (x := ⟨#[59]⟩) (by decide))
   refine ⟨⟨hp.ss, snocM hp.vs ⟨(named_sh h).1, (named_sh h).2.1, length_fit _⟩, hp.fs⟩, fun he => ?_⟩
   have := h3.lt he
   have := h2.len
   have := h1.le.len
   simp only [nP, List.length_append, List.length_singleton]
   omega
theorem progL_n : ∀ f p (s : S), Ok s → shP p → shP (progL f p s).1 ∧ ((progL f p s).2.er = 0 → nP (progL f p s).1 + (progL f p s).2.tk.length ≤ nP p + s.tk.length) := by
 intro f
 induction f with
 | zero => intro p s h hp; simp only [progL]; exact ⟨hp, fun _ => Nat.le_refl _⟩
 | succ f ih =>
  intro p s h hp
  simp only [progL]
  split
  ·exact ⟨hp, fun _ => Nat.le_refl _⟩
  ·obtain ⟨s1, n1⟩ := topV_n h hp
   have h1 := (topV_lt (p := p) h).le
   obtain ⟨i1, i2⟩ := ih (topV p s).1 _ h1.ok s1
   have h2 := progL_er f (topV p s).1 _ h1.ok
   refine ⟨i1, fun he => ?_⟩
   have := i2 he
   have := n1 (h2.er he)
   omega
theorem parse_small {a : ByteArray} (h : (parseV a).2.2 = 0) (hl : (lexV a).er = 0 → Ok ⟨(lexV a).tk, 0⟩) : shP (parseV a).1 ∧ nP (parseV a).1 ≤ 2501 := by
 obtain ⟨h1, h2, h3⟩ := parse_ok h
 have h4 := hl h1
 obtain ⟨i1, i2⟩ := progL_n ((lexV a).tk.length + 1) pr0 _ h4 ⟨(fun x hx => by cases hx), (fun x hx => by cases hx), (fun x hx => by cases hx)⟩
 rw [h3]
 refine ⟨i1, ?_⟩
 have := i2 h2
 have hlen := lexV_len a
 simp only [nP, pr0, List.map_nil, List.sum_nil, List.length_nil] at this ⊢
 omega
end Pa
namespace Pa
theorem nd_le : ∀ (k u : Nat), u < 10 ^ (k + 1) → nDigits u ≤ k + 1
 | 0, u, h => by rw [nDigits_small (by simpa using h)]; omega
 | k + 1, u, h => by
  by_cases h1 : u < 10
  ·rw [nDigits_small h1]; omega
  ·rw [nDigits_big h1]
   have := nd_le k (u / 10) (by rw [Nat.pow_succ] at h; omega)
   omega
theorem itoa_len {n : Int} (h0 : -9223372036854775808 ≤ n) (h1 : n ≤ 18446744073709551615) : (itoa n).length ≤ 21 := by
 unfold itoa
 split
 ·rw [List.length_cons, decDigits_length]
  have := nd_le 19 n.natAbs (by have : (10 : Nat) ^ (19 + 1) = 100000000000000000000 := by decide
                                rw [this]; omega)
  omega
 ·rw [decDigits_length]
  have := nd_le 19 n.toNat (by have : (10 : Nat) ^ (19 + 1) = 100000000000000000000 := by decide
                               rw [this]; omega)
  omega
theorem itoaI {n : Int} (h : fitI n) : (itoa n).length ≤ 21 := itoa_len h.1 (by have := h.2; omega)
theorem itoaU {n : Int} (h : fitU n) : (itoa n).length ≤ 21 := itoa_len (by have := h.1; omega) h.2
theorem itoaN {n : Nat} (h : n ≤ 1000000000) : (itoa (n : Int)).length ≤ 21 := itoa_len (by omega) (by omega)
section
variable (T : PrintTabs)
theorem qt_len {s : ByteArray} (h : s.size ≤ 8192) : (qt T s).length ≤ 81922 := by
 unfold Qi.qt
 rw [List.length_map]
 have := quoteZ_length_le T s
 omega
theorem typ_len {t : PTy} (h : shT t) : (typT T t).length ≤ 82000 := by
 unfold typT
 have h1 := itoaI h.2.1
 have h2 := itoaI h.2.2
 have h3 := qt_len T h.1
 simp only [List.length_append, List.length_cons]
 omega
theorem var_len {v : PVa} (h : shV v) : (varT T v).length ≤ 164000 := by
 unfold varT
 have h1 := qt_len T h.1
 have h2 := typ_len T h.2.1
 have h3 := itoaI h.2.2
 simp only [List.length_append, List.length_cons]
 omega
theorem nEs_ge : ∀ l : List PEx, l.length ≤ nEs l
 | [] => Nat.le_refl _
 | .mk kd op nm num kids ty a :: l => by have := nEs_ge l; simp only [nEs, nE, List.length_cons]; omega
theorem nSs_ge : ∀ l : List PSt, l.length ≤ nSs l
 | [] => Nat.le_refl _
 | .mk kd e k v a :: l => by have := nSs_ge l; simp only [nSs, nS, List.length_cons]; omega
mutual
theorem exT_len : ∀ x : PEx, shE x → nE x ≤ 1000000000 → (exT T x).length ≤ 300000 * nE x
 | .mk kd op nm num kids ty a, h, hn => by
  obtain ⟨⟨h1, h2, h3, h4, h5⟩, h6⟩ := h
  simp only [nE] at hn
  have hk := nEs_ge kids
  have g1 := qt_len T h1
  have g2 := qt_len T h2
  have g3 := typ_len T h3
  have g4 := itoaI h4
  have g5 := itoaU h5
  have g6 := itoaN (n := kids.length) (by omega)
  have g7 := exsT_len kids h6 (by omega)
  simp only [exT, exLine, nE, List.length_append, List.length_cons, List.length_nil]
  omega
theorem exsT_len : ∀ l : List PEx, shEs l → nEs l ≤ 1000000000 → (exsT T l).length ≤ 300000 * nEs l
 | [], _, _ => by simp [exsT]
 | x :: l, h, hn => by
  simp only [nEs] at hn
  have g1 := exT_len x h.1 (by omega)
  have g2 := exsT_len l h.2 (by omega)
  simp only [exsT, nEs, List.length_append]
  omega
end
mutual
theorem stT_len : ∀ x : PSt, shS x → nS x ≤ 1000000000 → (stT T x).length ≤ 300000 * nS x
 | .mk kd exprs kids v a, h, hn => by
  obtain ⟨⟨h1, h2, h3⟩, h4⟩ := h
  simp only [nS] at hn
  have hk := nEs_ge exprs
  have hl := nSs_ge kids
  have g1 := exsT_len T exprs h1 (by omega)
  have g2 := var_len T h2
  have g3 := itoaI h3
  have g4 := itoaN (n := exprs.length) (by omega)
  have g5 := itoaN (n := kids.length) (by omega)
  have g6 := stsT_len kids h4 (by omega)
  simp only [stT, stLine, nS, List.length_append, List.length_cons, List.length_nil]
  omega
theorem stsT_len : ∀ l : List PSt, shSs l → nSs l ≤ 1000000000 → (stsT T l).length ≤ 300000 * nSs l
 | [], _, _ => by simp [stsT]
 | x :: l, h, hn => by
  simp only [nSs] at hn
  have g1 := stT_len x h.1 (by omega)
  have g2 := stsT_len l h.2 (by omega)
  simp only [stsT, nSs, List.length_append]
  omega
end
theorem flat_len {α : Type} {f : α → List UInt8} {n : α → Nat} : ∀ {l : List α}, (∀ x ∈ l, (f x).length ≤ 300000 * n x) → (l.flatMap f).length ≤ 300000 * (l.map n).sum
 | [], _ => by simp
 | x :: l, h => by
  have h1 := h x (by simp)
  have h2 := flat_len (l := l) (fun y hy => h y (by simp [hy]))
  simp only [List.flatMap_cons, List.length_append, List.map_cons, List.sum_cons]
  omega
theorem sum_ge {α : Type} {n : α → Nat} : ∀ {l : List α} {x : α}, x ∈ l → n x ≤ (l.map n).sum
 | y :: l, x, h => by
  simp only [List.map_cons, List.sum_cons]
  rcases List.mem_cons.1 h with rfl | h
  ·omega
  ·have := sum_ge (n := n) h; omega
theorem sum_len {α : Type} {n : α → Nat} (hn : ∀ x, 1 ≤ n x) : ∀ l : List α, l.length ≤ (l.map n).sum
 | [] => Nat.le_refl _
 | y :: l => by have := sum_len hn l; have := hn y; simp only [List.map_cons, List.sum_cons, List.length_cons]; omega
theorem sum_one {α : Type} (l : List α) : (l.map fun _ => 1).sum = l.length := by
 induction l with
 | nil => rfl
 | cons x l ih => simp only [List.map_cons, List.sum_cons, List.length_cons, ih]; omega
theorem fd_len {f : PFd} (h : shFd f) : (fdT T f).length ≤ 300000 * 1 := by
 have g1 := qt_len T h.1
 have g2 := typ_len T h.2
 simp only [fdT, List.length_append, List.length_cons, List.length_nil]
 omega
theorem va_len {v : PVa} (h : shV v) : (vaT T v).length ≤ 300000 * 1 := by
 have g1 := var_len T h
 simp only [vaT, List.length_append, List.length_cons, List.length_nil]
 omega
theorem pa_len {v : PVa} (h : shV v) : (paT T v).length ≤ 300000 * 1 := by
 have g1 := var_len T h
 simp only [paT, List.length_append, List.length_cons, List.length_nil]
 omega
theorem sr_len {s : PSr} (h : shSr s) (hn : nSr s ≤ 1000000000) : (srT T s).length ≤ 300000 * nSr s := by
 unfold nSr at hn
 have g1 := qt_len T h.1
 have g2 := itoaN (n := s.fds.length) (by omega)
 have g3 := flat_len (f := fdT T) (n := fun _ => 1) fun x hx => fd_len T (h.2 x hx)
 rw [sum_one] at g3
 simp only [srT, nSr, List.length_append, List.length_cons, List.length_nil]
 omega
theorem fn_len {f : PFn} (h : shFn f) (hn : nFn f ≤ 1000000000) : (fnT T f).length ≤ 300000 * nFn f := by
 unfold nFn at hn
 have g1 := qt_len T h.1
 have g2 := typ_len T h.2.1
 have g3 := itoaN (n := f.params.length) (by omega)
 have g4 := flat_len (f := paT T) (n := fun _ => 1) fun x hx => pa_len T (h.2.2.1 x hx)
 rw [sum_one] at g4
 have g5 := stT_len T f.body h.2.2.2 (by omega)
 simp only [fnT, nFn, List.length_append, List.length_cons, List.length_nil]
 omega
theorem tree_len {p : PPr} (h : shP p) (hn : nP p ≤ 1000000000) : (treeT T p).length ≤ 300000 * nP p + 100 := by
 unfold nP at hn
 have k1 := sum_len (n := nSr) (fun x => by unfold nSr; omega) p.ss
 have k2 := sum_len (n := nFn) (fun x => by unfold nFn; omega) p.fs
 have g1 := flat_len (f := srT T) (n := nSr) fun x hx => sr_len T (h.ss x hx) (by have := sum_ge (n := nSr) hx; omega)
 have g2 := flat_len (f := vaT T) (n := fun _ => 1) fun x hx => va_len T (h.vs x hx)
 rw [sum_one] at g2
 have g3 := flat_len (f := fnT T) (n := nFn) fun x hx => fn_len T (h.fs x hx) (by have := sum_ge (n := nFn) hx; omega)
 have g4 := itoaN (n := p.ss.length) (by omega)
 have g5 := itoaN (n := p.vs.length) (by omega)
 have g6 := itoaN (n := p.fs.length) (by omega)
 rw [show nP p = (p.ss.map nSr).sum + p.vs.length + (p.fs.map nFn).sum from rfl]
 simp only [treeT, List.length_append, List.length_cons, List.length_nil]
 omega
end
end Pa
theorem l8 {n : Nat} (h : n ≤ 8192) : n ≤ 1048576 := Nat.le_trans h (by decide)
mutual
theorem fE_of : ∀ x : PEx, shE x → fE x
 | .mk kd op nm num kids ty a, h => by
  obtain ⟨⟨h1, h2, ⟨h3, h4, h5⟩, h6, h7⟩, h8⟩ := h
  exact ⟨⟨l8 h1, l8 h2, ⟨l8 h3, h4, h5⟩, h6, h7⟩, fEs_of kids h8⟩
theorem fEs_of : ∀ l : List PEx, shEs l → fEs l
 | [], _ => trivial
 | x :: l, h => ⟨fE_of x h.1, fEs_of l h.2⟩
end
theorem fV_of {v : PVa} (h : shV v) : fV v := ⟨l8 h.1, ⟨l8 h.2.1.1, h.2.1.2.1, h.2.1.2.2⟩, h.2.2⟩
mutual
theorem fS_of : ∀ x : PSt, shS x → fS x
 | .mk kd exprs kids v a, h => by
  obtain ⟨⟨h1, h2, h3⟩, h4⟩ := h
  exact ⟨⟨fEs_of exprs h1, fV_of h2, h3⟩, fSs_of kids h4⟩
theorem fSs_of : ∀ l : List PSt, shSs l → fSs l
 | [], _ => trivial
 | x :: l, h => ⟨fS_of x h.1, fSs_of l h.2⟩
end
theorem fP_of {p : PPr} (h : shP p) : fP p :=
 ⟨fun s hs => ⟨l8 (h.ss s hs).1, fun f hf => by
  have := (h.ss s hs).2 f hf
  exact ⟨l8 this.1, l8 this.2.1, this.2.2.1, this.2.2.2⟩⟩, fun v hv => fV_of (h.vs v hv), fun f hf => by
  obtain ⟨h1, h2, h3, h4⟩ := h.fs f hf
  exact ⟨⟨l8 h1, l8 h2.1, h2.2.1, h2.2.2⟩, fun v hv => fV_of (h3 v hv), fS_of _ h4⟩⟩
theorem parse_fits (T : PrintTabs) {a : ByteArray} (h : (parseV a).2.2 = 0) : fP (parseV a).1 ∧ (treeT T (parseV a).1).length ≤ 1000000000000 := by
 obtain ⟨h1, h2⟩ := parse_small h (fun hl => lex_end hl)
 exact ⟨fP_of h1, by have := tree_len T h1 (by omega); omega⟩
theorem ap_keep {w w' : World} {S : Nat → Prop} {p : PPr} {vs vv vf : Value} (h : PrAt w S p vs vv vf) (hb : Below w.heap.size w w') : PrAt w' (fun _ => True) p vs vv vf := h.keep (fun g _ hl => ⟨trivial, hb.block g hl⟩) hb.size
theorem treeP_any (T : PrintTabs) (p : PPr) (vs vv vf : Value) (w : World) {B : Nat} (hT : Tb T B w) (hB : B ≤ w.heap.size) {w1 : World} {S : Nat → Prop} (hp : PrAt w1 S p vs vv vf) (hb : Below w1.heap.size w1 w) (hf : fP p) (hlen : (treeT T p).length ≤ 1000000000000) :
  Calls Tryz.prog 8 #[.agg #[vs, vv, vf]] w fun e w' => e = .returned (.string ⟨(treeT T p).toArray⟩) ∧ Below w.heap.size w w' := by
 have h := hp.keep (S' := Bl w.heap.size) (fun g _ hl => ⟨Nat.lt_of_lt_of_le hl hb.size, hb.block g hl⟩) hb.size
 exact tree_any T p vs vv vf w (fun w' h' => hT w' (h'.mono hB)) h.s h.v (h.f.map fun _ _ h => fnE_toA h) hf hlen
end Go.Proofs.YtfjobnljdkiihaaGreatDoor
