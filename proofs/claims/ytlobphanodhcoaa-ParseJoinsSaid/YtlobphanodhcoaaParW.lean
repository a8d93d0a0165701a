/- What the plain reader leaves of its tokens. Conditions: each theorem's. -/
import Derived.Test.YtlobphanodhcoaaParV
namespace Go.Proofs.Ytlobphanodhcoaa
open Go.RowKit Go.Maps
set_option linter.unusedVariables false
set_option linter.unusedSimpArgs false
set_option maxRecDepth 100000
open Lx
namespace Pa
def Ok (s : S) : Prop := (∃ A p, s.tk = A ++ [⟨0, ⟨#[]⟩, p⟩]) ∧ ∀ t ∈ s.tk, t.tx.size ≤ 8192 ∧ t.at_ ≤ 8192
theorem Ok.pos {s : S} (h : Ok s) : 1 ≤ s.tk.length := by obtain ⟨⟨A, p, h⟩, _⟩ := h; rw [h]; simp
theorem Ok.cons {s : S} (h : Ok s) : ∃ l, s.tk = s.hd :: l := by
  have := h.pos
  unfold S.hd
  cases ht : s.tk with
  | nil => rw [ht] at this; simp at this
  | cons t l => exact ⟨l, rfl⟩
theorem Ok.hd {s : S} (h : Ok s) : s.hd.tx.size ≤ 8192 ∧ s.hd.at_ ≤ 8192 := by
  obtain ⟨l, hl⟩ := h.cons
  exact h.2 _ (by rw [hl]; simp)
structure Le (s s' : S) : Prop where
  ok : Ok s'
  len : s'.tk.length ≤ s.tk.length
  er : s'.er = 0 → s.er = 0
  one : (s.er ≠ 0 → s.tk.length = 1) → s'.er ≠ 0 → s'.tk.length = 1
structure Lt (s s' : S) : Prop where
  le : Le s s'
  lt : s'.er = 0 → s'.tk.length < s.tk.length
theorem Le.refl {s : S} (h : Ok s) : Le s s := ⟨h, Nat.le_refl _, id, id⟩
theorem Le.trans {a b c : S} (h : Le a b) (g : Le b c) : Le a c := ⟨g.ok, Nat.le_trans g.len h.len, fun e => h.er (g.er e), fun o => g.one (h.one o)⟩
theorem Lt.trans {a b c : S} (h : Lt a b) (g : Le b c) : Lt a c := ⟨h.le.trans g, fun e => Nat.lt_of_le_of_lt g.len (h.lt (g.er e))⟩
theorem Le.lt {a b c : S} (h : Le a b) (g : Lt b c) : Lt a c := ⟨h.trans g.le, fun e => Nat.lt_of_lt_of_le (g.lt e) h.len⟩
theorem tl_ok {s : S} (h : Ok s) (hx : s.hd.tx ≠ ⟨#[]⟩ ∨ s.hd.kd ≠ 0) : Ok s.tl ∧ s.tl.tk.length + 1 = s.tk.length := by
  obtain ⟨l, hl⟩ := h.cons
  obtain ⟨⟨A, p, hA⟩, h2⟩ := h
  have ht : s.tl.tk = l := by unfold S.tl; rw [hl]; rfl
  refine ⟨⟨?_, fun t ht' => h2 t (by rw [hl]; rw [ht] at ht'; exact List.mem_cons_of_mem _ ht')⟩, by rw [ht, hl]; simp⟩
  cases A with
  | nil =>
    exfalso
    rw [hl] at hA
    simp only [List.nil_append, List.cons.injEq] at hA
    rw [hA.1] at hx
    simp at hx
  | cons a A =>
    rw [hl] at hA
    simp only [List.cons_append, List.cons.injEq] at hA
    exact ⟨A, p, by rw [ht, hA.2]⟩
theorem tl_lt {s : S} (h : Ok s) (hx : s.hd.tx ≠ ⟨#[]⟩ ∨ s.hd.kd ≠ 0) : Lt s s.tl := by
  obtain ⟨h1, h2⟩ := tl_ok h hx
  exact ⟨⟨h1, by omega, id, fun o e => by have h3 := o e; have h4 := h1.pos; omega⟩, fun _ => by omega⟩
theorem is_ne {s : S} {x : ByteArray} (h : s.is x = true) (hx : x ≠ ⟨#[]⟩) : s.hd.tx ≠ ⟨#[]⟩ ∨ s.hd.kd ≠ 0 := by
  unfold S.is at h
  exact .inl (by rw [of_decide_eq_true h]; exact hx)
theorem fail_ok {s : S} (h : Ok s) (e : Int) : Ok (s.fail e) := by
  unfold S.fail
  split
  · refine ⟨⟨[], s.hd.at_, rfl⟩, fun t ht => ?_⟩
    simp only [List.mem_singleton] at ht
    subst ht
    exact ⟨by show (0 : Nat) ≤ 8192; omega, h.hd.2⟩
  · exact h
theorem fail_le {s : S} (h : Ok s) {e : Int} (he : e ≠ 0) : Lt s (s.fail e) := by
  refine ⟨⟨fail_ok h e, ?_, ?_, fun o he' => ?_⟩, ?_⟩
  · unfold S.fail; split
    · exact h.pos
    · exact Nat.le_refl _
  · unfold S.fail; split
    · intro h; exact absurd h he
    · exact id
  · unfold S.fail at he' ⊢
    split
    · rfl
    · rename_i h1
      exact o h1
  · unfold S.fail; split
    · intro h; exact absurd h he
    · rename_i h1; intro h; exact absurd h h1
theorem fail_er {s : S} {e : Int} (he : e ≠ 0) : (s.fail e).er ≠ 0 := by
  unfold S.fail; split
  · exact he
  · assumption
theorem want_lt {s : S} (h : Ok s) {x : ByteArray} (hx : x ≠ ⟨#[]⟩) : Lt s (s.want x) := by
  unfold S.want
  split
  · rename_i h1; exact tl_lt h (is_ne h1 hx)
  · exact fail_le h (by decide)
theorem take_le {s : S} (h : Ok s) {x : ByteArray} (hx : x ≠ ⟨#[]⟩) : Le s (s.take x) := by
  unfold S.take
  split
  · rename_i h1; exact (tl_lt h (is_ne h1 hx)).le
  · exact Le.refl h
theorem one_lt {s : S} (h : Ok s) {k : Int} (hk : k ≠ 0) : Lt s (s.one k) := by
  unfold S.one
  split
  · rename_i h1; exact tl_lt h (.inr (by rw [h1]; exact hk))
  · exact fail_le h (by decide)
theorem base_ne {x : ByteArray} {b : Int} (h : baseV x = some b) : x ≠ ⟨#[]⟩ := by
  intro e; subst e; rw [show baseV ⟨#[]⟩ = none by decide] at h; cases h
theorem base_rg {x : ByteArray} {b : Int} (h : baseV x = some b) : 0 ≤ b ∧ b ≤ 4 := by
  unfold baseV at h
  repeat' split at h
  all_goals first | (cases h; done) | (injection h with h; subst h; exact ⟨by decide, by decide⟩)
theorem stars_le : ∀ n k (s : S), Ok s → Le s (starsV n k s).2 := by
  intro n
  induction n with
  | zero =>
    intro k s h
    unfold starsV
    split
    · exact (fail_le h (by decide)).le
    · exact Le.refl h
  | succ n ih =>
    intro k s h
    unfold starsV
    split
    · rename_i h1
      have := tl_lt h (is_ne h1 (by decide))
      exact this.le.trans (ih _ _ this.le.ok)
    · exact Le.refl h
theorem type_lt {s : S} (h : Ok s) : Lt s (typeV s).2 := by
  unfold typeV
  split
  · exact fail_le h (by decide)
  · rename_i b hb
    have h1 := tl_lt h (.inl (base_ne hb))
    have h2 : Lt s (if b = 4 then s.tl.one 1 else s.tl) := by
      split
      · exact h1.trans (one_lt h1.le.ok (by decide)).le
      · exact h1
    have h3 := h2.trans (stars_le 4 0 _ h2.le.ok)
    split
    · rename_i s' hs; rw [hs] at h3; exact h3
    · rename_i k s' hs; rw [hs] at h3; exact h3
theorem named_lt {s : S} (h : Ok s) : Lt s (namedV s).2 := (type_lt h).trans (one_lt (type_lt h).le.ok (by decide)).le
theorem lenS_le {s : S} (h : Ok s) : Le s (lenS s) := by
  unfold lenS
  have h1 : Le s (if badLen (meanV s.hd.tx.data.toList) then s.fail 1 else s) := by
    split
    · exact (fail_le h (by decide)).le
    · exact Le.refl h
  have h2 := h1.trans (one_lt h1.ok (k := 2) (by decide)).le
  exact h2.trans (want_lt h2.ok (by decide)).le
theorem length_le {s : S} (h : Ok s) : Le s (lengthV s).2 := by
  unfold lengthV
  split
  · rename_i h1
    have := tl_lt h (is_ne h1 (by decide))
    exact this.le.trans (lenS_le this.le.ok)
  · exact Le.refl h
theorem deep_le {s : S} (h : Ok s) (d : Nat) : Le s (deepS d s) := by
  unfold deepS
  split
  · exact (fail_le h (by decide)).le
  · exact Le.refl h
theorem str_ne {x : ByteArray} {l : Int} (h : ¬ strV x < l) (hl : 1 ≤ l) : x ≠ ⟨#[]⟩ := by
  intro e; subst e; exact h (by rw [show strV ⟨#[]⟩ = 0 by decide]; omega)
theorem un_ne {x : ByteArray} (h : unOp x = true) : x ≠ ⟨#[]⟩ := by intro e; subst e; exact absurd h (by decide)
theorem str_rg (x : ByteArray) : 0 ≤ strV x ∧ strV x ≤ 10 := by
  unfold strV tabV
  cases h : strTab.find? (fun e => decide (e.1 = x)) with
  | none => exact ⟨by decide, by decide⟩
  | some e =>
    have := List.mem_of_find?_eq_some h
    have hall : ∀ e ∈ strTab, 0 ≤ e.2 ∧ e.2 ≤ 10 := by decide
    exact hall e this
def rank : Qe → Nat
  | .expr _ => 5 | .bin _ _ => 4 | .binL _ _ _ => 1 | .un _ => 3 | .cast _ _ => 7 | .inside _ => 6 | .post _ => 2 | .posL _ _ => 1 | .atom _ => 1 | .use _ _ _ => 1 | .betE _ => 6 | .betL _ _ => 1
def strict : Qe → Bool
  | .binL _ _ _ => false | .posL _ _ => false | .use _ _ _ => false | .betL _ _ => false | _ => true
def lOk : Qe → Prop
  | .bin _ l => 1 ≤ l | .binL _ l _ => 1 ≤ l | _ => True
def En (q : Qe) (s : S) (f : Nat) : Prop := Ok s ∧ 8 * s.tk.length + rank q ≤ f ∧ lOk q
theorem runE_le : ∀ f q s, En q s f → Le s (runE f q s).2 ∧ (strict q = true → Lt s (runE f q s).2) := by
  intro f
  induction f with
  | zero => intro q s ⟨h, h1, _⟩; cases q <;> (simp only [rank] at h1; omega)
  | succ f ih =>
    intro q s ⟨h, h1, hl⟩
    have hp := h.pos
    cases q with
    | expr d =>
      simp only [rank] at h1
      have ha := (ih (.bin d 1) s ⟨h, by simp only [rank]; omega, Int.le_refl _⟩).2 rfl
      simp only [runE]
      split
      · rename_i h2
        have ht := tl_lt ha.le.ok (is_ne h2 (by decide))
        have hz := (tl_ok ha.le.ok (is_ne h2 (by decide))).2
        have hb := (ih (.expr (d + 1)) _ ⟨ht.le.ok, by simp only [rank]; have := ha.le.len; omega, trivial⟩).1
        have := (ha.trans ht.le).trans hb
        exact ⟨this.le, fun _ => this⟩
      · exact ⟨ha.le, fun _ => ha⟩
    | bin d l =>
      simp only [rank] at h1
      have ha := (ih (.un (d + 1)) s ⟨h, by simp only [rank]; omega, trivial⟩).2 rfl
      simp only [runE]
      have hb := (ih (.binL d l (hd1 (runE f (.un (d + 1)) s))) _ ⟨ha.le.ok, by simp only [rank]; have := ha.le.len; omega, hl⟩).1
      exact ⟨ha.le.trans hb, fun _ => ha.trans hb⟩
    | binL d l x =>
      simp only [rank] at h1
      simp only [lOk] at hl
      simp only [runE]
      split
      · exact ⟨Le.refl h, fun h => by cases h⟩
      · rename_i h2
        have hne := Or.inl (b := s.hd.kd ≠ 0) (str_ne h2 hl)
        have ht := tl_lt h hne
        have hz := (tl_ok h hne).2
        have hsr := str_rg s.hd.tx
        have ha := (ih (.bin d (strV s.hd.tx + 1)) _ ⟨ht.le.ok, by simp only [rank]; omega, by simp only [lOk]; omega⟩).1
        have hb := (ih (.binL d l (.mk 4 s.hd.tx eB 0 [x, hd1 (runE f (.bin d (strV s.hd.tx + 1)) s.tl)] ty0 x.at_)) _ ⟨ha.ok, by simp only [rank]; have := ha.len; omega, hl⟩).1
        exact ⟨ht.le.trans (ha.trans hb), fun h => by cases h⟩
    | un d =>
      simp only [rank] at h1
      have hd := deep_le h d
      simp only [runE]
      generalize deepS d s = s at *
      have h := hd.ok
      have hlen := hd.len
      split
      · rename_i h2
        have hne := Or.inl (b := s.hd.kd ≠ 0) (un_ne h2)
        have ht := tl_lt h hne
        have hz := (tl_ok h hne).2
        have ha := (ih (.un (d + 1)) _ ⟨ht.le.ok, by simp only [rank]; omega, trivial⟩).1
        have := hd.lt (ht.trans ha)
        exact ⟨this.le, fun _ => this⟩
      · split
        · rename_i _ h2
          have ht := tl_lt h (.inl (by rw [h2]; decide))
          have h3 := ht.trans (want_lt ht.le.ok (x := ⟨#[40]⟩) (by decide)).le
          have h4 := h3.trans (type_lt h3.le.ok).le
          have h5 := hd.lt (h4.trans (want_lt h4.le.ok (x := ⟨#[41]⟩) (by decide)).le)
          exact ⟨h5.le, fun _ => h5⟩
        · split
          · rename_i _ _ h2
            have hne := Or.inl (a := s.hd.tx ≠ ⟨#[]⟩) (b := s.hd.kd ≠ 0) (by rw [h2.1]; decide)
            have ht := tl_lt h hne
            have hz := (tl_ok h hne).2
            have ha := (ih (.cast s.hd.at_ d) _ ⟨ht.le.ok, by simp only [rank]; omega, trivial⟩).1
            have := hd.lt (ht.trans ha)
            exact ⟨this.le, fun _ => this⟩
          · have ha := (ih (.post d) s ⟨h, by simp only [rank]; omega, trivial⟩).2 rfl
            have := hd.lt ha
            exact ⟨this.le, fun _ => this⟩
    | cast a d =>
      simp only [rank] at h1
      simp only [runE]
      have h2 := (type_lt h).trans (want_lt (type_lt h).le.ok (x := ⟨#[41]⟩) (by decide)).le
      have hlen := h2.le.len
      split
      · rename_i h3
        have ht := tl_lt h2.le.ok (is_ne h3 (by decide))
        have hz := (tl_ok h2.le.ok (is_ne h3 (by decide))).2
        have hw := want_lt ht.le.ok (x := ⟨#[40]⟩) (by decide)
        have ha := (ih (.inside d) _ ⟨hw.le.ok, by simp only [rank]; have := hw.le.len; omega, trivial⟩).1
        have := (h2.trans ht.le).trans (hw.le.trans ha)
        exact ⟨this.le, fun _ => this⟩
      · have ha := (ih (.un (d + 1)) _ ⟨h2.le.ok, by simp only [rank]; omega, trivial⟩).1
        have := h2.trans ha
        exact ⟨this.le, fun _ => this⟩
    | inside d =>
      simp only [rank] at h1
      simp only [runE]
      have ha := (ih (.expr (d + 1)) s ⟨h, by simp only [rank]; omega, trivial⟩).2 rfl
      have := ha.trans (want_lt ha.le.ok (x := ⟨#[41]⟩) (by decide)).le
      exact ⟨this.le, fun _ => this⟩
    | post d =>
      simp only [rank] at h1
      simp only [runE]
      have ha := (ih (.atom d) s ⟨h, by simp only [rank]; omega, trivial⟩).2 rfl
      have hb := (ih (.posL d (hd1 (runE f (.atom d) s))) _ ⟨ha.le.ok, by simp only [rank]; have := ha.le.len; omega, trivial⟩).1
      exact ⟨ha.le.trans hb, fun _ => ha.trans hb⟩
    | posL d x =>
      simp only [rank] at h1
      simp only [runE]
      split
      · rename_i h2
        have ht := tl_lt h (is_ne h2 (by decide))
        have hz := (tl_ok h (is_ne h2 (by decide))).2
        have ha := (ih (.expr (d + 1)) _ ⟨ht.le.ok, by simp only [rank]; omega, trivial⟩).1
        have hw := (want_lt ha.ok (x := ⟨#[93]⟩) (by decide)).le
        have hb := (ih (.posL d (.mk 7 eB eB 0 [x, hd1 (runE f (.expr (d + 1)) s.tl)] ty0 x.at_)) _ ⟨hw.ok, by simp only [rank]; have := ha.len; have := hw.len; omega, trivial⟩).1
        exact ⟨ht.le.trans (ha.trans (hw.trans hb)), fun h => by cases h⟩
      · split
        · rename_i _ h2
          have ht := tl_lt h (is_ne h2 (by decide))
          have hz := (tl_ok h (is_ne h2 (by decide))).2
          have ho := (one_lt ht.le.ok (k := 1) (by decide)).le
          have hb := (ih (.posL d (.mk 8 eB (s.tl.oneT 1) 0 [x] ty0 x.at_)) _ ⟨ho.ok, by simp only [rank]; have := ho.len; omega, trivial⟩).1
          exact ⟨ht.le.trans (ho.trans hb), fun h => by cases h⟩
        · split
          · rename_i _ _ h2
            have ht := tl_lt h (is_ne h2 (by decide))
            have hz := (tl_ok h (is_ne h2 (by decide))).2
            have ho := (one_lt ht.le.ok (k := 1) (by decide)).le
            have hb := (ih (.posL d (.mk 8 eB (s.tl.oneT 1) 0 [.mk 3 ⟨#[42]⟩ eB 0 [x] ty0 x.at_] ty0 x.at_)) _ ⟨ho.ok, by simp only [rank]; have := ho.len; omega, trivial⟩).1
            exact ⟨ht.le.trans (ho.trans hb), fun h => by cases h⟩
          · exact ⟨Le.refl h, fun h => by cases h⟩
    | atom d =>
      simp only [rank] at h1
      simp only [runE]
      split
      · rename_i h2
        have ht := tl_lt h (.inr (by rw [h2]; decide))
        exact ⟨ht.le, fun _ => ht⟩
      · split
        · rename_i _ h2
          have hne := Or.inr (a := s.hd.tx ≠ ⟨#[]⟩) (b := s.hd.kd ≠ 0) (by rw [h2]; decide)
          have ht := tl_lt h hne
          have hz := (tl_ok h hne).2
          have ha := (ih (.use s.hd.tx s.hd.at_ d) _ ⟨ht.le.ok, by simp only [rank]; omega, trivial⟩).1
          exact ⟨ht.le.trans ha, fun _ => ht.trans ha⟩
        · split
          · rename_i _ _ h2
            have ht := tl_lt h (is_ne h2 (by decide))
            have hz := (tl_ok h (is_ne h2 (by decide))).2
            have ha := (ih (.inside d) _ ⟨ht.le.ok, by simp only [rank]; omega, trivial⟩).1
            exact ⟨ht.le.trans ha, fun _ => ht.trans ha⟩
          · have := fail_le h (e := 11) (by decide)
            exact ⟨this.le, fun _ => this⟩
    | use nm a d =>
      simp only [rank] at h1
      simp only [runE]
      split
      · rename_i h2
        have ht := tl_lt h (is_ne h2 (by decide))
        have hz := (tl_ok h (is_ne h2 (by decide))).2
        have ha := (ih (.betE (d + 1)) _ ⟨ht.le.ok, by simp only [rank]; omega, trivial⟩).1
        exact ⟨ht.le.trans ha, fun h => by cases h⟩
      · exact ⟨Le.refl h, fun h => by cases h⟩
    | betE d =>
      simp only [rank] at h1
      simp only [runE]
      split
      · rename_i h2
        have ht := tl_lt h (is_ne h2 (by decide))
        exact ⟨ht.le, fun _ => ht⟩
      · have ha := (ih (.expr d) s ⟨h, by simp only [rank]; omega, trivial⟩).2 rfl
        have hb := (ih (.betL d [hd1 (runE f (.expr d) s)]) _ ⟨ha.le.ok, by simp only [rank]; have := ha.le.len; omega, trivial⟩).1
        exact ⟨ha.le.trans hb, fun _ => ha.trans hb⟩
    | betL d l =>
      simp only [rank] at h1
      simp only [runE]
      split
      · rename_i h2
        have ht := tl_lt h (is_ne h2 (by decide))
        have hz := (tl_ok h (is_ne h2 (by decide))).2
        split
        · exact ⟨ht.le.trans (fail_le ht.le.ok (by decide)).le, fun h => by cases h⟩
        · have ha := (ih (.expr d) _ ⟨ht.le.ok, by simp only [rank]; omega, trivial⟩).1
          have hb := (ih (.betL d (l ++ [hd1 (runE f (.expr d) s.tl)])) _ ⟨ha.ok, by simp only [rank]; have := ha.len; omega, trivial⟩).1
          exact ⟨ht.le.trans (ha.trans hb), fun h => by cases h⟩
      · exact ⟨(want_lt h (by decide)).le, fun h => by cases h⟩
theorem cond_lt {f d : Nat} {s : S} (h : Ok s) (h1 : 8 * s.tk.length + 5 ≤ f) : Lt s (condV f d s).2 := by
  unfold condV
  have h2 := want_lt h (x := ⟨#[40]⟩) (by decide)
  have ha := (runE_le f (.expr (d + 1)) _ ⟨h2.le.ok, by simp only [rank]; have := h2.le.len; omega, trivial⟩).1
  have := h2.trans ha
  exact this.trans (want_lt this.le.ok (by decide)).le
theorem maybe_lt {f d : Nat} {s : S} (h : Ok s) (h1 : 8 * s.tk.length + 5 ≤ f) : Lt s (maybeV f d s).2 := by
  unfold maybeV
  split
  · rename_i h2
    exact tl_lt h (is_ne h2 (by decide))
  · have ha := (runE_le f (.expr (d + 1)) _ ⟨h, by simp only [rank]; omega, trivial⟩).2 rfl
    exact ha.trans (want_lt ha.le.ok (by decide)).le
theorem local_lt {f d : Nat} {s : S} (h : Ok s) (h1 : 8 * s.tk.length ≤ f) : Lt s (localV f d s).2 := by
  unfold localV
  have h2 := (named_lt h).trans (length_le (named_lt h).le.ok)
  have hlen := h2.le.len
  simp only
  split
  · rename_i h3
    have ht := tl_lt h2.le.ok (is_ne h3 (by decide))
    have hz := (tl_ok h2.le.ok (is_ne h3 (by decide))).2
    have ha := (runE_le f (.expr (d + 1)) _ ⟨ht.le.ok, by simp only [rank]; omega, trivial⟩).1
    have := (h2.trans ht.le).trans ha
    exact this.trans (want_lt this.le.ok (by decide)).le
  · exact h2.trans (want_lt h2.le.ok (by decide)).le
def rankS : Qs → Nat
  | .stmt _ => 7 | .block _ => 1 | .untS _ _ => 8
def EnS (q : Qs) (s : S) (f : Nat) : Prop := Ok s ∧ match q with
  | .untS _ _ => s.er ≠ 0 ∨ 8 * s.tk.length + 8 ≤ f
  | q => 8 * s.tk.length + rankS q ≤ f
theorem runS_le : ∀ f q s, EnS q s f → Le s (runS f q s).2 ∧ ((match q with | .untS _ _ => False | _ => True) → Lt s (runS f q s).2) := by
  intro f
  induction f with
  | zero =>
    intro q s ⟨h, h1⟩
    have hp := h.pos
    cases q with
    | stmt d => simp only [rankS] at h1; omega
    | block d => simp only [rankS] at h1; omega
    | untS d l => simp only [runS]; exact ⟨Le.refl h, fun h => h.elim⟩
  | succ f ih =>
    intro q s ⟨h, h1⟩
    have hp := h.pos
    cases q with
    | stmt d =>
      simp only [rankS] at h1
      have hd := deep_le h d
      simp only [runS]
      generalize deepS d s = s at *
      have h := hd.ok
      have hlen := hd.len
      split
      · have := hd.lt (local_lt (f := f) (d := d) h (by omega)); exact ⟨this.le, fun _ => this⟩
      split
      · have := hd.lt ((ih (.block d) s ⟨h, by simp only [rankS]; omega⟩).2 trivial); exact ⟨this.le, fun _ => this⟩
      split
      · rename_i h2
        have ht := tl_lt h (is_ne h2 (by decide))
        have hz := (tl_ok h (is_ne h2 (by decide))).2
        have hc := cond_lt (f := f) (d := d) ht.le.ok (by omega)
        have ha := (ih (.stmt (d + 1)) _ ⟨hc.le.ok, by simp only [rankS]; have := hc.le.len; omega⟩).1
        have hl2 := hc.le.len
        split
        · rename_i h3
          have ht2 := tl_lt ha.ok (is_ne h3 (by decide))
          have hz2 := (tl_ok ha.ok (is_ne h3 (by decide))).2
          have hb := (ih (.stmt (d + 1)) _ ⟨ht2.le.ok, by simp only [rankS]; have := ha.len; omega⟩).1
          have := hd.lt (ht.trans (hc.le.trans (ha.trans (ht2.le.trans hb))))
          exact ⟨this.le, fun _ => this⟩
        · have := hd.lt (ht.trans (hc.le.trans ha))
          exact ⟨this.le, fun _ => this⟩
      split
      · rename_i h2
        have ht := tl_lt h (is_ne h2 (by decide))
        have hz := (tl_ok h (is_ne h2 (by decide))).2
        have hc := cond_lt (f := f) (d := d) ht.le.ok (by omega)
        have ha := (ih (.stmt (d + 1)) _ ⟨hc.le.ok, by simp only [rankS]; have := hc.le.len; omega⟩).1
        have := hd.lt (ht.trans (hc.le.trans ha))
        exact ⟨this.le, fun _ => this⟩
      split
      · rename_i h2
        have ht := tl_lt h (is_ne h2 (by decide))
        have hz := (tl_ok h (is_ne h2 (by decide))).2
        have := hd.lt (ht.trans (maybe_lt (f := f) (d := d) ht.le.ok (by omega)).le)
        exact ⟨this.le, fun _ => this⟩
      split
      · rename_i h2
        have ht := tl_lt h (is_ne h2 (by decide))
        have := hd.lt (ht.trans (want_lt ht.le.ok (x := ⟨#[59]⟩) (by decide)).le)
        exact ⟨this.le, fun _ => this⟩
      split
      · rename_i h2
        have ht := tl_lt h (is_ne h2 (by decide))
        have := hd.lt (ht.trans (want_lt ht.le.ok (x := ⟨#[59]⟩) (by decide)).le)
        exact ⟨this.le, fun _ => this⟩
      · have := hd.lt (maybe_lt (f := f) (d := d) h (by omega)); exact ⟨this.le, fun _ => this⟩
    | block d =>
      simp only [rankS] at h1
      simp only [runS]
      have hw := want_lt h (x := ⟨#[123]⟩) (by decide)
      have ha := (ih (.untS (d + 1) []) _ ⟨hw.le.ok, by
        by_cases he : (s.want ⟨#[123]⟩).er = 0
        · exact .inr (by have := hw.lt he; omega)
        · exact .inl he⟩).1
      exact ⟨hw.le.trans ha, fun _ => hw.trans ha⟩
    | untS d l =>
      simp only [runS]
      simp only at h1
      split
      · exact ⟨Le.refl h, fun h => h.elim⟩
      · rename_i h2
        have h1 : 8 * s.tk.length + 8 ≤ f + 1 := by rcases h1 with h1 | h1; exact absurd h1 h2; exact h1
        split
        · rename_i h3; exact ⟨(tl_lt h (is_ne h3 (by decide))).le, fun h => h.elim⟩
        · have ha := (ih (.stmt d) s ⟨h, by simp only [rankS]; omega⟩).2 trivial
          have hb := (ih (.untS d (l ++ [hdS (runS f (.stmt d) s)])) _ ⟨ha.le.ok, by
            by_cases he : (runS f (.stmt d) s).2.er = 0
            · exact .inr (by have := ha.lt he; omega)
            · exact .inl he⟩).1
          exact ⟨ha.le.trans hb, fun h => h.elim⟩
end Pa
end Go.Proofs.Ytlobphanodhcoaa
