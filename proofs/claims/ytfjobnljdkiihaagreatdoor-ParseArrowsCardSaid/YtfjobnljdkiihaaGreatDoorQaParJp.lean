/- Two texts one behind the other: their program; pure. Conditions: each theorem's. -/
import Derived.Test.YtfjobnljdkiihaaGreatDoorQaTreeN
namespace Go.Proofs.YtfjobnljdkiihaaGreatDoor
open Go.RowKit Go.Maps
set_option linter.unusedVariables false
set_option linter.unusedSimpArgs false
set_option maxRecDepth 100000
open Lx Pa
namespace Pa
/-- Two readers whose tokens are the same but for places, up to where the first one's end. -/
structure J (R : List Tk) (s t : S) : Prop where
  e1 : s.er = 0
  e2 : t.er = 0
  ex : ∃ A B p, s.tk = A ++ [⟨0, ⟨#[]⟩, p⟩] ∧ t.tk = B ++ R ∧ B.map pr = A.map pr ∧ ∀ x ∈ A, x.kd ≠ 0
def Gd (s : S) : Prop := s.er = 0 ∧ 2 ≤ s.tk.length
theorem Le.back {a b : S} (h : Le a b) (g : Gd b) : Gd a := ⟨h.er g.1, Nat.le_trans g.2 h.len⟩
theorem Lt.back {a b : S} (h : Lt a b) (g : b.er = 0) : Gd a := ⟨h.le.er g, by have := h.lt g; have := h.le.ok.pos; omega⟩
theorem Lt.back3 {a b : S} (h : Lt a b) (g : Gd b) : 3 ≤ a.tk.length := by have := h.lt g.1; have := g.2; omega
theorem tx_eq {a b : ByteArray} (h : a.data.toList = b.data.toList) : a = b := by
  obtain ⟨⟨a⟩⟩ := a
  obtain ⟨⟨b⟩⟩ := b
  dsimp only at h
  rw [h]
theorem pr_eq {a b : Tk} (h : pr b = pr a) : b.kd = a.kd ∧ b.tx = a.tx := by
  unfold pr at h
  injection h with h1 h2
  exact ⟨h1, tx_eq h2⟩
section
variable {R : List Tk} {s t : S}
theorem J.cons (h : J R s t) (h2 : 2 ≤ s.tk.length) : ∃ a b, s.hd = a ∧ t.hd = b ∧ b.kd = a.kd ∧ b.tx = a.tx ∧ a.kd ≠ 0 ∧ J R s.tl t.tl := by
  obtain ⟨e1, e2, A, B, p, hA, hB, hm, hk⟩ := h
  cases A with
  | nil => rw [hA] at h2; simp at h2
  | cons a A =>
    cases B with
    | nil => simp at hm
    | cons b B =>
      simp only [List.map_cons, List.cons.injEq] at hm
      obtain ⟨k1, k2⟩ := pr_eq hm.1
      refine ⟨a, b, by unfold S.hd; rw [hA]; rfl, by unfold S.hd; rw [hB]; rfl, k1, k2, hk a (by simp), e1, e2, A, B, p, by unfold S.tl; rw [hA]; rfl, by unfold S.tl; rw [hB]; rfl, hm.2, fun x hx => hk x (List.mem_cons_of_mem _ hx)⟩
theorem J.hd (h : J R s t) (h2 : 2 ≤ s.tk.length) : t.hd.kd = s.hd.kd ∧ t.hd.tx = s.hd.tx ∧ s.hd.kd ≠ 0 := by
  obtain ⟨a, b, rfl, rfl, h3, h4, h5, _⟩ := h.cons h2; exact ⟨h3, h4, h5⟩
theorem J.tl (h : J R s t) (h2 : 2 ≤ s.tk.length) : J R s.tl t.tl := by
  obtain ⟨a, b, _, _, _, _, _, h3⟩ := h.cons h2; exact h3
theorem J.is (h : J R s t) (h2 : 2 ≤ s.tk.length) (x : ByteArray) : t.is x = s.is x := by unfold S.is; rw [(h.hd h2).2.1]
theorem J.two (h : J R s t) (hx : s.hd.tx ≠ ⟨#[]⟩ ∨ s.hd.kd ≠ 0) : 2 ≤ s.tk.length := by
  obtain ⟨e1, e2, A, B, p, hA, hB, hm, hk⟩ := h
  cases A with
  | nil => exfalso; unfold S.hd at hx; rw [hA] at hx; simp at hx
  | cons a A => rw [hA]; simp
theorem J.ahead (h : J R s t) (n : Nat) (h2 : n + 2 ≤ s.tk.length) : (t.ahead n).tx = (s.ahead n).tx := by
  obtain ⟨e1, e2, A, B, p, hA, hB, hm, hk⟩ := h
  have hl := congrArg List.length hm
  simp at hl
  rw [hA] at h2
  simp at h2
  have h3 : pr (B[n]'(by omega)) = pr (A[n]'(by omega)) := by
    have h4 : (B.map pr)[n]? = (A.map pr)[n]? := by rw [hm]
    rw [List.getElem?_map, List.getElem?_map, List.getElem?_eq_getElem (by omega), List.getElem?_eq_getElem (by omega)] at h4
    simpa using h4
  unfold S.ahead
  rw [hA, hB, Nat.min_eq_left (by simp; omega), Nat.min_eq_left (by simp; omega), List.getD_eq_getElem?_getD, List.getD_eq_getElem?_getD, List.getElem?_append_left (by omega), List.getElem?_append_left (by omega), List.getElem?_eq_getElem (by omega), List.getElem?_eq_getElem (by omega)]
  exact (pr_eq h3).2
theorem J.want (h : J R s t) {x : ByteArray} (hx : x ≠ ⟨#[]⟩) (he : (s.want x).er = 0) : J R (s.want x) (t.want x) := by
  unfold S.want at he ⊢
  by_cases hi : s.is x = true
  · have h2 := h.two (is_ne hi hx)
    rw [if_pos hi, if_pos (by rw [h.is h2]; exact hi)]
    exact h.tl h2
  · rw [if_neg hi] at he
    exact absurd he (fail_er (by decide))
theorem J.one (h : J R s t) {k : Int} (hk : k ≠ 0) (he : (s.one k).er = 0) : J R (s.one k) (t.one k) ∧ t.oneT k = s.oneT k := by
  unfold S.one at he ⊢
  unfold S.oneT
  by_cases hi : s.hd.kd = k
  · have h2 := h.two (.inr (by rw [hi]; exact hk))
    have h3 := h.hd h2
    rw [if_pos hi, if_pos (by rw [h3.1]; exact hi), if_pos hi, if_pos (by rw [h3.1]; exact hi)]
    exact ⟨h.tl h2, h3.2.1⟩
  · rw [if_neg hi] at he
    exact absurd he (fail_er (by decide))
theorem stars_j : ∀ n k (s t : S), Ok s → J R s t → Gd (starsV n k s).2 → (starsV n k t).1 = (starsV n k s).1 ∧ J R (starsV n k s).2 (starsV n k t).2 := by
  intro n
  induction n with
  | zero =>
    intro k s t h hj g
    have h2 := ((stars_le 0 k s h).back g).2
    unfold starsV at g ⊢
    rw [hj.is h2]
    split
    · rename_i h1; rw [if_pos h1] at g; exact absurd g.1 (fail_er (by decide))
    · exact ⟨rfl, hj⟩
  | succ n ih =>
    intro k s t h hj g
    have h2 := ((stars_le (n + 1) k s h).back g).2
    unfold starsV at g ⊢
    rw [hj.is h2]
    split
    · rename_i h1
      rw [if_pos h1] at g
      exact ih _ _ _ (tl_lt h (is_ne h1 (by decide))).le.ok (hj.tl h2) g
    · exact ⟨rfl, hj⟩
theorem typeV_eq {s : S} {b : Int} (hb : baseV s.hd.tx = some b) : (typeV s).2 = (starsV 4 0 (if b = 4 then s.tl.one 1 else s.tl)).2 ∧ (typeV s).1 = match (starsV 4 0 (if b = 4 then s.tl.one 1 else s.tl)).1 with | none => ty0 | some k => ⟨b, k, if b = 4 then s.tl.oneT 1 else ⟨#[]⟩⟩ := by
  unfold typeV
  rw [hb]
  dsimp only
  generalize starsV 4 0 (if b = 4 then s.tl.one 1 else s.tl) = q
  obtain ⟨a, q⟩ := q
  cases a <;> exact ⟨rfl, rfl⟩
theorem type_j (h : Ok s) (hj : J R s t) (g : Gd (typeV s).2) : (typeV t).1 = (typeV s).1 ∧ J R (typeV s).2 (typeV t).2 := by
  have h2 := ((type_lt h).le.back g).2
  have hh := hj.hd h2
  cases hb : baseV s.hd.tx with
  | none =>
    unfold typeV at g
    rw [hb] at g
    exact absurd g.1 (fail_er (by decide))
  | some b =>
    obtain ⟨a1, a2⟩ := typeV_eq hb
    obtain ⟨b1, b2⟩ := typeV_eq (s := t) (by rw [hh.2.1]; exact hb)
    rw [a1] at g ⊢
    rw [a2, b1, b2]
    have h1 := tl_lt h (.inl (base_ne hb))
    have hjt := hj.tl h2
    have hso : Ok (if b = 4 then s.tl.one 1 else s.tl) := by
      split
      · exact (one_lt h1.le.ok (by decide)).le.ok
      · exact h1.le.ok
    have g3 := (stars_le 4 0 _ hso).back g
    have hj2 : J R (if b = 4 then s.tl.one 1 else s.tl) (if b = 4 then t.tl.one 1 else t.tl) ∧ (b = 4 → t.tl.oneT 1 = s.tl.oneT 1) := by
      by_cases e : b = 4
      · rw [if_pos e] at g3
        rw [if_pos e, if_pos e]
        have := hjt.one (k := 1) (by decide) g3.1
        exact ⟨this.1, fun _ => this.2⟩
      · rw [if_neg e, if_neg e]; exact ⟨hjt, fun h => absurd h e⟩
    obtain ⟨h5, h6⟩ := stars_j 4 0 _ _ hso hj2.1 g
    have h4 : (if b = 4 then t.tl.oneT 1 else ⟨#[]⟩) = (if b = 4 then s.tl.oneT 1 else ⟨#[]⟩) := by
      split
      · rename_i e; exact hj2.2 e
      · rfl
    rw [h5, h4]
    exact ⟨rfl, h6⟩
theorem named_j (h : Ok s) (hj : J R s t) (he : (namedV s).2.er = 0) : EqVa false (namedV s).1 (namedV t).1 ∧ J R (namedV s).2 (namedV t).2 := by
  unfold namedV at he ⊢
  have h1 := type_lt h
  have h2 := one_lt h1.le.ok (k := 1) (by decide)
  obtain ⟨h3, h4⟩ := type_j h hj (h2.back he)
  obtain ⟨h5, h6⟩ := h4.one (k := 1) (by decide) he
  exact ⟨⟨h6.symm, h3.symm, rfl, fun h => by cases h⟩, h5⟩
theorem lenS_j (h : Ok s) (hj : J R s t) (he : (lenS s).er = 0) : J R (lenS s) (lenS t) ∧ t.hd.tx = s.hd.tx := by
  unfold lenS at he ⊢
  by_cases hb : badLen (meanV s.hd.tx.data.toList) = true
  · exfalso
    rw [if_pos hb] at he
    have h1 := (fail_le h (e := 1) (by decide)).le
    have h2 := h1.trans (one_lt h1.ok (k := 2) (by decide)).le
    have h3 := h2.trans (want_lt h2.ok (x := ⟨#[93]⟩) (by decide)).le
    have h4 := (one_lt h1.ok (k := 2) (by decide)).le.trans (want_lt h2.ok (x := ⟨#[93]⟩) (by decide)).le
    exact absurd (h4.er he) (fail_er (by decide))
  · rw [if_neg hb] at he ⊢
    have h1 := one_lt h (k := 2) (by decide)
    have h2 := want_lt h1.le.ok (x := ⟨#[93]⟩) (by decide)
    have g := h1.back (h2.le.er he)
    have hh := hj.hd g.2
    rw [hh.2.1, if_neg hb]
    exact ⟨(hj.one (k := 2) (by decide) (h2.le.er he)).1.want (by decide) he, rfl⟩
theorem length_j (h : Ok s) (hj : J R s t) (h2 : 2 ≤ s.tk.length) (he : (lengthV s).2.er = 0) : (lengthV t).1 = (lengthV s).1 ∧ J R (lengthV s).2 (lengthV t).2 := by
  unfold lengthV at he ⊢
  rw [hj.is h2]
  split
  · rename_i h1
    rw [if_pos h1] at he
    obtain ⟨h3, h4⟩ := lenS_j (tl_lt h (is_ne h1 (by decide))).le.ok (hj.tl h2) he
    rw [h4]
    exact ⟨rfl, h3⟩
  · exact ⟨rfl, hj⟩
end
theorem EqEs.one {x y : PEx} (h : EqE false x y) : EqEs false [x] [y] := ⟨rfl, fun i hi => by
  have : i = 0 := by simp at hi; omega
  subst this; exact h⟩
theorem EqEs.nil : EqEs false [] [] := ⟨rfl, fun i hi => by simp at hi⟩
theorem EqEs.two {x y u v : PEx} (h : EqE false x y) (g : EqE false u v) : EqEs false [x, u] [y, v] := ⟨rfl, fun i hi => by
  have : i = 0 ∨ i = 1 := by simp at hi; omega
  rcases this with rfl | rfl
  · exact h
  · exact g⟩
theorem EqEs.snoc {l m : List PEx} {x y : PEx} (h : EqEs false l m) (g : EqE false x y) : EqEs false (l ++ [x]) (m ++ [y]) := by
  refine ⟨by simp [h.1], fun i hi => ?_⟩
  simp only [List.getD_eq_getElem?_getD]
  by_cases e : i < l.length
  · rw [List.getElem?_append_left e, List.getElem?_append_left (by rw [← h.1]; exact e)]
    have := h.2 i e
    simpa only [List.getD_eq_getElem?_getD] using this
  · have e2 : i = l.length := by simp at hi; omega
    subst e2
    rw [List.getElem?_append_right (Nat.le_refl _), List.getElem?_append_right (by rw [h.1]; exact Nat.le_refl _), h.1]
    simpa using g
theorem ex0_eq : EqE false ex0 ex0 := eqE_iff.2 ⟨rfl, rfl, rfl, rfl, rfl, (fun h => by cases h), EqEs.nil⟩
theorem EqEs.hd {a b : List PEx × S} (h : EqEs false a.1 b.1) : EqE false (hd1 a) (hd1 b) := by
  obtain ⟨l, s⟩ := a
  obtain ⟨m, t⟩ := b
  obtain ⟨h1, h2⟩ := h
  unfold hd1
  cases l with
  | nil =>
    cases m with
    | nil => exact ex0_eq
    | cons y m => simp at h1
  | cons x l =>
    cases m with
    | nil => simp at h1
    | cons y m => exact h2 0 (by simp)
theorem exM {k : Int} {o n : ByteArray} {m : Int} {xs ys : List PEx} {ty : PTy} {a b : Nat} (h : EqEs false xs ys) : EqE false (.mk k o n m xs ty a) (.mk k o n m ys ty b) := eqE_iff.2 ⟨rfl, rfl, rfl, rfl, rfl, (fun h => by cases h), h⟩
/-- The same question, but for places. -/
inductive QE : Qe → Qe → Prop
  | expr (d : Nat) : QE (.expr d) (.expr d)
  | bin (d : Nat) (l : Int) : QE (.bin d l) (.bin d l)
  | binL (d : Nat) (l : Int) {x y : PEx} (h : EqE false x y) : QE (.binL d l x) (.binL d l y)
  | un (d : Nat) : QE (.un d) (.un d)
  | cast (a b d : Nat) : QE (.cast a d) (.cast b d)
  | inside (d : Nat) : QE (.inside d) (.inside d)
  | post (d : Nat) : QE (.post d) (.post d)
  | posL (d : Nat) {x y : PEx} (h : EqE false x y) : QE (.posL d x) (.posL d y)
  | atom (d : Nat) : QE (.atom d) (.atom d)
  | use (nm : ByteArray) (a b d : Nat) : QE (.use nm a d) (.use nm b d)
  | betE (d : Nat) : QE (.betE d) (.betE d)
  | betL (d : Nat) {l m : List PEx} (h : EqEs false l m) : QE (.betL d l) (.betL d m)
theorem deep_same (d : Nat) (s : S) : deepS d (deepS d s) = deepS d s := by
  unfold deepS
  by_cases h : 40 < d
  · rw [if_pos h, if_pos h]
    have he : (s.fail 12).er ≠ 0 := fail_er (by decide)
    generalize s.fail 12 = q at *
    unfold S.fail
    rw [if_neg he]
  · rw [if_neg h, if_neg h]
theorem un_deep {f d : Nat} {s : S} (h : En (.un d) s (f + 1)) (he : (runE (f + 1) (.un d) s).2.er = 0) : ¬ 40 < d ∧ deepS d s = s := by
  have hd := deep_le h.1 d
  have e : runE (f + 1) (.un d) (deepS d s) = runE (f + 1) (.un d) s := by simp only [runE, deep_same]
  have h2 := (runE_le (f + 1) (.un d) (deepS d s) ⟨hd.ok, Nat.le_trans (by have := hd.len; omega) h.2.1, trivial⟩).1
  rw [e] at h2
  have h3 := h2.er he
  have h4 : ¬ 40 < d := fun h5 => by
    unfold deepS at h3
    rw [if_pos h5] at h3
    exact fail_er (by decide) h3
  exact ⟨h4, by unfold deepS; rw [if_neg h4]⟩
theorem runE_j (R : List Tk) : ∀ f q s, En q s f → ∀ q' t f', f ≤ f' → QE q q' → J R s t → Gd (runE f q s).2 → EqEs false (runE f q s).1 (runE f' q' t).1 ∧ J R (runE f q s).2 (runE f' q' t).2 := by
  intro f
  induction f with
  | zero => intro q s ⟨h, h1, _⟩; have hp := h.pos; cases q <;> (simp only [rank] at h1; omega)
  | succ f ih =>
    intro q s hen q' t f' hf hq hj g
    obtain ⟨f', rfl⟩ : ∃ k, f' = k + 1 := ⟨f' - 1, by omega⟩
    have hf : f ≤ f' := by omega
    obtain ⟨h, h1, hl⟩ := hen
    have hLe := (runE_le (f + 1) q s ⟨h, h1, hl⟩)
    have hs2 := (hLe.1.back g).2
    have hp := h.pos
    cases hq with
    | expr d =>
      simp only [rank] at h1
      have hE : En (.bin d 1) s f := ⟨h, by simp only [rank]; omega, Int.le_refl _⟩
      have ha := (runE_le f (.bin d 1) s hE).2 rfl
      simp only [runE] at g ⊢
      by_cases h2 : (runE f (.bin d 1) s).2.is ⟨#[61]⟩ = true
      · rw [if_pos h2] at g ⊢
        have ht := tl_lt ha.le.ok (is_ne h2 (by decide))
        have hz := (tl_ok ha.le.ok (is_ne h2 (by decide))).2
        have hE2 : En (.expr (d + 1)) (runE f (.bin d 1) s).2.tl f := ⟨ht.le.ok, by simp only [rank]; have := ha.le.len; omega, trivial⟩
        have hb := (runE_le f (.expr (d + 1)) _ hE2).1
        have g1 := ht.le.back (hb.back g)
        obtain ⟨k1, k2⟩ := ih _ s hE (.bin d 1) t f' hf (.bin d 1) hj g1
        obtain ⟨k3, k4⟩ := ih _ _ hE2 (.expr (d + 1)) _ f' hf (.expr _) (k2.tl g1.2) g
        rw [if_pos (by rw [k2.is g1.2]; exact h2)]
        exact ⟨.one (exM (.two k1.hd k3.hd)), k4⟩
      · rw [if_neg h2] at g ⊢
        obtain ⟨k1, k2⟩ := ih _ s hE (.bin d 1) t f' hf (.bin d 1) hj g
        rw [if_neg (by rw [k2.is g.2]; exact h2)]
        exact ⟨.one k1.hd, k2⟩
    | bin d l =>
      simp only [rank] at h1
      have hE : En (.un (d + 1)) s f := ⟨h, by simp only [rank]; omega, trivial⟩
      have ha := (runE_le f (.un (d + 1)) s hE).2 rfl
      simp only [runE] at g ⊢
      have hE2 : En (.binL d l (hd1 (runE f (.un (d + 1)) s))) (runE f (.un (d + 1)) s).2 f := ⟨ha.le.ok, by simp only [rank]; have := ha.le.len; omega, hl⟩
      have hb := (runE_le f _ _ hE2).1
      obtain ⟨k1, k2⟩ := ih _ s hE (.un (d + 1)) t f' hf (.un _) hj (hb.back g)
      exact ih _ _ hE2 _ _ f' hf (.binL d l k1.hd) k2 g
    | @binL d l x y hxy =>
      simp only [rank] at h1
      simp only [lOk] at hl
      have hh := hj.hd hs2
      simp only [runE] at g ⊢
      rw [hh.2.1]
      by_cases h2 : strV s.hd.tx < l
      · rw [if_pos h2] at g ⊢
        rw [if_pos h2]
        exact ⟨.one hxy, hj⟩
      · rw [if_neg h2] at g ⊢
        rw [if_neg h2]
        have hne := Or.inl (b := s.hd.kd ≠ 0) (str_ne h2 hl)
        have ht := tl_lt h hne
        have hz := (tl_ok h hne).2
        have hsr := str_rg s.hd.tx
        have hE : En (.bin d (strV s.hd.tx + 1)) s.tl f := ⟨ht.le.ok, by simp only [rank]; omega, by simp only [lOk]; omega⟩
        have ha := (runE_le f _ _ hE).1
        have hE2 : En (.binL d l (.mk 4 s.hd.tx eB 0 [x, hd1 (runE f (.bin d (strV s.hd.tx + 1)) s.tl)] ty0 x.at_)) (runE f (.bin d (strV s.hd.tx + 1)) s.tl).2 f := ⟨ha.ok, by simp only [rank]; have := ha.len; omega, hl⟩
        have hb := (runE_le f _ _ hE2).1
        obtain ⟨k1, k2⟩ := ih _ _ hE _ _ f' hf (.bin d (strV s.hd.tx + 1)) (hj.tl hs2) (hb.back g)
        exact ih _ _ hE2 _ _ f' hf (.binL d l (exM (.two hxy k1.hd))) k2 g
    | un d =>
      have hs3 := (hLe.2 rfl).back3 g
      obtain ⟨hd0, hds⟩ := un_deep ⟨h, h1, hl⟩ g.1
      have hdt : deepS d t = t := by unfold deepS; rw [if_neg hd0]
      have hh := hj.hd hs2
      have hah := hj.ahead 1 (by omega)
      simp only [rank] at h1
      simp only [runE, hds, hdt] at g ⊢
      rw [hh.2.1, hah]
      by_cases h2 : unOp s.hd.tx = true
      · rw [if_pos h2] at g ⊢
        rw [if_pos h2]
        have hne := Or.inl (b := s.hd.kd ≠ 0) (un_ne h2)
        have ht := tl_lt h hne
        have hz := (tl_ok h hne).2
        obtain ⟨k1, k2⟩ := ih (.un (d + 1)) s.tl ⟨ht.le.ok, by simp only [rank]; omega, trivial⟩ _ _ f' hf (.un (d + 1)) (hj.tl hs2) g
        exact ⟨.one (exM (.one k1.hd)), k2⟩
      · rw [if_neg h2] at g ⊢
        rw [if_neg h2]
        by_cases h3 : s.hd.tx = ⟨#[115, 105, 122, 101, 111, 102]⟩
        · rw [if_pos h3] at g ⊢
          rw [if_pos h3]
          have ht := tl_lt h (.inl (by rw [h3]; decide))
          have h4 := want_lt ht.le.ok (x := ⟨#[40]⟩) (by decide)
          have h5 := type_lt h4.le.ok
          have h6 := want_lt h5.le.ok (x := ⟨#[41]⟩) (by decide)
          have g5 := h6.back g.1
          have k1 := (hj.tl hs2).want (x := ⟨#[40]⟩) (by decide) (h5.le.back g5).1
          obtain ⟨k2, k3⟩ := type_j h4.le.ok k1 g5
          rw [k2]
          exact ⟨.one (exM .nil), k3.want (by decide) g.1⟩
        · rw [if_neg h3] at g ⊢
          rw [if_neg h3]
          by_cases h4 : s.hd.tx = ⟨#[40]⟩ ∧ (baseV (s.ahead 1).tx).isSome = true
          · rw [if_pos h4] at g ⊢
            rw [if_pos h4]
            have hne := Or.inl (b := s.hd.kd ≠ 0) (show s.hd.tx ≠ ⟨#[]⟩ by rw [h4.1]; decide)
            have ht := tl_lt h hne
            have hz := (tl_ok h hne).2
            exact ih (.cast s.hd.at_ d) s.tl ⟨ht.le.ok, by simp only [rank]; omega, trivial⟩ _ _ f' hf (.cast _ _ d) (hj.tl hs2) g
          · rw [if_neg h4] at g ⊢
            rw [if_neg h4]
            exact ih (.post d) s ⟨h, by simp only [rank]; omega, trivial⟩ _ _ f' hf (.post d) hj g
    | cast a b d =>
      simp only [rank] at h1
      simp only [runE] at g ⊢
      have hT := type_lt h
      have hW := want_lt hT.le.ok (x := ⟨#[41]⟩) (by decide)
      have h2 := hT.trans hW.le
      have hlen := h2.le.len
      by_cases h3 : ((typeV s).2.want ⟨#[41]⟩).is ⟨#[109, 97, 108, 108, 111, 99]⟩ = true
      · rw [if_pos h3] at g ⊢
        have ht := tl_lt h2.le.ok (is_ne h3 (by decide))
        have hz := (tl_ok h2.le.ok (is_ne h3 (by decide))).2
        have hw := want_lt ht.le.ok (x := ⟨#[40]⟩) (by decide)
        have hE : En (.inside d) (((typeV s).2.want ⟨#[41]⟩).tl.want ⟨#[40]⟩) f := ⟨hw.le.ok, by simp only [rank]; have := hw.le.len; omega, trivial⟩
        have ha := (runE_le f _ _ hE).1
        have g4 := ha.back g
        have g3 := hw.le.back g4
        have g2 := ht.le.back g3
        obtain ⟨k1, k2⟩ := type_j h hj (hW.back g2.1)
        have k3 := k2.want (x := ⟨#[41]⟩) (by decide) g2.1
        rw [if_pos (by rw [k3.is g2.2]; exact h3), k1]
        have k4 := (k3.tl g2.2).want (x := ⟨#[40]⟩) (by decide) g4.1
        obtain ⟨k5, k6⟩ := ih _ _ hE _ _ f' hf (.inside d) k4 g
        exact ⟨.one (exM (.one k5.hd)), k6⟩
      · rw [if_neg h3] at g ⊢
        have hE : En (.un (d + 1)) ((typeV s).2.want ⟨#[41]⟩) f := ⟨h2.le.ok, by simp only [rank]; omega, trivial⟩
        have ha := (runE_le f _ _ hE).1
        have g2 := ha.back g
        obtain ⟨k1, k2⟩ := type_j h hj (hW.back g2.1)
        have k3 := k2.want (x := ⟨#[41]⟩) (by decide) g2.1
        rw [if_neg (by rw [k3.is g2.2]; exact h3), k1]
        obtain ⟨k5, k6⟩ := ih _ _ hE _ _ f' hf (.un (d + 1)) k3 g
        exact ⟨.one (exM (.one k5.hd)), k6⟩
    | inside d =>
      simp only [rank] at h1
      simp only [runE] at g ⊢
      have hE : En (.expr (d + 1)) s f := ⟨h, by simp only [rank]; omega, trivial⟩
      have ha := (runE_le f _ _ hE).1
      have hw := want_lt ha.ok (x := ⟨#[41]⟩) (by decide)
      obtain ⟨k1, k2⟩ := ih _ _ hE _ _ f' hf (.expr (d + 1)) hj (hw.back g.1)
      exact ⟨.one k1.hd, k2.want (by decide) g.1⟩
    | post d =>
      simp only [rank] at h1
      simp only [runE] at g ⊢
      have hE : En (.atom d) s f := ⟨h, by simp only [rank]; omega, trivial⟩
      have ha := (runE_le f _ _ hE).2 rfl
      have hE2 : En (.posL d (hd1 (runE f (.atom d) s))) (runE f (.atom d) s).2 f := ⟨ha.le.ok, by simp only [rank]; have := ha.le.len; omega, trivial⟩
      have hb := (runE_le f _ _ hE2).1
      obtain ⟨k1, k2⟩ := ih _ _ hE _ _ f' hf (.atom d) hj (hb.back g)
      exact ih _ _ hE2 _ _ f' hf (.posL d k1.hd) k2 g
    | @posL d x y hxy =>
      simp only [rank] at h1
      simp only [runE] at g ⊢
      rw [hj.is hs2, hj.is hs2, hj.is hs2]
      by_cases h2 : s.is ⟨#[91]⟩ = true
      · rw [if_pos h2] at g ⊢
        rw [if_pos h2]
        have ht := tl_lt h (is_ne h2 (by decide))
        have hz := (tl_ok h (is_ne h2 (by decide))).2
        have hE : En (.expr (d + 1)) s.tl f := ⟨ht.le.ok, by simp only [rank]; omega, trivial⟩
        have ha := (runE_le f _ _ hE).1
        have hw := want_lt ha.ok (x := ⟨#[93]⟩) (by decide)
        have hE2 : En (.posL d (.mk 7 eB eB 0 [x, hd1 (runE f (.expr (d + 1)) s.tl)] ty0 x.at_)) ((runE f (.expr (d + 1)) s.tl).2.want ⟨#[93]⟩) f := ⟨hw.le.ok, by simp only [rank]; have := ha.len; have := hw.le.len; omega, trivial⟩
        have hb := (runE_le f _ _ hE2).1
        have g2 := hb.back g
        obtain ⟨k1, k2⟩ := ih _ _ hE _ _ f' hf (.expr (d + 1)) (hj.tl hs2) (hw.back g2.1)
        exact ih _ _ hE2 _ _ f' hf (.posL d (exM (.two hxy k1.hd))) (k2.want (by decide) g2.1) g
      · rw [if_neg h2] at g ⊢
        rw [if_neg h2]
        by_cases h3 : s.is ⟨#[46]⟩ = true
        · rw [if_pos h3] at g ⊢
          rw [if_pos h3]
          have ht := tl_lt h (is_ne h3 (by decide))
          have hz := (tl_ok h (is_ne h3 (by decide))).2
          have ho := (one_lt ht.le.ok (k := 1) (by decide)).le
          have hE2 : En (.posL d (.mk 8 eB (s.tl.oneT 1) 0 [x] ty0 x.at_)) (s.tl.one 1) f := ⟨ho.ok, by simp only [rank]; have := ho.len; omega, trivial⟩
          have hb := (runE_le f _ _ hE2).1
          have g2 := hb.back g
          obtain ⟨k1, k2⟩ := (hj.tl hs2).one (k := 1) (by decide) g2.1
          rw [k2]
          exact ih _ _ hE2 _ _ f' hf (.posL d (exM (.one hxy))) k1 g
        · rw [if_neg h3] at g ⊢
          rw [if_neg h3]
          by_cases h4 : s.is ⟨#[45, 62]⟩ = true
          · rw [if_pos h4] at g ⊢
            rw [if_pos h4]
            have ht := tl_lt h (is_ne h4 (by decide))
            have hz := (tl_ok h (is_ne h4 (by decide))).2
            have ho := (one_lt ht.le.ok (k := 1) (by decide)).le
            have hE2 : En (.posL d (.mk 8 eB (s.tl.oneT 1) 0 [.mk 3 ⟨#[42]⟩ eB 0 [x] ty0 x.at_] ty0 x.at_)) (s.tl.one 1) f := ⟨ho.ok, by simp only [rank]; have := ho.len; omega, trivial⟩
            have hb := (runE_le f _ _ hE2).1
            have g2 := hb.back g
            obtain ⟨k1, k2⟩ := (hj.tl hs2).one (k := 1) (by decide) g2.1
            rw [k2]
            exact ih _ _ hE2 _ _ f' hf (.posL d (exM (.one (exM (.one hxy))))) k1 g
          · rw [if_neg h4] at g ⊢
            rw [if_neg h4]
            exact ⟨.one hxy, hj⟩
    | atom d =>
      simp only [rank] at h1
      have hh := hj.hd hs2
      simp only [runE] at g ⊢
      rw [hh.1, hh.2.1, hj.is hs2]
      by_cases h2 : s.hd.kd = 2
      · rw [if_pos h2] at g ⊢
        rw [if_pos h2]
        exact ⟨.one (exM .nil), hj.tl hs2⟩
      · rw [if_neg h2] at g ⊢
        rw [if_neg h2]
        by_cases h3 : s.hd.kd = 1
        · rw [if_pos h3] at g ⊢
          rw [if_pos h3]
          have hne := Or.inr (a := s.hd.tx ≠ ⟨#[]⟩) (show s.hd.kd ≠ 0 by rw [h3]; decide)
          have ht := tl_lt h hne
          have hz := (tl_ok h hne).2
          exact ih (.use s.hd.tx s.hd.at_ d) s.tl ⟨ht.le.ok, by simp only [rank]; omega, trivial⟩ _ _ f' hf (.use _ _ _ d) (hj.tl hs2) g
        · rw [if_neg h3] at g ⊢
          rw [if_neg h3]
          by_cases h4 : s.is ⟨#[40]⟩ = true
          · rw [if_pos h4] at g ⊢
            rw [if_pos h4]
            have ht := tl_lt h (is_ne h4 (by decide))
            have hz := (tl_ok h (is_ne h4 (by decide))).2
            exact ih (.inside d) s.tl ⟨ht.le.ok, by simp only [rank]; omega, trivial⟩ _ _ f' hf (.inside d) (hj.tl hs2) g
          · rw [if_neg h4] at g
            exact absurd g.1 (fail_er (by decide))
    | use nm a b d =>
      simp only [rank] at h1
      simp only [runE] at g ⊢
      rw [hj.is hs2]
      by_cases h2 : s.is ⟨#[40]⟩ = true
      · rw [if_pos h2] at g ⊢
        rw [if_pos h2]
        have ht := tl_lt h (is_ne h2 (by decide))
        have hz := (tl_ok h (is_ne h2 (by decide))).2
        obtain ⟨k1, k2⟩ := ih (.betE (d + 1)) s.tl ⟨ht.le.ok, by simp only [rank]; omega, trivial⟩ _ _ f' hf (.betE (d + 1)) (hj.tl hs2) g
        exact ⟨.one (exM k1), k2⟩
      · rw [if_neg h2] at g ⊢
        rw [if_neg h2]
        exact ⟨.one (exM .nil), hj⟩
    | betE d =>
      simp only [rank] at h1
      simp only [runE] at g ⊢
      rw [hj.is hs2]
      by_cases h2 : s.is ⟨#[41]⟩ = true
      · rw [if_pos h2] at g ⊢
        rw [if_pos h2]
        exact ⟨.nil, hj.tl hs2⟩
      · rw [if_neg h2] at g ⊢
        rw [if_neg h2]
        have hE : En (.expr d) s f := ⟨h, by simp only [rank]; omega, trivial⟩
        have ha := (runE_le f _ _ hE).2 rfl
        have hE2 : En (.betL d [hd1 (runE f (.expr d) s)]) (runE f (.expr d) s).2 f := ⟨ha.le.ok, by simp only [rank]; have := ha.le.len; omega, trivial⟩
        have hb := (runE_le f _ _ hE2).1
        obtain ⟨k1, k2⟩ := ih _ _ hE _ _ f' hf (.expr d) hj (hb.back g)
        exact ih _ _ hE2 _ _ f' hf (.betL d (.one k1.hd)) k2 g
    | @betL d l m hlm =>
      simp only [rank] at h1
      simp only [runE] at g ⊢
      rw [hj.is hs2]
      by_cases h2 : s.is ⟨#[44]⟩ = true
      · rw [if_pos h2] at g ⊢
        rw [if_pos h2]
        have ht := tl_lt h (is_ne h2 (by decide))
        have hz := (tl_ok h (is_ne h2 (by decide))).2
        rw [← hlm.1]
        by_cases h3 : l.length = 6
        · rw [if_pos h3] at g
          exact absurd g.1 (fail_er (by decide))
        · rw [if_neg h3] at g ⊢
          rw [if_neg h3]
          have hE : En (.expr d) s.tl f := ⟨ht.le.ok, by simp only [rank]; omega, trivial⟩
          have ha := (runE_le f _ _ hE).2 rfl
          have hE2 : En (.betL d (l ++ [hd1 (runE f (.expr d) s.tl)])) (runE f (.expr d) s.tl).2 f := ⟨ha.le.ok, by simp only [rank]; have := ha.le.len; omega, trivial⟩
          have hb := (runE_le f _ _ hE2).1
          obtain ⟨k1, k2⟩ := ih _ _ hE _ _ f' hf (.expr d) (hj.tl hs2) (hb.back g)
          exact ih _ _ hE2 _ _ f' hf (.betL d (hlm.snoc k1.hd)) k2 g
      · rw [if_neg h2] at g ⊢
        rw [if_neg h2]
        exact ⟨hlm, hj.want (by decide) g.1⟩
end Pa
end Go.Proofs.YtfjobnljdkiihaaGreatDoor
namespace Go.Proofs.YtfjobnljdkiihaaGreatDoor
open Go.RowKit Go.Maps
set_option linter.unusedVariables false
set_option linter.unusedSimpArgs false
set_option maxRecDepth 100000
open Lx Pa
namespace Pa
section
variable {R : List Tk} {s t : S}
theorem cond_j {f f' d : Nat} (h : Ok s) (h1 : 8 * s.tk.length + 5 ≤ f) (hf : f ≤ f') (hj : J R s t) (he : (condV f d s).2.er = 0) : EqEs false (condV f d s).1 (condV f' d t).1 ∧ J R (condV f d s).2 (condV f' d t).2 := by
  unfold condV at he ⊢
  have h2 := want_lt h (x := ⟨#[40]⟩) (by decide)
  have hE : En (.expr (d + 1)) (s.want ⟨#[40]⟩) f := ⟨h2.le.ok, by simp only [rank]; have := h2.le.len; omega, trivial⟩
  have ha := (runE_le f _ _ hE).1
  have hw := want_lt ha.ok (x := ⟨#[41]⟩) (by decide)
  have g := hw.back he
  obtain ⟨k1, k2⟩ := runE_j R f _ _ hE _ _ f' hf (.expr (d + 1)) (hj.want (x := ⟨#[40]⟩) (by decide) (ha.back g).1) g
  exact ⟨.one k1.hd, k2.want (by decide) he⟩
theorem maybe_j {f f' d : Nat} (h : Ok s) (h1 : 8 * s.tk.length + 5 ≤ f) (hf : f ≤ f') (hj : J R s t) (he : (maybeV f d s).2.er = 0) : EqEs false (maybeV f d s).1 (maybeV f' d t).1 ∧ J R (maybeV f d s).2 (maybeV f' d t).2 := by
  have h2 := ((maybe_lt (d := d) h h1).back he).2
  unfold maybeV at he ⊢
  rw [hj.is h2]
  by_cases h3 : s.is ⟨#[59]⟩ = true
  · rw [if_pos h3] at he ⊢
    rw [if_pos h3]
    exact ⟨.nil, hj.tl h2⟩
  · rw [if_neg h3] at he ⊢
    rw [if_neg h3]
    have hE : En (.expr (d + 1)) s f := ⟨h, by simp only [rank]; omega, trivial⟩
    have ha := (runE_le f _ _ hE).1
    have g := (want_lt ha.ok (x := ⟨#[59]⟩) (by decide)).back he
    obtain ⟨k1, k2⟩ := runE_j R f _ _ hE _ _ f' hf (.expr (d + 1)) hj g
    exact ⟨.one k1.hd, k2.want (by decide) he⟩
theorem va0_eq : EqVa false va0 va0 := ⟨rfl, rfl, rfl, fun _ => rfl⟩
theorem EqSs.nil : EqSs false [] [] := ⟨rfl, fun i hi => by simp at hi⟩
theorem EqSs.one {x y : PSt} (h : EqS false x y) : EqSs false [x] [y] := ⟨rfl, fun i hi => by
  have : i = 0 := by simp at hi; omega
  subst this; exact h⟩
theorem EqSs.two {x y u v : PSt} (h : EqS false x y) (g : EqS false u v) : EqSs false [x, u] [y, v] := ⟨rfl, fun i hi => by
  have : i = 0 ∨ i = 1 := by simp at hi; omega
  rcases this with rfl | rfl
  · exact h
  · exact g⟩
theorem snocL {α : Type} {Q : α → α → Prop} {d : α} {l m : List α} {x y : α} (h : l.length = m.length ∧ ∀ i, i < l.length → Q (l.getD i d) (m.getD i d)) (g : Q x y) :
    (l ++ [x]).length = (m ++ [y]).length ∧ ∀ i, i < (l ++ [x]).length → Q ((l ++ [x]).getD i d) ((m ++ [y]).getD i d) := by
  refine ⟨by simp [h.1], fun i hi => ?_⟩
  simp only [List.getD_eq_getElem?_getD]
  by_cases e : i < l.length
  · rw [List.getElem?_append_left e, List.getElem?_append_left (by rw [← h.1]; exact e)]
    have := h.2 i e
    simpa only [List.getD_eq_getElem?_getD] using this
  · have e2 : i = l.length := by simp at hi; omega
    subst e2
    rw [List.getElem?_append_right (Nat.le_refl _), List.getElem?_append_right (by rw [h.1]; exact Nat.le_refl _), h.1]
    simpa using g
theorem st0_eq : EqS false st0 st0 := eqS_iff.2 ⟨rfl, (fun h => by cases h), va0_eq, EqEs.nil, EqSs.nil⟩
theorem EqSs.hd {a b : List PSt × S} (h : EqSs false a.1 b.1) : EqS false (hdS a) (hdS b) := by
  obtain ⟨l, s⟩ := a
  obtain ⟨m, t⟩ := b
  obtain ⟨h1, h2⟩ := h
  unfold hdS
  cases l with
  | nil =>
    cases m with
    | nil => exact st0_eq
    | cons y m => simp at h1
  | cons x l =>
    cases m with
    | nil => simp at h1
    | cons y m => exact h2 0 (by simp)
theorem stM {k : Int} {xs ys : List PEx} {ks ls : List PSt} {u v : PVa} {a b : Nat} (h1 : EqEs false xs ys) (h2 : EqSs false ks ls) (h3 : EqVa false u v) : EqS false (.mk k xs ks u a) (.mk k ys ls v b) := eqS_iff.2 ⟨rfl, (fun h => by cases h), h3, h1, h2⟩
theorem local_j {f f' d : Nat} (h : Ok s) (h1 : 8 * s.tk.length ≤ f) (hf : f ≤ f') (hj : J R s t) (he : (localV f d s).2.er = 0) : EqS false (localV f d s).1 (localV f' d t).1 ∧ J R (localV f d s).2 (localV f' d t).2 := by
  unfold localV at he ⊢
  have hN := named_lt h
  have hL := length_le hN.le.ok
  have h2 := hN.trans hL
  have hlen := h2.le.len
  simp only at he ⊢
  by_cases h3 : (lengthV (namedV s).2).2.is ⟨#[61]⟩ = true
  · rw [if_pos h3] at he ⊢
    have ht := tl_lt h2.le.ok (is_ne h3 (by decide))
    have hz := (tl_ok h2.le.ok (is_ne h3 (by decide))).2
    have hE : En (.expr (d + 1)) (lengthV (namedV s).2).2.tl f := ⟨ht.le.ok, by simp only [rank]; omega, trivial⟩
    have ha := (runE_le f _ _ hE).1
    have g := (want_lt ha.ok (x := ⟨#[59]⟩) (by decide)).back he
    have g2 := ht.le.back (ha.back g)
    have g3 := hL.back g2
    obtain ⟨k1, k2⟩ := named_j h hj g3.1
    obtain ⟨k3, k4⟩ := length_j hN.le.ok k2 g3.2 g2.1
    rw [if_pos (by rw [k4.is g2.2]; exact h3), k3]
    obtain ⟨k5, k6⟩ := runE_j R f _ _ hE _ _ f' hf (.expr (d + 1)) (k4.tl g2.2) g
    exact ⟨stM (.one k5.hd) .nil ⟨k1.nm, k1.ty, rfl, fun h => by cases h⟩, k6.want (by decide) he⟩
  · rw [if_neg h3] at he ⊢
    have g2 := (want_lt h2.le.ok (x := ⟨#[59]⟩) (by decide)).back he
    have g3 := hL.back g2
    obtain ⟨k1, k2⟩ := named_j h hj g3.1
    obtain ⟨k3, k4⟩ := length_j hN.le.ok k2 g3.2 g2.1
    rw [if_neg (by rw [k4.is g2.2]; exact h3), k3]
    exact ⟨stM .nil .nil ⟨k1.nm, k1.ty, rfl, fun h => by cases h⟩, k4.want (by decide) he⟩
end
inductive QS : Qs → Qs → Prop
  | stmt (d : Nat) : QS (.stmt d) (.stmt d)
  | block (d : Nat) : QS (.block d) (.block d)
  | untS (d : Nat) {l m : List PSt} (h : EqSs false l m) : QS (.untS d l) (.untS d m)
def GdS (q : Qs) (s : S) : Prop := match q with | .stmt _ => Gd s | _ => s.er = 0
theorem untS_lt {f d : Nat} {l : List PSt} {s : S} (h : EnS (.untS d l) s f) (he : (runS f (.untS d l) s).2.er = 0) : Gd s := by
  cases f with
  | zero =>
    simp only [runS] at he
    have h2 := h.2
    simp only at h2
    rcases h2 with h2 | h2
    · exact absurd he h2
    · omega
  | succ f =>
    have h0 := (runS_le (f + 1) _ _ h).1
    have h1 := h.2
    simp only at h1
    simp only [runS] at he
    by_cases h2 : s.er ≠ 0
    · rw [if_pos h2] at he; exact absurd he h2
    · rw [if_neg h2] at he
      have h3 : 8 * s.tk.length + 8 ≤ f + 1 := h1.resolve_left h2
      by_cases h4 : s.is ⟨#[125]⟩ = true
      · rw [if_pos h4] at he
        exact (tl_lt h.1 (is_ne h4 (by decide))).back he
      · rw [if_neg h4] at he
        have ha := (runS_le f (.stmt d) s ⟨h.1, by simp only [rankS]; omega⟩).2 trivial
        have hb := (runS_le f (.untS d (l ++ [hdS (runS f (.stmt d) s)])) _ ⟨ha.le.ok, by
          by_cases he : (runS f (.stmt d) s).2.er = 0
          · exact .inr (by have := ha.lt he; omega)
          · exact .inl he⟩).1
        exact (ha.trans hb).back he
theorem stmt_deep {f d : Nat} {s : S} (h : EnS (.stmt d) s (f + 1)) (he : (runS (f + 1) (.stmt d) s).2.er = 0) : ¬ 40 < d ∧ deepS d s = s := by
  have hd := deep_le h.1 d
  have h1 := h.2
  simp only [rankS] at h1
  have e : runS (f + 1) (.stmt d) (deepS d s) = runS (f + 1) (.stmt d) s := by simp only [runS, deep_same]
  have h2 := (runS_le (f + 1) (.stmt d) (deepS d s) ⟨hd.ok, by simp only [rankS]; have := hd.len; omega⟩).1
  rw [e] at h2
  have h3 := h2.er he
  have h4 : ¬ 40 < d := fun h5 => by
    unfold deepS at h3
    rw [if_pos h5] at h3
    exact fail_er (by decide) h3
  exact ⟨h4, by unfold deepS; rw [if_neg h4]⟩
theorem runS_j (R : List Tk) : ∀ f q s, EnS q s f → ∀ q' t f', f ≤ f' → QS q q' → J R s t → GdS q (runS f q s).2 → EqSs false (runS f q s).1 (runS f' q' t).1 ∧ J R (runS f q s).2 (runS f' q' t).2 := by
  intro f
  induction f with
  | zero =>
    intro q s ⟨h, h1⟩ q' t f' hf hq hj g
    have hp := h.pos
    cases q with
    | stmt d => simp only [rankS] at h1; omega
    | block d => simp only [rankS] at h1; omega
    | untS d l =>
      simp only at h1
      rcases h1 with h1 | h1
      · exact absurd hj.e1 h1
      · omega
  | succ f ih =>
    intro q s hen q' t f' hf hq hj g
    obtain ⟨f', rfl⟩ : ∃ k, f' = k + 1 := ⟨f' - 1, by omega⟩
    have hf : f ≤ f' := by omega
    have hLe := runS_le (f + 1) q s hen
    obtain ⟨h, h1⟩ := hen
    have hp := h.pos
    cases hq with
    | stmt d =>
      have g : Gd (runS (f + 1) (.stmt d) s).2 := g
      obtain ⟨hd0, hds⟩ := stmt_deep ⟨h, h1⟩ g.1
      have hdt : deepS d t = t := by unfold deepS; rw [if_neg hd0]
      have hs2 := (hLe.1.back g).2
      have hh := hj.hd hs2
      simp only [rankS] at h1
      simp only [runS, hds, hdt] at g ⊢
      rw [hh.2.1, hj.is hs2, hj.is hs2, hj.is hs2, hj.is hs2, hj.is hs2, hj.is hs2]
      by_cases c1 : (baseV s.hd.tx).isSome = true
      · rw [if_pos c1] at g ⊢
        rw [if_pos c1]
        obtain ⟨k1, k2⟩ := local_j (f := f) (f' := f') (d := d) h (by omega) hf hj g.1
        exact ⟨.one k1, k2⟩
      rw [if_neg c1] at g ⊢
      rw [if_neg c1]
      by_cases c2 : s.is ⟨#[123]⟩ = true
      · rw [if_pos c2] at g ⊢
        rw [if_pos c2]
        obtain ⟨k1, k2⟩ := ih (.block d) s ⟨h, by simp only [rankS]; omega⟩ _ _ f' hf (.block d) hj g.1
        exact ⟨.one k1.hd, k2⟩
      rw [if_neg c2] at g ⊢
      rw [if_neg c2]
      by_cases c3 : s.is ⟨#[105, 102]⟩ = true
      · rw [if_pos c3] at g ⊢
        rw [if_pos c3]
        have ht := tl_lt h (is_ne c3 (by decide))
        have hz := (tl_ok h (is_ne c3 (by decide))).2
        have hc := cond_lt (f := f) (d := d) ht.le.ok (by omega)
        have hE : EnS (.stmt (d + 1)) (condV f d s.tl).2 f := ⟨hc.le.ok, by simp only [rankS]; have := hc.le.len; omega⟩
        have ha := (runS_le f _ _ hE).1
        have hl2 := hc.le.len
        by_cases c4 : (runS f (.stmt (d + 1)) (condV f d s.tl).2).2.is ⟨#[101, 108, 115, 101]⟩ = true
        · rw [if_pos c4] at g ⊢
          have ht2 := tl_lt ha.ok (is_ne c4 (by decide))
          have hz2 := (tl_ok ha.ok (is_ne c4 (by decide))).2
          have hE2 : EnS (.stmt (d + 1)) (runS f (.stmt (d + 1)) (condV f d s.tl).2).2.tl f := ⟨ht2.le.ok, by simp only [rankS]; have := ha.len; omega⟩
          have hb := (runS_le f _ _ hE2).1
          have g2 := ht2.le.back (hb.back g)
          obtain ⟨k1, k2⟩ := cond_j (f := f) (f' := f') (d := d) ht.le.ok (by omega) hf (hj.tl hs2) (ha.back g2).1
          obtain ⟨k3, k4⟩ := ih _ _ hE _ _ f' hf (.stmt (d + 1)) k2 g2
          rw [if_pos (by rw [k4.is g2.2]; exact c4)]
          obtain ⟨k5, k6⟩ := ih _ _ hE2 _ _ f' hf (.stmt (d + 1)) (k4.tl g2.2) g
          exact ⟨.one (stM k1 (.two k3.hd k5.hd) va0_eq), k6⟩
        · rw [if_neg c4] at g ⊢
          obtain ⟨k1, k2⟩ := cond_j (f := f) (f' := f') (d := d) ht.le.ok (by omega) hf (hj.tl hs2) (ha.back g).1
          obtain ⟨k3, k4⟩ := ih _ _ hE _ _ f' hf (.stmt (d + 1)) k2 g
          rw [if_neg (by rw [k4.is g.2]; exact c4)]
          exact ⟨.one (stM k1 (.one k3.hd) va0_eq), k4⟩
      rw [if_neg c3] at g ⊢
      rw [if_neg c3]
      by_cases c4 : s.is ⟨#[119, 104, 105, 108, 101]⟩ = true
      · rw [if_pos c4] at g ⊢
        rw [if_pos c4]
        have ht := tl_lt h (is_ne c4 (by decide))
        have hz := (tl_ok h (is_ne c4 (by decide))).2
        have hc := cond_lt (f := f) (d := d) ht.le.ok (by omega)
        have hE : EnS (.stmt (d + 1)) (condV f d s.tl).2 f := ⟨hc.le.ok, by simp only [rankS]; have := hc.le.len; omega⟩
        have ha := (runS_le f _ _ hE).1
        obtain ⟨k1, k2⟩ := cond_j (f := f) (f' := f') (d := d) ht.le.ok (by omega) hf (hj.tl hs2) (ha.back g).1
        obtain ⟨k3, k4⟩ := ih _ _ hE _ _ f' hf (.stmt (d + 1)) k2 g
        exact ⟨.one (stM k1 (.one k3.hd) va0_eq), k4⟩
      rw [if_neg c4] at g ⊢
      rw [if_neg c4]
      by_cases c5 : s.is ⟨#[114, 101, 116, 117, 114, 110]⟩ = true
      · rw [if_pos c5] at g ⊢
        rw [if_pos c5]
        have ht := tl_lt h (is_ne c5 (by decide))
        have hz := (tl_ok h (is_ne c5 (by decide))).2
        obtain ⟨k1, k2⟩ := maybe_j (f := f) (f' := f') (d := d) ht.le.ok (by omega) hf (hj.tl hs2) g.1
        exact ⟨.one (stM k1 .nil va0_eq), k2⟩
      rw [if_neg c5] at g ⊢
      rw [if_neg c5]
      by_cases c6 : s.is ⟨#[98, 114, 101, 97, 107]⟩ = true
      · rw [if_pos c6] at g ⊢
        rw [if_pos c6]
        exact ⟨.one (stM .nil .nil va0_eq), (hj.tl hs2).want (by decide) g.1⟩
      rw [if_neg c6] at g ⊢
      rw [if_neg c6]
      by_cases c7 : s.is ⟨#[99, 111, 110, 116, 105, 110, 117, 101]⟩ = true
      · rw [if_pos c7] at g ⊢
        rw [if_pos c7]
        exact ⟨.one (stM .nil .nil va0_eq), (hj.tl hs2).want (by decide) g.1⟩
      rw [if_neg c7] at g ⊢
      rw [if_neg c7]
      obtain ⟨k1, k2⟩ := maybe_j (f := f) (f' := f') (d := d) h (by omega) hf hj g.1
      exact ⟨.one (stM k1 .nil va0_eq), k2⟩
    | block d =>
      simp only [rankS] at h1
      simp only [runS] at g ⊢
      have g : (runS f (.untS (d + 1) []) (s.want ⟨#[123]⟩)).2.er = 0 := g
      have hw := want_lt h (x := ⟨#[123]⟩) (by decide)
      have hE : EnS (.untS (d + 1) []) (s.want ⟨#[123]⟩) f := ⟨hw.le.ok, by
        by_cases he : (s.want ⟨#[123]⟩).er = 0
        · exact .inr (by have := hw.lt he; omega)
        · exact .inl he⟩
      have g2 := untS_lt hE g
      obtain ⟨k1, k2⟩ := ih _ _ hE _ _ f' hf (.untS (d + 1) EqSs.nil) (hj.want (x := ⟨#[123]⟩) (by decide) g2.1) g
      exact ⟨.one (stM .nil k1 va0_eq), k2⟩
    | @untS d l m hlm =>
      have hg := untS_lt (f := f + 1) ⟨h, h1⟩ g
      simp only at h1
      simp only [runS] at g ⊢
      have h2 : ¬ s.er ≠ 0 := fun e => e hj.e1
      have h2' : ¬ t.er ≠ 0 := fun e => e hj.e2
      rw [if_neg h2] at g ⊢
      rw [if_neg h2', hj.is hg.2]
      have h1 : 8 * s.tk.length + 8 ≤ f + 1 := h1.resolve_left h2
      by_cases h3 : s.is ⟨#[125]⟩ = true
      · rw [if_pos h3] at g ⊢
        rw [if_pos h3]
        exact ⟨hlm, hj.tl hg.2⟩
      · rw [if_neg h3] at g ⊢
        rw [if_neg h3]
        have hE : EnS (.stmt d) s f := ⟨h, by simp only [rankS]; omega⟩
        have ha := (runS_le f _ _ hE).2 trivial
        have hE2 : EnS (.untS d (l ++ [hdS (runS f (.stmt d) s)])) (runS f (.stmt d) s).2 f := ⟨ha.le.ok, by
          by_cases he : (runS f (.stmt d) s).2.er = 0
          · exact .inr (by have := ha.lt he; omega)
          · exact .inl he⟩
        have g2 := untS_lt hE2 g
        obtain ⟨k1, k2⟩ := ih _ _ hE _ _ f' hf (.stmt d) hj g2
        exact ih _ _ hE2 _ _ f' hf (.untS d (snocL hlm k1.hd)) k2 g
theorem untF_j (R : List Tk) : ∀ f l (s : S), Ok s → ∀ l' t f', f ≤ f' → EqL (EqFd false) fd0 l l' → J R s t → s.tk.length < f → (untF f l s).2.er = 0 → EqL (EqFd false) fd0 (untF f l s).1 (untF f' l' t).1 ∧ J R (untF f l s).2 (untF f' l' t).2 := by
  intro f
  induction f with
  | zero => intro l s h l' t f' hf hl hj hlt; omega
  | succ f ih =>
    intro l s h l' t f' hf hl hj hlt he
    obtain ⟨f', rfl⟩ : ∃ k, f' = k + 1 := ⟨f' - 1, by omega⟩
    simp only [untF] at he ⊢
    have h2 : ¬ s.er ≠ 0 := fun e => e hj.e1
    have h2' : ¬ t.er ≠ 0 := fun e => e hj.e2
    rw [if_neg h2] at he ⊢
    rw [if_neg h2']
    have hN := named_lt h
    have hw := hN.trans (want_lt hN.le.ok (x := ⟨#[59]⟩) (by decide)).le
    have hu := untF_le f (l ++ [⟨(namedV s).1.nm, (namedV s).1.ty, (namedV s).1.at_⟩]) _ hw.le.ok
    by_cases h3 : s.is ⟨#[125]⟩ = true
    · rw [if_pos h3] at he ⊢
      have h5 := hj.two (is_ne h3 (by decide))
      rw [if_pos (by rw [hj.is h5]; exact h3)]
      exact ⟨hl, hj.tl h5⟩
    · rw [if_neg h3] at he ⊢
      have h5 := ((hw.trans hu).back he).2
      rw [if_neg (by rw [hj.is h5]; exact h3)]
      have e1 := hu.er he
      have e2 := (want_lt hN.le.ok (x := ⟨#[59]⟩) (by decide)).back e1
      obtain ⟨k1, k2⟩ := named_j h hj e2.1
      exact ih _ _ hw.le.ok _ _ f' (by omega) (snocL hl ⟨k1.nm, k1.ty, fun h => by cases h⟩) (k2.want (by decide) e1) (by have := hw.lt e1; omega) he
theorem betPL_j (R : List Tk) : ∀ f l (s : S), Ok s → s.tk.length + 1 ≤ f → ∀ l' t f', f ≤ f' → EqVas false l l' → J R s t → (betPL f l s).2.er = 0 → EqVas false (betPL f l s).1 (betPL f' l' t).1 ∧ J R (betPL f l s).2 (betPL f' l' t).2 := by
  intro f
  induction f with
  | zero => intro l s h h1; omega
  | succ f ih =>
    intro l s h h1 l' t f' hf hl hj he
    obtain ⟨f', rfl⟩ : ∃ k, f' = k + 1 := ⟨f' - 1, by omega⟩
    simp only [betPL] at he ⊢
    by_cases h2 : s.is ⟨#[44]⟩ = true
    · rw [if_pos h2] at he ⊢
      have h5 := hj.two (is_ne h2 (by decide))
      have ht := tl_lt h (is_ne h2 (by decide))
      have hz := (tl_ok h (is_ne h2 (by decide))).2
      rw [if_pos (show t.is ⟨#[44]⟩ = true by rw [hj.is h5]; exact h2), ← hl.1]
      by_cases h3 : l.length = 6
      · rw [if_pos h3] at he
        exact absurd he (fail_er (by decide))
      · rw [if_neg h3] at he ⊢
        rw [if_neg h3]
        have hnl := (named_lt ht.le.ok).le
        have hr := betPL_le f (l ++ [(namedV s.tl).1]) _ hnl.ok (by have := hnl.len; omega)
        obtain ⟨k1, k2⟩ := named_j ht.le.ok (hj.tl h5) (hr.er he)
        exact ih _ _ hnl.ok (by have := hnl.len; omega) _ _ f' (by omega) (snocL hl k1) k2 he
    · rw [if_neg h2] at he ⊢
      have h5 := ((want_lt h (x := ⟨#[41]⟩) (by decide)).back he).2
      rw [if_neg (by rw [hj.is h5]; exact h2)]
      exact ⟨hl, hj.want (by decide) he⟩
section
variable {R : List Tk} {s t : S}
theorem J.len (hj : J R s t) (hR : R ≠ []) : s.tk.length ≤ t.tk.length := by
  obtain ⟨e1, e2, A, B, p, hA, hB, hm, hk⟩ := hj
  have hl := congrArg List.length hm
  simp at hl
  have : 1 ≤ R.length := by cases R with | nil => exact absurd rfl hR | cons a R => simp
  rw [hA, hB]
  simp
  omega
theorem betP_j (hR : R ≠ []) (h : Ok s) (hj : J R s t) (he : (betP s).2.er = 0) (h2 : 2 ≤ s.tk.length) : EqVas false (betP s).1 (betP t).1 ∧ J R (betP s).2 (betP t).2 := by
  unfold betP at he ⊢
  rw [hj.is h2]
  by_cases h3 : s.is ⟨#[41]⟩ = true
  · rw [if_pos h3] at he ⊢
    rw [if_pos h3]
    exact ⟨⟨rfl, fun i hi => by simp at hi⟩, hj.tl h2⟩
  · rw [if_neg h3] at he ⊢
    rw [if_neg h3]
    have hnl := (named_lt h).le
    have hr := betPL_le ((namedV s).2.tk.length + 1) [(namedV s).1] _ hnl.ok (Nat.le_refl _)
    obtain ⟨k1, k2⟩ := named_j h hj (hr.er he)
    exact betPL_j R _ _ _ hnl.ok (Nat.le_refl _) _ _ _ (by have := k2.len hR; omega) (eqVa_one.2 k1) k2 he
theorem struct_j (hR : R ≠ []) (h : Ok s) (hj : J R s t) (he : (structV s).2.er = 0) : EqSr false (structV s).1 (structV t).1 ∧ J R (structV s).2 (structV t).2 := by
  unfold structV at he ⊢
  have h1 := want_lt h (x := ⟨#[115, 116, 114, 117, 99, 116]⟩) (by decide)
  have h2 := one_lt h1.le.ok (k := 1) (by decide)
  have h3 := want_lt h2.le.ok (x := ⟨#[123]⟩) (by decide)
  have h4 := untF_le ((((s.want ⟨#[115, 116, 114, 117, 99, 116]⟩).one 1).want ⟨#[123]⟩).tk.length + 1) [] _ h3.le.ok
  have h5 := want_lt h4.ok (x := ⟨#[59]⟩) (by decide)
  simp only at he ⊢
  have e4 := h5.le.er he
  have e3 := h4.er e4
  have e2 := h3.le.er e3
  have e1 := h2.le.er e2
  have k1 := hj.want (x := ⟨#[115, 116, 114, 117, 99, 116]⟩) (by decide) e1
  obtain ⟨k2, k2b⟩ := k1.one (k := 1) (by decide) e2
  have k3 := k2.want (x := ⟨#[123]⟩) (by decide) e3
  obtain ⟨k4, k5⟩ := untF_j R _ [] _ h3.le.ok [] _ _ (by have := k3.len hR; exact Nat.succ_le_succ this) ⟨rfl, fun i hi => by simp at hi⟩ k3 (Nat.lt_succ_self _) e4
  exact ⟨⟨k2b.symm, (fun h => by cases h), k4⟩, k5.want (by decide) he⟩
theorem func_j {v u : PVa} (hv : EqVa false v u) (hR : R ≠ []) (h : Ok s) (hj : J R s t) (h2 : 2 ≤ s.tk.length) (he : (funcV v s).2.er = 0) : EqFn false (funcV v s).1 (funcV u t).1 ∧ J R (funcV v s).2 (funcV u t).2 := by
  unfold funcV at he ⊢
  simp only at he ⊢
  have h1 := betP_le' h
  have hE : EnS (.block 0) (betP s).2 (fuelOf (betP s).2) := ⟨h1.ok, by simp only [rankS]; unfold fuelOf; omega⟩
  have h3 := (runS_le _ _ _ hE).1
  obtain ⟨k1, k2⟩ := betP_j hR h hj (h3.er he) h2
  have hlen := k2.len hR
  obtain ⟨k3, k4⟩ := runS_j R _ _ _ hE _ _ (fuelOf (betP t).2) (by unfold fuelOf; omega) (.block 0) k2 he
  exact ⟨⟨hv.nm, hv.ty, (fun h => by cases h), k1, k3.hd⟩, k4⟩
theorem typ_struct {s : S} (h : Ok s) (hi : s.is ⟨#[115, 116, 114, 117, 99, 116]⟩ = true) (he : (namedV s).2.er = 0) : 4 ≤ s.tk.length := by
  have hx : s.hd.tx = ⟨#[115, 116, 114, 117, 99, 116]⟩ := by unfold S.is at hi; exact of_decide_eq_true hi
  have hb : baseV s.hd.tx = some 4 := by rw [hx]; decide
  have h1 := tl_lt h (is_ne hi (by decide))
  have h1z := (tl_ok h (is_ne hi (by decide))).2
  have h2 := one_lt h1.le.ok (k := 1) (by decide)
  have h3 := stars_le 4 0 _ h2.le.ok
  unfold namedV at he
  simp only at he
  have hT : (typeV s).2 = (starsV 4 0 (s.tl.one 1)).2 := by
    unfold typeV
    rw [hb]
    simp only [if_true]
    generalize starsV 4 0 (s.tl.one 1) = q
    obtain ⟨a, q⟩ := q
    cases a <;> rfl
  rw [hT] at he
  have h4 := one_lt h3.ok (k := 1) (by decide)
  have g4 := h4.back he
  have g3 := h3.back g4
  have := h2.lt g3.1
  have := g3.2
  omega
theorem top_j {p p' : PPr} (hP : EqP false p p') (hR : R ≠ []) (h : Ok s) (hj : J R s t) (he : (topV p s).2.er = 0) : EqP false (topV p s).1 (topV p' t).1 ∧ J R (topV p s).2 (topV p' t).2 := by
  have h2 := ((topV_lt (p := p) h).back he).2
  unfold topV at he ⊢
  rw [hj.is h2]
  by_cases c1 : s.is ⟨#[115, 116, 114, 117, 99, 116]⟩ = true ∧ (s.ahead 2).tx = ⟨#[123]⟩
  · rw [if_pos c1] at he ⊢
    have h4 : 4 ≤ s.tk.length := by
      have k := c1.2
      obtain ⟨⟨A, q, hA⟩, _⟩ := h
      unfold S.ahead at k
      rw [hA] at k h2 ⊢
      match A with
      | [] => simp at h2
      | [a] => simp at k
      | [a, b] => simp at k
      | a :: b :: c :: A => simp
    rw [if_pos ⟨c1.1, by rw [hj.ahead 2 h4]; exact c1.2⟩]
    obtain ⟨k1, k2⟩ := struct_j hR h hj he
    exact ⟨⟨snocL hP.ss k1, hP.vs, hP.fs⟩, k2⟩
  · rw [if_neg c1] at he ⊢
    have hN := named_lt h
    have hN0 : (namedV s).2.er = 0 := by
      by_cases c2 : (namedV s).2.is ⟨#[40]⟩ = true
      · simp only [if_pos c2] at he
        exact (tl_lt hN.le.ok (is_ne c2 (by decide))).le.er ((funcV_le (v := (namedV s).1) (tl_lt hN.le.ok (is_ne c2 (by decide))).le.ok).er he)
      · simp only [if_neg c2] at he
        have h5 := length_le hN.le.ok
        exact h5.er ((want_lt h5.ok (x := ⟨#[59]⟩) (by decide)).le.er he)
    have c1' : ¬ (s.is ⟨#[115, 116, 114, 117, 99, 116]⟩ = true ∧ (t.ahead 2).tx = ⟨#[123]⟩) := fun e => c1 ⟨e.1, by rw [← hj.ahead 2 (typ_struct h e.1 hN0)]; exact e.2⟩
    rw [if_neg c1']
    obtain ⟨k1, k2⟩ := named_j h hj hN0
    by_cases c2 : (namedV s).2.is ⟨#[40]⟩ = true
    · simp only [if_pos c2] at he ⊢
      have ht := tl_lt hN.le.ok (is_ne c2 (by decide))
      have h5 := k2.two (is_ne c2 (by decide))
      rw [if_pos (by rw [k2.is h5]; exact c2)]
      have h6 : 2 ≤ (namedV s).2.tl.tk.length := by
        have hE : EnS (.block 0) (betP (namedV s).2.tl).2 (fuelOf (betP (namedV s).2.tl).2) := ⟨(betP_le' ht.le.ok).ok, by simp only [rankS]; unfold fuelOf; omega⟩
        have := (runS_le _ _ _ hE).2 trivial
        exact ((betP_le' ht.le.ok).back (this.back he)).2
      obtain ⟨k3, k4⟩ := func_j k1 hR ht.le.ok (k2.tl h5) h6 he
      exact ⟨⟨hP.ss, hP.vs, snocL hP.fs k3⟩, k4⟩
    · simp only [if_neg c2] at he ⊢
      have hL := length_le hN.le.ok
      have g := (want_lt hL.ok (x := ⟨#[59]⟩) (by decide)).back he
      have g2 := hL.back g
      rw [if_neg (by rw [k2.is g2.2]; exact c2)]
      obtain ⟨k3, k4⟩ := length_j hN.le.ok k2 g2.2 g.1
      rw [k3]
      exact ⟨⟨hP.ss, snocL hP.vs ⟨k1.nm, k1.ty, rfl, fun h => by cases h⟩, hP.fs⟩, k4.want (by decide) he⟩
end
theorem progL_er : ∀ f p (s : S), Ok s → Le s (progL f p s).2 := by
  intro f
  induction f with
  | zero => intro p s h; simp only [progL]; exact Le.refl h
  | succ f ih =>
    intro p s h
    simp only [progL]
    split
    · exact Le.refl h
    · have h1 := (topV_lt (p := p) h).le
      exact h1.trans (ih _ _ h1.ok)
/-- A reader at the end of the first one's tokens. -/
theorem progL_j {R : List Tk} (hR : R ≠ []) : ∀ f p (s : S), Ok s → s.tk.length < f → ∀ p' t f', EqP false p p' → J R s t → t.tk.length < f' → (progL f p s).2.er = 0 →
    ∃ q f'', EqP false (progL f p s).1 q ∧ R.length < f'' ∧ progL f' p' t = progL f'' q ⟨R, 0⟩ := by
  intro f
  induction f with
  | zero => intro p s h h1; omega
  | succ f ih =>
    intro p s h h1 p' t f' hP hj hf he
    obtain ⟨f', rfl⟩ : ∃ k, f' = k + 1 := ⟨f' - 1, by omega⟩
    simp only [progL] at he ⊢
    by_cases h0 : s.hd.kd = 0
    · rw [if_pos h0] at he ⊢
      obtain ⟨e1, e2, A, B, q, hA, hB, hm, hk⟩ := hj
      cases A with
      | cons a A =>
        exfalso
        unfold S.hd at h0
        rw [hA] at h0
        exact hk a (by simp) h0
      | nil =>
        have hB0 : B = [] := by simpa using hm
        subst hB0
        obtain ⟨tk, er⟩ := t
        simp only [List.nil_append] at hB e2 hf
        subst hB
        subst e2
        exact ⟨p', f' + 1, hP, hf, by simp only [progL]⟩
    · rw [if_neg h0] at he ⊢
      have ht := topV_lt (p := p) h
      have hl := progL_er f (topV p s).1 _ ht.le.ok
      have e1 := hl.er he
      have h5 := (ht.back e1).2
      rw [if_neg (by rw [(hj.hd h5).1]; exact h0)]
      obtain ⟨k1, k2⟩ := top_j hP hR h hj e1
      have hlt := ht.lt e1
      have hlt2 : (topV p' t).2.tk.length < f' := by
        obtain ⟨_, _, A, B, q, hA, hB, hm, hk⟩ := hj
        obtain ⟨_, _, A', B', q', hA', hB', hm', hk'⟩ := k2
        have hl1 := congrArg List.length hm
        have hl2 := congrArg List.length hm'
        simp at hl1 hl2
        rw [hA, hA'] at hlt
        rw [hB] at hf
        rw [hB']
        simp at hlt hf ⊢
        omega
      exact ih _ _ ht.le.ok (by omega) _ _ f' k1 k2 hlt2 he
end Pa
end Go.Proofs.YtfjobnljdkiihaaGreatDoor
namespace Go.Proofs.YtfjobnljdkiihaaGreatDoor
open Go.RowKit Go.Maps
set_option linter.unusedVariables false
set_option linter.unusedSimpArgs false
set_option maxRecDepth 100000
open Lx Pa
namespace Lx
end Lx
namespace Pa
theorem EqE.symm {x y : PEx} (h : EqE false x y) : EqE false y x := by
  induction h with
  | mk ha hl hk ih => exact .mk (fun e => by cases e) hl.symm (fun i hi => ih i (by omega))
theorem EqEs.symm {l m : List PEx} (h : EqEs false l m) : EqEs false m l := ⟨h.1.symm, fun i hi => (h.2 i (by rw [h.1]; exact hi)).symm⟩
theorem EqVa.symm {x y : PVa} (h : EqVa false x y) : EqVa false y x := ⟨h.nm.symm, h.ty.symm, h.ln.symm, fun e => by cases e⟩
theorem EqVas.symm {l m : List PVa} (h : EqVas false l m) : EqVas false m l := ⟨h.1.symm, fun i hi => (h.2 i (by rw [h.1]; exact hi)).symm⟩
theorem EqS.symm {x y : PSt} (h : EqS false x y) : EqS false y x := by
  induction h with
  | mk ha hv he hl hk ih => exact .mk (fun e => by cases e) hv.symm he.symm hl.symm (fun i hi => ih i (by omega))
theorem EqL.symm {α : Type} {Q : α → α → Prop} {d : α} (hQ : ∀ x y, Q x y → Q y x) {l m : List α} (h : EqL Q d l m) : EqL Q d m l := ⟨h.1.symm, fun i hi => hQ _ _ (h.2 i (by rw [h.1]; exact hi))⟩
theorem EqFd.symm {x y : PFd} (h : EqFd false x y) : EqFd false y x := ⟨h.nm.symm, h.ty.symm, fun e => by cases e⟩
theorem EqSr.symm {x y : PSr} (h : EqSr false x y) : EqSr false y x := ⟨h.nm.symm, fun e => (by cases e), h.fds.symm fun _ _ => EqFd.symm⟩
theorem EqFn.symm {x y : PFn} (h : EqFn false x y) : EqFn false y x := ⟨h.nm.symm, h.ty.symm, fun e => (by cases e), h.params.symm, h.body.symm⟩
theorem EqP.symm {p q : PPr} (h : EqP false p q) : EqP false q p := ⟨h.ss.symm fun _ _ => EqSr.symm, h.vs.symm, h.fs.symm fun _ _ => EqFn.symm⟩
def pr0 : PPr := ⟨[], [], []⟩
theorem pr_end {A1 : List Tk} {q : Nat} {A : List (Int × List UInt8)} (h : (A1 ++ [(⟨0, ⟨#[]⟩, q⟩ : Tk)]).map pr = A ++ [(0, [])]) : A1.map pr = A := by
  rw [List.map_append] at h
  exact (List.append_inj' h (by simp)).1
theorem EqP.nil : EqP false pr0 pr0 := ⟨⟨rfl, fun i hi => by simp [pr0] at hi⟩, ⟨rfl, fun i hi => by simp [pr0] at hi⟩, ⟨rfl, fun i hi => by simp [pr0] at hi⟩⟩
theorem parse_ok {a : ByteArray} (h : (parseV a).2.2 = 0) : (lexV a).er = 0 ∧ (progL ((lexV a).tk.length + 1) pr0 ⟨(lexV a).tk, 0⟩).2.er = 0 ∧ (parseV a).1 = (progL ((lexV a).tk.length + 1) pr0 ⟨(lexV a).tk, 0⟩).1 := by
  unfold parseV at h ⊢
  by_cases h1 : (lexV a).er ≠ 0
  · rw [if_pos h1] at h; exact absurd h h1
  · rw [if_neg h1] at h ⊢
    have h1' : (lexV a).er = 0 := by omega
    simp only at h ⊢
    by_cases h2 : (progV ⟨(lexV a).tk, 0⟩).2.er ≠ 0
    · rw [if_pos h2] at h; exact absurd h h2
    · rw [if_neg h2]
      exact ⟨h1', by have : (progV ⟨(lexV a).tk, 0⟩).2.er = 0 := by omega
                     exact this, rfl⟩
theorem ok_cut {T : List Tk} (h : Ok ⟨T, 0⟩) {A : List (Int × List UInt8)} (hm : T.map pr = A ++ [(0, [])]) : ∃ A1 q, T = A1 ++ [⟨0, ⟨#[]⟩, q⟩] ∧ A1.map pr = A := by
  obtain ⟨⟨A1, q, h1⟩, _⟩ := h
  dsimp only at h1
  subst h1
  exact ⟨A1, q, rfl, pr_end hm⟩
end Pa
end Go.Proofs.YtfjobnljdkiihaaGreatDoor
