/- A text's program does not hang on what stands behind the text, but for places; pure. Conditions: each theorem's. -/
import Derived.Test.YtlobphanodhcoaaParSh
import Derived.Test.YtlobphanodhcoaaRegInv
import Derived.Deep.AppendLies
import Derived.Deep.AppendSrc
import Derived.Deep.RegionHeld
import Derived.Test.YtlobphanodhcoaaLexN
import Derived.Test.YtlobphanodhcoaaParSp
import Derived.Test.YtlobphanodhcoaaParSx
import Derived.Test.YtlobphanodhcoaaParMv
namespace Go.Proofs.Ytlobphanodhcoaa
open Go.RowKit Go.Maps
set_option linter.unusedVariables false
set_option linter.unusedSimpArgs false
set_option maxRecDepth 100000
open Lx Pa
namespace Pa
/-- Two readers whose tokens are the same but for places, up to where the first one's end. -/
structure J (R : List Tk) (s t : S) : Prop where
  e1 : s.er = 0
  e2 : t.er = 0
  ex : ∃ A B p, s.tk = A ++ [⟨0, ⟨#[]⟩, p⟩] ∧ t.tk = B ++ R ∧ B.map pr = A.map pr ∧ ∀ x ∈ A, x.kd ≠ 0
def Gd (s : S) : Prop := s.er = 0 ∧ 2 ≤ s.tk.length
theorem Le.back {a b : S} (h : Le a b) (g : Gd b) : Gd a := ⟨h.er g.1, Nat.le_trans g.2 h.len⟩
theorem Lt.back {a b : S} (h : Lt a b) (g : b.er = 0) : Gd a := ⟨h.le.er g, by have := h.lt g; have := h.le.ok.pos; omega⟩
theorem Lt.back3 {a b : S} (h : Lt a b) (g : Gd b) : 3 ≤ a.tk.length := by have := h.lt g.1; have := g.2; omega
theorem tx_eq {a b : ByteArray} (h : a.data.toList = b.data.toList) : a = b := by
  obtain ⟨⟨a⟩⟩ := a
  obtain ⟨⟨b⟩⟩ := b
  dsimp only at h
  rw [h]
theorem pr_eq {a b : Tk} (h : pr b = pr a) : b.kd = a.kd ∧ b.tx = a.tx := by
  unfold pr at h
  injection h with h1 h2
  exact ⟨h1, tx_eq h2⟩
section
variable {R : List Tk} {s t : S}
theorem J.cons (h : J R s t) (h2 : 2 ≤ s.tk.length) : ∃ a b, s.hd = a ∧ t.hd = b ∧ b.kd = a.kd ∧ b.tx = a.tx ∧ a.kd ≠ 0 ∧ J R s.tl t.tl := by
  obtain ⟨e1, e2, A, B, p, hA, hB, hm, hk⟩ := h
  cases A with
  | nil => rw [hA] at h2; simp at h2
  | cons a A =>
    cases B with
    | nil => simp at hm
    | cons b B =>
      simp only [List.map_cons, List.cons.injEq] at hm
      obtain ⟨k1, k2⟩ := pr_eq hm.1
      refine ⟨a, b, by unfold S.hd; rw [hA]; rfl, by unfold S.hd; rw [hB]; rfl, k1, k2, hk a (by simp), e1, e2, A, B, p, by unfold S.tl; rw [hA]; rfl, by unfold S.tl; rw [hB]; rfl, hm.2, fun x hx => hk x (List.mem_cons_of_mem _ hx)⟩
theorem J.hd (h : J R s t) (h2 : 2 ≤ s.tk.length) : t.hd.kd = s.hd.kd ∧ t.hd.tx = s.hd.tx ∧ s.hd.kd ≠ 0 := by
  obtain ⟨a, b, rfl, rfl, h3, h4, h5, _⟩ := h.cons h2; exact ⟨h3, h4, h5⟩
theorem J.tl (h : J R s t) (h2 : 2 ≤ s.tk.length) : J R s.tl t.tl := by
  obtain ⟨a, b, _, _, _, _, _, h3⟩ := h.cons h2; exact h3
theorem J.is (h : J R s t) (h2 : 2 ≤ s.tk.length) (x : ByteArray) : t.is x = s.is x := by unfold S.is; rw [(h.hd h2).2.1]
theorem J.two (h : J R s t) (hx : s.hd.tx ≠ ⟨#[]⟩ ∨ s.hd.kd ≠ 0) : 2 ≤ s.tk.length := by
  obtain ⟨e1, e2, A, B, p, hA, hB, hm, hk⟩ := h
  cases A with
  | nil => exfalso; unfold S.hd at hx; rw [hA] at hx; simp at hx
  | cons a A => rw [hA]; simp
theorem J.ahead (h : J R s t) (n : Nat) (h2 : n + 2 ≤ s.tk.length) : (t.ahead n).tx = (s.ahead n).tx := by
  obtain ⟨e1, e2, A, B, p, hA, hB, hm, hk⟩ := h
  have hl := congrArg List.length hm
  simp at hl
  rw [hA] at h2
  simp at h2
  have h3 : pr (B[n]'(by omega)) = pr (A[n]'(by omega)) := by
    have h4 : (B.map pr)[n]? = (A.map pr)[n]? := by rw [hm]
    rw [List.getElem?_map, List.getElem?_map, List.getElem?_eq_getElem (by omega), List.getElem?_eq_getElem (by omega)] at h4
    simpa using h4
  unfold S.ahead
  rw [hA, hB, Nat.min_eq_left (by simp; omega), Nat.min_eq_left (by simp; omega), List.getD_eq_getElem?_getD, List.getD_eq_getElem?_getD, List.getElem?_append_left (by omega), List.getElem?_append_left (by omega), List.getElem?_eq_getElem (by omega), List.getElem?_eq_getElem (by omega)]
  exact (pr_eq h3).2
theorem J.want (h : J R s t) {x : ByteArray} (hx : x ≠ ⟨#[]⟩) (he : (s.want x).er = 0) : J R (s.want x) (t.want x) := by
  unfold S.want at he ⊢
  by_cases hi : s.is x = true
  · have h2 := h.two (is_ne hi hx)
    rw [if_pos hi, if_pos (by rw [h.is h2]; exact hi)]
    exact h.tl h2
  · rw [if_neg hi] at he
    exact absurd he (fail_er (by decide))
theorem J.one (h : J R s t) {k : Int} (hk : k ≠ 0) (he : (s.one k).er = 0) : J R (s.one k) (t.one k) ∧ t.oneT k = s.oneT k := by
  unfold S.one at he ⊢
  unfold S.oneT
  by_cases hi : s.hd.kd = k
  · have h2 := h.two (.inr (by rw [hi]; exact hk))
    have h3 := h.hd h2
    rw [if_pos hi, if_pos (by rw [h3.1]; exact hi), if_pos hi, if_pos (by rw [h3.1]; exact hi)]
    exact ⟨h.tl h2, h3.2.1⟩
  · rw [if_neg hi] at he
    exact absurd he (fail_er (by decide))
theorem stars_j : ∀ n k (s t : S), Ok s → J R s t → Gd (starsV n k s).2 → (starsV n k t).1 = (starsV n k s).1 ∧ J R (starsV n k s).2 (starsV n k t).2 := by
  intro n
  induction n with
  | zero =>
    intro k s t h hj g
    have h2 := ((stars_le 0 k s h).back g).2
    unfold starsV at g ⊢
    rw [hj.is h2]
    split
    · rename_i h1; rw [if_pos h1] at g; exact absurd g.1 (fail_er (by decide))
    · exact ⟨rfl, hj⟩
  | succ n ih =>
    intro k s t h hj g
    have h2 := ((stars_le (n + 1) k s h).back g).2
    unfold starsV at g ⊢
    rw [hj.is h2]
    split
    · rename_i h1
      rw [if_pos h1] at g
      exact ih _ _ _ (tl_lt h (is_ne h1 (by decide))).le.ok (hj.tl h2) g
    · exact ⟨rfl, hj⟩
theorem typeV_eq {s : S} {b : Int} (hb : baseV s.hd.tx = some b) : (typeV s).2 = (starsV 4 0 (if b = 4 then s.tl.one 1 else s.tl)).2 ∧ (typeV s).1 = match (starsV 4 0 (if b = 4 then s.tl.one 1 else s.tl)).1 with | none => ty0 | some k => ⟨b, k, if b = 4 then s.tl.oneT 1 else ⟨#[]⟩⟩ := by
  unfold typeV
  rw [hb]
  dsimp only
  generalize starsV 4 0 (if b = 4 then s.tl.one 1 else s.tl) = q
  obtain ⟨a, q⟩ := q
  cases a <;> exact ⟨rfl, rfl⟩
theorem type_j (h : Ok s) (hj : J R s t) (g : Gd (typeV s).2) : (typeV t).1 = (typeV s).1 ∧ J R (typeV s).2 (typeV t).2 := by
  have h2 := ((type_lt h).le.back g).2
  have hh := hj.hd h2
  cases hb : baseV s.hd.tx with
  | none =>
    unfold typeV at g
    rw [hb] at g
    exact absurd g.1 (fail_er (by decide))
  | some b =>
    obtain ⟨a1, a2⟩ := typeV_eq hb
    obtain ⟨b1, b2⟩ := typeV_eq (s := t) (by rw [hh.2.1]; exact hb)
    rw [a1] at g ⊢
    rw [a2, b1, b2]
    have h1 := tl_lt h (.inl (base_ne hb))
    have hjt := hj.tl h2
    have hso : Ok (if b = 4 then s.tl.one 1 else s.tl) := by
      split
      · exact (one_lt h1.le.ok (by decide)).le.ok
      · exact h1.le.ok
    have g3 := (stars_le 4 0 _ hso).back g
    have hj2 : J R (if b = 4 then s.tl.one 1 else s.tl) (if b = 4 then t.tl.one 1 else t.tl) ∧ (b = 4 → t.tl.oneT 1 = s.tl.oneT 1) := by
      by_cases e : b = 4
      · rw [if_pos e] at g3
        rw [if_pos e, if_pos e]
        have := hjt.one (k := 1) (by decide) g3.1
        exact ⟨this.1, fun _ => this.2⟩
      · rw [if_neg e, if_neg e]; exact ⟨hjt, fun h => absurd h e⟩
    obtain ⟨h5, h6⟩ := stars_j 4 0 _ _ hso hj2.1 g
    have h4 : (if b = 4 then t.tl.oneT 1 else ⟨#[]⟩) = (if b = 4 then s.tl.oneT 1 else ⟨#[]⟩) := by
      split
      · rename_i e; exact hj2.2 e
      · rfl
    rw [h5, h4]
    exact ⟨rfl, h6⟩
theorem named_j (h : Ok s) (hj : J R s t) (he : (namedV s).2.er = 0) : EqVa false (namedV s).1 (namedV t).1 ∧ J R (namedV s).2 (namedV t).2 := by
  unfold namedV at he ⊢
  have h1 := type_lt h
  have h2 := one_lt h1.le.ok (k := 1) (by decide)
  obtain ⟨h3, h4⟩ := type_j h hj (h2.back he)
  obtain ⟨h5, h6⟩ := h4.one (k := 1) (by decide) he
  exact ⟨⟨h6.symm, h3.symm, rfl, fun h => by cases h⟩, h5⟩
theorem lenS_j (h : Ok s) (hj : J R s t) (he : (lenS s).er = 0) : J R (lenS s) (lenS t) ∧ t.hd.tx = s.hd.tx := by
  unfold lenS at he ⊢
  by_cases hb : badLen (meanV s.hd.tx.data.toList) = true
  · exfalso
    rw [if_pos hb] at he
    have h1 := (fail_le h (e := 1) (by decide)).le
    have h2 := h1.trans (one_lt h1.ok (k := 2) (by decide)).le
    have h3 := h2.trans (want_lt h2.ok (x := ⟨#[93]⟩) (by decide)).le
    have h4 := (one_lt h1.ok (k := 2) (by decide)).le.trans (want_lt h2.ok (x := ⟨#[93]⟩) (by decide)).le
    exact absurd (h4.er he) (fail_er (by decide))
  · rw [if_neg hb] at he ⊢
    have h1 := one_lt h (k := 2) (by decide)
    have h2 := want_lt h1.le.ok (x := ⟨#[93]⟩) (by decide)
    have g := h1.back (h2.le.er he)
    have hh := hj.hd g.2
    rw [hh.2.1, if_neg hb]
    exact ⟨(hj.one (k := 2) (by decide) (h2.le.er he)).1.want (by decide) he, rfl⟩
theorem length_j (h : Ok s) (hj : J R s t) (h2 : 2 ≤ s.tk.length) (he : (lengthV s).2.er = 0) : (lengthV t).1 = (lengthV s).1 ∧ J R (lengthV s).2 (lengthV t).2 := by
  unfold lengthV at he ⊢
  rw [hj.is h2]
  split
  · rename_i h1
    rw [if_pos h1] at he
    obtain ⟨h3, h4⟩ := lenS_j (tl_lt h (is_ne h1 (by decide))).le.ok (hj.tl h2) he
    rw [h4]
    exact ⟨rfl, h3⟩
  · exact ⟨rfl, hj⟩
end
theorem EqEs.one {x y : PEx} (h : EqE false x y) : EqEs false [x] [y] := ⟨rfl, fun i hi => by
  have : i = 0 := by simp at hi; omega
  subst this; exact h⟩
theorem EqEs.nil : EqEs false [] [] := ⟨rfl, fun i hi => by simp at hi⟩
theorem EqEs.two {x y u v : PEx} (h : EqE false x y) (g : EqE false u v) : EqEs false [x, u] [y, v] := ⟨rfl, fun i hi => by
  have : i = 0 ∨ i = 1 := by simp at hi; omega
  rcases this with rfl | rfl
  · exact h
  · exact g⟩
theorem EqEs.snoc {l m : List PEx} {x y : PEx} (h : EqEs false l m) (g : EqE false x y) : EqEs false (l ++ [x]) (m ++ [y]) := by
  refine ⟨by simp [h.1], fun i hi => ?_⟩
  simp only [List.getD_eq_getElem?_getD]
  by_cases e : i < l.length
  · rw [List.getElem?_append_left e, List.getElem?_append_left (by rw [← h.1]; exact e)]
    have := h.2 i e
    simpa only [List.getD_eq_getElem?_getD] using this
  · have e2 : i = l.length := by simp at hi; omega
    subst e2
    rw [List.getElem?_append_right (Nat.le_refl _), List.getElem?_append_right (by rw [h.1]; exact Nat.le_refl _), h.1]
    simpa using g
theorem ex0_eq : EqE false ex0 ex0 := eqE_iff.2 ⟨rfl, rfl, rfl, rfl, rfl, (fun h => by cases h), EqEs.nil⟩
theorem EqEs.hd {a b : List PEx × S} (h : EqEs false a.1 b.1) : EqE false (hd1 a) (hd1 b) := by
  obtain ⟨l, s⟩ := a
  obtain ⟨m, t⟩ := b
  obtain ⟨h1, h2⟩ := h
  unfold hd1
  cases l with
  | nil =>
    cases m with
    | nil => exact ex0_eq
    | cons y m => simp at h1
  | cons x l =>
    cases m with
    | nil => simp at h1
    | cons y m => exact h2 0 (by simp)
theorem exM {k : Int} {o n : ByteArray} {m : Int} {xs ys : List PEx} {ty : PTy} {a b : Nat} (h : EqEs false xs ys) : EqE false (.mk k o n m xs ty a) (.mk k o n m ys ty b) := eqE_iff.2 ⟨rfl, rfl, rfl, rfl, rfl, (fun h => by cases h), h⟩
/-- The same question, but for places. -/
inductive QE : Qe → Qe → Prop
  | expr (d : Nat) : QE (.expr d) (.expr d)
  | bin (d : Nat) (l : Int) : QE (.bin d l) (.bin d l)
  | binL (d : Nat) (l : Int) {x y : PEx} (h : EqE false x y) : QE (.binL d l x) (.binL d l y)
  | un (d : Nat) : QE (.un d) (.un d)
  | cast (a b d : Nat) : QE (.cast a d) (.cast b d)
  | inside (d : Nat) : QE (.inside d) (.inside d)
  | post (d : Nat) : QE (.post d) (.post d)
  | posL (d : Nat) {x y : PEx} (h : EqE false x y) : QE (.posL d x) (.posL d y)
  | atom (d : Nat) : QE (.atom d) (.atom d)
  | use (nm : ByteArray) (a b d : Nat) : QE (.use nm a d) (.use nm b d)
  | betE (d : Nat) : QE (.betE d) (.betE d)
  | betL (d : Nat) {l m : List PEx} (h : EqEs false l m) : QE (.betL d l) (.betL d m)
theorem deep_same (d : Nat) (s : S) : deepS d (deepS d s) = deepS d s := by
  unfold deepS
  by_cases h : 40 < d
  · rw [if_pos h, if_pos h]
    have he : (s.fail 12).er ≠ 0 := fail_er (by decide)
    generalize s.fail 12 = q at *
    unfold S.fail
    rw [if_neg he]
  · rw [if_neg h, if_neg h]
theorem un_deep {f d : Nat} {s : S} (h : En (.un d) s (f + 1)) (he : (runE (f + 1) (.un d) s).2.er = 0) : ¬ 40 < d ∧ deepS d s = s := by
  have hd := deep_le h.1 d
  have e : runE (f + 1) (.un d) (deepS d s) = runE (f + 1) (.un d) s := by simp only [runE, deep_same]
  have h2 := (runE_le (f + 1) (.un d) (deepS d s) ⟨hd.ok, Nat.le_trans (by have := hd.len; omega) h.2.1, trivial⟩).1
  rw [e] at h2
  have h3 := h2.er he
  have h4 : ¬ 40 < d := fun h5 => by
    unfold deepS at h3
    rw [if_pos h5] at h3
    exact fail_er (by decide) h3
  exact ⟨h4, by unfold deepS; rw [if_neg h4]⟩
theorem runE_j (R : List Tk) : ∀ f q s, En q s f → ∀ q' t f', f ≤ f' → QE q q' → J R s t → Gd (runE f q s).2 → EqEs false (runE f q s).1 (runE f' q' t).1 ∧ J R (runE f q s).2 (runE f' q' t).2 := by
  intro f
  induction f with
  | zero => intro q s ⟨h, h1, _⟩; have hp := h.pos; cases q <;> (simp only [rank] at h1; omega)
  | succ f ih =>
    intro q s hen q' t f' hf hq hj g
    obtain ⟨f', rfl⟩ : ∃ k, f' = k + 1 := ⟨f' - 1, by omega⟩
    have hf : f ≤ f' := by omega
    obtain ⟨h, h1, hl⟩ := hen
    have hLe := (runE_le (f + 1) q s ⟨h, h1, hl⟩)
    have hs2 := (hLe.1.back g).2
    have hp := h.pos
    cases hq with
    | expr d =>
      simp only [rank] at h1
      have hE : En (.bin d 1) s f := ⟨h, by simp only [rank]; omega, Int.le_refl _⟩
      have ha := (runE_le f (.bin d 1) s hE).2 rfl
      simp only [runE] at g ⊢
      by_cases h2 : (runE f (.bin d 1) s).2.is ⟨#[61]⟩ = true
      · rw [if_pos h2] at g ⊢
        have ht := tl_lt ha.le.ok (is_ne h2 (by decide))
        have hz := (tl_ok ha.le.ok (is_ne h2 (by decide))).2
        have hE2 : En (.expr (d + 1)) (runE f (.bin d 1) s).2.tl f := ⟨ht.le.ok, by simp only [rank]; have := ha.le.len; omega, trivial⟩
        have hb := (runE_le f (.expr (d + 1)) _ hE2).1
        have g1 := ht.le.back (hb.back g)
        obtain ⟨k1, k2⟩ := ih _ s hE (.bin d 1) t f' hf (.bin d 1) hj g1
        obtain ⟨k3, k4⟩ := ih _ _ hE2 (.expr (d + 1)) _ f' hf (.expr _) (k2.tl g1.2) g
        rw [if_pos (by rw [k2.is g1.2]; exact h2)]
        exact ⟨.one (exM (.two k1.hd k3.hd)), k4⟩
      · rw [if_neg h2] at g ⊢
        obtain ⟨k1, k2⟩ := ih _ s hE (.bin d 1) t f' hf (.bin d 1) hj g
        rw [if_neg (by rw [k2.is g.2]; exact h2)]
        exact ⟨.one k1.hd, k2⟩
    | bin d l =>
      simp only [rank] at h1
      have hE : En (.un (d + 1)) s f := ⟨h, by simp only [rank]; omega, trivial⟩
      have ha := (runE_le f (.un (d + 1)) s hE).2 rfl
      simp only [runE] at g ⊢
      have hE2 : En (.binL d l (hd1 (runE f (.un (d + 1)) s))) (runE f (.un (d + 1)) s).2 f := ⟨ha.le.ok, by simp only [rank]; have := ha.le.len; omega, hl⟩
      have hb := (runE_le f _ _ hE2).1
      obtain ⟨k1, k2⟩ := ih _ s hE (.un (d + 1)) t f' hf (.un _) hj (hb.back g)
      exact ih _ _ hE2 _ _ f' hf (.binL d l k1.hd) k2 g
    | @binL d l x y hxy =>
      simp only [rank] at h1
      simp only [lOk] at hl
      have hh := hj.hd hs2
      simp only [runE] at g ⊢
      rw [hh.2.1]
      by_cases h2 : strV s.hd.tx < l
      · rw [if_pos h2] at g ⊢
        rw [if_pos h2]
        exact ⟨.one hxy, hj⟩
      · rw [if_neg h2] at g ⊢
        rw [if_neg h2]
        have hne := Or.inl (b := s.hd.kd ≠ 0) (str_ne h2 hl)
        have ht := tl_lt h hne
        have hz := (tl_ok h hne).2
        have hsr := str_rg s.hd.tx
        have hE : En (.bin d (strV s.hd.tx + 1)) s.tl f := ⟨ht.le.ok, by simp only [rank]; omega, by simp only [lOk]; omega⟩
        have ha := (runE_le f _ _ hE).1
        have hE2 : En (.binL d l (.mk 4 s.hd.tx eB 0 [x, hd1 (runE f (.bin d (strV s.hd.tx + 1)) s.tl)] ty0 x.at_)) (runE f (.bin d (strV s.hd.tx + 1)) s.tl).2 f := ⟨ha.ok, by simp only [rank]; have := ha.len; omega, hl⟩
        have hb := (runE_le f _ _ hE2).1
        obtain ⟨k1, k2⟩ := ih _ _ hE _ _ f' hf (.bin d (strV s.hd.tx + 1)) (hj.tl hs2) (hb.back g)
        exact ih _ _ hE2 _ _ f' hf (.binL d l (exM (.two hxy k1.hd))) k2 g
    | un d =>
      have hs3 := (hLe.2 rfl).back3 g
      obtain ⟨hd0, hds⟩ := un_deep ⟨h, h1, hl⟩ g.1
      have hdt : deepS d t = t := by unfold deepS; rw [if_neg hd0]
      have hh := hj.hd hs2
      have hah := hj.ahead 1 (by omega)
      simp only [rank] at h1
      simp only [runE, hds, hdt] at g ⊢
      rw [hh.2.1, hah]
      by_cases h2 : unOp s.hd.tx = true
      · rw [if_pos h2] at g ⊢
        rw [if_pos h2]
        have hne := Or.inl (b := s.hd.kd ≠ 0) (un_ne h2)
        have ht := tl_lt h hne
        have hz := (tl_ok h hne).2
        obtain ⟨k1, k2⟩ := ih (.un (d + 1)) s.tl ⟨ht.le.ok, by simp only [rank]; omega, trivial⟩ _ _ f' hf (.un (d + 1)) (hj.tl hs2) g
        exact ⟨.one (exM (.one k1.hd)), k2⟩
      · rw [if_neg h2] at g ⊢
        rw [if_neg h2]
        by_cases h3 : s.hd.tx = ⟨#[115, 105, 122, 101, 111, 102]⟩
        · rw [if_pos h3] at g ⊢
          rw [if_pos h3]
          have ht := tl_lt h (.inl (by rw [h3]; decide))
          have h4 := want_lt ht.le.ok (x := ⟨#[40]⟩) (by decide)
          have h5 := type_lt h4.le.ok
          have h6 := want_lt h5.le.ok (x := ⟨#[41]⟩) (by decide)
          have g5 := h6.back g.1
          have k1 := (hj.tl hs2).want (x := ⟨#[40]⟩) (by decide) (h5.le.back g5).1
          obtain ⟨k2, k3⟩ := type_j h4.le.ok k1 g5
          rw [k2]
          exact ⟨.one (exM .nil), k3.want (by decide) g.1⟩
        · rw [if_neg h3] at g ⊢
          rw [if_neg h3]
          by_cases h4 : s.hd.tx = ⟨#[40]⟩ ∧ (baseV (s.ahead 1).tx).isSome = true
          · rw [if_pos h4] at g ⊢
            rw [if_pos h4]
            have hne := Or.inl (b := s.hd.kd ≠ 0) (show s.hd.tx ≠ ⟨#[]⟩ by rw [h4.1]; decide)
            have ht := tl_lt h hne
            have hz := (tl_ok h hne).2
            exact ih (.cast s.hd.at_ d) s.tl ⟨ht.le.ok, by simp only [rank]; omega, trivial⟩ _ _ f' hf (.cast _ _ d) (hj.tl hs2) g
          · rw [if_neg h4] at g ⊢
            rw [if_neg h4]
            exact ih (.post d) s ⟨h, by simp only [rank]; omega, trivial⟩ _ _ f' hf (.post d) hj g
    | cast a b d =>
      simp only [rank] at h1
      simp only [runE] at g ⊢
      have hT := type_lt h
      have hW := want_lt hT.le.ok (x := ⟨#[41]⟩) (by decide)
      have h2 := hT.trans hW.le
      have hlen := h2.le.len
      by_cases h3 : ((typeV s).2.want ⟨#[41]⟩).is ⟨#[109, 97, 108, 108, 111, 99]⟩ = true
      · rw [if_pos h3] at g ⊢
        have ht := tl_lt h2.le.ok (is_ne h3 (by decide))
        have hz := (tl_ok h2.le.ok (is_ne h3 (by decide))).2
        have hw := want_lt ht.le.ok (x := ⟨#[40]⟩) (by decide)
        have hE : En (.inside d) (((typeV s).2.want ⟨#[41]⟩).tl.want ⟨#[40]⟩) f := ⟨hw.le.ok, by simp only [rank]; have := hw.le.len; omega, trivial⟩
        have ha := (runE_le f _ _ hE).1
        have g4 := ha.back g
        have g3 := hw.le.back g4
        have g2 := ht.le.back g3
        obtain ⟨k1, k2⟩ := type_j h hj (hW.back g2.1)
        have k3 := k2.want (x := ⟨#[41]⟩) (by decide) g2.1
        rw [if_pos (by rw [k3.is g2.2]; exact h3), k1]
        have k4 := (k3.tl g2.2).want (x := ⟨#[40]⟩) (by decide) g4.1
        obtain ⟨k5, k6⟩ := ih _ _ hE _ _ f' hf (.inside d) k4 g
        exact ⟨.one (exM (.one k5.hd)), k6⟩
      · rw [if_neg h3] at g ⊢
        have hE : En (.un (d + 1)) ((typeV s).2.want ⟨#[41]⟩) f := ⟨h2.le.ok, by simp only [rank]; omega, trivial⟩
        have ha := (runE_le f _ _ hE).1
        have g2 := ha.back g
        obtain ⟨k1, k2⟩ := type_j h hj (hW.back g2.1)
        have k3 := k2.want (x := ⟨#[41]⟩) (by decide) g2.1
        rw [if_neg (by rw [k3.is g2.2]; exact h3), k1]
        obtain ⟨k5, k6⟩ := ih _ _ hE _ _ f' hf (.un (d + 1)) k3 g
        exact ⟨.one (exM (.one k5.hd)), k6⟩
    | inside d =>
      simp only [rank] at h1
      simp only [runE] at g ⊢
      have hE : En (.expr (d + 1)) s f := ⟨h, by simp only [rank]; omega, trivial⟩
      have ha := (runE_le f _ _ hE).1
      have hw := want_lt ha.ok (x := ⟨#[41]⟩) (by decide)
      obtain ⟨k1, k2⟩ := ih _ _ hE _ _ f' hf (.expr (d + 1)) hj (hw.back g.1)
      exact ⟨.one k1.hd, k2.want (by decide) g.1⟩
    | post d =>
      simp only [rank] at h1
      simp only [runE] at g ⊢
      have hE : En (.atom d) s f := ⟨h, by simp only [rank]; omega, trivial⟩
      have ha := (runE_le f _ _ hE).2 rfl
      have hE2 : En (.posL d (hd1 (runE f (.atom d) s))) (runE f (.atom d) s).2 f := ⟨ha.le.ok, by simp only [rank]; have := ha.le.len; omega, trivial⟩
      have hb := (runE_le f _ _ hE2).1
      obtain ⟨k1, k2⟩ := ih _ _ hE _ _ f' hf (.atom d) hj (hb.back g)
      exact ih _ _ hE2 _ _ f' hf (.posL d k1.hd) k2 g
    | @posL d x y hxy =>
      simp only [rank] at h1
      simp only [runE] at g ⊢
      rw [hj.is hs2, hj.is hs2, hj.is hs2]
      by_cases h2 : s.is ⟨#[91]⟩ = true
      · rw [if_pos h2] at g ⊢
        rw [if_pos h2]
        have ht := tl_lt h (is_ne h2 (by decide))
        have hz := (tl_ok h (is_ne h2 (by decide))).2
        have hE : En (.expr (d + 1)) s.tl f := ⟨ht.le.ok, by simp only [rank]; omega, trivial⟩
        have ha := (runE_le f _ _ hE).1
        have hw := want_lt ha.ok (x := ⟨#[93]⟩) (by decide)
        have hE2 : En (.posL d (.mk 7 eB eB 0 [x, hd1 (runE f (.expr (d + 1)) s.tl)] ty0 x.at_)) ((runE f (.expr (d + 1)) s.tl).2.want ⟨#[93]⟩) f := ⟨hw.le.ok, by simp only [rank]; have := ha.len; have := hw.le.len; omega, trivial⟩
        have hb := (runE_le f _ _ hE2).1
        have g2 := hb.back g
        obtain ⟨k1, k2⟩ := ih _ _ hE _ _ f' hf (.expr (d + 1)) (hj.tl hs2) (hw.back g2.1)
        exact ih _ _ hE2 _ _ f' hf (.posL d (exM (.two hxy k1.hd))) (k2.want (by decide) g2.1) g
      · rw [if_neg h2] at g ⊢
        rw [if_neg h2]
        by_cases h3 : s.is ⟨#[46]⟩ = true
        · rw [if_pos h3] at g ⊢
          rw [if_pos h3]
          have ht := tl_lt h (is_ne h3 (by decide))
          have hz := (tl_ok h (is_ne h3 (by decide))).2
          have ho := (one_lt ht.le.ok (k := 1) (by decide)).le
          have hE2 : En (.posL d (.mk 8 eB (s.tl.oneT 1) 0 [x] ty0 x.at_)) (s.tl.one 1) f := ⟨ho.ok, by simp only [rank]; have := ho.len; omega, trivial⟩
          have hb := (runE_le f _ _ hE2).1
          have g2 := hb.back g
          obtain ⟨k1, k2⟩ := (hj.tl hs2).one (k := 1) (by decide) g2.1
          rw [k2]
          exact ih _ _ hE2 _ _ f' hf (.posL d (exM (.one hxy))) k1 g
        · rw [if_neg h3] at g ⊢
          rw [if_neg h3]
          by_cases h4 : s.is ⟨#[45, 62]⟩ = true
          · rw [if_pos h4] at g ⊢
            rw [if_pos h4]
            have ht := tl_lt h (is_ne h4 (by decide))
            have hz := (tl_ok h (is_ne h4 (by decide))).2
            have ho := (one_lt ht.le.ok (k := 1) (by decide)).le
            have hE2 : En (.posL d (.mk 8 eB (s.tl.oneT 1) 0 [.mk 3 ⟨#[42]⟩ eB 0 [x] ty0 x.at_] ty0 x.at_)) (s.tl.one 1) f := ⟨ho.ok, by simp only [rank]; have := ho.len; omega, trivial⟩
            have hb := (runE_le f _ _ hE2).1
            have g2 := hb.back g
            obtain ⟨k1, k2⟩ := (hj.tl hs2).one (k := 1) (by decide) g2.1
            rw [k2]
            exact ih _ _ hE2 _ _ f' hf (.posL d (exM (.one (exM (.one hxy))))) k1 g
          · rw [if_neg h4] at g ⊢
            rw [if_neg h4]
            exact ⟨.one hxy, hj⟩
    | atom d =>
      simp only [rank] at h1
      have hh := hj.hd hs2
      simp only [runE] at g ⊢
      rw [hh.1, hh.2.1, hj.is hs2]
      by_cases h2 : s.hd.kd = 2
      · rw [if_pos h2] at g ⊢
        rw [if_pos h2]
        exact ⟨.one (exM .nil), hj.tl hs2⟩
      · rw [if_neg h2] at g ⊢
        rw [if_neg h2]
        by_cases h3 : s.hd.kd = 1
        · rw [if_pos h3] at g ⊢
          rw [if_pos h3]
          have hne := Or.inr (a := s.hd.tx ≠ ⟨#[]⟩) (show s.hd.kd ≠ 0 by rw [h3]; decide)
          have ht := tl_lt h hne
          have hz := (tl_ok h hne).2
          exact ih (.use s.hd.tx s.hd.at_ d) s.tl ⟨ht.le.ok, by simp only [rank]; omega, trivial⟩ _ _ f' hf (.use _ _ _ d) (hj.tl hs2) g
        · rw [if_neg h3] at g ⊢
          rw [if_neg h3]
          by_cases h4 : s.is ⟨#[40]⟩ = true
          · rw [if_pos h4] at g ⊢
            rw [if_pos h4]
            have ht := tl_lt h (is_ne h4 (by decide))
            have hz := (tl_ok h (is_ne h4 (by decide))).2
            exact ih (.inside d) s.tl ⟨ht.le.ok, by simp only [rank]; omega, trivial⟩ _ _ f' hf (.inside d) (hj.tl hs2) g
          · rw [if_neg h4] at g
            exact absurd g.1 (fail_er (by decide))
    | use nm a b d =>
      simp only [rank] at h1
      simp only [runE] at g ⊢
      rw [hj.is hs2]
      by_cases h2 : s.is ⟨#[40]⟩ = true
      · rw [if_pos h2] at g ⊢
        rw [if_pos h2]
        have ht := tl_lt h (is_ne h2 (by decide))
        have hz := (tl_ok h (is_ne h2 (by decide))).2
        obtain ⟨k1, k2⟩ := ih (.betE (d + 1)) s.tl ⟨ht.le.ok, by simp only [rank]; omega, trivial⟩ _ _ f' hf (.betE (d + 1)) (hj.tl hs2) g
        exact ⟨.one (exM k1), k2⟩
      · rw [if_neg h2] at g ⊢
        rw [if_neg h2]
        exact ⟨.one (exM .nil), hj⟩
    | betE d =>
      simp only [rank] at h1
      simp only [runE] at g ⊢
      rw [hj.is hs2]
      by_cases h2 : s.is ⟨#[41]⟩ = true
      · rw [if_pos h2] at g ⊢
        rw [if_pos h2]
        exact ⟨.nil, hj.tl hs2⟩
      · rw [if_neg h2] at g ⊢
        rw [if_neg h2]
        have hE : En (.expr d) s f := ⟨h, by simp only [rank]; omega, trivial⟩
        have ha := (runE_le f _ _ hE).2 rfl
        have hE2 : En (.betL d [hd1 (runE f (.expr d) s)]) (runE f (.expr d) s).2 f := ⟨ha.le.ok, by simp only [rank]; have := ha.le.len; omega, trivial⟩
        have hb := (runE_le f _ _ hE2).1
        obtain ⟨k1, k2⟩ := ih _ _ hE _ _ f' hf (.expr d) hj (hb.back g)
        exact ih _ _ hE2 _ _ f' hf (.betL d (.one k1.hd)) k2 g
    | @betL d l m hlm =>
      simp only [rank] at h1
      simp only [runE] at g ⊢
      rw [hj.is hs2]
      by_cases h2 : s.is ⟨#[44]⟩ = true
      · rw [if_pos h2] at g ⊢
        rw [if_pos h2]
        have ht := tl_lt h (is_ne h2 (by decide))
        have hz := (tl_ok h (is_ne h2 (by decide))).2
        rw [← hlm.1]
        by_cases h3 : l.length = 6
        · rw [if_pos h3] at g
          exact absurd g.1 (fail_er (by decide))
        · rw [if_neg h3] at g ⊢
          rw [if_neg h3]
          have hE : En (.expr d) s.tl f := ⟨ht.le.ok, by simp only [rank]; omega, trivial⟩
          have ha := (runE_le f _ _ hE).2 rfl
          have hE2 : En (.betL d (l ++ [hd1 (runE f (.expr d) s.tl)])) (runE f (.expr d) s.tl).2 f := ⟨ha.le.ok, by simp only [rank]; have := ha.le.len; omega, trivial⟩
          have hb := (runE_le f _ _ hE2).1
          obtain ⟨k1, k2⟩ := ih _ _ hE _ _ f' hf (.expr d) (hj.tl hs2) (hb.back g)
          exact ih _ _ hE2 _ _ f' hf (.betL d (hlm.snoc k1.hd)) k2 g
      · rw [if_neg h2] at g ⊢
        rw [if_neg h2]
        exact ⟨hlm, hj.want (by decide) g.1⟩
end Pa
end Go.Proofs.Ytlobphanodhcoaa
/- A text's program does not hang on what stands behind the text: statements, functions, programs; pure. Conditions: each theorem's. -/
namespace Go.Proofs.Ytlobphanodhcoaa
open Go.RowKit Go.Maps
set_option linter.unusedVariables false
set_option linter.unusedSimpArgs false
set_option maxRecDepth 100000
open Lx Pa
namespace Pa
section
variable {R : List Tk} {s t : S}
theorem cond_j {f f' d : Nat} (h : Ok s) (h1 : 8 * s.tk.length + 5 ≤ f) (hf : f ≤ f') (hj : J R s t) (he : (condV f d s).2.er = 0) : EqEs false (condV f d s).1 (condV f' d t).1 ∧ J R (condV f d s).2 (condV f' d t).2 := by
  unfold condV at he ⊢
  have h2 := want_lt h (x := ⟨#[40]⟩) (by decide)
  have hE : En (.expr (d + 1)) (s.want ⟨#[40]⟩) f := ⟨h2.le.ok, by simp only [rank]; have := h2.le.len; omega, trivial⟩
  have ha := (runE_le f _ _ hE).1
  have hw := want_lt ha.ok (x := ⟨#[41]⟩) (by decide)
  have g := hw.back he
  obtain ⟨k1, k2⟩ := runE_j R f _ _ hE _ _ f' hf (.expr (d + 1)) (hj.want (x := ⟨#[40]⟩) (by decide) (ha.back g).1) g
  exact ⟨.one k1.hd, k2.want (by decide) he⟩
theorem maybe_j {f f' d : Nat} (h : Ok s) (h1 : 8 * s.tk.length + 5 ≤ f) (hf : f ≤ f') (hj : J R s t) (he : (maybeV f d s).2.er = 0) : EqEs false (maybeV f d s).1 (maybeV f' d t).1 ∧ J R (maybeV f d s).2 (maybeV f' d t).2 := by
  have h2 := ((maybe_lt (d := d) h h1).back he).2
  unfold maybeV at he ⊢
  rw [hj.is h2]
  by_cases h3 : s.is ⟨#[59]⟩ = true
  · rw [if_pos h3] at he ⊢
    rw [if_pos h3]
    exact ⟨.nil, hj.tl h2⟩
  · rw [if_neg h3] at he ⊢
    rw [if_neg h3]
    have hE : En (.expr (d + 1)) s f := ⟨h, by simp only [rank]; omega, trivial⟩
    have ha := (runE_le f _ _ hE).1
    have g := (want_lt ha.ok (x := ⟨#[59]⟩) (by decide)).back he
    obtain ⟨k1, k2⟩ := runE_j R f _ _ hE _ _ f' hf (.expr (d + 1)) hj g
    exact ⟨.one k1.hd, k2.want (by decide) he⟩
theorem va0_eq : EqVa false va0 va0 := ⟨rfl, rfl, rfl, fun _ => rfl⟩
theorem EqSs.nil : EqSs false [] [] := ⟨rfl, fun i hi => by simp at hi⟩
theorem EqSs.one {x y : PSt} (h : EqS false x y) : EqSs false [x] [y] := ⟨rfl, fun i hi => by
  have : i = 0 := by simp at hi; omega
  subst this; exact h⟩
theorem EqSs.two {x y u v : PSt} (h : EqS false x y) (g : EqS false u v) : EqSs false [x, u] [y, v] := ⟨rfl, fun i hi => by
  have : i = 0 ∨ i = 1 := by simp at hi; omega
  rcases this with rfl | rfl
  · exact h
  · exact g⟩
theorem snocL {α : Type} {Q : α → α → Prop} {d : α} {l m : List α} {x y : α} (h : l.length = m.length ∧ ∀ i, i < l.length → Q (l.getD i d) (m.getD i d)) (g : Q x y) :
    (l ++ [x]).length = (m ++ [y]).length ∧ ∀ i, i < (l ++ [x]).length → Q ((l ++ [x]).getD i d) ((m ++ [y]).getD i d) := by
  refine ⟨by simp [h.1], fun i hi => ?_⟩
  simp only [List.getD_eq_getElem?_getD]
  by_cases e : i < l.length
  · rw [List.getElem?_append_left e, List.getElem?_append_left (by rw [← h.1]; exact e)]
    have := h.2 i e
    simpa only [List.getD_eq_getElem?_getD] using this
  · have e2 : i = l.length := by simp at hi; omega
    subst e2
    rw [List.getElem?_append_right (Nat.le_refl _), List.getElem?_append_right (by rw [h.1]; exact Nat.le_refl _), h.1]
    simpa using g
theorem st0_eq : EqS false st0 st0 := eqS_iff.2 ⟨rfl, (fun h => by cases h), va0_eq, EqEs.nil, EqSs.nil⟩
theorem EqSs.hd {a b : List PSt × S} (h : EqSs false a.1 b.1) : EqS false (hdS a) (hdS b) := by
  obtain ⟨l, s⟩ := a
  obtain ⟨m, t⟩ := b
  obtain ⟨h1, h2⟩ := h
  unfold hdS
  cases l with
  | nil =>
    cases m with
    | nil => exact st0_eq
    | cons y m => simp at h1
  | cons x l =>
    cases m with
    | nil => simp at h1
    | cons y m => exact h2 0 (by simp)
theorem stM {k : Int} {xs ys : List PEx} {ks ls : List PSt} {u v : PVa} {a b : Nat} (h1 : EqEs false xs ys) (h2 : EqSs false ks ls) (h3 : EqVa false u v) : EqS false (.mk k xs ks u a) (.mk k ys ls v b) := eqS_iff.2 ⟨rfl, (fun h => by cases h), h3, h1, h2⟩
theorem local_j {f f' d : Nat} (h : Ok s) (h1 : 8 * s.tk.length ≤ f) (hf : f ≤ f') (hj : J R s t) (he : (localV f d s).2.er = 0) : EqS false (localV f d s).1 (localV f' d t).1 ∧ J R (localV f d s).2 (localV f' d t).2 := by
  unfold localV at he ⊢
  have hN := named_lt h
  have hL := length_le hN.le.ok
  have h2 := hN.trans hL
  have hlen := h2.le.len
  simp only at he ⊢
  by_cases h3 : (lengthV (namedV s).2).2.is ⟨#[61]⟩ = true
  · rw [if_pos h3] at he ⊢
    have ht := tl_lt h2.le.ok (is_ne h3 (by decide))
    have hz := (tl_ok h2.le.ok (is_ne h3 (by decide))).2
    have hE : En (.expr (d + 1)) (lengthV (namedV s).2).2.tl f := ⟨ht.le.ok, by simp only [rank]; omega, trivial⟩
    have ha := (runE_le f _ _ hE).1
    have g := (want_lt ha.ok (x := ⟨#[59]⟩) (by decide)).back he
    have g2 := ht.le.back (ha.back g)
    have g3 := hL.back g2
    obtain ⟨k1, k2⟩ := named_j h hj g3.1
    obtain ⟨k3, k4⟩ := length_j hN.le.ok k2 g3.2 g2.1
    rw [if_pos (by rw [k4.is g2.2]; exact h3), k3]
    obtain ⟨k5, k6⟩ := runE_j R f _ _ hE _ _ f' hf (.expr (d + 1)) (k4.tl g2.2) g
    exact ⟨stM (.one k5.hd) .nil ⟨k1.nm, k1.ty, rfl, fun h => by cases h⟩, k6.want (by decide) he⟩
  · rw [if_neg h3] at he ⊢
    have g2 := (want_lt h2.le.ok (x := ⟨#[59]⟩) (by decide)).back he
    have g3 := hL.back g2
    obtain ⟨k1, k2⟩ := named_j h hj g3.1
    obtain ⟨k3, k4⟩ := length_j hN.le.ok k2 g3.2 g2.1
    rw [if_neg (by rw [k4.is g2.2]; exact h3), k3]
    exact ⟨stM .nil .nil ⟨k1.nm, k1.ty, rfl, fun h => by cases h⟩, k4.want (by decide) he⟩
end
inductive QS : Qs → Qs → Prop
  | stmt (d : Nat) : QS (.stmt d) (.stmt d)
  | block (d : Nat) : QS (.block d) (.block d)
  | untS (d : Nat) {l m : List PSt} (h : EqSs false l m) : QS (.untS d l) (.untS d m)
def GdS (q : Qs) (s : S) : Prop := match q with | .stmt _ => Gd s | _ => s.er = 0
theorem untS_lt {f d : Nat} {l : List PSt} {s : S} (h : EnS (.untS d l) s f) (he : (runS f (.untS d l) s).2.er = 0) : Gd s := by
  cases f with
  | zero =>
    simp only [runS] at he
    have h2 := h.2
    simp only at h2
    rcases h2 with h2 | h2
    · exact absurd he h2
    · omega
  | succ f =>
    have h0 := (runS_le (f + 1) _ _ h).1
    have h1 := h.2
    simp only at h1
    simp only [runS] at he
    by_cases h2 : s.er ≠ 0
    · rw [if_pos h2] at he; exact absurd he h2
    · rw [if_neg h2] at he
      have h3 : 8 * s.tk.length + 8 ≤ f + 1 := h1.resolve_left h2
      by_cases h4 : s.is ⟨#[125]⟩ = true
      · rw [if_pos h4] at he
        exact (tl_lt h.1 (is_ne h4 (by decide))).back he
      · rw [if_neg h4] at he
        have ha := (runS_le f (.stmt d) s ⟨h.1, by simp only [rankS]; omega⟩).2 trivial
        have hb := (runS_le f (.untS d (l ++ [hdS (runS f (.stmt d) s)])) _ ⟨ha.le.ok, by
          by_cases he : (runS f (.stmt d) s).2.er = 0
          · exact .inr (by have := ha.lt he; omega)
          · exact .inl he⟩).1
        exact (ha.trans hb).back he
theorem stmt_deep {f d : Nat} {s : S} (h : EnS (.stmt d) s (f + 1)) (he : (runS (f + 1) (.stmt d) s).2.er = 0) : ¬ 40 < d ∧ deepS d s = s := by
  have hd := deep_le h.1 d
  have h1 := h.2
  simp only [rankS] at h1
  have e : runS (f + 1) (.stmt d) (deepS d s) = runS (f + 1) (.stmt d) s := by simp only [runS, deep_same]
  have h2 := (runS_le (f + 1) (.stmt d) (deepS d s) ⟨hd.ok, by simp only [rankS]; have := hd.len; omega⟩).1
  rw [e] at h2
  have h3 := h2.er he
  have h4 : ¬ 40 < d := fun h5 => by
    unfold deepS at h3
    rw [if_pos h5] at h3
    exact fail_er (by decide) h3
  exact ⟨h4, by unfold deepS; rw [if_neg h4]⟩
theorem runS_j (R : List Tk) : ∀ f q s, EnS q s f → ∀ q' t f', f ≤ f' → QS q q' → J R s t → GdS q (runS f q s).2 → EqSs false (runS f q s).1 (runS f' q' t).1 ∧ J R (runS f q s).2 (runS f' q' t).2 := by
  intro f
  induction f with
  | zero =>
    intro q s ⟨h, h1⟩ q' t f' hf hq hj g
    have hp := h.pos
    cases q with
    | stmt d => simp only [rankS] at h1; omega
    | block d => simp only [rankS] at h1; omega
    | untS d l =>
      simp only at h1
      rcases h1 with h1 | h1
      · exact absurd hj.e1 h1
      · omega
  | succ f ih =>
    intro q s hen q' t f' hf hq hj g
    obtain ⟨f', rfl⟩ : ∃ k, f' = k + 1 := ⟨f' - 1, by omega⟩
    have hf : f ≤ f' := by omega
    have hLe := runS_le (f + 1) q s hen
    obtain ⟨h, h1⟩ := hen
    have hp := h.pos
    cases hq with
    | stmt d =>
      have g : Gd (runS (f + 1) (.stmt d) s).2 := g
      obtain ⟨hd0, hds⟩ := stmt_deep ⟨h, h1⟩ g.1
      have hdt : deepS d t = t := by unfold deepS; rw [if_neg hd0]
      have hs2 := (hLe.1.back g).2
      have hh := hj.hd hs2
      simp only [rankS] at h1
      simp only [runS, hds, hdt] at g ⊢
      rw [hh.2.1, hj.is hs2, hj.is hs2, hj.is hs2, hj.is hs2, hj.is hs2, hj.is hs2]
      by_cases c1 : (baseV s.hd.tx).isSome = true
      · rw [if_pos c1] at g ⊢
        rw [if_pos c1]
        obtain ⟨k1, k2⟩ := local_j (f := f) (f' := f') (d := d) h (by omega) hf hj g.1
        exact ⟨.one k1, k2⟩
      rw [if_neg c1] at g ⊢
      rw [if_neg c1]
      by_cases c2 : s.is ⟨#[123]⟩ = true
      · rw [if_pos c2] at g ⊢
        rw [if_pos c2]
        obtain ⟨k1, k2⟩ := ih (.block d) s ⟨h, by simp only [rankS]; omega⟩ _ _ f' hf (.block d) hj g.1
        exact ⟨.one k1.hd, k2⟩
      rw [if_neg c2] at g ⊢
      rw [if_neg c2]
      by_cases c3 : s.is ⟨#[105, 102]⟩ = true
      · rw [if_pos c3] at g ⊢
        rw [if_pos c3]
        have ht := tl_lt h (is_ne c3 (by decide))
        have hz := (tl_ok h (is_ne c3 (by decide))).2
        have hc := cond_lt (f := f) (d := d) ht.le.ok (by omega)
        have hE : EnS (.stmt (d + 1)) (condV f d s.tl).2 f := ⟨hc.le.ok, by simp only [rankS]; have := hc.le.len; omega⟩
        have ha := (runS_le f _ _ hE).1
        have hl2 := hc.le.len
        by_cases c4 : (runS f (.stmt (d + 1)) (condV f d s.tl).2).2.is ⟨#[101, 108, 115, 101]⟩ = true
        · rw [if_pos c4] at g ⊢
          have ht2 := tl_lt ha.ok (is_ne c4 (by decide))
          have hz2 := (tl_ok ha.ok (is_ne c4 (by decide))).2
          have hE2 : EnS (.stmt (d + 1)) (runS f (.stmt (d + 1)) (condV f d s.tl).2).2.tl f := ⟨ht2.le.ok, by simp only [rankS]; have := ha.len; omega⟩
          have hb := (runS_le f _ _ hE2).1
          have g2 := ht2.le.back (hb.back g)
          obtain ⟨k1, k2⟩ := cond_j (f := f) (f' := f') (d := d) ht.le.ok (by omega) hf (hj.tl hs2) (ha.back g2).1
          obtain ⟨k3, k4⟩ := ih _ _ hE _ _ f' hf (.stmt (d + 1)) k2 g2
          rw [if_pos (by rw [k4.is g2.2]; exact c4)]
          obtain ⟨k5, k6⟩ := ih _ _ hE2 _ _ f' hf (.stmt (d + 1)) (k4.tl g2.2) g
          exact ⟨.one (stM k1 (.two k3.hd k5.hd) va0_eq), k6⟩
        · rw [if_neg c4] at g ⊢
          obtain ⟨k1, k2⟩ := cond_j (f := f) (f' := f') (d := d) ht.le.ok (by omega) hf (hj.tl hs2) (ha.back g).1
          obtain ⟨k3, k4⟩ := ih _ _ hE _ _ f' hf (.stmt (d + 1)) k2 g
          rw [if_neg (by rw [k4.is g.2]; exact c4)]
          exact ⟨.one (stM k1 (.one k3.hd) va0_eq), k4⟩
      rw [if_neg c3] at g ⊢
      rw [if_neg c3]
      by_cases c4 : s.is ⟨#[119, 104, 105, 108, 101]⟩ = true
      · rw [if_pos c4] at g ⊢
        rw [if_pos c4]
        have ht := tl_lt h (is_ne c4 (by decide))
        have hz := (tl_ok h (is_ne c4 (by decide))).2
        have hc := cond_lt (f := f) (d := d) ht.le.ok (by omega)
        have hE : EnS (.stmt (d + 1)) (condV f d s.tl).2 f := ⟨hc.le.ok, by simp only [rankS]; have := hc.le.len; omega⟩
        have ha := (runS_le f _ _ hE).1
        obtain ⟨k1, k2⟩ := cond_j (f := f) (f' := f') (d := d) ht.le.ok (by omega) hf (hj.tl hs2) (ha.back g).1
        obtain ⟨k3, k4⟩ := ih _ _ hE _ _ f' hf (.stmt (d + 1)) k2 g
        exact ⟨.one (stM k1 (.one k3.hd) va0_eq), k4⟩
      rw [if_neg c4] at g ⊢
      rw [if_neg c4]
      by_cases c5 : s.is ⟨#[114, 101, 116, 117, 114, 110]⟩ = true
      · rw [if_pos c5] at g ⊢
        rw [if_pos c5]
        have ht := tl_lt h (is_ne c5 (by decide))
        have hz := (tl_ok h (is_ne c5 (by decide))).2
        obtain ⟨k1, k2⟩ := maybe_j (f := f) (f' := f') (d := d) ht.le.ok (by omega) hf (hj.tl hs2) g.1
        exact ⟨.one (stM k1 .nil va0_eq), k2⟩
      rw [if_neg c5] at g ⊢
      rw [if_neg c5]
      by_cases c6 : s.is ⟨#[98, 114, 101, 97, 107]⟩ = true
      · rw [if_pos c6] at g ⊢
        rw [if_pos c6]
        exact ⟨.one (stM .nil .nil va0_eq), (hj.tl hs2).want (by decide) g.1⟩
      rw [if_neg c6] at g ⊢
      rw [if_neg c6]
      by_cases c7 : s.is ⟨#[99, 111, 110, 116, 105, 110, 117, 101]⟩ = true
      · rw [if_pos c7] at g ⊢
        rw [if_pos c7]
        exact ⟨.one (stM .nil .nil va0_eq), (hj.tl hs2).want (by decide) g.1⟩
      rw [if_neg c7] at g ⊢
      rw [if_neg c7]
      obtain ⟨k1, k2⟩ := maybe_j (f := f) (f' := f') (d := d) h (by omega) hf hj g.1
      exact ⟨.one (stM k1 .nil va0_eq), k2⟩
    | block d =>
      simp only [rankS] at h1
      simp only [runS] at g ⊢
      have g : (runS f (.untS (d + 1) []) (s.want ⟨#[123]⟩)).2.er = 0 := g
      have hw := want_lt h (x := ⟨#[123]⟩) (by decide)
      have hE : EnS (.untS (d + 1) []) (s.want ⟨#[123]⟩) f := ⟨hw.le.ok, by
        by_cases he : (s.want ⟨#[123]⟩).er = 0
        · exact .inr (by have := hw.lt he; omega)
        · exact .inl he⟩
      have g2 := untS_lt hE g
      obtain ⟨k1, k2⟩ := ih _ _ hE _ _ f' hf (.untS (d + 1) EqSs.nil) (hj.want (x := ⟨#[123]⟩) (by decide) g2.1) g
      exact ⟨.one (stM .nil k1 va0_eq), k2⟩
    | @untS d l m hlm =>
      have hg := untS_lt (f := f + 1) ⟨h, h1⟩ g
      simp only at h1
      simp only [runS] at g ⊢
      have h2 : ¬ s.er ≠ 0 := fun e => e hj.e1
      have h2' : ¬ t.er ≠ 0 := fun e => e hj.e2
      rw [if_neg h2] at g ⊢
      rw [if_neg h2', hj.is hg.2]
      have h1 : 8 * s.tk.length + 8 ≤ f + 1 := h1.resolve_left h2
      by_cases h3 : s.is ⟨#[125]⟩ = true
      · rw [if_pos h3] at g ⊢
        rw [if_pos h3]
        exact ⟨hlm, hj.tl hg.2⟩
      · rw [if_neg h3] at g ⊢
        rw [if_neg h3]
        have hE : EnS (.stmt d) s f := ⟨h, by simp only [rankS]; omega⟩
        have ha := (runS_le f _ _ hE).2 trivial
        have hE2 : EnS (.untS d (l ++ [hdS (runS f (.stmt d) s)])) (runS f (.stmt d) s).2 f := ⟨ha.le.ok, by
          by_cases he : (runS f (.stmt d) s).2.er = 0
          · exact .inr (by have := ha.lt he; omega)
          · exact .inl he⟩
        have g2 := untS_lt hE2 g
        obtain ⟨k1, k2⟩ := ih _ _ hE _ _ f' hf (.stmt d) hj g2
        exact ih _ _ hE2 _ _ f' hf (.untS d (snocL hlm k1.hd)) k2 g
theorem untF_j (R : List Tk) : ∀ f l (s : S), Ok s → ∀ l' t f', f ≤ f' → EqL (EqFd false) fd0 l l' → J R s t → s.tk.length < f → (untF f l s).2.er = 0 → EqL (EqFd false) fd0 (untF f l s).1 (untF f' l' t).1 ∧ J R (untF f l s).2 (untF f' l' t).2 := by
  intro f
  induction f with
  | zero => intro l s h l' t f' hf hl hj hlt; omega
  | succ f ih =>
    intro l s h l' t f' hf hl hj hlt he
    obtain ⟨f', rfl⟩ : ∃ k, f' = k + 1 := ⟨f' - 1, by omega⟩
    simp only [untF] at he ⊢
    have h2 : ¬ s.er ≠ 0 := fun e => e hj.e1
    have h2' : ¬ t.er ≠ 0 := fun e => e hj.e2
    rw [if_neg h2] at he ⊢
    rw [if_neg h2']
    have hN := named_lt h
    have hw := hN.trans (want_lt hN.le.ok (x := ⟨#[59]⟩) (by decide)).le
    have hu := untF_le f (l ++ [⟨(namedV s).1.nm, (namedV s).1.ty, (namedV s).1.at_⟩]) _ hw.le.ok
    by_cases h3 : s.is ⟨#[125]⟩ = true
    · rw [if_pos h3] at he ⊢
      have h5 := hj.two (is_ne h3 (by decide))
      rw [if_pos (by rw [hj.is h5]; exact h3)]
      exact ⟨hl, hj.tl h5⟩
    · rw [if_neg h3] at he ⊢
      have h5 := ((hw.trans hu).back he).2
      rw [if_neg (by rw [hj.is h5]; exact h3)]
      have e1 := hu.er he
      have e2 := (want_lt hN.le.ok (x := ⟨#[59]⟩) (by decide)).back e1
      obtain ⟨k1, k2⟩ := named_j h hj e2.1
      exact ih _ _ hw.le.ok _ _ f' (by omega) (snocL hl ⟨k1.nm, k1.ty, fun h => by cases h⟩) (k2.want (by decide) e1) (by have := hw.lt e1; omega) he
theorem betPL_j (R : List Tk) : ∀ f l (s : S), Ok s → s.tk.length + 1 ≤ f → ∀ l' t f', f ≤ f' → EqVas false l l' → J R s t → (betPL f l s).2.er = 0 → EqVas false (betPL f l s).1 (betPL f' l' t).1 ∧ J R (betPL f l s).2 (betPL f' l' t).2 := by
  intro f
  induction f with
  | zero => intro l s h h1; omega
  | succ f ih =>
    intro l s h h1 l' t f' hf hl hj he
    obtain ⟨f', rfl⟩ : ∃ k, f' = k + 1 := ⟨f' - 1, by omega⟩
    simp only [betPL] at he ⊢
    by_cases h2 : s.is ⟨#[44]⟩ = true
    · rw [if_pos h2] at he ⊢
      have h5 := hj.two (is_ne h2 (by decide))
      have ht := tl_lt h (is_ne h2 (by decide))
      have hz := (tl_ok h (is_ne h2 (by decide))).2
      rw [if_pos (show t.is ⟨#[44]⟩ = true by rw [hj.is h5]; exact h2), ← hl.1]
      by_cases h3 : l.length = 6
      · rw [if_pos h3] at he
        exact absurd he (fail_er (by decide))
      · rw [if_neg h3] at he ⊢
        rw [if_neg h3]
        have hnl := (named_lt ht.le.ok).le
        have hr := betPL_le f (l ++ [(namedV s.tl).1]) _ hnl.ok (by have := hnl.len; omega)
        obtain ⟨k1, k2⟩ := named_j ht.le.ok (hj.tl h5) (hr.er he)
        exact ih _ _ hnl.ok (by have := hnl.len; omega) _ _ f' (by omega) (snocL hl k1) k2 he
    · rw [if_neg h2] at he ⊢
      have h5 := ((want_lt h (x := ⟨#[41]⟩) (by decide)).back he).2
      rw [if_neg (by rw [hj.is h5]; exact h2)]
      exact ⟨hl, hj.want (by decide) he⟩
section
variable {R : List Tk} {s t : S}
theorem J.len (hj : J R s t) (hR : R ≠ []) : s.tk.length ≤ t.tk.length := by
  obtain ⟨e1, e2, A, B, p, hA, hB, hm, hk⟩ := hj
  have hl := congrArg List.length hm
  simp at hl
  have : 1 ≤ R.length := by cases R with | nil => exact absurd rfl hR | cons a R => simp
  rw [hA, hB]
  simp
  omega
theorem betP_j (hR : R ≠ []) (h : Ok s) (hj : J R s t) (he : (betP s).2.er = 0) (h2 : 2 ≤ s.tk.length) : EqVas false (betP s).1 (betP t).1 ∧ J R (betP s).2 (betP t).2 := by
  unfold betP at he ⊢
  rw [hj.is h2]
  by_cases h3 : s.is ⟨#[41]⟩ = true
  · rw [if_pos h3] at he ⊢
    rw [if_pos h3]
    exact ⟨⟨rfl, fun i hi => by simp at hi⟩, hj.tl h2⟩
  · rw [if_neg h3] at he ⊢
    rw [if_neg h3]
    have hnl := (named_lt h).le
    have hr := betPL_le ((namedV s).2.tk.length + 1) [(namedV s).1] _ hnl.ok (Nat.le_refl _)
    obtain ⟨k1, k2⟩ := named_j h hj (hr.er he)
    exact betPL_j R _ _ _ hnl.ok (Nat.le_refl _) _ _ _ (by have := k2.len hR; omega) (eqVa_one.2 k1) k2 he
theorem struct_j (hR : R ≠ []) (h : Ok s) (hj : J R s t) (he : (structV s).2.er = 0) : EqSr false (structV s).1 (structV t).1 ∧ J R (structV s).2 (structV t).2 := by
  unfold structV at he ⊢
  have h1 := want_lt h (x := ⟨#[115, 116, 114, 117, 99, 116]⟩) (by decide)
  have h2 := one_lt h1.le.ok (k := 1) (by decide)
  have h3 := want_lt h2.le.ok (x := ⟨#[123]⟩) (by decide)
  have h4 := untF_le ((((s.want ⟨#[115, 116, 114, 117, 99, 116]⟩).one 1).want ⟨#[123]⟩).tk.length + 1) [] _ h3.le.ok
  have h5 := want_lt h4.ok (x := ⟨#[59]⟩) (by decide)
  simp only at he ⊢
  have e4 := h5.le.er he
  have e3 := h4.er e4
  have e2 := h3.le.er e3
  have e1 := h2.le.er e2
  have k1 := hj.want (x := ⟨#[115, 116, 114, 117, 99, 116]⟩) (by decide) e1
  obtain ⟨k2, k2b⟩ := k1.one (k := 1) (by decide) e2
  have k3 := k2.want (x := ⟨#[123]⟩) (by decide) e3
  obtain ⟨k4, k5⟩ := untF_j R _ [] _ h3.le.ok [] _ _ (by have := k3.len hR; exact Nat.succ_le_succ this) ⟨rfl, fun i hi => by simp at hi⟩ k3 (Nat.lt_succ_self _) e4
  exact ⟨⟨k2b.symm, (fun h => by cases h), k4⟩, k5.want (by decide) he⟩
theorem func_j {v u : PVa} (hv : EqVa false v u) (hR : R ≠ []) (h : Ok s) (hj : J R s t) (h2 : 2 ≤ s.tk.length) (he : (funcV v s).2.er = 0) : EqFn false (funcV v s).1 (funcV u t).1 ∧ J R (funcV v s).2 (funcV u t).2 := by
  unfold funcV at he ⊢
  simp only at he ⊢
  have h1 := betP_le' h
  have hE : EnS (.block 0) (betP s).2 (fuelOf (betP s).2) := ⟨h1.ok, by simp only [rankS]; unfold fuelOf; omega⟩
  have h3 := (runS_le _ _ _ hE).1
  obtain ⟨k1, k2⟩ := betP_j hR h hj (h3.er he) h2
  have hlen := k2.len hR
  obtain ⟨k3, k4⟩ := runS_j R _ _ _ hE _ _ (fuelOf (betP t).2) (by unfold fuelOf; omega) (.block 0) k2 he
  exact ⟨⟨hv.nm, hv.ty, (fun h => by cases h), k1, k3.hd⟩, k4⟩
theorem typ_struct {s : S} (h : Ok s) (hi : s.is ⟨#[115, 116, 114, 117, 99, 116]⟩ = true) (he : (namedV s).2.er = 0) : 4 ≤ s.tk.length := by
  have hx : s.hd.tx = ⟨#[115, 116, 114, 117, 99, 116]⟩ := by unfold S.is at hi; exact of_decide_eq_true hi
  have hb : baseV s.hd.tx = some 4 := by rw [hx]; decide
  have h1 := tl_lt h (is_ne hi (by decide))
  have h1z := (tl_ok h (is_ne hi (by decide))).2
  have h2 := one_lt h1.le.ok (k := 1) (by decide)
  have h3 := stars_le 4 0 _ h2.le.ok
  unfold namedV at he
  simp only at he
  have hT : (typeV s).2 = (starsV 4 0 (s.tl.one 1)).2 := by
    unfold typeV
    rw [hb]
    simp only [if_true]
    generalize starsV 4 0 (s.tl.one 1) = q
    obtain ⟨a, q⟩ := q
    cases a <;> rfl
  rw [hT] at he
  have h4 := one_lt h3.ok (k := 1) (by decide)
  have g4 := h4.back he
  have g3 := h3.back g4
  have := h2.lt g3.1
  have := g3.2
  omega
theorem top_j {p p' : PPr} (hP : EqP false p p') (hR : R ≠ []) (h : Ok s) (hj : J R s t) (he : (topV p s).2.er = 0) : EqP false (topV p s).1 (topV p' t).1 ∧ J R (topV p s).2 (topV p' t).2 := by
  have h2 := ((topV_lt (p := p) h).back he).2
  unfold topV at he ⊢
  rw [hj.is h2]
  by_cases c1 : s.is ⟨#[115, 116, 114, 117, 99, 116]⟩ = true ∧ (s.ahead 2).tx = ⟨#[123]⟩
  · rw [if_pos c1] at he ⊢
    have h4 : 4 ≤ s.tk.length := by
      have k := c1.2
      obtain ⟨⟨A, q, hA⟩, _⟩ := h
      unfold S.ahead at k
      rw [hA] at k h2 ⊢
      match A with
      | [] => simp at h2
      | [a] => simp at k
      | [a, b] => simp at k
      | a :: b :: c :: A => simp
    rw [if_pos ⟨c1.1, by rw [hj.ahead 2 h4]; exact c1.2⟩]
    obtain ⟨k1, k2⟩ := struct_j hR h hj he
    exact ⟨⟨snocL hP.ss k1, hP.vs, hP.fs⟩, k2⟩
  · rw [if_neg c1] at he ⊢
    have hN := named_lt h
    have hN0 : (namedV s).2.er = 0 := by
      by_cases c2 : (namedV s).2.is ⟨#[40]⟩ = true
      · simp only [if_pos c2] at he
        exact (tl_lt hN.le.ok (is_ne c2 (by decide))).le.er ((funcV_le (v := (namedV s).1) (tl_lt hN.le.ok (is_ne c2 (by decide))).le.ok).er he)
      · simp only [if_neg c2] at he
        have h5 := length_le hN.le.ok
        exact h5.er ((want_lt h5.ok (x := ⟨#[59]⟩) (by decide)).le.er he)
    have c1' : ¬ (s.is ⟨#[115, 116, 114, 117, 99, 116]⟩ = true ∧ (t.ahead 2).tx = ⟨#[123]⟩) := fun e => c1 ⟨e.1, by rw [← hj.ahead 2 (typ_struct h e.1 hN0)]; exact e.2⟩
    rw [if_neg c1']
    obtain ⟨k1, k2⟩ := named_j h hj hN0
    by_cases c2 : (namedV s).2.is ⟨#[40]⟩ = true
    · simp only [if_pos c2] at he ⊢
      have ht := tl_lt hN.le.ok (is_ne c2 (by decide))
      have h5 := k2.two (is_ne c2 (by decide))
      rw [if_pos (by rw [k2.is h5]; exact c2)]
      have h6 : 2 ≤ (namedV s).2.tl.tk.length := by
        have hE : EnS (.block 0) (betP (namedV s).2.tl).2 (fuelOf (betP (namedV s).2.tl).2) := ⟨(betP_le' ht.le.ok).ok, by simp only [rankS]; unfold fuelOf; omega⟩
        have := (runS_le _ _ _ hE).2 trivial
        exact ((betP_le' ht.le.ok).back (this.back he)).2
      obtain ⟨k3, k4⟩ := func_j k1 hR ht.le.ok (k2.tl h5) h6 he
      exact ⟨⟨hP.ss, hP.vs, snocL hP.fs k3⟩, k4⟩
    · simp only [if_neg c2] at he ⊢
      have hL := length_le hN.le.ok
      have g := (want_lt hL.ok (x := ⟨#[59]⟩) (by decide)).back he
      have g2 := hL.back g
      rw [if_neg (by rw [k2.is g2.2]; exact c2)]
      obtain ⟨k3, k4⟩ := length_j hN.le.ok k2 g2.2 g.1
      rw [k3]
      exact ⟨⟨hP.ss, snocL hP.vs ⟨k1.nm, k1.ty, rfl, fun h => by cases h⟩, hP.fs⟩, k4.want (by decide) he⟩
end
theorem progL_er : ∀ f p (s : S), Ok s → Le s (progL f p s).2 := by
  intro f
  induction f with
  | zero => intro p s h; simp only [progL]; exact Le.refl h
  | succ f ih =>
    intro p s h
    simp only [progL]
    split
    · exact Le.refl h
    · have h1 := (topV_lt (p := p) h).le
      exact h1.trans (ih _ _ h1.ok)
/-- A reader at the end of the first one's tokens. -/
theorem progL_j {R : List Tk} (hR : R ≠ []) : ∀ f p (s : S), Ok s → s.tk.length < f → ∀ p' t f', EqP false p p' → J R s t → t.tk.length < f' → (progL f p s).2.er = 0 →
    ∃ q f'', EqP false (progL f p s).1 q ∧ R.length < f'' ∧ progL f' p' t = progL f'' q ⟨R, 0⟩ := by
  intro f
  induction f with
  | zero => intro p s h h1; omega
  | succ f ih =>
    intro p s h h1 p' t f' hP hj hf he
    obtain ⟨f', rfl⟩ : ∃ k, f' = k + 1 := ⟨f' - 1, by omega⟩
    simp only [progL] at he ⊢
    by_cases h0 : s.hd.kd = 0
    · rw [if_pos h0] at he ⊢
      obtain ⟨e1, e2, A, B, q, hA, hB, hm, hk⟩ := hj
      cases A with
      | cons a A =>
        exfalso
        unfold S.hd at h0
        rw [hA] at h0
        exact hk a (by simp) h0
      | nil =>
        have hB0 : B = [] := by simpa using hm
        subst hB0
        obtain ⟨tk, er⟩ := t
        simp only [List.nil_append] at hB e2 hf
        subst hB
        subst e2
        exact ⟨p', f' + 1, hP, hf, by simp only [progL]⟩
    · rw [if_neg h0] at he ⊢
      have ht := topV_lt (p := p) h
      have hl := progL_er f (topV p s).1 _ ht.le.ok
      have e1 := hl.er he
      have h5 := (ht.back e1).2
      rw [if_neg (by rw [(hj.hd h5).1]; exact h0)]
      obtain ⟨k1, k2⟩ := top_j hP hR h hj e1
      have hlt := ht.lt e1
      have hlt2 : (topV p' t).2.tk.length < f' := by
        obtain ⟨_, _, A, B, q, hA, hB, hm, hk⟩ := hj
        obtain ⟨_, _, A', B', q', hA', hB', hm', hk'⟩ := k2
        have hl1 := congrArg List.length hm
        have hl2 := congrArg List.length hm'
        simp at hl1 hl2
        rw [hA, hA'] at hlt
        rw [hB] at hf
        rw [hB']
        simp at hlt hf ⊢
        omega
      exact ih _ _ ht.le.ok (by omega) _ _ f' k1 k2 hlt2 he
end Pa
end Go.Proofs.Ytlobphanodhcoaa
/- Two texts one behind the other: their program; pure. Conditions: each theorem's. -/
namespace Go.Proofs.Ytlobphanodhcoaa
open Go.RowKit Go.Maps
set_option linter.unusedVariables false
set_option linter.unusedSimpArgs false
set_option maxRecDepth 100000
open Lx Pa
namespace Lx
theorem appL (A D : ByteArray) : (A ++ D).data.toList = A.data.toList ++ D.data.toList := by simp
theorem tokV_kd (l : List UInt8) : (tokV l).1 ≠ 0 := by
  unfold tokV
  split
  · show (2 : Int) ≠ 0; decide
  · split
    · unfold nwV
      split
      · show (1 : Int) ≠ 0; decide
      · dsimp only
        split <;> decide
    · show (3 : Int) ≠ 0; decide
theorem lexes_kd {l : List UInt8} {A : List (Int × List UInt8)} (h : Lexes l A) : ∀ p ∈ A, p.1 ≠ 0 := by
  induction h with
  | nil h => simp
  | cons h hg hn hr ih =>
    intro p hp
    rcases List.mem_cons.1 hp with rfl | hp
    · exact tokV_kd _
    · exact ih p hp
theorem lx_full {s : ByteArray} {l : List UInt8} {A : List (Int × List UInt8)} (h : Lexes l A) : ∀ f j T, l = s.data.toList.drop j → s.size - j < f → j ≤ s.size → T.length ≤ 2500 → 2500 < T.length + A.length → (lx s f j T).er = 3 := by
  induction h with
  | nil h =>
    intro f j T hl hf hj hT hT2
    simp at hT2
    omega
  | cons h hg hn hr ih =>
    rename_i l g rest
    intro f j T hl hf hj hT hT2
    subst hl
    have hdd : ∀ m, (s.data.toList.drop j).drop m = s.data.toList.drop (j + m) := fun m => List.drop_drop ..
    rw [List.length_drop, sz] at hg
    have hnl := tokV_le (l := (s.data.toList.drop j).drop g) (by rw [List.length_drop, List.length_drop, sz]; omega)
    rw [List.length_drop, List.length_drop, sz] at hnl
    obtain ⟨f, rfl⟩ : ∃ f', f = f' + 1 := ⟨f - 1, by omega⟩
    rw [hdd] at hn hnl ih
    rw [lx, h]
    simp only [List.length_cons] at hT2 ⊢
    rw [if_neg (by simp), if_neg (by omega), if_neg hn]
    split
    · rfl
    · exact ih f (j + g + (tokV (s.data.toList.drop (j + g))).2) _ (by rw [hdd, Nat.add_assoc]) (by omega) (by omega) (by simp; omega) (by simp; omega)
theorem lexV_full {s : ByteArray} {A : List (Int × List UInt8)} (h : Lexes s.data.toList A) (hA : 2500 < A.length) : (lexV s).er = 3 := by
  unfold lexV
  split
  · rfl
  · exact lx_full h (s.size + 1) 0 [] rfl (by omega) (Nat.zero_le _) (by simp) (by simpa using hA)
end Lx
namespace Pa
theorem EqE.symm {x y : PEx} (h : EqE false x y) : EqE false y x := by
  induction h with
  | mk ha hl hk ih => exact .mk (fun e => by cases e) hl.symm (fun i hi => ih i (by omega))
theorem EqEs.symm {l m : List PEx} (h : EqEs false l m) : EqEs false m l := ⟨h.1.symm, fun i hi => (h.2 i (by rw [h.1]; exact hi)).symm⟩
theorem EqVa.symm {x y : PVa} (h : EqVa false x y) : EqVa false y x := ⟨h.nm.symm, h.ty.symm, h.ln.symm, fun e => by cases e⟩
theorem EqVas.symm {l m : List PVa} (h : EqVas false l m) : EqVas false m l := ⟨h.1.symm, fun i hi => (h.2 i (by rw [h.1]; exact hi)).symm⟩
theorem EqS.symm {x y : PSt} (h : EqS false x y) : EqS false y x := by
  induction h with
  | mk ha hv he hl hk ih => exact .mk (fun e => by cases e) hv.symm he.symm hl.symm (fun i hi => ih i (by omega))
theorem EqL.symm {α : Type} {Q : α → α → Prop} {d : α} (hQ : ∀ x y, Q x y → Q y x) {l m : List α} (h : EqL Q d l m) : EqL Q d m l := ⟨h.1.symm, fun i hi => hQ _ _ (h.2 i (by rw [h.1]; exact hi))⟩
theorem EqFd.symm {x y : PFd} (h : EqFd false x y) : EqFd false y x := ⟨h.nm.symm, h.ty.symm, fun e => by cases e⟩
theorem EqSr.symm {x y : PSr} (h : EqSr false x y) : EqSr false y x := ⟨h.nm.symm, fun e => (by cases e), h.fds.symm fun _ _ => EqFd.symm⟩
theorem EqFn.symm {x y : PFn} (h : EqFn false x y) : EqFn false y x := ⟨h.nm.symm, h.ty.symm, fun e => (by cases e), h.params.symm, h.body.symm⟩
theorem EqP.symm {p q : PPr} (h : EqP false p q) : EqP false q p := ⟨h.ss.symm fun _ _ => EqSr.symm, h.vs.symm, h.fs.symm fun _ _ => EqFn.symm⟩
/-- Two programs, one behind the other. -/
def appP (p q : PPr) : PPr := ⟨p.ss ++ q.ss, p.vs ++ q.vs, p.fs ++ q.fs⟩
def pr0 : PPr := ⟨[], [], []⟩
theorem topV_app (p : PPr) (s : S) : topV p s = (appP p (topV pr0 s).1, (topV pr0 s).2) := by
  unfold topV appP pr0
  split
  · simp
  · simp only
    split <;> simp
theorem appP_assoc (p q r : PPr) : appP (appP p q) r = appP p (appP q r) := by unfold appP; simp
theorem progL_app : ∀ f p (s : S), progL f p s = (appP p (progL f pr0 s).1, (progL f pr0 s).2) := by
  intro f
  induction f with
  | zero => intro p s; simp only [progL]; unfold appP pr0; simp
  | succ f ih =>
    intro p s
    simp only [progL]
    split
    · unfold appP pr0; simp
    · rw [topV_app p s]
      rw [ih (appP p (topV pr0 s).1), ih (topV pr0 s).1, appP_assoc]
theorem pr_end {A1 : List Tk} {q : Nat} {A : List (Int × List UInt8)} (h : (A1 ++ [(⟨0, ⟨#[]⟩, q⟩ : Tk)]).map pr = A ++ [(0, [])]) : A1.map pr = A := by
  rw [List.map_append] at h
  exact (List.append_inj' h (by simp)).1
theorem EqP.nil : EqP false pr0 pr0 := ⟨⟨rfl, fun i hi => by simp [pr0] at hi⟩, ⟨rfl, fun i hi => by simp [pr0] at hi⟩, ⟨rfl, fun i hi => by simp [pr0] at hi⟩⟩
theorem parse_ok {a : ByteArray} (h : (parseV a).2.2 = 0) : (lexV a).er = 0 ∧ (progL ((lexV a).tk.length + 1) pr0 ⟨(lexV a).tk, 0⟩).2.er = 0 ∧ (parseV a).1 = (progL ((lexV a).tk.length + 1) pr0 ⟨(lexV a).tk, 0⟩).1 := by
  unfold parseV at h ⊢
  by_cases h1 : (lexV a).er ≠ 0
  · rw [if_pos h1] at h; exact absurd h h1
  · rw [if_neg h1] at h ⊢
    have h1' : (lexV a).er = 0 := by omega
    simp only at h ⊢
    by_cases h2 : (progV ⟨(lexV a).tk, 0⟩).2.er ≠ 0
    · rw [if_pos h2] at h; exact absurd h h2
    · rw [if_neg h2]
      exact ⟨h1', by have : (progV ⟨(lexV a).tk, 0⟩).2.er = 0 := by omega
                     exact this, rfl⟩
theorem ok_cut {T : List Tk} (h : Ok ⟨T, 0⟩) {A : List (Int × List UInt8)} (hm : T.map pr = A ++ [(0, [])]) : ∃ A1 q, T = A1 ++ [⟨0, ⟨#[]⟩, q⟩] ∧ A1.map pr = A := by
  obtain ⟨⟨A1, q, h1⟩, _⟩ := h
  dsimp only at h1
  subst h1
  exact ⟨A1, q, rfl, pr_end hm⟩
theorem kd_of {A1 : List Tk} {A : List (Int × List UInt8)} (h : A1.map pr = A) (hk : ∀ p ∈ A, p.1 ≠ 0) : ∀ x ∈ A1, x.kd ≠ 0 := fun x hx => hk (pr x) (by rw [← h]; exact List.mem_map_of_mem hx)
/-- Of two texts one behind the other come the parts of the one, then of the other, or there are too many tokens. -/
theorem parse_join {a b : ByteArray} (ha : (parseV a).2.2 = 0) (hb : (parseV b).2.2 = 0) (hs : a.size ≤ 2000) (hs' : b.size ≤ 2000) :
    (parseV (a ++ ⟨#[10]⟩ ++ b)).2.2 = 3 ∨ (parseV (a ++ ⟨#[10]⟩ ++ b)).2.2 = 0 ∧ EqP false (parseV (a ++ ⟨#[10]⟩ ++ b)).1 (appP (parseV a).1 (parseV b).1) := by
  obtain ⟨la, pa, va⟩ := parse_ok ha
  obtain ⟨lb, pb, vb⟩ := parse_ok hb
  obtain ⟨A, hA, hmA⟩ := lexV_to la
  obtain ⟨B, hB, hmB⟩ := lexV_to lb
  have hoa := lex_end la
  have hob := lex_end lb
  have hxl : (a ++ ⟨#[10]⟩ ++ b).data.toList = a.data.toList ++ 10 :: b.data.toList := by rw [appL, appL]; simp
  have hxs : (a ++ ⟨#[10]⟩ ++ b).size ≤ 8192 := by rw [← sz, hxl]; simp only [List.length_append, List.length_cons, sz]; omega
  have hJ : Lexes (a ++ ⟨#[10]⟩ ++ b).data.toList (A ++ B) := by rw [hxl]; exact lexes_join hA hB
  by_cases hlen : (A ++ B).length ≤ 2500
  rotate_left
  · left
    have := lexV_full hJ (by omega)
    unfold parseV
    rw [if_pos (by omega)]
    exact this
  · right
    obtain ⟨lc, hmC⟩ := lexV_of hxs hJ hlen
    have hoc := lex_end lc
    have hpv : parseV (a ++ ⟨#[10]⟩ ++ b) = if (lexV (a ++ ⟨#[10]⟩ ++ b)).er ≠ 0 then (⟨[], [], []⟩, (lexV (a ++ ⟨#[10]⟩ ++ b)).pl, (lexV (a ++ ⟨#[10]⟩ ++ b)).er) else if (progL ((lexV (a ++ ⟨#[10]⟩ ++ b)).tk.length + 1) pr0 ⟨(lexV (a ++ ⟨#[10]⟩ ++ b)).tk, 0⟩).2.er ≠ 0 then (⟨[], [], []⟩, (progL ((lexV (a ++ ⟨#[10]⟩ ++ b)).tk.length + 1) pr0 ⟨(lexV (a ++ ⟨#[10]⟩ ++ b)).tk, 0⟩).2.hd.at_, (progL ((lexV (a ++ ⟨#[10]⟩ ++ b)).tk.length + 1) pr0 ⟨(lexV (a ++ ⟨#[10]⟩ ++ b)).tk, 0⟩).2.er) else ((progL ((lexV (a ++ ⟨#[10]⟩ ++ b)).tk.length + 1) pr0 ⟨(lexV (a ++ ⟨#[10]⟩ ++ b)).tk, 0⟩).1, 0, 0) := rfl
    rw [hpv, if_neg (by omega), va, vb]
    clear hpv va vb
    generalize (lexV a).tk = Ta at *
    generalize (lexV b).tk = Tb at *
    generalize (lexV (a ++ ⟨#[10]⟩ ++ b)).tk = Tc at *
    obtain ⟨A1, qa, rfl, hA1⟩ := ok_cut hoa hmA
    obtain ⟨B1, qb, rfl, hB1⟩ := ok_cut hob hmB
    obtain ⟨C1, qc, rfl, hC1⟩ := ok_cut hoc hmC
    obtain ⟨C2, C3, rfl, hC2, hC3⟩ := List.map_eq_append_iff.1 hC1
    have j1 : J (C3 ++ [⟨0, ⟨#[]⟩, qc⟩]) ⟨A1 ++ [⟨0, ⟨#[]⟩, qa⟩], 0⟩ ⟨C2 ++ C3 ++ [⟨0, ⟨#[]⟩, qc⟩], 0⟩ := ⟨rfl, rfl, A1, C2, qa, rfl, by simp, by rw [hC2, hA1], kd_of hA1 (lexes_kd hA)⟩
    obtain ⟨q, f2, e1, e2, e3⟩ := progL_j (by simp) _ pr0 _ hoa (Nat.lt_succ_self _) pr0 _ ((C2 ++ C3 ++ [(⟨0, ⟨#[]⟩, qc⟩ : Tk)]).length + 1) EqP.nil j1 (Nat.lt_succ_self _) pa
    have j2 : J [⟨0, ⟨#[]⟩, qc⟩] ⟨B1 ++ [⟨0, ⟨#[]⟩, qb⟩], 0⟩ ⟨C3 ++ [⟨0, ⟨#[]⟩, qc⟩], 0⟩ := ⟨rfl, rfl, B1, C3, qb, rfl, rfl, by rw [hC3, hB1], kd_of hB1 (lexes_kd hB)⟩
    have hap := progL_app ((B1 ++ [(⟨0, ⟨#[]⟩, qb⟩ : Tk)]).length + 1) (progL ((A1 ++ [(⟨0, ⟨#[]⟩, qa⟩ : Tk)]).length + 1) pr0 ⟨A1 ++ [⟨0, ⟨#[]⟩, qa⟩], 0⟩).1 ⟨B1 ++ [⟨0, ⟨#[]⟩, qb⟩], 0⟩
    obtain ⟨q2, f3, d1, d2, d3⟩ := progL_j (by simp) ((B1 ++ [(⟨0, ⟨#[]⟩, qb⟩ : Tk)]).length + 1) (progL ((A1 ++ [(⟨0, ⟨#[]⟩, qa⟩ : Tk)]).length + 1) pr0 ⟨A1 ++ [⟨0, ⟨#[]⟩, qa⟩], 0⟩).1 _ hob (Nat.lt_succ_self _) q _ f2 e1 j2 e2 (by rw [hap]; exact pb)
    rw [hap] at d1
    have hend : progL f3 q2 ⟨[⟨0, ⟨#[]⟩, qc⟩], 0⟩ = (q2, ⟨[⟨0, ⟨#[]⟩, qc⟩], 0⟩) := by
      cases f3 with
      | zero => simp at d2
      | succ f3 => simp only [progL]; rfl
    rw [e3, d3, hend]
    simp only [ne_eq, not_true_eq_false, if_false]
    exact ⟨trivial, d1.symm⟩
end Pa
end Go.Proofs.Ytlobphanodhcoaa
/- A drawn region of appends, by what holds whatever was done first. Conditions: each theorem's. -/
namespace Go.Proofs.Ytlobphanodhcoaa
open Go.RowKit Go.Maps
set_option linter.unusedVariables false
set_option linter.unusedSimpArgs false
set_option maxRecDepth 100000
open Lx Pa
theorem wpAnyH_inv {P : Program} {md : Region.Mode} {ops : Array Oper} {Q : Exit → Act → World → Prop} {S : World → Prop} (I : Array Bool → Act → World → Prop) (hlt : ∀ (i : Nat) (o : Oper), ops[i]? = some o → ∀ e ∈ o.after, e.on < i)
    (hstep : ∀ (l : Array Bool) (a : Act) (w : World) (i : Nat) (o : Oper), l.size = ops.size → I l a w → ops[i]? = some o → l.getD i true = false → (∀ e ∈ o.after, Region.binds md e = true → l.getD e.on false = true) → wpOp P ops Q i (fun a' w' => S w' ∧ I (l.setIfInBounds i true) a' w') a w)
    (hend : ∀ (l : Array Bool) (a : Act) (w : World), l.size = ops.size → I l a w → (∀ i, i < ops.size → l.getD i true = true) → Q .normal a w) :
    ∀ f l a w, l.size = ops.size → unl l ≤ f → I l a w → wpAnyH P md ops Q S f l a w := by
  intro f
  induction f with
  | zero =>
    intro l a w hs hu hI
    have hall : ∀ i, i < ops.size → l.getD i true = true := fun i hi => unl_zero (l := l) (by omega) i (by rw [hs]; exact hi)
    refine ⟨?_, hend l a w hs hI hall⟩
    unfold Region.ready
    rw [List.filter_eq_nil_iff]
    intro i hi
    rw [hall i (List.mem_range.1 hi)]
    simp
  | succ f ih =>
    intro l a w hs hu hI
    refine ⟨fun h => hend l a w hs hI (ready_nil hs hlt h), fun i hi => ?_⟩
    unfold Region.ready at hi
    rw [List.mem_filter] at hi
    obtain ⟨hi1, hi2⟩ := hi
    have hi1 := List.mem_range.1 hi1
    have ho : ops[i]? = some ops[i] := by simp [hi1]
    rw [ho] at hi2
    simp only [Option.map_some, Option.getD_some, Bool.and_eq_true, Bool.not_eq_true'] at hi2
    obtain ⟨h1, h2⟩ := hi2
    rw [Array.all_eq_true_iff_forall_mem] at h2
    have hst := hstep l a w i _ hs hI ho h1 (fun e he hb => by have := h2 e he; rw [hb] at this; simpa using this)
    have hc := unl_set (l := l) (i := i) (by omega) h1
    exact wpOp_mono (fun a w hI' => ⟨hI'.1, ih _ a w (by simpa using hs) (by omega) hI'.2⟩) hst
theorem grown_refl (w : World) (r : Option Nat) : w.grownBy w r := ⟨rfl, rfl, rfl, Nat.le_refl _, fun _ _ _ => rfl⟩
theorem add_plain (g o k : Nat) : (⟨g, o, none⟩ : Addr).add k = ⟨g, o + k, none⟩ := by
  unfold Addr.add
  by_cases h : k = 0 <;> simp [h]
theorem own_at {w w' : World} {base z n : Nat} {e : TypeId} {v : Value} {xs : List Value} (h : w.ownsRow base e z v n xs) (hb : ∀ j, v.ownBlock = some j → w'.heap[j]? = w.heap[j]?) : w'.ownsRow base e z v n xs := by
  obtain ⟨h1, h2⟩ := h
  refine ⟨h1, ?_⟩
  rcases h2 with h2 | ⟨g, cap, cur, rfl, hb2, hh, r⟩
  · exact .inl h2
  · exact .inr ⟨g, cap, cur, rfl, hb2, (hb g rfl).trans hh, r⟩
/-- An append of a row that lies anywhere, or of none. -/
theorem wp_append_row {P : Program} {w : World} {o : Oper} {a : Act} {K : Act → World → Prop} {Q : Exit → Act → World → Prop} (s x : Operand) (t : TypeId)
    (ho : o.op = .call { callee := .builtin .append, args := #[s, x], argTypes := #[t, t] })
    (base : Nat) (e : TypeId) (i : TypeInfo) (z : Value) (size bytes : Nat) (ht : P.underlying t = some (.slice e)) (hi : P.info? e = some i) (hz : i.zero = some z)
    (hsize : i.size = size) (hby : i.bytes = bytes) (hzs : z.cells.size = size) (hsz : 0 < size)
    (b n cap : Nat) (xs : List Value) (hs : a.eval s = .slice (some ⟨b, 0, none⟩) n cap) (hown : w.ownsRow base e size (.slice (some ⟨b, 0, none⟩) n cap) n xs) (hnc : n ≤ cap)
    (S : Nat → Prop) (vx : Value) (m : Nat) (ys : List Value) (hx : a.eval x = vx) (hr : RowAt w S vx m ys) (hl : ys.length = m * size) (h1 : ∀ u ∈ ys, u.oneCell' = true)
    (h63 : n + m ≤ maxLen) (hbytes : (n + m) * bytes ≤ 140737488355328) (hbase : base ≤ w.heap.size)
    (h : ∀ g cap' w', w'.ownsRow base e size (.slice (some ⟨g, 0, none⟩) (n + m) cap') (n + m) (xs ++ ys) → w.grownBy w' (some b) → K (a.put o.dst (.slice (some ⟨g, 0, none⟩) (n + m) cap')) w') : o.wp P a w K Q := by
  obtain ⟨A, c, rfl, hc1, hc2, hne⟩ := hr
  by_cases hm : m = 0
  · subst hm
    obtain rfl : ys = [] := List.eq_nil_of_length_eq_zero (by omega)
    have hsrc : Src P i.size t (.slice A 0 c) 0 [] w := by
      cases A with
      | none => exact Src.ofNil (w := w) ht c
      | some ad => exact Src.ofSlice w ht ad 0 c [] (by simp) (by simp) (by simp)
    have hrun := run_append_room_src (P := P) w t t o.type e i ht hi b 0 n cap _ 0 [] hsrc (by omega) (by simp) (by simp)
    unfold Oper.wp execOp
    simp only [ho, resolve, invoke, builtin, Sem.run_bind, Sem.run_pure, Result.andThen_ok, List.map_toArray, List.map_cons, List.map_nil, hs, hx, hrun, Nat.add_zero]
    exact h b cap w (by simpa using hown) (grown_refl w _)
  · obtain ⟨g, off, rfl, -, -, hrg⟩ := hne (by omega)
    refine wp_append_lies w s x t ho base e i z size bytes ht hi hz hsize hby hzs hsz _ n xs hs hown ⟨g, off, none⟩ m c ys hx hl (fun j u hu => ?_) h1 (by omega) h63 hbytes hbase _ rfl fun g' cap' w' k1 k2 k3 k4 => h g' cap' w' k1 k2
    rw [add_plain]
    exact hrg j u hu
/-- One of the chains: an empty row, one row appended, two. -/
structure Ch (N : Nat) (e : TypeId) (z : Nat) (xa xb : List Value) (na nb : Nat) (f0 f1 f2 : Bool) (u0 u1 u2 : Value) (w : World) : Prop where
  m1 : f1 = true → f0 = true
  m2 : f2 = true → f1 = true
  c0 : f0 = true → f1 = false → ∃ g, u0 = .slice (some ⟨g, 0, none⟩) 0 0 ∧ w.ownsRow N e z u0 0 []
  c1 : f1 = true → f2 = false → ∃ g cap, u1 = .slice (some ⟨g, 0, none⟩) na cap ∧ na ≤ cap ∧ w.ownsRow N e z u1 na xa
  c2 : f2 = true → ∃ g cap, u2 = .slice (some ⟨g, 0, none⟩) (na + nb) cap ∧ w.ownsRow N e z u2 (na + nb) (xa ++ xb)
/-- Blocks of a type stay. -/
def KT (e : TypeId) (w w' : World) : Prop := ∀ (j : Nat) (cs : Array Value) (fr : Nat × Nat), w.heap[j]? = some (Obj.cells cs e fr) → w'.heap[j]? = w.heap[j]?
theorem own_kt {w w' : World} {N z n : Nat} {e : TypeId} {v : Value} {xs : List Value} (h : w.ownsRow N e z v n xs) (hk : KT e w w') : w'.ownsRow N e z v n xs :=
  own_at h fun j hj => by obtain ⟨_, _, cs, fr, hh⟩ := own_typ h j hj; exact hk j cs fr hh
theorem Ch.keep {N z na nb : Nat} {e : TypeId} {xa xb : List Value} {f0 f1 f2 : Bool} {u0 u1 u2 : Value} {w w' : World} (h : Ch N e z xa xb na nb f0 f1 f2 u0 u1 u2 w) (hk : KT e w w') : Ch N e z xa xb na nb f0 f1 f2 u0 u1 u2 w' :=
  ⟨h.m1, h.m2, fun a b => by obtain ⟨g, h1, h2⟩ := h.c0 a b; exact ⟨g, h1, own_kt h2 hk⟩, fun a b => by obtain ⟨g, c, h1, h2, h3⟩ := h.c1 a b; exact ⟨g, c, h1, h2, own_kt h3 hk⟩, fun a => by obtain ⟨g, c, h1, h3⟩ := h.c2 a; exact ⟨g, c, h1, own_kt h3 hk⟩⟩
theorem kt_refl (e : TypeId) (w : World) : KT e w w := fun j cs fr h => rfl
theorem kt_alloc (e : TypeId) (w : World) (o : Obj) : KT e w (w.alloc o) := fun j _ _ h => Below.heap_alloc _ _ _ (lt_of_at h)
theorem kt_grown {e e' : TypeId} {w w' : World} {b : Nat} (hg : w.grownBy w' (some b)) (hb : ∃ cs fr, w.heap[b]? = some (.cells cs e' fr)) (hne : e ≠ e') : KT e w w' := fun j cs fr h =>
  hg.block j (lt_of_at h) (fun q => by
    injection q with q
    subst q
    obtain ⟨cs', fr', h'⟩ := hb
    rw [h] at h'
    injection h' with h'
    injection h' with _ h' _
    exact hne h')
theorem own_blk {w : World} {N z n b cap : Nat} {e : TypeId} {xs : List Value} (h : w.ownsRow N e z (.slice (some ⟨b, 0, none⟩) n cap) n xs) : N ≤ b ∧ b < w.heap.size ∧ ∃ cs fr, w.heap[b]? = some (.cells cs e fr) := own_typ h b rfl
/-- Behind the empty row. -/
theorem Ch.new {N z na nb : Nat} {e : TypeId} {xa xb : List Value} {f0 : Bool} {u0 u1 u2 : Value} {w : World} (h : Ch N e z xa xb na nb f0 false false u0 u1 u2 w) (hN : N ≤ w.heap.size) : Ch N e z xa xb na nb true false false (.slice (some ⟨w.heap.size, 0, none⟩) 0 0) u1 u2 (w.alloc (.cells #[] e)) :=
  ⟨(fun a => by cases a), (fun a => by cases a), fun _ _ => ⟨_, rfl, ⟨by simp, .inr ⟨w.heap.size, 0, #[], rfl, hN, heap_alloc_new w _, by simp, by unfold maxLen; omega, by simp, by simp⟩⟩⟩, (fun a => by cases a), (fun a => by cases a)⟩
theorem Ch.one {N z na nb : Nat} {e : TypeId} {xa xb : List Value} {u0 u2 : Value} {w' : World} {g cap : Nat} (hc : na ≤ cap) (hown : w'.ownsRow N e z (.slice (some ⟨g, 0, none⟩) (0 + na) cap) (0 + na) ([] ++ xa)) : Ch N e z xa xb na nb true true false u0 (.slice (some ⟨g, 0, none⟩) (0 + na) cap) u2 w' :=
  ⟨(fun _ => rfl), (fun a => by cases a), (fun _ a => by cases a), fun _ _ => ⟨g, cap, by rw [Nat.zero_add], hc, by simpa using hown⟩, (fun a => by cases a)⟩
theorem Ch.two {N z na nb : Nat} {e : TypeId} {xa xb : List Value} {f0 : Bool} {u0 u1 : Value} {w' : World} {g cap : Nat} (h0 : f0 = true) (hown : w'.ownsRow N e z (.slice (some ⟨g, 0, none⟩) (na + nb) cap) (na + nb) (xa ++ xb)) : Ch N e z xa xb na nb f0 true true u0 u1 (.slice (some ⟨g, 0, none⟩) (na + nb) cap) w' :=
  ⟨(fun _ => h0), (fun _ => rfl), (fun _ a => by cases a), (fun _ a => by cases a), fun _ => ⟨g, cap, rfl, hown⟩⟩
theorem own_cap {w : World} {N z n g cap : Nat} {e : TypeId} {xs : List Value} (h : w.ownsRow N e z (.slice (some ⟨g, 0, none⟩) n cap) n xs) : n ≤ cap := by
  rcases h.2 with ⟨h1, h2⟩ | ⟨g', cap', cur, h1, h2, h3, h4, h5⟩
  · cases h1
  · injection h1 with _ _ h1; omega
theorem own_cap' {w : World} {N z n g cap : Nat} {e : TypeId} {xs : List Value} (h : w.ownsRow N e z (.slice (some ⟨g, 0, none⟩) (0 + n) cap) (0 + n) xs) : n ≤ cap := by have := own_cap h; omega
/-- How many parts a program has at most. -/
theorem progL_cnt : ∀ f p (s : Pa.S), Ok s → (progL f p s).2.er = 0 → cnt (progL f p s).1 + (progL f p s).2.tk.length ≤ cnt p + s.tk.length := by
  intro f
  induction f with
  | zero => intro p s h he; simp only [progL]; exact Nat.le_refl _
  | succ f ih =>
    intro p s h he
    simp only [progL] at he ⊢
    split
    · exact Nat.le_refl _
    · rename_i h0
      rw [if_neg h0] at he
      have h1 := topV_lt (p := p) h
      have h2 := ih (topV p s).1 (topV p s).2 h1.le.ok he
      have h3 := h1.lt ((progL_er f (topV p s).1 _ h1.le.ok).er he)
      have h4 := cnt_top p s
      omega
theorem parse_cnt {a : ByteArray} (h : (parseV a).2.2 = 0) : cnt (parseV a).1 ≤ 2501 := by
  obtain ⟨la, pa, va⟩ := parse_ok h
  have := progL_cnt _ pr0 _ (lex_end la) pa
  have hl := lexV_len a
  have h0 : cnt pr0 = 0 := rfl
  rw [va]
  rw [h0] at this
  have e : (⟨(lexV a).tk, 0⟩ : Pa.S).tk.length = (lexV a).tk.length := rfl
  omega
theorem info_some {P : Program} {e : TypeId} {i : TypeInfo} (h : P.info? e = some i) : P.info? e = some i := h
theorem run_empty (a : Act) (o : Oper) (w : World) (t e : TypeId) (i : TypeInfo) (ht : Try.prog.underlying t = some (.slice e)) (hi : Try.prog.info? e = some i) (hop : o.op = .buildSlice t 0 #[]) : (execOp a.eval o).run Try.prog w = .ok (.value (.slice (some ⟨w.heap.size, 0, none⟩) 0 0)) (w.alloc (.cells #[] e)) := by
  unfold execOp
  simp only [hop]
  go_simp
  simp [run_underlying ht, sizeOf, typeInfo, hi, go_sem]
theorem run_allocP (a : Act) (o : Oper) (w : World) (hop : o.op = .alloc 27) : (execOp a.eval o).run Try.prog w = .ok (.value (.pointer (some ⟨w.heap.size, 0, none⟩))) (w.alloc (.cells prZ 27)) := by
  unfold execOp
  simp only [hop]
  go_simp
theorem built3 (A B C : Option Addr) (n m k c d e : Nat) : Try.prog.built 27 [(0, .slice A n c), (1, .slice B m d), (2, .slice C k e)] = some #[.slice A n c, .slice B m d, .slice C k e] := by kernel_rfl
theorem run_prog (a : Act) (o : Oper) (w : World) (A B C : Option Addr) (n m k c d e : Nat) (hop : o.op = .build 27 #[(0, .tmp 63), (1, .tmp 70), (2, .tmp 77)]) (h1 : a.eval (.tmp 63) = .slice A n c) (h2 : a.eval (.tmp 70) = .slice B m d) (h3 : a.eval (.tmp 77) = .slice C k e) : (execOp a.eval o).run Try.prog w = .ok (.value (.agg #[.slice A n c, .slice B m d, .slice C k e])) w := by
  have hb := built3 A B C n m k c d e
  unfold execOp
  simp only [hop, List.map_toArray, List.map_cons, List.map_nil, h1, h2, h3]
  go_simp
theorem sizePr3 : (Try.prog.info? 27).map (·.size) = some 3 := by kernel_rfl
end Go.Proofs.Ytlobphanodhcoaa
/- ParseJoins' region of six appends: what holds whatever was done first. Conditions: each theorem's. -/
namespace Go.Proofs.Ytlobphanodhcoaa
open Go.RowKit Go.Maps
set_option linter.unusedVariables false
set_option linter.unusedSimpArgs false
set_option maxRecDepth 100000
open Lx Pa
def jnOps : Array Oper := #[({ dst := some 57, op := Go.Op.buildSlice 23 0 #[], type := 23, pos := "law.go:77", after := #[], guard := none } : Oper),
  ({ dst := some 58, op := Go.Op.fieldAddr 27 (Go.Operand.tmp 5) 0, type := 0, pos := "law.go:77", after := #[], guard := none } : Oper),
  ({ dst := some 59, op := Go.Op.load 23 (Go.Operand.tmp 58), type := 23, pos := "law.go:77", after := #[{ on := 1, ground := Go.Ground.data }], guard := none } : Oper),
  ({ dst := some 60, op := Go.Op.call { callee := Go.Callee.builtin Go.Builtin.append, args := #[Go.Operand.tmp 57, Go.Operand.tmp 59], argTypes := #[23, 23] }, type := 23, pos := "law.go:77", after := #[{ on := 0, ground := Go.Ground.data }, { on := 2, ground := Go.Ground.data }], guard := none } : Oper),
  ({ dst := some 61, op := Go.Op.fieldAddr 27 (Go.Operand.tmp 8) 0, type := 0, pos := "law.go:77", after := #[], guard := none } : Oper),
  ({ dst := some 62, op := Go.Op.load 23 (Go.Operand.tmp 61), type := 23, pos := "law.go:77", after := #[{ on := 4, ground := Go.Ground.data }], guard := none } : Oper),
  ({ dst := some 63, op := Go.Op.call { callee := Go.Callee.builtin Go.Builtin.append, args := #[Go.Operand.tmp 60, Go.Operand.tmp 62], argTypes := #[23, 23] }, type := 23, pos := "law.go:77", after := #[{ on := 3, ground := Go.Ground.data }, { on := 5, ground := Go.Ground.data }, { on := 3, ground := Go.Ground.chain }], guard := none } : Oper),
  ({ dst := some 64, op := Go.Op.buildSlice 24 0 #[], type := 24, pos := "law.go:77", after := #[], guard := none } : Oper),
  ({ dst := some 65, op := Go.Op.fieldAddr 27 (Go.Operand.tmp 5) 1, type := 0, pos := "law.go:77", after := #[], guard := none } : Oper),
  ({ dst := some 66, op := Go.Op.load 24 (Go.Operand.tmp 65), type := 24, pos := "law.go:77", after := #[{ on := 8, ground := Go.Ground.data }], guard := none } : Oper),
  ({ dst := some 67, op := Go.Op.call { callee := Go.Callee.builtin Go.Builtin.append, args := #[Go.Operand.tmp 64, Go.Operand.tmp 66], argTypes := #[24, 24] }, type := 24, pos := "law.go:77", after := #[{ on := 7, ground := Go.Ground.data }, { on := 9, ground := Go.Ground.data }, { on := 6, ground := Go.Ground.chain }], guard := none } : Oper),
  ({ dst := some 68, op := Go.Op.fieldAddr 27 (Go.Operand.tmp 8) 1, type := 0, pos := "law.go:77", after := #[], guard := none } : Oper),
  ({ dst := some 69, op := Go.Op.load 24 (Go.Operand.tmp 68), type := 24, pos := "law.go:77", after := #[{ on := 11, ground := Go.Ground.data }], guard := none } : Oper),
  ({ dst := some 70, op := Go.Op.call { callee := Go.Callee.builtin Go.Builtin.append, args := #[Go.Operand.tmp 67, Go.Operand.tmp 69], argTypes := #[24, 24] }, type := 24, pos := "law.go:77", after := #[{ on := 10, ground := Go.Ground.data }, { on := 12, ground := Go.Ground.data }, { on := 10, ground := Go.Ground.chain }], guard := none } : Oper),
  ({ dst := some 71, op := Go.Op.buildSlice 25 0 #[], type := 25, pos := "law.go:77", after := #[], guard := none } : Oper),
  ({ dst := some 72, op := Go.Op.fieldAddr 27 (Go.Operand.tmp 5) 2, type := 0, pos := "law.go:77", after := #[], guard := none } : Oper),
  ({ dst := some 73, op := Go.Op.load 25 (Go.Operand.tmp 72), type := 25, pos := "law.go:77", after := #[{ on := 15, ground := Go.Ground.data }], guard := none } : Oper),
  ({ dst := some 74, op := Go.Op.call { callee := Go.Callee.builtin Go.Builtin.append, args := #[Go.Operand.tmp 71, Go.Operand.tmp 73], argTypes := #[25, 25] }, type := 25, pos := "law.go:77", after := #[{ on := 14, ground := Go.Ground.data }, { on := 16, ground := Go.Ground.data }, { on := 13, ground := Go.Ground.chain }], guard := none } : Oper),
  ({ dst := some 75, op := Go.Op.fieldAddr 27 (Go.Operand.tmp 8) 2, type := 0, pos := "law.go:77", after := #[], guard := none } : Oper),
  ({ dst := some 76, op := Go.Op.load 25 (Go.Operand.tmp 75), type := 25, pos := "law.go:77", after := #[{ on := 18, ground := Go.Ground.data }], guard := none } : Oper),
  ({ dst := some 77, op := Go.Op.call { callee := Go.Callee.builtin Go.Builtin.append, args := #[Go.Operand.tmp 74, Go.Operand.tmp 76], argTypes := #[25, 25] }, type := 25, pos := "law.go:77", after := #[{ on := 17, ground := Go.Ground.data }, { on := 19, ground := Go.Ground.data }, { on := 17, ground := Go.Ground.chain }], guard := none } : Oper),
  ({ dst := some 78, op := Go.Op.build 27 #[(0, Go.Operand.tmp 63), (1, Go.Operand.tmp 70), (2, Go.Operand.tmp 77)], type := 27, pos := "law.go:77", after := #[{ on := 6, ground := Go.Ground.data }, { on := 13, ground := Go.Ground.data }, { on := 20, ground := Go.Ground.data }], guard := none } : Oper),
  ({ dst := some 14, op := Go.Op.alloc 27, type := 0, pos := "law.go:77", after := #[], guard := none } : Oper),
  ({ dst := none, op := Go.Op.store 27 (Go.Operand.tmp 14) (Go.Operand.tmp 78), type := 0, pos := "law.go:77", after := #[{ on := 22, ground := Go.Ground.data }, { on := 21, ground := Go.Ground.data }, { on := 20, ground := Go.Ground.chain }, { on := 0, ground := Go.Ground.phase }, { on := 1, ground := Go.Ground.phase }, { on := 2, ground := Go.Ground.phase }, { on := 3, ground := Go.Ground.phase }, { on := 4, ground := Go.Ground.phase }, { on := 5, ground := Go.Ground.phase }, { on := 6, ground := Go.Ground.phase }, { on := 7, ground := Go.Ground.phase }, { on := 8, ground := Go.Ground.phase }, { on := 9, ground := Go.Ground.phase }, { on := 10, ground := Go.Ground.phase }, { on := 11, ground := Go.Ground.phase }, { on := 12, ground := Go.Ground.phase }, { on := 13, ground := Go.Ground.phase }, { on := 14, ground := Go.Ground.phase }, { on := 15, ground := Go.Ground.phase }, { on := 16, ground := Go.Ground.phase }, { on := 17, ground := Go.Ground.phase }, { on := 18, ground := Go.Ground.phase }, { on := 19, ground := Go.Ground.phase }, { on := 20, ground := Go.Ground.phase }, { on := 21, ground := Go.Ground.phase }, { on := 22, ground := Go.Ground.phase }], guard := none } : Oper)]
theorem jnOps_size : jnOps.size = 24 := rfl
theorem jnOps_lt : ∀ (i : Nat) (o : Oper), jnOps[i]? = some o → ∀ e ∈ o.after, e.on < i := by
  have h : (List.range 24).all (fun i => ((jnOps[i]?).map fun o => o.after.toList.all fun e => decide (e.on < i)).getD true) = true := by kernel_rfl
  intro i o ho e he
  have hi : i < 24 := by have := (Array.getElem?_eq_some_iff.1 ho).1; rw [jnOps_size] at this; exact this
  rw [List.all_eq_true] at h
  have := h i (List.mem_range.2 hi)
  rw [ho] at this
  simp only [Option.map_some, Option.getD_some, List.all_eq_true] at this
  simpa using this e (by simpa using he)
/-- Behind these of its operations an operation comes. -/
def deps (o : Oper) (ds : List Nat) : Prop := ∀ d ∈ ds, ∃ e ∈ o.after, e.on = d ∧ Region.binds .any e = true
theorem dep_of {o : Oper} {ds : List Nat} (h : ds.all (fun d => o.after.toList.any fun e => (e.on == d) && Region.binds .any e) = true) : deps o ds := by
  intro d hd
  rw [List.all_eq_true] at h
  have h1 := h d hd
  rw [List.any_eq_true] at h1
  obtain ⟨e, he, h2⟩ := h1
  rw [Bool.and_eq_true, beq_iff_eq] at h2
  exact ⟨e, by simpa using he, h2.1, h2.2⟩
theorem jnOp_0 : ∃ o, jnOps[0]? = some o ∧ o.guard = none ∧ o.dst = some 57 ∧ o.op = .buildSlice 23 0 #[] ∧ deps o [] := ⟨_, rfl, rfl, rfl, rfl, dep_of (by kernel_rfl)⟩
theorem jnOp_3 : ∃ o, jnOps[3]? = some o ∧ o.guard = none ∧ o.dst = some 60 ∧ o.op = .call { callee := .builtin .append, args := #[.tmp 57, .tmp 59], argTypes := #[23, 23] } ∧ deps o [0] := ⟨_, rfl, rfl, rfl, rfl, dep_of (by kernel_rfl)⟩
theorem jnOp_6 : ∃ o, jnOps[6]? = some o ∧ o.guard = none ∧ o.dst = some 63 ∧ o.op = .call { callee := .builtin .append, args := #[.tmp 60, .tmp 62], argTypes := #[23, 23] } ∧ deps o [3] := ⟨_, rfl, rfl, rfl, rfl, dep_of (by kernel_rfl)⟩
theorem jnOp_7 : ∃ o, jnOps[7]? = some o ∧ o.guard = none ∧ o.dst = some 64 ∧ o.op = .buildSlice 24 0 #[] ∧ deps o [] := ⟨_, rfl, rfl, rfl, rfl, dep_of (by kernel_rfl)⟩
theorem jnOp_10 : ∃ o, jnOps[10]? = some o ∧ o.guard = none ∧ o.dst = some 67 ∧ o.op = .call { callee := .builtin .append, args := #[.tmp 64, .tmp 66], argTypes := #[24, 24] } ∧ deps o [7] := ⟨_, rfl, rfl, rfl, rfl, dep_of (by kernel_rfl)⟩
theorem jnOp_13 : ∃ o, jnOps[13]? = some o ∧ o.guard = none ∧ o.dst = some 70 ∧ o.op = .call { callee := .builtin .append, args := #[.tmp 67, .tmp 69], argTypes := #[24, 24] } ∧ deps o [10] := ⟨_, rfl, rfl, rfl, rfl, dep_of (by kernel_rfl)⟩
theorem jnOp_14 : ∃ o, jnOps[14]? = some o ∧ o.guard = none ∧ o.dst = some 71 ∧ o.op = .buildSlice 25 0 #[] ∧ deps o [] := ⟨_, rfl, rfl, rfl, rfl, dep_of (by kernel_rfl)⟩
theorem jnOp_17 : ∃ o, jnOps[17]? = some o ∧ o.guard = none ∧ o.dst = some 74 ∧ o.op = .call { callee := .builtin .append, args := #[.tmp 71, .tmp 73], argTypes := #[25, 25] } ∧ deps o [14] := ⟨_, rfl, rfl, rfl, rfl, dep_of (by kernel_rfl)⟩
theorem jnOp_20 : ∃ o, jnOps[20]? = some o ∧ o.guard = none ∧ o.dst = some 77 ∧ o.op = .call { callee := .builtin .append, args := #[.tmp 74, .tmp 76], argTypes := #[25, 25] } ∧ deps o [17] := ⟨_, rfl, rfl, rfl, rfl, dep_of (by kernel_rfl)⟩
theorem jnOp_21 : ∃ o, jnOps[21]? = some o ∧ o.guard = none ∧ o.dst = some 78 ∧ o.op = .build 27 #[(0, .tmp 63), (1, .tmp 70), (2, .tmp 77)] ∧ deps o [6, 13, 20] := ⟨_, rfl, rfl, rfl, rfl, dep_of (by kernel_rfl)⟩
theorem jnOp_22 : ∃ o, jnOps[22]? = some o ∧ o.guard = none ∧ o.dst = some 14 ∧ o.op = .alloc 27 ∧ deps o [] := ⟨_, rfl, rfl, rfl, rfl, dep_of (by kernel_rfl)⟩
theorem jnOp_23 : ∃ o, jnOps[23]? = some o ∧ o.guard = none ∧ o.dst = none ∧ o.op = .store 27 (.tmp 14) (.tmp 78) ∧ deps o [22, 21] := ⟨_, rfl, rfl, rfl, rfl, dep_of (by kernel_rfl)⟩
/-- A row that is to be appended. -/
structure PartIn (w0 : World) (v : Value) (n z : Nat) (xs : List Value) : Prop where
  row : RowAt w0 (fun _ => True) v n xs
  len : xs.length = n * z
  one : ∀ u ∈ xs, u.oneCell' = true
  few : n ≤ 2501
theorem PartIn.at_ {w0 w : World} {v : Value} {n z : Nat} {xs : List Value} (h : PartIn w0 v n z xs) (hb : Below w0.heap.size w0 w) : RowAt w (fun _ => True) v n xs := h.row.keep (fun g _ hl => ⟨trivial, hb.block g hl⟩) hb.size
structure JK (w0 : World) (a0 : Act) (xs1 xs2 xv1 xv2 xf1 xf2 : List Value) (ns1 ns2 nv1 nv2 nf1 nf2 : Nat) : Prop where
  ps1 : PartIn w0 (a0.tmps.getD 59 undef) ns1 3 xs1
  ps2 : PartIn w0 (a0.tmps.getD 62 undef) ns2 3 xs2
  pv1 : PartIn w0 (a0.tmps.getD 66 undef) nv1 6 xv1
  pv2 : PartIn w0 (a0.tmps.getD 69 undef) nv2 6 xv2
  pf1 : PartIn w0 (a0.tmps.getD 73 undef) nf1 16 xf1
  pf2 : PartIn w0 (a0.tmps.getD 76 undef) nf2 16 xf2
structure JI (N0 : Nat) (w0 : World) (a0 : Act) (xs1 xs2 xv1 xv2 xf1 xf2 : List Value) (ns1 ns2 nv1 nv2 nf1 nf2 : Nat) (l : Array Bool) (a : Act) (w : World) : Prop where
  ls : l.size = 24
  rd : ∀ i, i ∈ [1, 2, 4, 5, 8, 9, 11, 12, 15, 16, 18, 19] → l.getD i false = true
  sz : a.tmps.size = 86
  df : a.defers = a0.defers
  n0 : w0.heap.size = N0
  be : Below N0 w0 w
  fr : ∀ k, k ∉ [57, 60, 63, 64, 67, 70, 71, 74, 77, 78, 14] → a.tmps.getD k undef = a0.tmps.getD k undef
  cs : Ch N0 61 3 xs1 xs2 ns1 ns2 (l.getD 0 false) (l.getD 3 false) (l.getD 6 false) (a.tmps.getD 57 undef) (a.tmps.getD 60 undef) (a.tmps.getD 63 undef) w
  cv : Ch N0 38 6 xv1 xv2 nv1 nv2 (l.getD 7 false) (l.getD 10 false) (l.getD 13 false) (a.tmps.getD 64 undef) (a.tmps.getD 67 undef) (a.tmps.getD 70 undef) w
  cf : Ch N0 42 16 xf1 xf2 nf1 nf2 (l.getD 14 false) (l.getD 17 false) (l.getD 20 false) (a.tmps.getD 71 undef) (a.tmps.getD 74 undef) (a.tmps.getD 77 undef) w
  bb : l.getD 21 false = true → (l.getD 6 false = true ∧ l.getD 13 false = true ∧ l.getD 20 false = true) ∧ a.tmps.getD 78 undef = .agg #[a.tmps.getD 63 undef, a.tmps.getD 70 undef, a.tmps.getD 77 undef]
  al : l.getD 22 false = true → ∃ g cs, a.tmps.getD 14 undef = .pointer (some ⟨g, 0, none⟩) ∧ N0 ≤ g ∧ cs.size = 3 ∧ w.heap[g]? = some (.cells cs 27) ∧ (l.getD 23 false = true → cs = #[a.tmps.getD 63 undef, a.tmps.getD 70 undef, a.tmps.getD 77 undef])
  cc : l.getD 23 false = true → l.getD 21 false = true ∧ l.getD 22 false = true
theorem ff_of {l : Array Bool} {i : Nat} (h : l.getD i true = false) : l.getD i false = false := by
  rw [Array.getD_eq_getD_getElem?] at h ⊢
  cases hl : l[i]? with
  | none => rfl
  | some b => rw [hl] at h; simpa using h
theorem off {p q : Bool} (m : p = true → q = true) (hq : q = false) : p = false := by cases p <;> simp_all
theorem tput' {a : Act} {v : Value} (k : Nat) : (a.put none v).tmps.getD k undef = a.tmps.getD k undef := rfl
theorem JI.next {N0 : Nat} {w0 : World} {a0 : Act} {xs1 xs2 xv1 xv2 xf1 xf2 : List Value} {ns1 ns2 nv1 nv2 nf1 nf2 : Nat} {l : Array Bool} {a : Act} {w : World} (h : JI N0 w0 a0 xs1 xs2 xv1 xv2 xf1 xf2 ns1 ns2 nv1 nv2 nf1 nf2 l a w) {i d : Nat} (hi : i < 24) (hdm : d ∈ [57, 60, 63, 64, 67, 70, 71, 74, 77, 78, 14]) {v : Value} {w' : World} (hbe : Below N0 w0 w')
    (hs : Ch N0 61 3 xs1 xs2 ns1 ns2 (if 0 = i then true else l.getD 0 false) (if 3 = i then true else l.getD 3 false) (if 6 = i then true else l.getD 6 false) (if 57 = d then v else a.tmps.getD 57 undef) (if 60 = d then v else a.tmps.getD 60 undef) (if 63 = d then v else a.tmps.getD 63 undef) w')
    (hv : Ch N0 38 6 xv1 xv2 nv1 nv2 (if 7 = i then true else l.getD 7 false) (if 10 = i then true else l.getD 10 false) (if 13 = i then true else l.getD 13 false) (if 64 = d then v else a.tmps.getD 64 undef) (if 67 = d then v else a.tmps.getD 67 undef) (if 70 = d then v else a.tmps.getD 70 undef) w')
    (hf : Ch N0 42 16 xf1 xf2 nf1 nf2 (if 14 = i then true else l.getD 14 false) (if 17 = i then true else l.getD 17 false) (if 20 = i then true else l.getD 20 false) (if 71 = d then v else a.tmps.getD 71 undef) (if 74 = d then v else a.tmps.getD 74 undef) (if 77 = d then v else a.tmps.getD 77 undef) w')
    (hbb : (if 21 = i then true else l.getD 21 false) = true → ((if 6 = i then true else l.getD 6 false) = true ∧ (if 13 = i then true else l.getD 13 false) = true ∧ (if 20 = i then true else l.getD 20 false) = true) ∧ (if 78 = d then v else a.tmps.getD 78 undef) = .agg #[(if 63 = d then v else a.tmps.getD 63 undef), (if 70 = d then v else a.tmps.getD 70 undef), (if 77 = d then v else a.tmps.getD 77 undef)])
    (hal : (if 22 = i then true else l.getD 22 false) = true → ∃ g cs, (if 14 = d then v else a.tmps.getD 14 undef) = .pointer (some ⟨g, 0, none⟩) ∧ N0 ≤ g ∧ cs.size = 3 ∧ w'.heap[g]? = some (.cells cs 27) ∧ ((if 23 = i then true else l.getD 23 false) = true → cs = #[(if 63 = d then v else a.tmps.getD 63 undef), (if 70 = d then v else a.tmps.getD 70 undef), (if 77 = d then v else a.tmps.getD 77 undef)]))
    (hcc : (if 23 = i then true else l.getD 23 false) = true → (if 21 = i then true else l.getD 21 false) = true ∧ (if 22 = i then true else l.getD 22 false) = true) :
    JI N0 w0 a0 xs1 xs2 xv1 xv2 xf1 xf2 ns1 ns2 nv1 nv2 nf1 nf2 (l.setIfInBounds i true) (a.put (some d) v) w' := by
  have hil : i < l.size := by rw [h.ls]; exact hi
  have hdl : d < a.tmps.size := by
    rw [h.sz]
    simp only [List.mem_cons, List.not_mem_nil, or_false] at hdm
    omega
  refine ⟨by simp [h.ls], fun j hj => ?_, by simp [Act.put, h.sz], h.df, h.n0, hbe, fun k hk => ?_, ?_, ?_, ?_, ?_, ?_, ?_⟩
  · rw [gset hil]
    split
    · rfl
    · exact h.rd j hj
  · rw [tput hdl, if_neg (fun (e : k = d) => hk (by rw [e]; exact hdm))]
    exact h.fr k hk
  all_goals simp only [gset hil, tput hdl]
  · exact hs
  · exact hv
  · exact hf
  · exact hbb
  · exact hal
  · exact hcc
theorem JI.nextN {N0 : Nat} {w0 : World} {a0 : Act} {xs1 xs2 xv1 xv2 xf1 xf2 : List Value} {ns1 ns2 nv1 nv2 nf1 nf2 : Nat} {l : Array Bool} {a : Act} {w : World} (h : JI N0 w0 a0 xs1 xs2 xv1 xv2 xf1 xf2 ns1 ns2 nv1 nv2 nf1 nf2 l a w) {i : Nat} (hi : i < 24) {v : Value} {w' : World} (hbe : Below N0 w0 w')
    (hs : Ch N0 61 3 xs1 xs2 ns1 ns2 (if 0 = i then true else l.getD 0 false) (if 3 = i then true else l.getD 3 false) (if 6 = i then true else l.getD 6 false) (a.tmps.getD 57 undef) (a.tmps.getD 60 undef) (a.tmps.getD 63 undef) w')
    (hv : Ch N0 38 6 xv1 xv2 nv1 nv2 (if 7 = i then true else l.getD 7 false) (if 10 = i then true else l.getD 10 false) (if 13 = i then true else l.getD 13 false) (a.tmps.getD 64 undef) (a.tmps.getD 67 undef) (a.tmps.getD 70 undef) w')
    (hf : Ch N0 42 16 xf1 xf2 nf1 nf2 (if 14 = i then true else l.getD 14 false) (if 17 = i then true else l.getD 17 false) (if 20 = i then true else l.getD 20 false) (a.tmps.getD 71 undef) (a.tmps.getD 74 undef) (a.tmps.getD 77 undef) w')
    (hbb : (if 21 = i then true else l.getD 21 false) = true → ((if 6 = i then true else l.getD 6 false) = true ∧ (if 13 = i then true else l.getD 13 false) = true ∧ (if 20 = i then true else l.getD 20 false) = true) ∧ a.tmps.getD 78 undef = .agg #[a.tmps.getD 63 undef, a.tmps.getD 70 undef, a.tmps.getD 77 undef])
    (hal : (if 22 = i then true else l.getD 22 false) = true → ∃ g cs, a.tmps.getD 14 undef = .pointer (some ⟨g, 0, none⟩) ∧ N0 ≤ g ∧ cs.size = 3 ∧ w'.heap[g]? = some (.cells cs 27) ∧ ((if 23 = i then true else l.getD 23 false) = true → cs = #[a.tmps.getD 63 undef, a.tmps.getD 70 undef, a.tmps.getD 77 undef]))
    (hcc : (if 23 = i then true else l.getD 23 false) = true → (if 21 = i then true else l.getD 21 false) = true ∧ (if 22 = i then true else l.getD 22 false) = true) :
    JI N0 w0 a0 xs1 xs2 xv1 xv2 xf1 xf2 ns1 ns2 nv1 nv2 nf1 nf2 (l.setIfInBounds i true) (a.put none v) w' := by
  have hil : i < l.size := by rw [h.ls]; exact hi
  refine ⟨by simp [h.ls], fun j hj => ?_, h.sz, h.df, h.n0, hbe, h.fr, ?_, ?_, ?_, ?_, ?_, ?_⟩
  · rw [gset hil]
    split
    · rfl
    · exact h.rd j hj
  all_goals simp only [gset hil, tput']
  · exact hs
  · exact hv
  · exact hf
  · exact hbb
  · exact hal
  · exact hcc
theorem kt_set {e e' : TypeId} {w : World} {b : Nat} {cs cs2 : Array Value} (hb : w.heap[b]? = some (.cells cs e')) (hne : e ≠ e') : KT e w (w.setRow b cs2) := fun j cs' fr h =>
  setRow_other _ _ _ _ (fun q => by
    subst q
    rw [h] at hb
    injection hb with hb
    injection hb with _ hb _
    exact hne hb)
theorem jn_0 {N0 : Nat} {w0 : World} {a0 : Act} {xs1 xs2 xv1 xv2 xf1 xf2 : List Value} {ns1 ns2 nv1 nv2 nf1 nf2 : Nat} (K : JK w0 a0 xs1 xs2 xv1 xv2 xf1 xf2 ns1 ns2 nv1 nv2 nf1 nf2) {l : Array Bool} {a : Act} {w : World} (h : JI N0 w0 a0 xs1 xs2 xv1 xv2 xf1 xf2 ns1 ns2 nv1 nv2 nf1 nf2 l a w) (hl : l.getD 0 true = false) (hb : ∀ o, jnOps[0]? = some o → ∀ e ∈ o.after, Region.binds .any e = true → l.getD e.on false = true) {Q : Exit → Act → World → Prop} :
    wpOp Try.prog jnOps Q 0 (fun a' w' => Below N0 w0 w' ∧ JI N0 w0 a0 xs1 xs2 xv1 xv2 xf1 xf2 ns1 ns2 nv1 nv2 nf1 nf2 (l.setIfInBounds 0 true) a' w') a w := by
  obtain ⟨o, ho, hg, hd, hop, hdp⟩ := jnOp_0
  have hf := ff_of hl
  have f1 : l.getD 3 false = false := off h.cs.m1 hf
  have f2 : l.getD 6 false = false := off h.cs.m2 f1
  have hN : N0 ≤ w.heap.size := by have := h.be.size; rw [h.n0] at this; exact this
  obtain ⟨i0, hi0, hz0, hz1, hz2⟩ := info_parts infoSr3
  refine wpOp_value (v := .slice (some ⟨w.heap.size, 0, none⟩) 0 0) (w' := w.alloc (.cells #[] 61)) ho hg ?_ ?_
  · exact run_empty a o w _ _ i0 Try.underlying23 hi0 hop
  · have hbe : Below N0 w0 (w.alloc (.cells #[] 61)) := h.be.alloc hN _
    rw [hd]
    refine ⟨hbe, h.next (by omega) (by simp) hbe (by have := h.cs; rw [f1, f2] at this; exact (show Ch _ _ _ _ _ _ _ true (l.getD 3 false) (l.getD 6 false) _ _ _ _ from by rw [f1, f2]; exact this.new hN)) (h.cv.keep (kt_alloc _ _ _)) (h.cf.keep (kt_alloc _ _ _)) ?_ ?_ h.cc⟩
    · exact h.bb
    · intro q; obtain ⟨g, cs, k1, k2, k3, k4, k5⟩ := h.al q; exact ⟨g, cs, k1, k2, k3, (Below.heap_alloc _ _ _ (lt_of_at k4)).trans k4, k5⟩
theorem jn_3 {N0 : Nat} {w0 : World} {a0 : Act} {xs1 xs2 xv1 xv2 xf1 xf2 : List Value} {ns1 ns2 nv1 nv2 nf1 nf2 : Nat} (K : JK w0 a0 xs1 xs2 xv1 xv2 xf1 xf2 ns1 ns2 nv1 nv2 nf1 nf2) {l : Array Bool} {a : Act} {w : World} (h : JI N0 w0 a0 xs1 xs2 xv1 xv2 xf1 xf2 ns1 ns2 nv1 nv2 nf1 nf2 l a w) (hl : l.getD 3 true = false) (hb : ∀ o, jnOps[3]? = some o → ∀ e ∈ o.after, Region.binds .any e = true → l.getD e.on false = true) {Q : Exit → Act → World → Prop} :
    wpOp Try.prog jnOps Q 3 (fun a' w' => Below N0 w0 w' ∧ JI N0 w0 a0 xs1 xs2 xv1 xv2 xf1 xf2 ns1 ns2 nv1 nv2 nf1 nf2 (l.setIfInBounds 3 true) a' w') a w := by
  obtain ⟨o, ho, hg, hd, hop, hdp⟩ := jnOp_3
  have hf := ff_of hl
  have e0 : l.getD 0 false = true := by obtain ⟨e, he, h1, h2⟩ := hdp 0 (by simp); rw [← h1]; exact hb _ ho e he h2
  have f2 : l.getD 6 false = false := off h.cs.m2 hf
  obtain ⟨b, hu, hown⟩ := h.cs.c0 e0 hf
  rw [hu] at hown
  have hP := K.ps1
  have hblk := (own_blk hown).2.2
  have hNb := (own_blk hown).1
  obtain ⟨i0, hi0, hz0, hz1, hz2⟩ := info_parts infoSr3
  refine wpOp_plain ho hg (wp_append_row (w := w) (.tmp 57) (.tmp 59) 23 hop N0 61 i0 (.agg srZ) 3 48 Try.underlying23 hi0 hz0 hz1 hz2 rfl (by decide) b 0 0 [] (show a.tmps.getD 57 undef = _ from hu) hown (Nat.le_refl _) (fun _ => True) _ ns1 xs1 (show a.tmps.getD 59 undef = _ from h.fr 59 (by simp)) (hP.at_ (by rw [h.n0]; exact h.be)) hP.len hP.one (by have := hP.few; unfold maxLen; omega) (by have := hP.few; omega) (by have := h.be.size; rw [h.n0] at this; exact this) fun g cap' w' hown' hgr => ?_)
  have hbe : Below N0 w0 w' := h.be.grown hgr (by have := h.be.size; rw [h.n0] at this; exact this) (fun k hk => by injection hk with hk; omega)
  rw [hd]
  refine ⟨hbe, h.next (by omega) (by simp) hbe (show Ch _ _ _ _ _ _ _ (l.getD 0 false) true (l.getD 6 false) _ _ _ _ from by rw [e0, f2]; exact Ch.one (own_cap' hown') hown') (h.cv.keep (kt_grown hgr hblk (by decide))) (h.cf.keep (kt_grown hgr hblk (by decide))) ?_ ?_ h.cc⟩
  · exact h.bb
  · intro q; obtain ⟨g, cs, k1, k2, k3, k4, k5⟩ := h.al q; exact ⟨g, cs, k1, k2, k3, (kt_grown hgr hblk (by decide) g cs (0, 0) k4).trans k4, k5⟩
theorem jn_6 {N0 : Nat} {w0 : World} {a0 : Act} {xs1 xs2 xv1 xv2 xf1 xf2 : List Value} {ns1 ns2 nv1 nv2 nf1 nf2 : Nat} (K : JK w0 a0 xs1 xs2 xv1 xv2 xf1 xf2 ns1 ns2 nv1 nv2 nf1 nf2) {l : Array Bool} {a : Act} {w : World} (h : JI N0 w0 a0 xs1 xs2 xv1 xv2 xf1 xf2 ns1 ns2 nv1 nv2 nf1 nf2 l a w) (hl : l.getD 6 true = false) (hb : ∀ o, jnOps[6]? = some o → ∀ e ∈ o.after, Region.binds .any e = true → l.getD e.on false = true) {Q : Exit → Act → World → Prop} :
    wpOp Try.prog jnOps Q 6 (fun a' w' => Below N0 w0 w' ∧ JI N0 w0 a0 xs1 xs2 xv1 xv2 xf1 xf2 ns1 ns2 nv1 nv2 nf1 nf2 (l.setIfInBounds 6 true) a' w') a w := by
  obtain ⟨o, ho, hg, hd, hop, hdp⟩ := jnOp_6
  have hf := ff_of hl
  have e3 : l.getD 3 false = true := by obtain ⟨e, he, h1, h2⟩ := hdp 3 (by simp); rw [← h1]; exact hb _ ho e he h2
  obtain ⟨b, cap, hu, hcap, hown⟩ := h.cs.c1 e3 hf
  rw [hu] at hown
  have hP := K.ps2
  have hblk := (own_blk hown).2.2
  have hNb := (own_blk hown).1
  have hP1 := K.ps1
  obtain ⟨i0, hi0, hz0, hz1, hz2⟩ := info_parts infoSr3
  refine wpOp_plain ho hg (wp_append_row (w := w) (.tmp 60) (.tmp 62) 23 hop N0 61 i0 (.agg srZ) 3 48 Try.underlying23 hi0 hz0 hz1 hz2 rfl (by decide) b ns1 cap xs1 (show a.tmps.getD 60 undef = _ from hu) hown hcap (fun _ => True) _ ns2 xs2 (show a.tmps.getD 62 undef = _ from h.fr 62 (by simp)) (hP.at_ (by rw [h.n0]; exact h.be)) hP.len hP.one (by have := hP.few; have := hP1.few; unfold maxLen; omega) (by have := hP.few; have := hP1.few; omega) (by have := h.be.size; rw [h.n0] at this; exact this) fun g cap' w' hown' hgr => ?_)
  have hbe : Below N0 w0 w' := h.be.grown hgr (by have := h.be.size; rw [h.n0] at this; exact this) (fun k hk => by injection hk with hk; omega)
  rw [hd]
  refine ⟨hbe, h.next (by omega) (by simp) hbe (show Ch _ _ _ _ _ _ _ (l.getD 0 false) (l.getD 3 false) true _ _ _ _ from by rw [e3]; exact Ch.two (h.cs.m1 e3) hown') (h.cv.keep (kt_grown hgr hblk (by decide))) (h.cf.keep (kt_grown hgr hblk (by decide))) ?_ ?_ h.cc⟩
  · intro q; have := (h.bb q).1; rw [hf] at this; simp at this
  · intro q; obtain ⟨g, cs, k1, k2, k3, k4, k5⟩ := h.al q; exact ⟨g, cs, k1, k2, k3, (kt_grown hgr hblk (by decide) g cs (0, 0) k4).trans k4, fun q => by have := (h.bb (h.cc q).1).1; rw [hf] at this; simp at this⟩
theorem jn_7 {N0 : Nat} {w0 : World} {a0 : Act} {xs1 xs2 xv1 xv2 xf1 xf2 : List Value} {ns1 ns2 nv1 nv2 nf1 nf2 : Nat} (K : JK w0 a0 xs1 xs2 xv1 xv2 xf1 xf2 ns1 ns2 nv1 nv2 nf1 nf2) {l : Array Bool} {a : Act} {w : World} (h : JI N0 w0 a0 xs1 xs2 xv1 xv2 xf1 xf2 ns1 ns2 nv1 nv2 nf1 nf2 l a w) (hl : l.getD 7 true = false) (hb : ∀ o, jnOps[7]? = some o → ∀ e ∈ o.after, Region.binds .any e = true → l.getD e.on false = true) {Q : Exit → Act → World → Prop} :
    wpOp Try.prog jnOps Q 7 (fun a' w' => Below N0 w0 w' ∧ JI N0 w0 a0 xs1 xs2 xv1 xv2 xf1 xf2 ns1 ns2 nv1 nv2 nf1 nf2 (l.setIfInBounds 7 true) a' w') a w := by
  obtain ⟨o, ho, hg, hd, hop, hdp⟩ := jnOp_7
  have hf := ff_of hl
  have f1 : l.getD 10 false = false := off h.cv.m1 hf
  have f2 : l.getD 13 false = false := off h.cv.m2 f1
  have hN : N0 ≤ w.heap.size := by have := h.be.size; rw [h.n0] at this; exact this
  obtain ⟨i0, hi0, hz0, hz1, hz2⟩ := info_parts infoVa6
  refine wpOp_value (v := .slice (some ⟨w.heap.size, 0, none⟩) 0 0) (w' := w.alloc (.cells #[] 38)) ho hg ?_ ?_
  · exact run_empty a o w _ _ i0 Try.underlying24 hi0 hop
  · have hbe : Below N0 w0 (w.alloc (.cells #[] 38)) := h.be.alloc hN _
    rw [hd]
    refine ⟨hbe, h.next (by omega) (by simp) hbe (h.cs.keep (kt_alloc _ _ _)) (by have := h.cv; rw [f1, f2] at this; exact (show Ch _ _ _ _ _ _ _ true (l.getD 10 false) (l.getD 13 false) _ _ _ _ from by rw [f1, f2]; exact this.new hN)) (h.cf.keep (kt_alloc _ _ _)) ?_ ?_ h.cc⟩
    · exact h.bb
    · intro q; obtain ⟨g, cs, k1, k2, k3, k4, k5⟩ := h.al q; exact ⟨g, cs, k1, k2, k3, (Below.heap_alloc _ _ _ (lt_of_at k4)).trans k4, k5⟩
theorem jn_10 {N0 : Nat} {w0 : World} {a0 : Act} {xs1 xs2 xv1 xv2 xf1 xf2 : List Value} {ns1 ns2 nv1 nv2 nf1 nf2 : Nat} (K : JK w0 a0 xs1 xs2 xv1 xv2 xf1 xf2 ns1 ns2 nv1 nv2 nf1 nf2) {l : Array Bool} {a : Act} {w : World} (h : JI N0 w0 a0 xs1 xs2 xv1 xv2 xf1 xf2 ns1 ns2 nv1 nv2 nf1 nf2 l a w) (hl : l.getD 10 true = false) (hb : ∀ o, jnOps[10]? = some o → ∀ e ∈ o.after, Region.binds .any e = true → l.getD e.on false = true) {Q : Exit → Act → World → Prop} :
    wpOp Try.prog jnOps Q 10 (fun a' w' => Below N0 w0 w' ∧ JI N0 w0 a0 xs1 xs2 xv1 xv2 xf1 xf2 ns1 ns2 nv1 nv2 nf1 nf2 (l.setIfInBounds 10 true) a' w') a w := by
  obtain ⟨o, ho, hg, hd, hop, hdp⟩ := jnOp_10
  have hf := ff_of hl
  have e7 : l.getD 7 false = true := by obtain ⟨e, he, h1, h2⟩ := hdp 7 (by simp); rw [← h1]; exact hb _ ho e he h2
  have f2 : l.getD 13 false = false := off h.cv.m2 hf
  obtain ⟨b, hu, hown⟩ := h.cv.c0 e7 hf
  rw [hu] at hown
  have hP := K.pv1
  have hblk := (own_blk hown).2.2
  have hNb := (own_blk hown).1
  obtain ⟨i0, hi0, hz0, hz1, hz2⟩ := info_parts infoVa6
  refine wpOp_plain ho hg (wp_append_row (w := w) (.tmp 64) (.tmp 66) 24 hop N0 38 i0 (.agg vaZ) 6 64 Try.underlying24 hi0 hz0 hz1 hz2 rfl (by decide) b 0 0 [] (show a.tmps.getD 64 undef = _ from hu) hown (Nat.le_refl _) (fun _ => True) _ nv1 xv1 (show a.tmps.getD 66 undef = _ from h.fr 66 (by simp)) (hP.at_ (by rw [h.n0]; exact h.be)) hP.len hP.one (by have := hP.few; unfold maxLen; omega) (by have := hP.few; omega) (by have := h.be.size; rw [h.n0] at this; exact this) fun g cap' w' hown' hgr => ?_)
  have hbe : Below N0 w0 w' := h.be.grown hgr (by have := h.be.size; rw [h.n0] at this; exact this) (fun k hk => by injection hk with hk; omega)
  rw [hd]
  refine ⟨hbe, h.next (by omega) (by simp) hbe (h.cs.keep (kt_grown hgr hblk (by decide))) (show Ch _ _ _ _ _ _ _ (l.getD 7 false) true (l.getD 13 false) _ _ _ _ from by rw [e7, f2]; exact Ch.one (own_cap' hown') hown') (h.cf.keep (kt_grown hgr hblk (by decide))) ?_ ?_ h.cc⟩
  · exact h.bb
  · intro q; obtain ⟨g, cs, k1, k2, k3, k4, k5⟩ := h.al q; exact ⟨g, cs, k1, k2, k3, (kt_grown hgr hblk (by decide) g cs (0, 0) k4).trans k4, k5⟩
theorem jn_13 {N0 : Nat} {w0 : World} {a0 : Act} {xs1 xs2 xv1 xv2 xf1 xf2 : List Value} {ns1 ns2 nv1 nv2 nf1 nf2 : Nat} (K : JK w0 a0 xs1 xs2 xv1 xv2 xf1 xf2 ns1 ns2 nv1 nv2 nf1 nf2) {l : Array Bool} {a : Act} {w : World} (h : JI N0 w0 a0 xs1 xs2 xv1 xv2 xf1 xf2 ns1 ns2 nv1 nv2 nf1 nf2 l a w) (hl : l.getD 13 true = false) (hb : ∀ o, jnOps[13]? = some o → ∀ e ∈ o.after, Region.binds .any e = true → l.getD e.on false = true) {Q : Exit → Act → World → Prop} :
    wpOp Try.prog jnOps Q 13 (fun a' w' => Below N0 w0 w' ∧ JI N0 w0 a0 xs1 xs2 xv1 xv2 xf1 xf2 ns1 ns2 nv1 nv2 nf1 nf2 (l.setIfInBounds 13 true) a' w') a w := by
  obtain ⟨o, ho, hg, hd, hop, hdp⟩ := jnOp_13
  have hf := ff_of hl
  have e10 : l.getD 10 false = true := by obtain ⟨e, he, h1, h2⟩ := hdp 10 (by simp); rw [← h1]; exact hb _ ho e he h2
  obtain ⟨b, cap, hu, hcap, hown⟩ := h.cv.c1 e10 hf
  rw [hu] at hown
  have hP := K.pv2
  have hblk := (own_blk hown).2.2
  have hNb := (own_blk hown).1
  have hP1 := K.pv1
  obtain ⟨i0, hi0, hz0, hz1, hz2⟩ := info_parts infoVa6
  refine wpOp_plain ho hg (wp_append_row (w := w) (.tmp 67) (.tmp 69) 24 hop N0 38 i0 (.agg vaZ) 6 64 Try.underlying24 hi0 hz0 hz1 hz2 rfl (by decide) b nv1 cap xv1 (show a.tmps.getD 67 undef = _ from hu) hown hcap (fun _ => True) _ nv2 xv2 (show a.tmps.getD 69 undef = _ from h.fr 69 (by simp)) (hP.at_ (by rw [h.n0]; exact h.be)) hP.len hP.one (by have := hP.few; have := hP1.few; unfold maxLen; omega) (by have := hP.few; have := hP1.few; omega) (by have := h.be.size; rw [h.n0] at this; exact this) fun g cap' w' hown' hgr => ?_)
  have hbe : Below N0 w0 w' := h.be.grown hgr (by have := h.be.size; rw [h.n0] at this; exact this) (fun k hk => by injection hk with hk; omega)
  rw [hd]
  refine ⟨hbe, h.next (by omega) (by simp) hbe (h.cs.keep (kt_grown hgr hblk (by decide))) (show Ch _ _ _ _ _ _ _ (l.getD 7 false) (l.getD 10 false) true _ _ _ _ from by rw [e10]; exact Ch.two (h.cv.m1 e10) hown') (h.cf.keep (kt_grown hgr hblk (by decide))) ?_ ?_ h.cc⟩
  · intro q; have := (h.bb q).1; rw [hf] at this; simp at this
  · intro q; obtain ⟨g, cs, k1, k2, k3, k4, k5⟩ := h.al q; exact ⟨g, cs, k1, k2, k3, (kt_grown hgr hblk (by decide) g cs (0, 0) k4).trans k4, fun q => by have := (h.bb (h.cc q).1).1; rw [hf] at this; simp at this⟩
theorem jn_14 {N0 : Nat} {w0 : World} {a0 : Act} {xs1 xs2 xv1 xv2 xf1 xf2 : List Value} {ns1 ns2 nv1 nv2 nf1 nf2 : Nat} (K : JK w0 a0 xs1 xs2 xv1 xv2 xf1 xf2 ns1 ns2 nv1 nv2 nf1 nf2) {l : Array Bool} {a : Act} {w : World} (h : JI N0 w0 a0 xs1 xs2 xv1 xv2 xf1 xf2 ns1 ns2 nv1 nv2 nf1 nf2 l a w) (hl : l.getD 14 true = false) (hb : ∀ o, jnOps[14]? = some o → ∀ e ∈ o.after, Region.binds .any e = true → l.getD e.on false = true) {Q : Exit → Act → World → Prop} :
    wpOp Try.prog jnOps Q 14 (fun a' w' => Below N0 w0 w' ∧ JI N0 w0 a0 xs1 xs2 xv1 xv2 xf1 xf2 ns1 ns2 nv1 nv2 nf1 nf2 (l.setIfInBounds 14 true) a' w') a w := by
  obtain ⟨o, ho, hg, hd, hop, hdp⟩ := jnOp_14
  have hf := ff_of hl
  have f1 : l.getD 17 false = false := off h.cf.m1 hf
  have f2 : l.getD 20 false = false := off h.cf.m2 f1
  have hN : N0 ≤ w.heap.size := by have := h.be.size; rw [h.n0] at this; exact this
  obtain ⟨i0, hi0, hz0, hz1, hz2⟩ := info_parts infoFn16
  refine wpOp_value (v := .slice (some ⟨w.heap.size, 0, none⟩) 0 0) (w' := w.alloc (.cells #[] 42)) ho hg ?_ ?_
  · exact run_empty a o w _ _ i0 Try.underlying25 hi0 hop
  · have hbe : Below N0 w0 (w.alloc (.cells #[] 42)) := h.be.alloc hN _
    rw [hd]
    refine ⟨hbe, h.next (by omega) (by simp) hbe (h.cs.keep (kt_alloc _ _ _)) (h.cv.keep (kt_alloc _ _ _)) (by have := h.cf; rw [f1, f2] at this; exact (show Ch _ _ _ _ _ _ _ true (l.getD 17 false) (l.getD 20 false) _ _ _ _ from by rw [f1, f2]; exact this.new hN)) ?_ ?_ h.cc⟩
    · exact h.bb
    · intro q; obtain ⟨g, cs, k1, k2, k3, k4, k5⟩ := h.al q; exact ⟨g, cs, k1, k2, k3, (Below.heap_alloc _ _ _ (lt_of_at k4)).trans k4, k5⟩
theorem jn_17 {N0 : Nat} {w0 : World} {a0 : Act} {xs1 xs2 xv1 xv2 xf1 xf2 : List Value} {ns1 ns2 nv1 nv2 nf1 nf2 : Nat} (K : JK w0 a0 xs1 xs2 xv1 xv2 xf1 xf2 ns1 ns2 nv1 nv2 nf1 nf2) {l : Array Bool} {a : Act} {w : World} (h : JI N0 w0 a0 xs1 xs2 xv1 xv2 xf1 xf2 ns1 ns2 nv1 nv2 nf1 nf2 l a w) (hl : l.getD 17 true = false) (hb : ∀ o, jnOps[17]? = some o → ∀ e ∈ o.after, Region.binds .any e = true → l.getD e.on false = true) {Q : Exit → Act → World → Prop} :
    wpOp Try.prog jnOps Q 17 (fun a' w' => Below N0 w0 w' ∧ JI N0 w0 a0 xs1 xs2 xv1 xv2 xf1 xf2 ns1 ns2 nv1 nv2 nf1 nf2 (l.setIfInBounds 17 true) a' w') a w := by
  obtain ⟨o, ho, hg, hd, hop, hdp⟩ := jnOp_17
  have hf := ff_of hl
  have e14 : l.getD 14 false = true := by obtain ⟨e, he, h1, h2⟩ := hdp 14 (by simp); rw [← h1]; exact hb _ ho e he h2
  have f2 : l.getD 20 false = false := off h.cf.m2 hf
  obtain ⟨b, hu, hown⟩ := h.cf.c0 e14 hf
  rw [hu] at hown
  have hP := K.pf1
  have hblk := (own_blk hown).2.2
  have hNb := (own_blk hown).1
  obtain ⟨i0, hi0, hz0, hz1, hz2⟩ := info_parts infoFn16
  refine wpOp_plain ho hg (wp_append_row (w := w) (.tmp 71) (.tmp 73) 25 hop N0 42 i0 (.agg fnZ) 16 208 Try.underlying25 hi0 hz0 hz1 hz2 rfl (by decide) b 0 0 [] (show a.tmps.getD 71 undef = _ from hu) hown (Nat.le_refl _) (fun _ => True) _ nf1 xf1 (show a.tmps.getD 73 undef = _ from h.fr 73 (by simp)) (hP.at_ (by rw [h.n0]; exact h.be)) hP.len hP.one (by have := hP.few; unfold maxLen; omega) (by have := hP.few; omega) (by have := h.be.size; rw [h.n0] at this; exact this) fun g cap' w' hown' hgr => ?_)
  have hbe : Below N0 w0 w' := h.be.grown hgr (by have := h.be.size; rw [h.n0] at this; exact this) (fun k hk => by injection hk with hk; omega)
  rw [hd]
  refine ⟨hbe, h.next (by omega) (by simp) hbe (h.cs.keep (kt_grown hgr hblk (by decide))) (h.cv.keep (kt_grown hgr hblk (by decide))) (show Ch _ _ _ _ _ _ _ (l.getD 14 false) true (l.getD 20 false) _ _ _ _ from by rw [e14, f2]; exact Ch.one (own_cap' hown') hown') ?_ ?_ h.cc⟩
  · exact h.bb
  · intro q; obtain ⟨g, cs, k1, k2, k3, k4, k5⟩ := h.al q; exact ⟨g, cs, k1, k2, k3, (kt_grown hgr hblk (by decide) g cs (0, 0) k4).trans k4, k5⟩
theorem jn_20 {N0 : Nat} {w0 : World} {a0 : Act} {xs1 xs2 xv1 xv2 xf1 xf2 : List Value} {ns1 ns2 nv1 nv2 nf1 nf2 : Nat} (K : JK w0 a0 xs1 xs2 xv1 xv2 xf1 xf2 ns1 ns2 nv1 nv2 nf1 nf2) {l : Array Bool} {a : Act} {w : World} (h : JI N0 w0 a0 xs1 xs2 xv1 xv2 xf1 xf2 ns1 ns2 nv1 nv2 nf1 nf2 l a w) (hl : l.getD 20 true = false) (hb : ∀ o, jnOps[20]? = some o → ∀ e ∈ o.after, Region.binds .any e = true → l.getD e.on false = true) {Q : Exit → Act → World → Prop} :
    wpOp Try.prog jnOps Q 20 (fun a' w' => Below N0 w0 w' ∧ JI N0 w0 a0 xs1 xs2 xv1 xv2 xf1 xf2 ns1 ns2 nv1 nv2 nf1 nf2 (l.setIfInBounds 20 true) a' w') a w := by
  obtain ⟨o, ho, hg, hd, hop, hdp⟩ := jnOp_20
  have hf := ff_of hl
  have e17 : l.getD 17 false = true := by obtain ⟨e, he, h1, h2⟩ := hdp 17 (by simp); rw [← h1]; exact hb _ ho e he h2
  obtain ⟨b, cap, hu, hcap, hown⟩ := h.cf.c1 e17 hf
  rw [hu] at hown
  have hP := K.pf2
  have hblk := (own_blk hown).2.2
  have hNb := (own_blk hown).1
  have hP1 := K.pf1
  obtain ⟨i0, hi0, hz0, hz1, hz2⟩ := info_parts infoFn16
  refine wpOp_plain ho hg (wp_append_row (w := w) (.tmp 74) (.tmp 76) 25 hop N0 42 i0 (.agg fnZ) 16 208 Try.underlying25 hi0 hz0 hz1 hz2 rfl (by decide) b nf1 cap xf1 (show a.tmps.getD 74 undef = _ from hu) hown hcap (fun _ => True) _ nf2 xf2 (show a.tmps.getD 76 undef = _ from h.fr 76 (by simp)) (hP.at_ (by rw [h.n0]; exact h.be)) hP.len hP.one (by have := hP.few; have := hP1.few; unfold maxLen; omega) (by have := hP.few; have := hP1.few; omega) (by have := h.be.size; rw [h.n0] at this; exact this) fun g cap' w' hown' hgr => ?_)
  have hbe : Below N0 w0 w' := h.be.grown hgr (by have := h.be.size; rw [h.n0] at this; exact this) (fun k hk => by injection hk with hk; omega)
  rw [hd]
  refine ⟨hbe, h.next (by omega) (by simp) hbe (h.cs.keep (kt_grown hgr hblk (by decide))) (h.cv.keep (kt_grown hgr hblk (by decide))) (show Ch _ _ _ _ _ _ _ (l.getD 14 false) (l.getD 17 false) true _ _ _ _ from by rw [e17]; exact Ch.two (h.cf.m1 e17) hown') ?_ ?_ h.cc⟩
  · intro q; have := (h.bb q).1; rw [hf] at this; simp at this
  · intro q; obtain ⟨g, cs, k1, k2, k3, k4, k5⟩ := h.al q; exact ⟨g, cs, k1, k2, k3, (kt_grown hgr hblk (by decide) g cs (0, 0) k4).trans k4, fun q => by have := (h.bb (h.cc q).1).1; rw [hf] at this; simp at this⟩
theorem jn_21 {N0 : Nat} {w0 : World} {a0 : Act} {xs1 xs2 xv1 xv2 xf1 xf2 : List Value} {ns1 ns2 nv1 nv2 nf1 nf2 : Nat} (K : JK w0 a0 xs1 xs2 xv1 xv2 xf1 xf2 ns1 ns2 nv1 nv2 nf1 nf2) {l : Array Bool} {a : Act} {w : World} (h : JI N0 w0 a0 xs1 xs2 xv1 xv2 xf1 xf2 ns1 ns2 nv1 nv2 nf1 nf2 l a w) (hl : l.getD 21 true = false) (hb : ∀ o, jnOps[21]? = some o → ∀ e ∈ o.after, Region.binds .any e = true → l.getD e.on false = true) {Q : Exit → Act → World → Prop} :
    wpOp Try.prog jnOps Q 21 (fun a' w' => Below N0 w0 w' ∧ JI N0 w0 a0 xs1 xs2 xv1 xv2 xf1 xf2 ns1 ns2 nv1 nv2 nf1 nf2 (l.setIfInBounds 21 true) a' w') a w := by
  obtain ⟨o, ho, hg, hd, hop, hdp⟩ := jnOp_21
  have hf := ff_of hl
  have e6 : l.getD 6 false = true := by obtain ⟨e, he, h1, h2⟩ := hdp 6 (by simp); rw [← h1]; exact hb _ ho e he h2
  have e13 : l.getD 13 false = true := by obtain ⟨e, he, h1, h2⟩ := hdp 13 (by simp); rw [← h1]; exact hb _ ho e he h2
  have e20 : l.getD 20 false = true := by obtain ⟨e, he, h1, h2⟩ := hdp 20 (by simp); rw [← h1]; exact hb _ ho e he h2
  refine wpOp_value (v := .agg #[a.tmps.getD 63 undef, a.tmps.getD 70 undef, a.tmps.getD 77 undef]) (w' := w) ho hg ?_ ?_
  · obtain ⟨g1, c1, u1, -⟩ := h.cs.c2 e6
    obtain ⟨g2, c2, u2, -⟩ := h.cv.c2 e13
    obtain ⟨g3, c3, u3, -⟩ := h.cf.c2 e20
    have v1 : a.eval (.tmp 63) = _ := u1
    have v2 : a.eval (.tmp 70) = _ := u2
    have v3 : a.eval (.tmp 77) = _ := u3
    rw [u1, u2, u3]
    exact run_prog a o w _ _ _ _ _ _ _ _ _ hop v1 v2 v3
  · rw [hd]
    refine ⟨h.be, h.next (by omega) (by simp) h.be (h.cs.keep (kt_refl _ _)) (h.cv.keep (kt_refl _ _)) (h.cf.keep (kt_refl _ _)) (fun _ => ⟨⟨e6, e13, e20⟩, rfl⟩) (fun q => by obtain ⟨g, cs, k1, k2, k3, k4, k5⟩ := h.al q; exact ⟨g, cs, k1, k2, k3, k4, k5⟩) (fun q => ⟨rfl, (h.cc q).2⟩)⟩
theorem jn_22 {N0 : Nat} {w0 : World} {a0 : Act} {xs1 xs2 xv1 xv2 xf1 xf2 : List Value} {ns1 ns2 nv1 nv2 nf1 nf2 : Nat} (K : JK w0 a0 xs1 xs2 xv1 xv2 xf1 xf2 ns1 ns2 nv1 nv2 nf1 nf2) {l : Array Bool} {a : Act} {w : World} (h : JI N0 w0 a0 xs1 xs2 xv1 xv2 xf1 xf2 ns1 ns2 nv1 nv2 nf1 nf2 l a w) (hl : l.getD 22 true = false) (hb : ∀ o, jnOps[22]? = some o → ∀ e ∈ o.after, Region.binds .any e = true → l.getD e.on false = true) {Q : Exit → Act → World → Prop} :
    wpOp Try.prog jnOps Q 22 (fun a' w' => Below N0 w0 w' ∧ JI N0 w0 a0 xs1 xs2 xv1 xv2 xf1 xf2 ns1 ns2 nv1 nv2 nf1 nf2 (l.setIfInBounds 22 true) a' w') a w := by
  obtain ⟨o, ho, hg, hd, hop, hdp⟩ := jnOp_22
  have hf := ff_of hl
  have hN : N0 ≤ w.heap.size := by have := h.be.size; rw [h.n0] at this; exact this
  refine wpOp_value (v := .pointer (some ⟨w.heap.size, 0, none⟩)) (w' := w.alloc (.cells prZ 27)) ho hg ?_ ?_
  · exact run_allocP a o w hop
  · have hbe : Below N0 w0 (w.alloc (.cells prZ 27)) := h.be.alloc hN _
    rw [hd]
    refine ⟨hbe, h.next (by omega) (by simp) hbe (h.cs.keep (kt_alloc _ _ _)) (h.cv.keep (kt_alloc _ _ _)) (h.cf.keep (kt_alloc _ _ _)) h.bb (fun _ => ⟨_, prZ, rfl, hN, rfl, heap_alloc_new w _, fun q => ?_⟩) (fun q => ⟨(h.cc q).1, rfl⟩)⟩
    have := (h.cc q).2
    rw [hf] at this
    cases this
theorem jn_23 {N0 : Nat} {w0 : World} {a0 : Act} {xs1 xs2 xv1 xv2 xf1 xf2 : List Value} {ns1 ns2 nv1 nv2 nf1 nf2 : Nat} (K : JK w0 a0 xs1 xs2 xv1 xv2 xf1 xf2 ns1 ns2 nv1 nv2 nf1 nf2) {l : Array Bool} {a : Act} {w : World} (h : JI N0 w0 a0 xs1 xs2 xv1 xv2 xf1 xf2 ns1 ns2 nv1 nv2 nf1 nf2 l a w) (hl : l.getD 23 true = false) (hb : ∀ o, jnOps[23]? = some o → ∀ e ∈ o.after, Region.binds .any e = true → l.getD e.on false = true) {Q : Exit → Act → World → Prop} :
    wpOp Try.prog jnOps Q 23 (fun a' w' => Below N0 w0 w' ∧ JI N0 w0 a0 xs1 xs2 xv1 xv2 xf1 xf2 ns1 ns2 nv1 nv2 nf1 nf2 (l.setIfInBounds 23 true) a' w') a w := by
  obtain ⟨o, ho, hg, hd, hop, hdp⟩ := jnOp_23
  have hf := ff_of hl
  have e22 : l.getD 22 false = true := by obtain ⟨e, he, h1, h2⟩ := hdp 22 (by simp); rw [← h1]; exact hb _ ho e he h2
  have e21 : l.getD 21 false = true := by obtain ⟨e, he, h1, h2⟩ := hdp 21 (by simp); rw [← h1]; exact hb _ ho e he h2
  obtain ⟨g, cs, k1, k2, k3, hg0, k5⟩ := h.al e22
  obtain ⟨⟨b1, b2, b3⟩, b4⟩ := h.bb e21
  obtain ⟨g1, c1, u1, -⟩ := h.cs.c2 b1
  obtain ⟨g2, c2, u2, -⟩ := h.cv.c2 b2
  obtain ⟨g3, c3, u3, -⟩ := h.cf.c2 b3
  refine wpOp_plain ho hg (wp_store_row 27 (.tmp 14) (.tmp 78) hop g #[a.tmps.getD 63 undef, a.tmps.getD 70 undef, a.tmps.getD 77 undef] k1 b4 27 cs hg0 sizePr3 k3 (by rw [u1, u2, u3]; simp [Value.oneCell']) ?_)
  have hbe : Below N0 w0 (w.setRow g #[a.tmps.getD 63 undef, a.tmps.getD 70 undef, a.tmps.getD 77 undef]) := h.be.trans ⟨rfl, rfl, rfl, by simp [World.setRow], fun k hk => setRow_other _ _ _ _ (by omega)⟩
  rw [hd]
  exact ⟨hbe, h.nextN (by omega) hbe (h.cs.keep (kt_set hg0 (by decide))) (h.cv.keep (kt_set hg0 (by decide))) (h.cf.keep (kt_set hg0 (by decide))) h.bb (fun q => ⟨g, _, k1, k2, rfl, setRow_heap w g _ _ _ _ hg0, fun _ => rfl⟩) (fun _ => ⟨e21, e22⟩)⟩
theorem jn_step {N0 : Nat} {w0 : World} {a0 : Act} {xs1 xs2 xv1 xv2 xf1 xf2 : List Value} {ns1 ns2 nv1 nv2 nf1 nf2 : Nat} (K : JK w0 a0 xs1 xs2 xv1 xv2 xf1 xf2 ns1 ns2 nv1 nv2 nf1 nf2) {Q : Exit → Act → World → Prop} (l : Array Bool) (a : Act) (w : World) (i : Nat) (o : Oper) (hs : l.size = jnOps.size) (h : JI N0 w0 a0 xs1 xs2 xv1 xv2 xf1 xf2 ns1 ns2 nv1 nv2 nf1 nf2 l a w) (ho : jnOps[i]? = some o) (hl : l.getD i true = false) (hb : ∀ e ∈ o.after, Region.binds .any e = true → l.getD e.on false = true) :
    wpOp Try.prog jnOps Q i (fun a' w' => Below N0 w0 w' ∧ JI N0 w0 a0 xs1 xs2 xv1 xv2 xf1 xf2 ns1 ns2 nv1 nv2 nf1 nf2 (l.setIfInBounds i true) a' w') a w := by
  have hi : i < 24 := by have := (Array.getElem?_eq_some_iff.1 ho).1; rw [jnOps_size] at this; exact this
  have hb2 : ∀ o', jnOps[i]? = some o' → ∀ e ∈ o'.after, Region.binds .any e = true → l.getD e.on false = true := fun o' ho' => by rw [ho] at ho'; injection ho' with ho'; subst ho'; exact hb
  have hr : i ∉ [1, 2, 4, 5, 8, 9, 11, 12, 15, 16, 18, 19] := fun hm => by have h1 := h.rd i hm; rw [ff_of hl] at h1; cases h1
  simp only [List.mem_cons, List.not_mem_nil, or_false, not_or] at hr
  have : i = 0 ∨ i = 3 ∨ i = 6 ∨ i = 7 ∨ i = 10 ∨ i = 13 ∨ i = 14 ∨ i = 17 ∨ i = 20 ∨ i = 21 ∨ i = 22 ∨ i = 23 := by omega
  rcases this with rfl | rfl | rfl | rfl | rfl | rfl | rfl | rfl | rfl | rfl | rfl | rfl
  · exact jn_0 K h hl hb2
  · exact jn_3 K h hl hb2
  · exact jn_6 K h hl hb2
  · exact jn_7 K h hl hb2
  · exact jn_10 K h hl hb2
  · exact jn_13 K h hl hb2
  · exact jn_14 K h hl hb2
  · exact jn_17 K h hl hb2
  · exact jn_20 K h hl hb2
  · exact jn_21 K h hl hb2
  · exact jn_22 K h hl hb2
  · exact jn_23 K h hl hb2
end Go.Proofs.Ytlobphanodhcoaa
/- The document's comparison of programs. Conditions: each theorem's. -/
namespace Go.Proofs.Ytlobphanodhcoaa
open Go.RowKit Go.Maps
open Lx Pa
end Go.Proofs.Ytlobphanodhcoaa
/- ParseJoins' region of six appends, used. Conditions: each theorem's. -/
namespace Go.Proofs.Ytlobphanodhcoaa
open Go.RowKit Go.Maps
set_option linter.unusedVariables false
set_option linter.unusedSimpArgs false
set_option maxRecDepth 100000
open Lx Pa
theorem Ch.start {N z na nb : Nat} {e : TypeId} {xa xb : List Value} {u0 u1 u2 : Value} {w : World} : Ch N e z xa xb na nb false false false u0 u1 u2 w := ⟨(fun a => by cases a), (fun a => by cases a), (fun a => by cases a), (fun a => by cases a), (fun a => by cases a)⟩
theorem jn_region {N0 : Nat} {w0 V0 : World} {a0 : Act} {xs1 xs2 xv1 xv2 xf1 xf2 : List Value} {ns1 ns2 nv1 nv2 nf1 nf2 : Nat} {Q : Exit → Act → World → Prop} {l0 : Array Bool} {f0 : Nat} (K : JK w0 a0 xs1 xs2 xv1 xv2 xf1 xf2 ns1 ns2 nv1 nv2 nf1 nf2) (hl : l0.size = 24) (hu : unl l0 ≤ f0)
    (h0 : JI N0 w0 a0 xs1 xs2 xv1 xv2 xf1 xf2 ns1 ns2 nv1 nv2 nf1 nf2 l0 a0 V0)
    (hend : ∀ l a w, JI N0 w0 a0 xs1 xs2 xv1 xv2 xf1 xf2 ns1 ns2 nv1 nv2 nf1 nf2 l a w → (∀ i, i < 24 → l.getD i false = true) → Q .normal a w) : wpAnyH Try.prog .any jnOps Q (fun W => Below N0 w0 W) f0 l0 a0 V0 :=
  wpAnyH_inv (S := fun W => Below N0 w0 W) (JI N0 w0 a0 xs1 xs2 xv1 xv2 xf1 xf2 ns1 ns2 nv1 nv2 nf1 nf2) jnOps_lt (fun l a w i o hs h ho hl hb => jn_step K l a w i o hs h ho hl hb)
    (fun l a w hs h hall => hend l a w h fun i hi => getD_ff (by rw [h.ls]; exact hi) (hall i (by rw [jnOps_size]; exact hi))) f0 l0 a0 V0 (by rw [jnOps_size]; exact hl) hu h0
theorem list86 (l : List Value) (h : l.length = 86) : ∃ x0 x1 x2 x3 x4 x5 x6 x7 x8 x9 x10 x11 x12 x13 x14 x15 x16 x17 x18 x19 x20 x21 x22 x23 x24 x25 x26 x27 x28 x29 x30 x31 x32 x33 x34 x35 x36 x37 x38 x39 x40 x41 x42 x43 x44 x45 x46 x47 x48 x49 x50 x51 x52 x53 x54 x55 x56 x57 x58 x59 x60 x61 x62 x63 x64 x65 x66 x67 x68 x69 x70 x71 x72 x73 x74 x75 x76 x77 x78 x79 x80 x81 x82 x83 x84 x85, l = [x0, x1, x2, x3, x4, x5, x6, x7, x8, x9, x10, x11, x12, x13, x14, x15, x16, x17, x18, x19, x20, x21, x22, x23, x24, x25, x26, x27, x28, x29, x30, x31, x32, x33, x34, x35, x36, x37, x38, x39, x40, x41, x42, x43, x44, x45, x46, x47, x48, x49, x50, x51, x52, x53, x54, x55, x56, x57, x58, x59, x60, x61, x62, x63, x64, x65, x66, x67, x68, x69, x70, x71, x72, x73, x74, x75, x76, x77, x78, x79, x80, x81, x82, x83, x84, x85] := by
  match l, h with
  | x0 :: x1 :: x2 :: x3 :: x4 :: x5 :: x6 :: x7 :: x8 :: x9 :: x10 :: x11 :: x12 :: x13 :: x14 :: x15 :: x16 :: x17 :: x18 :: x19 :: x20 :: x21 :: x22 :: x23 :: x24 :: x25 :: x26 :: x27 :: x28 :: x29 :: x30 :: x31 :: x32 :: x33 :: x34 :: x35 :: x36 :: x37 :: x38 :: x39 :: x40 :: x41 :: x42 :: x43 :: x44 :: x45 :: x46 :: x47 :: x48 :: x49 :: x50 :: x51 :: x52 :: x53 :: x54 :: x55 :: x56 :: x57 :: x58 :: x59 :: x60 :: x61 :: x62 :: x63 :: x64 :: x65 :: x66 :: x67 :: x68 :: x69 :: x70 :: x71 :: x72 :: x73 :: x74 :: x75 :: x76 :: x77 :: x78 :: x79 :: x80 :: x81 :: x82 :: x83 :: x84 :: x85 :: [], _ => exact ⟨x0, x1, x2, x3, x4, x5, x6, x7, x8, x9, x10, x11, x12, x13, x14, x15, x16, x17, x18, x19, x20, x21, x22, x23, x24, x25, x26, x27, x28, x29, x30, x31, x32, x33, x34, x35, x36, x37, x38, x39, x40, x41, x42, x43, x44, x45, x46, x47, x48, x49, x50, x51, x52, x53, x54, x55, x56, x57, x58, x59, x60, x61, x62, x63, x64, x65, x66, x67, x68, x69, x70, x71, x72, x73, x74, x75, x76, x77, x78, x79, x80, x81, x82, x83, x84, x85, rfl⟩
theorem flat_len {α : Type} {E : Elem α} {w : World} {S : Nat → Prop} : ∀ (rows : List (List Value)) (l : List α), rows.length = l.length → (∀ (i : Nat) (x : α) (c : List Value), l[i]? = some x → rows[i]? = some c → E.At w S x c) → rows.flatten.length = l.length * E.z ∧ ∀ u ∈ rows.flatten, u.oneCell' = true := by
  intro rows
  induction rows with
  | nil => intro l hl _; cases l with | nil => simp | cons x l => simp at hl
  | cons r rows ih =>
    intro l hl h
    cases l with
    | nil => simp at hl
    | cons x l =>
      obtain ⟨k1, k2⟩ := ih l (by simpa using hl) (fun i y c hy hc => h (i + 1) y c (by simpa using hy) (by simpa using hc))
      have h0 := h 0 x r rfl rfl
      refine ⟨?_, fun u hu => ?_⟩
      · rw [List.flatten_cons, List.length_append, k1, E.len h0, List.length_cons, Nat.add_mul]
        omega
      · rw [List.flatten_cons] at hu
        rcases List.mem_append.1 hu with hu | hu
        · exact E.one h0 u hu
        · exact k2 u hu
/-- The parts of a program as they are to be appended. -/
theorem part_of {α : Type} {E : Elem α} {w : World} {S : Nat → Prop} {l : List α} {v : Value} (h : LAt E w S l v) (hn : l.length ≤ 2501) : ∃ rows : List (List Value), rows.length = l.length ∧ PartIn w v l.length E.z rows.flatten ∧ ∀ (i : Nat) (x : α) (c : List Value), l[i]? = some x → rows[i]? = some c → E.At w (fun _ => True) x c := by
  obtain ⟨rows, h1, h2, h3⟩ := h
  obtain ⟨k1, k2⟩ := flat_len rows l h1 h3
  exact ⟨rows, h1, ⟨h2.keep (fun g _ _ => ⟨trivial, rfl⟩) (Nat.le_refl _), k1, k2, hn⟩, fun i x c hx hc => E.keep (h3 i x c hx hc) (fun g _ _ => ⟨trivial, rfl⟩) (Nat.le_refl _)⟩
/-- .. and as they were. -/
theorem lat_join {α : Type} {E : Elem α} {w0 w : World} {N : Nat} {e : TypeId} {l1 l2 : List α} {rows1 rows2 : List (List Value)} {v : Value} (h1 : rows1.length = l1.length) (h2 : rows2.length = l2.length)
    (e1 : ∀ (i : Nat) (x : α) (c : List Value), l1[i]? = some x → rows1[i]? = some c → E.At w0 (fun _ => True) x c) (e2 : ∀ (i : Nat) (x : α) (c : List Value), l2[i]? = some x → rows2[i]? = some c → E.At w0 (fun _ => True) x c)
    (hown : w.ownsRow N e E.z v (l1.length + l2.length) (rows1.flatten ++ rows2.flatten)) (hb : Below w0.heap.size w0 w) : LAt E w (fun _ => True) (l1 ++ l2) v := by
  have key : ∀ (y : α) (d : List Value), E.At w0 (fun _ => True) y d → E.At w (fun _ => True) y d := fun y d h => E.keep h (fun k _ hl => ⟨trivial, hb.block k hl⟩) hb.size
  refine ⟨rows1 ++ rows2, by simp [h1, h2], ?_, fun i y d hy hd => key y d ?_⟩
  · obtain ⟨hl, hw⟩ := hown
    rw [List.length_append, List.flatten_append]
    rcases hw with ⟨hw, h4⟩ | ⟨g, cap, cur, rfl, hb, hh, hc1, hc2, hcs, hct⟩
    · rw [hw]; exact ⟨none, 0, by rw [h4], by omega, by unfold maxLen; omega, fun h => by omega⟩
    · refine ⟨_, cap, rfl, hc1, hc2, fun _ => ⟨g, 0, rfl, trivial, lt_of_at hh, fun j u hu => ?_⟩⟩
      rw [cell_of_row _ _ _ _ _ _ hh, Nat.zero_add, ← Array.getElem?_toList]
      rw [← hct] at hu
      rw [List.getElem?_take] at hu
      split at hu
      · exact hu
      · cases hu
  · rcases Nat.lt_or_ge i l1.length with hi | hi
    · rw [List.getElem?_append_left hi] at hy
      rw [List.getElem?_append_left (by omega)] at hd
      exact e1 i y d hy hd
    · rw [List.getElem?_append_right hi] at hy
      rw [List.getElem?_append_right (by omega), h1] at hd
      exact e2 _ y d hy hd
end Go.Proofs.Ytlobphanodhcoaa
/- The laws' fixed fact. Conditions: each theorem's. -/
namespace Go.Proofs.Ytlobphanodhcoaa
open Go.RowKit Go.Maps
set_option linter.unusedVariables false
set_option linter.unusedSimpArgs false
set_option maxRecDepth 100000
open Lx Pa
set_option maxHeartbeats 8000000 in
theorem awake_any {w : World} (hM : MaxIs w) :
    Calls Try.prog 4 #[] w fun e w' => e = .returned (.bool true) ∧ Below w.heap.size w w' := by
  have hp := parse_any txA w (by decide) hM
  unfold ParseP at hp
  rw [pv_A] at hp
  go_enter Try.func4, Try.ntmps4
  go_wp2_with fail
  refine hp.mono ?_
  rintro e w1 ⟨vs, vv, vf, rfl, hpa, b1⟩
  clear hp
  obtain ⟨gf, of', cf, gk, ok, ck, gx, ox, cx, c, rfl, lf, q1, lk, q2, lx, hx, q3, g1, g2, g3⟩ := prog_view hpa (f := fnA) rfl rfl
  obtain ⟨kd, op, nm, num, kids, ty, A, cap, e1, rfl, hk⟩ := hx.inv
  injection e1 with a1 a2 a3 a4 a5 a6 a7
  clear a7
  subst a1 a2 a3 a4 a5 a6
  obtain ⟨gq, oq, cq, c2, e2, lq, _, _, g4, hq, q4⟩ := (list_exs hk).get 0 rfl
  injection e2 with e2 e3 e4
  subst e2 e4
  obtain ⟨kd', op', nm', num', kids', ty', A', cap', e1', rfl, hk'⟩ := ExAt.inv hq
  injection e1' with a1 a2 a3 a4 a5 a6 a7
  clear a2 a3 a4 a5 a6 a7
  subst a1
  have k0 := q4 0 _ rfl
  have hM1 := hM.keep b1
  have hbA := b1.alloc b1.size (.cells #[vs, vv, .slice (some ⟨gf, of', none⟩) 1 cf] 27)
  have hp2 := parse_any txB (w1.alloc (.cells #[vs, vv, .slice (some ⟨gf, of', none⟩) 1 cf] 27)) (by decide) (hM1.keep (belowA _ _))
  unfold ParseP at hp2
  rw [show (parseV txB).2.1 = 6 from by rw [pv_B], show (parseV txB).2.2 = 1 from by rw [pv_B]] at hp2
  have hrow := heap_alloc_new w1 (.cells #[vs, vv, .slice (some ⟨gf, of', none⟩) 1 cf] 27)
  have HROW := Lib.hid hrow
  have HPA := Lib.hid hpa
  have HONE := Lib.hid hpa.one
  clear hrow hpa hM1
  have HQ := Lib.hid (And.intro q1 (And.intro q2 (And.intro (q3 0 _ rfl) (And.intro (q3 1 _ rfl) (And.intro (q3 2 _ rfl) (And.intro (q3 3 _ rfl) (And.intro (q3 4 _ rfl) (And.intro (q3 5 _ rfl) (And.intro (q3 6 _ rfl) (And.intro (q3 7 _ rfl) (And.intro (q3 8 _ rfl) k0)))))))))))
  clear q1 q2 q3 q4 k0
  go_wp2_with (((with_reducible refine stN 27 w1.heap.size #[vs, vv, .slice (some ⟨gf, of', none⟩) 1 cf] rfl ?_ ?_ ?_ ?_ ?_ ?_); rfl; rfl; exact sizePr; rfl; exact HONE.out))
  refine hp2.mono ?_
  rintro e w2 ⟨us, uv, uf, rfl, hpb, b2⟩
  clear hp2
  have hS := szA w1 (.cells #[vs, vv, .slice (some ⟨gf, of', none⟩) 1 cf] 27)
  have z2 : w1.heap.size + 1 ≤ w2.heap.size := by have := b2.size; omega
  have hb3 := hbA.trans (b2.mono (by have := b1.size; omega))
  have hb4 := hb3.alloc (by have := b1.size; omega) (.cells #[us, uv, uf] 27)
  have old : ∀ (g o : Nat), g < w1.heap.size → (w2.alloc (.cells #[us, uv, uf] 27)).cell? ⟨g, o, none⟩ = w1.cell? ⟨g, o, none⟩ := fun g o hg =>
    World.cell?_of_block (w := w1) ((Below.heap_alloc _ _ _ (show g < w2.heap.size by omega)).trans ((b2.block g (by omega)).trans (Below.heap_alloc _ _ _ hg)))
  have p2 : (w2.alloc (.cells #[us, uv, uf] 27)).cell? ⟨w1.heap.size, 2, none⟩ = some (.slice (some ⟨gf, of', none⟩) 1 cf) := by
    rw [World.cell?_of_block (w := w2) (Below.heap_alloc _ _ _ (show w1.heap.size < w2.heap.size by omega)), cell_of_row _ _ _ _ _ _ ((b2.block w1.heap.size (by omega)).trans HROW.out)]
    rfl
  obtain ⟨q1, q2, x0, x1, x2, x3, x4, x5, x6, x7, x8, k0⟩ := HQ.out
  have q1' := (old _ _ g1).trans q1
  have q2' := (old _ _ g2).trans q2
  have x0' := (old _ _ g3).trans x0
  have x1' := (old _ _ g3).trans x1
  have x2' := (old _ _ g3).trans x2
  have x3' := (old _ _ g3).trans x3
  have x4' := (old _ _ g3).trans x4
  have x5' := (old _ _ g3).trans x5
  have x6' := (old _ _ g3).trans x6
  have x7' := (old _ _ g3).trans x7
  have x8' := (old _ _ g3).trans x8
  have k0' := (old _ _ g4).trans k0
  have g1' : gf < w2.heap.size + 1 := by omega
  have g2' : gk < w2.heap.size + 1 := by omega
  have g3' : gx < w2.heap.size + 1 := by omega
  have g4' : gq < w2.heap.size + 1 := by omega
  have HB4 := Lib.hid hb4
  have HONB := Lib.hid hpb.one
  clear old q1 q2 x0 x1 x2 x3 x4 x5 x6 x7 x8 k0 hb3 hb4 b1 b2 hbA hpb
  simp only [Nat.zero_mul, Nat.zero_add, Nat.add_zero] at *
  go_wp2_with (((with_reducible refine stN 27 w2.heap.size #[us, uv, uf] rfl ?_ ?_ ?_ ?_ ?_ ?_); rfl; rfl; exact sizePr; rfl; exact HONB.out))
  go_ret
  exact ⟨rfl, (HB4.out.alloc (by simp only [szA]; omega) _)⟩
end Go.Proofs.Ytlobphanodhcoaa
/- The document's comparison of programs. Conditions: each theorem's. -/
namespace Go.Proofs.Ytlobphanodhcoaa
open Go.RowKit Go.Maps
open Lx Pa
theorem same_any (p q : PPr) (pl : Bool) (vs vv vf us uv uf : Value) (w : World) (S1 S2 : Nat → Prop) (h1 : PrAt w S1 p vs vv vf) (h2 : PrAt w S2 q us uv uf) :
    Calls Try.prog 6 #[.agg #[vs, vv, vf], .agg #[us, uv, uf], .bool pl] w fun e w' => e = .returned (.bool (sameB (EqP pl p q))) ∧ Below w.heap.size w w' := by
  obtain ⟨A1, c1, rfl⟩ := h1.s.slice
  obtain ⟨A2, c2, rfl⟩ := h1.v.slice
  obtain ⟨A3, c3, rfl⟩ := h1.f.slice
  obtain ⟨A4, c4, rfl⟩ := h2.s.slice
  obtain ⟨A5, c5, rfl⟩ := h2.v.slice
  obtain ⟨A6, c6, rfl⟩ := h2.f.slice
  cases pl with
  | true => exact same_true p q _ _ _ _ _ _ _ _ _ _ _ _ w S1 S2 h1 h2
  | false => exact same_false p q _ _ _ _ _ _ _ _ _ _ _ _ w S1 S2 h1 h2
end Go.Proofs.Ytlobphanodhcoaa
/- ParseJoins answers true. Conditions: each theorem's. -/
namespace Go.Proofs.Ytlobphanodhcoaa
open Go.RowKit Go.Maps
set_option linter.unusedVariables false
set_option linter.unusedSimpArgs false
set_option maxRecDepth 100000
open Lx Pa
theorem cells3 {V : World} {g : Nat} {t : TypeId} {a0 a1 a2 : Value} (h : V.heap[g]? = some (.cells #[a0, a1, a2] t)) : V.cell? ⟨g, 0, none⟩ = some a0 ∧ V.cell? ⟨g, 1, none⟩ = some a1 ∧ V.cell? ⟨g, 2, none⟩ = some a2 := by
  refine ⟨?_, ?_, ?_⟩ <;> (rw [cell_of_row _ _ _ _ _ _ h]; rfl)
theorem row_in {w w' : World} {B j : Nat} {x : Obj} (h : Below B w w') (hx : w.heap[j]? = some x) (hj : j < B) : w'.heap[j]? = some x := (h.block j hj).trans hx
theorem cnt_ss (p : PPr) (h : cnt p ≤ 2501) : p.ss.length ≤ 2501 ∧ p.vs.length ≤ 2501 ∧ p.fs.length ≤ 2501 := by unfold cnt at h; omega
set_option maxHeartbeats 32000000 in
theorem parseJoins_walk {w : World} (s t : ByteArray) (hM : MaxIs w) (hs0 : s.size ≤ maxLen) (ht0 : t.size ≤ maxLen) :
    Calls Try.prog 3 #[.string s, .string t] w fun e w' => e = .returned (.bool true) ∧ Below w.heap.size w w' := by
  unfold maxLen at hs0 ht0
  go_enter Try.func3, Try.ntmps3
  go_wp2_with fail
  refine (awake_any hM).mono ?_
  rintro e w1 ⟨rfl, hb1⟩
  by_cases hbig : 2000 < s.size
  · have hb' : (2000 : Int) < (s.size : Int) := by omega
    go_wp2_with fail
    refine (awake_any (hM.keep hb1)).mono ?_
    rintro e w2 ⟨rfl, h2⟩
    go_wp2
    go_ret
    exact ⟨rfl, hb1.trans (h2.mono hb1.size)⟩
  have hb' : ¬ (2000 : Int) < (s.size : Int) := by omega
  by_cases hbig2 : 2000 < t.size
  · have hb'' : (2000 : Int) < (t.size : Int) := by omega
    go_wp2_with fail
    refine (awake_any (hM.keep hb1)).mono ?_
    rintro e w2 ⟨rfl, h2⟩
    go_wp2
    go_ret
    exact ⟨rfl, hb1.trans (h2.mono hb1.size)⟩
  have hb'' : ¬ (2000 : Int) < (t.size : Int) := by omega
  have hxs : (s ++ ⟨#[10]⟩ ++ t).size ≤ 1048576 := by rw [← sz, appL, appL]; simp only [List.length_append, sz]; simp; omega
  have HJ := Lib.hid (fun ha hb => parse_join (a := s) (b := t) ha hb (by omega) (by omega))
  have HC1 := Lib.hid (fun h => parse_cnt (a := s) h)
  have HC2 := Lib.hid (fun h => parse_cnt (a := t) h)
  have HP1 : Hid (∀ W, MaxIs W → Calls Try.prog 5 #[.string s] W (ParseP s W)) := Lib.hid (fun W hW => parse_any s W (by omega) hW)
  have HP2 : Hid (∀ W, MaxIs W → Calls Try.prog 5 #[.string t] W (ParseP t W)) := Lib.hid (fun W hW => parse_any t W (by omega) hW)
  have HP3 : Hid (∀ W, MaxIs W → Calls Try.prog 5 #[.string (s ++ ⟨#[10]⟩ ++ t)] W (ParseP (s ++ ⟨#[10]⟩ ++ t) W)) := Lib.hid (fun W hW => parse_any _ W hxs hW)
  unfold ParseP at HP1 HP2 HP3
  generalize parseV s = P1 at *
  generalize parseV t = P2 at *
  generalize parseV (s ++ ⟨#[10]⟩ ++ t) = P3 at *
  clear hxs
  go_wp2_with fail
  refine (HP1.out _ (hM.keep hb1)).mono ?_
  rintro e w2 ⟨v1, v2, v3, rfl, hpa, h2⟩
  have hb2 := hb1.trans (h2.mono hb1.size)
  obtain ⟨A1, c1, rfl⟩ := hpa.s.slice
  obtain ⟨A2, c2, rfl⟩ := hpa.v.slice
  obtain ⟨A3, c3, rfl⟩ := hpa.f.slice
  have HPA := Lib.hid hpa
  clear hpa h2 HP1
  go_wp2_with fail
  generalize hX : w2.alloc (.cells #[.slice A1 P1.1.ss.length c1, .slice A2 P1.1.vs.length c2, .slice A3 P1.1.fs.length c3] 27) = w3
  have hb3 : Below w2.heap.size w2 w3 := by rw [← hX]; exact (Below.refl _ _).alloc (Nat.le_refl _) _
  have r5 : w3.heap[w2.heap.size]? = some (.cells #[.slice A1 P1.1.ss.length c1, .slice A2 P1.1.vs.length c2, .slice A3 P1.1.fs.length c3] 27) := by rw [← hX]; exact heap_alloc_new _ _
  replace HPA := Lib.hid (HPA.out.keep (S' := fun _ => True) (fun g _ hl => ⟨trivial, hb3.block g hl⟩) hb3.size)
  replace hb2 := hb2.trans (hb3.mono hb2.size)
  clear hX hb3
  generalize w2.heap.size = b5 at *
  have hl5 := lt_of_at r5
  refine (HP2.out _ (hM.keep hb2)).mono ?_
  rintro e w4 ⟨u1, u2, u3, rfl, hpb, h4⟩
  obtain ⟨B1, d1, rfl⟩ := hpb.s.slice
  obtain ⟨B2, d2, rfl⟩ := hpb.v.slice
  obtain ⟨B3, d3, rfl⟩ := hpb.f.slice
  have HPB := Lib.hid hpb
  replace r5 := row_in h4 r5 hl5
  replace HPA := Lib.hid (HPA.out.keep (S' := fun _ => True) (fun g _ hl => ⟨trivial, h4.block g hl⟩) h4.size)
  replace hb2 := hb2.trans (h4.mono hb2.size)
  clear hpb h4 HP2 hl5
  have R5 := Lib.hid r5
  clear r5
  by_cases her1 : P1.2.2 = 0
  rotate_left
  · have hne : (P1.2.2 == 0) = false := beq_eq_false_iff_ne.mpr her1
    have hne2 : (P1.2.2 != 0) = true := by rw [bne, hne]; rfl
    go_wp2
    go_ret
    exact ⟨rfl, hb2.alloc hb2.size _⟩
  by_cases her2 : P2.2.2 = 0
  rotate_left
  · have HE1 := her1
    have hne1 : (P1.2.2 == 0) = true := beq_iff_eq.mpr her1
    have hne3 : (P1.2.2 != 0) = false := by rw [bne, hne1]; rfl
    have hne : (P2.2.2 == 0) = false := beq_eq_false_iff_ne.mpr her2
    have hne2 : (P2.2.2 != 0) = true := by rw [bne, hne]; rfl
    clear her1 HE1
    go_wp2
    go_ret
    exact ⟨rfl, hb2.alloc hb2.size _⟩
  have hj := HJ.out her1 her2
  have hn1 := Lib.hid (cnt_ss _ (HC1.out her1))
  have hn2 := Lib.hid (cnt_ss _ (HC2.out her2))
  have hne1 : (P1.2.2 == 0) = true := beq_iff_eq.mpr her1
  have hne3 : (P1.2.2 != 0) = false := by rw [bne, hne1]; rfl
  have hne2 : (P2.2.2 == 0) = true := beq_iff_eq.mpr her2
  have hne4 : (P2.2.2 != 0) = false := by rw [bne, hne2]; rfl
  clear HJ HC1 HC2 her1 her2
  have HJ := Lib.hid hj
  clear hj
  go_wp2_with fail
  generalize hX : w4.alloc (.cells #[.slice B1 P2.1.ss.length d1, .slice B2 P2.1.vs.length d2, .slice B3 P2.1.fs.length d3] 27) = w5
  have hb3 : Below w4.heap.size w4 w5 := by rw [← hX]; exact (Below.refl _ _).alloc (Nat.le_refl _) _
  have r8 : w5.heap[w4.heap.size]? = some (.cells #[.slice B1 P2.1.ss.length d1, .slice B2 P2.1.vs.length d2, .slice B3 P2.1.fs.length d3] 27) := by rw [← hX]; exact heap_alloc_new _ _
  replace HPA := Lib.hid (HPA.out.keep (S' := fun _ => True) (fun g _ hl => ⟨trivial, hb3.block g hl⟩) hb3.size)
  replace HPB := Lib.hid (HPB.out.keep (S' := fun _ => True) (fun g _ hl => ⟨trivial, hb3.block g hl⟩) hb3.size)
  replace hb2 := hb2.trans (hb3.mono hb2.size)
  replace R5 := Lib.hid (row_in hb3 R5.out (lt_of_at R5.out))
  clear hX hb3
  generalize w4.heap.size = b8 at *
  refine (HP3.out _ (hM.keep hb2)).mono ?_
  rintro e w6 ⟨x1, x2, x3, rfl, hpc, h6⟩
  obtain ⟨C1, e1, rfl⟩ := hpc.s.slice
  obtain ⟨C2, e2, rfl⟩ := hpc.v.slice
  obtain ⟨C3, e3, rfl⟩ := hpc.f.slice
  have HPC := Lib.hid hpc
  have R8 := Lib.hid (row_in h6 r8 (lt_of_at r8))
  replace R5 := Lib.hid (row_in h6 R5.out (lt_of_at R5.out))
  replace HPA := Lib.hid (HPA.out.keep (S' := fun _ => True) (fun g _ hl => ⟨trivial, h6.block g hl⟩) h6.size)
  replace HPB := Lib.hid (HPB.out.keep (S' := fun _ => True) (fun g _ hl => ⟨trivial, h6.block g hl⟩) h6.size)
  replace hb2 := hb2.trans (h6.mono hb2.size)
  clear hpc h6 HP3 r8
  by_cases h3 : P3.2.2 = 3
  · have hne5 : (P3.2.2 == 3) = true := beq_iff_eq.mpr h3
    clear h3 HJ
    go_wp2
    go_ret
    exact ⟨rfl, hb2.alloc hb2.size _⟩
  obtain ⟨h0, heq⟩ := HJ.out.resolve_left h3
  have hne5 : (P3.2.2 == 3) = false := beq_eq_false_iff_ne.mpr h3
  have HEQ := Lib.hid heq
  have H0 := Lib.hid h0
  clear HJ h3 h0 heq
  go_wp2_with fail
  generalize hX : w6.alloc (.cells #[.slice C1 P3.1.ss.length e1, .slice C2 P3.1.vs.length e2, .slice C3 P3.1.fs.length e3] 27) = Y
  have hb3 : Below w6.heap.size w6 Y := by rw [← hX]; exact (Below.refl _ _).alloc (Nat.le_refl _) _
  have r11 : Y.heap[w6.heap.size]? = some (.cells #[.slice C1 P3.1.ss.length e1, .slice C2 P3.1.vs.length e2, .slice C3 P3.1.fs.length e3] 27) := by rw [← hX]; exact heap_alloc_new _ _
  replace HPA := Lib.hid (HPA.out.keep (S' := fun _ => True) (fun g _ hl => ⟨trivial, hb3.block g hl⟩) hb3.size)
  replace HPB := Lib.hid (HPB.out.keep (S' := fun _ => True) (fun g _ hl => ⟨trivial, hb3.block g hl⟩) hb3.size)
  replace HPC := Lib.hid (HPC.out.keep (S' := fun _ => True) (fun g _ hl => ⟨trivial, hb3.block g hl⟩) hb3.size)
  replace hb2 := hb2.trans (hb3.mono hb2.size)
  replace R5 := Lib.hid (row_in hb3 R5.out (lt_of_at R5.out))
  replace R8 := Lib.hid (row_in hb3 R8.out (lt_of_at R8.out))
  have R11 := Lib.hid r11
  clear hX hb3 r11
  generalize w6.heap.size = b11 at *
  obtain ⟨k0, k1, k2⟩ := cells3 R5.out
  obtain ⟨q0, q1, q2⟩ := cells3 R8.out
  have hlb5 := lt_of_at R5.out
  have hlb8 := lt_of_at R8.out
  obtain ⟨n11, n12, n13⟩ := hn1.out
  obtain ⟨n21, n22, n23⟩ := hn2.out
  obtain ⟨rs1, g1, ps1, es1⟩ := part_of HPA.out.s n11
  obtain ⟨rv1, g2, pv1, ev1⟩ := part_of HPA.out.v n12
  obtain ⟨rf1, g3, pf1, ef1⟩ := part_of HPA.out.f n13
  obtain ⟨rs2, g4, ps2, es2⟩ := part_of HPB.out.s n21
  obtain ⟨rv2, g5, pv2, ev2⟩ := part_of HPB.out.v n22
  obtain ⟨rf2, g6, pf2, ef2⟩ := part_of HPB.out.f n23
  clear n11 n12 n13 n21 n22 n23
  have PS := Lib.hid (And.intro ps1 (And.intro pv1 (And.intro pf1 (And.intro ps2 (And.intro pv2 pf2)))))
  have PG := Lib.hid (And.intro g1 (And.intro g2 (And.intro g3 (And.intro g4 (And.intro g5 g6)))))
  have PE := Lib.hid (And.intro es1 (And.intro ev1 (And.intro ef1 (And.intro es2 (And.intro ev2 ef2)))))
  clear ps1 pv1 pf1 ps2 pv2 pf2 g1 g2 g3 g4 g5 g6 es1 ev1 ef1 es2 ev2 ef2
  refine wp_region_held_drew (S := fun W : World => Below Y.heap.size Y W) (by kernel_rfl) ((Below.refl _ _).drew) (fun hHeld => ?_)
  generalize hYD : Y.drew = V0 at *
  clear hYD
  refine wpAnyH_take (i := 1) (oi := ({ dst := some 58, op := Go.Op.fieldAddr 27 (Go.Operand.tmp 5) 0, type := 0, pos := "law.go:77", after := #[], guard := none } : Oper)) (v := .pointer (some ⟨b5, 0, none⟩)) rfl (by kernel_rfl) (by kernel_rfl) (by kernel_rfl) (fun _ _ _ h => h) (Or.inl ⟨by rfl, ?hy1⟩) (by assumption) ?_
  case hy1 => ((intro W hSW; (try dsimp only at hSW); go_simp); (try with_reducible rfl))
  simp only [Act.put, List.setIfInBounds_toArray, List.set_cons_zero, List.set_cons_succ]
  refine wpAnyH_take (i := 2) (oi := ({ dst := some 59, op := Go.Op.load 23 (Go.Operand.tmp 58), type := 23, pos := "law.go:77", after := #[{ on := 1, ground := Go.Ground.data }], guard := none } : Oper)) (v := .slice A1 P1.1.ss.length c1) rfl (by kernel_rfl) (by kernel_rfl) (by kernel_rfl) (fun _ _ _ h => h) (Or.inl ⟨by rfl, ?hy2⟩) (by assumption) ?_
  case hy2 => ((intro W hSW; have e0 := (hSW.cell (p := ⟨b5, 0, none⟩) hlb5).trans k0; clear hSW; go_simp); (try with_reducible rfl))
  simp only [Act.put, List.setIfInBounds_toArray, List.set_cons_zero, List.set_cons_succ]
  refine wpAnyH_take (i := 4) (oi := ({ dst := some 61, op := Go.Op.fieldAddr 27 (Go.Operand.tmp 8) 0, type := 0, pos := "law.go:77", after := #[], guard := none } : Oper)) (v := .pointer (some ⟨b8, 0, none⟩)) rfl (by kernel_rfl) (by kernel_rfl) (by kernel_rfl) (fun _ _ _ h => h) (Or.inl ⟨by rfl, ?hy3⟩) (by assumption) ?_
  case hy3 => ((intro W hSW; (try dsimp only at hSW); go_simp); (try with_reducible rfl))
  simp only [Act.put, List.setIfInBounds_toArray, List.set_cons_zero, List.set_cons_succ]
  refine wpAnyH_take (i := 5) (oi := ({ dst := some 62, op := Go.Op.load 23 (Go.Operand.tmp 61), type := 23, pos := "law.go:77", after := #[{ on := 4, ground := Go.Ground.data }], guard := none } : Oper)) (v := .slice B1 P2.1.ss.length d1) rfl (by kernel_rfl) (by kernel_rfl) (by kernel_rfl) (fun _ _ _ h => h) (Or.inl ⟨by rfl, ?hy4⟩) (by assumption) ?_
  case hy4 => ((intro W hSW; have e0 := (hSW.cell (p := ⟨b8, 0, none⟩) hlb8).trans q0; clear hSW; go_simp); (try with_reducible rfl))
  simp only [Act.put, List.setIfInBounds_toArray, List.set_cons_zero, List.set_cons_succ]
  refine wpAnyH_take (i := 8) (oi := ({ dst := some 65, op := Go.Op.fieldAddr 27 (Go.Operand.tmp 5) 1, type := 0, pos := "law.go:77", after := #[], guard := none } : Oper)) (v := .pointer (some ⟨b5, 1, none⟩)) rfl (by kernel_rfl) (by kernel_rfl) (by kernel_rfl) (fun _ _ _ h => h) (Or.inl ⟨by rfl, ?hy5⟩) (by assumption) ?_
  case hy5 => ((intro W hSW; (try dsimp only at hSW); go_simp); (try with_reducible rfl))
  simp only [Act.put, List.setIfInBounds_toArray, List.set_cons_zero, List.set_cons_succ]
  refine wpAnyH_take (i := 9) (oi := ({ dst := some 66, op := Go.Op.load 24 (Go.Operand.tmp 65), type := 24, pos := "law.go:77", after := #[{ on := 8, ground := Go.Ground.data }], guard := none } : Oper)) (v := .slice A2 P1.1.vs.length c2) rfl (by kernel_rfl) (by kernel_rfl) (by kernel_rfl) (fun _ _ _ h => h) (Or.inl ⟨by rfl, ?hy6⟩) (by assumption) ?_
  case hy6 => ((intro W hSW; have e0 := (hSW.cell (p := ⟨b5, 1, none⟩) hlb5).trans k1; clear hSW; go_simp); (try with_reducible rfl))
  simp only [Act.put, List.setIfInBounds_toArray, List.set_cons_zero, List.set_cons_succ]
  refine wpAnyH_take (i := 11) (oi := ({ dst := some 68, op := Go.Op.fieldAddr 27 (Go.Operand.tmp 8) 1, type := 0, pos := "law.go:77", after := #[], guard := none } : Oper)) (v := .pointer (some ⟨b8, 1, none⟩)) rfl (by kernel_rfl) (by kernel_rfl) (by kernel_rfl) (fun _ _ _ h => h) (Or.inl ⟨by rfl, ?hy7⟩) (by assumption) ?_
  case hy7 => ((intro W hSW; (try dsimp only at hSW); go_simp); (try with_reducible rfl))
  simp only [Act.put, List.setIfInBounds_toArray, List.set_cons_zero, List.set_cons_succ]
  refine wpAnyH_take (i := 12) (oi := ({ dst := some 69, op := Go.Op.load 24 (Go.Operand.tmp 68), type := 24, pos := "law.go:77", after := #[{ on := 11, ground := Go.Ground.data }], guard := none } : Oper)) (v := .slice B2 P2.1.vs.length d2) rfl (by kernel_rfl) (by kernel_rfl) (by kernel_rfl) (fun _ _ _ h => h) (Or.inl ⟨by rfl, ?hy8⟩) (by assumption) ?_
  case hy8 => ((intro W hSW; have e0 := (hSW.cell (p := ⟨b8, 1, none⟩) hlb8).trans q1; clear hSW; go_simp); (try with_reducible rfl))
  simp only [Act.put, List.setIfInBounds_toArray, List.set_cons_zero, List.set_cons_succ]
  refine wpAnyH_take (i := 15) (oi := ({ dst := some 72, op := Go.Op.fieldAddr 27 (Go.Operand.tmp 5) 2, type := 0, pos := "law.go:77", after := #[], guard := none } : Oper)) (v := .pointer (some ⟨b5, 2, none⟩)) rfl (by kernel_rfl) (by kernel_rfl) (by kernel_rfl) (fun _ _ _ h => h) (Or.inl ⟨by rfl, ?hy9⟩) (by assumption) ?_
  case hy9 => ((intro W hSW; (try dsimp only at hSW); go_simp); (try with_reducible rfl))
  simp only [Act.put, List.setIfInBounds_toArray, List.set_cons_zero, List.set_cons_succ]
  refine wpAnyH_take (i := 16) (oi := ({ dst := some 73, op := Go.Op.load 25 (Go.Operand.tmp 72), type := 25, pos := "law.go:77", after := #[{ on := 15, ground := Go.Ground.data }], guard := none } : Oper)) (v := .slice A3 P1.1.fs.length c3) rfl (by kernel_rfl) (by kernel_rfl) (by kernel_rfl) (fun _ _ _ h => h) (Or.inl ⟨by rfl, ?hy10⟩) (by assumption) ?_
  case hy10 => ((intro W hSW; have e0 := (hSW.cell (p := ⟨b5, 2, none⟩) hlb5).trans k2; clear hSW; go_simp); (try with_reducible rfl))
  simp only [Act.put, List.setIfInBounds_toArray, List.set_cons_zero, List.set_cons_succ]
  refine wpAnyH_take (i := 18) (oi := ({ dst := some 75, op := Go.Op.fieldAddr 27 (Go.Operand.tmp 8) 2, type := 0, pos := "law.go:77", after := #[], guard := none } : Oper)) (v := .pointer (some ⟨b8, 2, none⟩)) rfl (by kernel_rfl) (by kernel_rfl) (by kernel_rfl) (fun _ _ _ h => h) (Or.inl ⟨by rfl, ?hy11⟩) (by assumption) ?_
  case hy11 => ((intro W hSW; (try dsimp only at hSW); go_simp); (try with_reducible rfl))
  simp only [Act.put, List.setIfInBounds_toArray, List.set_cons_zero, List.set_cons_succ]
  refine wpAnyH_take (i := 19) (oi := ({ dst := some 76, op := Go.Op.load 25 (Go.Operand.tmp 75), type := 25, pos := "law.go:77", after := #[{ on := 18, ground := Go.Ground.data }], guard := none } : Oper)) (v := .slice B3 P2.1.fs.length d3) rfl (by kernel_rfl) (by kernel_rfl) (by kernel_rfl) (fun _ _ _ h => h) (Or.inl ⟨by rfl, ?hy12⟩) (by assumption) ?_
  case hy12 => ((intro W hSW; have e0 := (hSW.cell (p := ⟨b8, 2, none⟩) hlb8).trans q2; clear hSW; go_simp); (try with_reducible rfl))
  simp only [Act.put, List.setIfInBounds_toArray, List.set_cons_zero, List.set_cons_succ]
  refine jn_region (w0 := Y) (N0 := Y.heap.size) (xs1 := rs1.flatten) (xs2 := rs2.flatten) (xv1 := rv1.flatten) (xv2 := rv2.flatten) (xf1 := rf1.flatten) (xf2 := rf2.flatten) (ns1 := P1.1.ss.length) (ns2 := P2.1.ss.length) (nv1 := P1.1.vs.length) (nv2 := P2.1.vs.length) (nf1 := P1.1.fs.length) (nf2 := P2.1.fs.length) ⟨PS.out.1, PS.out.2.2.2.1, PS.out.2.1, PS.out.2.2.2.2.1, PS.out.2.2.1, PS.out.2.2.2.2.2⟩ (by kernel_rfl) (of_decide_eq_true (by kernel_rfl))
    ⟨rfl, (by decide), rfl, rfl, rfl, hHeld, fun _ _ => rfl, Ch.start, Ch.start, Ch.start, (fun q => absurd q (by decide)), (fun q => absurd q (by decide)), (fun q => absurd q (by decide))⟩ ?_
  intro l a U h hall
  obtain ⟨⟨tl⟩, df⟩ := a
  obtain ⟨x0, x1, x2, x3, x4, x5, x6, x7, x8, x9, x10, x11, x12, x13, x14, x15, x16, x17, x18, x19, x20, x21, x22, x23, x24, x25, x26, x27, x28, x29, x30, x31, x32, x33, x34, x35, x36, x37, x38, x39, x40, x41, x42, x43, x44, x45, x46, x47, x48, x49, x50, x51, x52, x53, x54, x55, x56, x57, x58, x59, x60, x61, x62, x63, x64, x65, x66, x67, x68, x69, x70, x71, x72, x73, x74, x75, x76, x77, x78, x79, x80, x81, x82, x83, x84, x85, htl⟩ := list86 tl (by simpa using h.sz)
  subst htl
  have hdf : df = [] := h.df
  subst hdf
  have f11 : x11 = .pointer (some ⟨b11, 0, none⟩) := h.fr 11 (by simp)
  have f13 : x13 = .int .i64 P3.2.2 := h.fr 13 (by simp)
  have f4 := h.fr 4 (by simp)
  obtain ⟨g63, c63, w63, o63⟩ := h.cs.c2 (hall 6 (by omega))
  obtain ⟨g70, c70, w70, o70⟩ := h.cv.c2 (hall 13 (by omega))
  obtain ⟨g77, c77, w77, o77⟩ := h.cf.c2 (hall 20 (by omega))
  obtain ⟨b14, cs14, w14, -, -, r14, z14⟩ := h.al (hall 22 (by omega))
  have hz14 := z14 (hall 23 (by omega))
  have hbU := h.be
  clear h z14
  rw [w63, w70, w77] at hz14
  rw [w63] at o63
  rw [w70] at o70
  rw [w77] at o77
  replace w14 : x14 = .pointer (some ⟨b14, 0, none⟩) := w14
  subst hz14
  subst f11 f13 w14
  have HPR : Hid (PrAt U (fun _ => True) (appP P1.1 P2.1) (.slice (some ⟨g63, 0, none⟩) (P1.1.ss.length + P2.1.ss.length) c63) (.slice (some ⟨g70, 0, none⟩) (P1.1.vs.length + P2.1.vs.length) c70) (.slice (some ⟨g77, 0, none⟩) (P1.1.fs.length + P2.1.fs.length) c77)) := Lib.hid ⟨lat_join PG.out.1 PG.out.2.2.2.1 PE.out.1 PE.out.2.2.2.1 o63 hbU, lat_join PG.out.2.1 PG.out.2.2.2.2.1 PE.out.2.1 PE.out.2.2.2.2.1 o70 hbU, lat_join PG.out.2.2.1 PG.out.2.2.2.2.2 PE.out.2.2.1 PE.out.2.2.2.2.2 o77 hbU⟩
  have HPC2 := Lib.hid (HPC.out.keep (S' := fun _ => True) (fun g _ hl => ⟨trivial, hbU.block g hl⟩) hbU.size)
  have r11 := row_in hbU R11.out (lt_of_at R11.out)
  obtain ⟨y0, y1, y2⟩ := cells3 r11
  obtain ⟨z0, z1, z2⟩ := cells3 r14
  have hl11 := lt_of_at r11
  have hl14 := lt_of_at r14
  have hbe := hb2.trans (hbU.mono hb2.size)
  have hg0 : (P3.2.2 == 0) = true := beq_iff_eq.mpr H0.out
  clear w63 w70 w77 o63 o70 o77 hbU r11 r14 PS PG PE HPA HPB R5 R8 R11 hall k0 k1 k2 q0 q1 q2 hlb5 hlb8 hHeld f4 hb1 hb2
  go_wp2_with fail
  refine (same_any P3.1 (appP P1.1 P2.1) false _ _ _ _ _ _ _ _ _ HPC2.out HPR.out).mono ?_
  rintro e U2 ⟨rfl, hbs⟩
  rw [sameB_true HEQ.out]
  go_wp2
  go_ret
  exact ⟨rfl, hbe.trans (hbs.mono hbe.size)⟩
end Go.Proofs.Ytlobphanodhcoaa
