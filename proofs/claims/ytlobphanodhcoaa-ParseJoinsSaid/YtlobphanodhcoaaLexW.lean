/- Texts one behind the other, and texts with blanks between: their tokens. No condition. -/
import Derived.Test.YtlobphanodhcoaaLexV
namespace Go.Proofs.Ytlobphanodhcoaa
open Go.RowKit Go.Maps
set_option linter.unusedVariables false
set_option linter.unusedSimpArgs false
set_option maxRecDepth 100000
open Lx
namespace Lx
/-- The kinds and texts of the tokens of a list of bytes. -/
inductive Lexes : List UInt8 → List (Int × List UInt8) → Prop
  | nil {l : List UInt8} (h : gapV l = (l.length, true)) : Lexes l []
  | cons {l : List UInt8} {g : Nat} {rest : List (Int × List UInt8)} (h : gapV l = (g, true)) (hg : g < l.length) (hn : (tokV (l.drop g)).2 ≠ 0) (hr : Lexes (l.drop (g + (tokV (l.drop g)).2)) rest) : Lexes l (((tokV (l.drop g)).1, (l.drop g).take (tokV (l.drop g)).2) :: rest)
def pr (t : Tk) : Int × List UInt8 := (t.kd, t.tx.data.toList)
theorem lx_to (s : ByteArray) : ∀ f j T, s.size - j < f → j ≤ s.size → (lx s f j T).er = 0 → ∃ A, Lexes (s.data.toList.drop j) A ∧ (lx s f j T).tk.map pr = T.map pr ++ A ++ [(0, [])] := by
  intro f
  induction f with
  | zero => intro j T hf; omega
  | succ f ih =>
    intro j T hf hj he
    have hgl := gap_le (s.data.toList.drop j)
    rw [List.length_drop, sz] at hgl
    have hgv : gapV (s.data.toList.drop j) = ((gapV (s.data.toList.drop j)).1, (gapV (s.data.toList.drop j)).2) := rfl
    rw [lx] at he ⊢
    have hdd : ∀ m, (s.data.toList.drop j).drop m = s.data.toList.drop (j + m) := fun m => List.drop_drop ..
    generalize (gapV (s.data.toList.drop j)).1 = g at *
    generalize (gapV (s.data.toList.drop j)).2 = b at *
    cases b with
    | false => rw [if_pos rfl] at he; simp at he
    | true =>
      rw [if_neg (by simp)] at he ⊢
      by_cases h2 : j + g = s.size
      · rw [if_pos h2]
        refine ⟨[], .nil (by rw [hgv, List.length_drop, sz]; congr 1; omega), ?_⟩
        simp [pr]
      · rw [if_neg h2] at he ⊢
        by_cases h3 : (tokV (s.data.toList.drop (j + g))).2 = 0
        · rw [if_pos h3] at he; simp at he
        · rw [if_neg h3] at he ⊢
          by_cases h4 : 2500 ≤ T.length
          · rw [if_pos h4] at he; simp at he
          · rw [if_neg h4] at he ⊢
            have hn := tokV_le (l := s.data.toList.drop (j + g)) (by rw [List.length_drop, sz]; omega)
            rw [List.length_drop, sz] at hn
            obtain ⟨A, hA, hm⟩ := ih _ _ (by omega) (by omega) he
            refine ⟨_ :: A, .cons hgv (by rw [List.length_drop, sz]; omega) (by rw [hdd]; exact h3) (rest := A) ?_, ?_⟩
            · rw [hdd, hdd, ← Nat.add_assoc]; exact hA
            · rw [hm, hdd]
              simp [pr, ext_tok]
theorem lx_of {s : ByteArray} {l : List UInt8} {A : List (Int × List UInt8)} (h : Lexes l A) : ∀ f j T, l = s.data.toList.drop j → s.size - j < f → j ≤ s.size → T.length + A.length ≤ 2500 → (lx s f j T).er = 0 ∧ (lx s f j T).tk.map pr = T.map pr ++ A ++ [(0, [])] := by
  induction h with
  | nil h =>
    intro f j T hl hf hj hT
    subst hl
    rw [List.length_drop, sz] at h
    obtain ⟨f, rfl⟩ : ∃ f', f = f' + 1 := ⟨f - 1, by omega⟩
    rw [lx, h]
    simp only []
    rw [if_neg (by simp), if_pos (by omega)]
    exact ⟨rfl, by simp [pr]⟩
  | cons h hg hn hr ih =>
    rename_i l g rest
    intro f j T hl hf hj hT
    subst hl
    have hdd : ∀ m, (s.data.toList.drop j).drop m = s.data.toList.drop (j + m) := fun m => List.drop_drop ..
    rw [List.length_drop, sz] at hg
    have hnl := tokV_le (l := (s.data.toList.drop j).drop g) (by rw [List.length_drop, List.length_drop, sz]; omega)
    rw [List.length_drop, List.length_drop, sz] at hnl
    obtain ⟨f, rfl⟩ : ∃ f', f = f' + 1 := ⟨f - 1, by omega⟩
    rw [hdd] at hn hnl ⊢
    rw [lx, h]
    simp only [List.length_cons] at hT ⊢
    rw [if_neg (by simp), if_neg (by omega), if_neg hn, if_neg (by omega)]
    obtain ⟨i1, i2⟩ := ih f (j + g + (tokV (s.data.toList.drop (j + g))).2) (T ++ [⟨(tokV (s.data.toList.drop (j + g))).1, s.extract (j + g) (j + g + (tokV (s.data.toList.drop (j + g))).2), j + g⟩]) (by rw [hdd, hdd, Nat.add_assoc]) (by omega) (by omega) (by simp; omega)
    refine ⟨i1, ?_⟩
    rw [i2]
    simp [pr, ext_tok]
theorem lexV_to {s : ByteArray} (h : (lexV s).er = 0) : ∃ A, Lexes s.data.toList A ∧ (lexV s).tk.map pr = A ++ [(0, [])] := by
  unfold lexV at h ⊢
  split at h
  · simp at h
  · rename_i hb
    rw [if_neg hb]
    have := lx_to s _ 0 [] (by omega) (Nat.zero_le _) h
    simpa using this
theorem lexV_of {s : ByteArray} {A : List (Int × List UInt8)} (hs : s.size ≤ 8192) (h : Lexes s.data.toList A) (hA : A.length ≤ 2500) : (lexV s).er = 0 ∧ (lexV s).tk.map pr = A ++ [(0, [])] := by
  unfold lexV
  rw [if_neg (by omega)]
  have := lx_of h (s.size + 1) 0 [] rfl (by omega) (Nat.zero_le _) (by simpa using hA)
  simpa using this
theorem lexes_len {l : List UInt8} {A : List (Int × List UInt8)} (h : Lexes l A) : A.length + (A.map fun p => p.2.length).sum ≤ 2 * l.length ∧ A.length ≤ l.length := by
  induction h with
  | nil h => simp
  | cons h hg hn hr ih =>
    rename_i l g rest
    have hnl := tokV_le (l := l.drop g) (by rw [List.length_drop]; omega)
    rw [List.length_drop] at hnl ih
    simp only [List.length_cons, List.map_cons, List.sum_cons, List.length_take, List.length_drop]
    omega
theorem gap_ext_end (l r : List UInt8) (h : gapV l = (l.length, true)) : gapV (l ++ 10 :: r) = (l.length + 1 + (gapV r).1, (gapV r).2) := by
  suffices ∀ n, ∀ l : List UInt8, l.length ≤ n → gapV l = (l.length, true) → gapV (l ++ 10 :: r) = (l.length + 1 + (gapV r).1, (gapV r).2) from this _ l (Nat.le_refl _) h
  intro n
  induction n with
  | zero =>
    intro l hl _
    rw [List.length_eq_zero_iff.1 (by omega : l.length = 0)]
    rw [List.nil_append, gap_step (n := 1) (by simp) (og_blank (by rw [List.getD_cons_zero]; decide)) (by simp)]
    simp
  | succ n ih =>
    intro l hl hg
    by_cases h0 : l = []
    · subst h0
      rw [List.nil_append, gap_step (n := 1) (by simp) (og_blank (by rw [List.getD_cons_zero]; decide)) (by simp)]
      simp
    have h1 : 0 < l.length := List.length_pos_iff.2 h0
    cases ho : og l with
    | none => rw [gap_bad h0 ho] at hg; simp at hg
    | some m =>
      by_cases hm : m = 0
      · subst hm; rw [gap_stop h0 ho] at hg; simp at hg; omega
      · have hml := og_le ho h0
        rw [gap_step h0 ho hm] at hg
        injection hg with g1 g2
        have hgd := gap_le (l.drop m)
        rw [List.length_drop] at hgd
        have hd : gapV (l.drop m) = ((l.drop m).length, true) := by
          rw [← g2, List.length_drop]
          exact Prod.ext (by show (gapV (l.drop m)).1 = _; omega) rfl
        have := ih (l.drop m) (by rw [List.length_drop]; omega) hd
        rw [gap_step (n := m) (by simp) (og_ext h0 ho) hm, List.drop_append_of_le_length hml, this, List.length_drop]
        exact Prod.ext (by show m + (l.length - m + 1 + (gapV r).1) = _; omega) rfl
theorem gap_ext_mid (l r : List UInt8) {g : Nat} (h : gapV l = (g, true)) (hg : g < l.length) : gapV (l ++ 10 :: r) = (g, true) := by
  suffices ∀ n, ∀ l : List UInt8, ∀ g, l.length ≤ n → gapV l = (g, true) → g < l.length → gapV (l ++ 10 :: r) = (g, true) from this _ l g (Nat.le_refl _) h hg
  intro n
  induction n with
  | zero => intro l g hl _ hg; omega
  | succ n ih =>
    intro l g hl hgv hg
    have h0 : l ≠ [] := fun e => by subst e; simp at hg
    cases ho : og l with
    | none => rw [gap_bad h0 ho] at hgv; simp at hgv
    | some m =>
      by_cases hm : m = 0
      · subst hm
        rw [gap_stop h0 ho] at hgv
        rw [gap_stop (by simp) (og_ext h0 ho)]
        exact hgv
      · have hml := og_le ho h0
        rw [gap_step h0 ho hm] at hgv
        injection hgv with g1 g2
        have hd : gapV (l.drop m) = ((gapV (l.drop m)).1, true) := by rw [← g2]
        have := ih (l.drop m) _ (by rw [List.length_drop]; omega) hd (by rw [List.length_drop]; omega)
        rw [gap_step (n := m) (by simp) (og_ext h0 ho) hm, List.drop_append_of_le_length hml, this]
        exact Prod.ext g1 rfl
theorem lexes_shift {l x : List UInt8} {B : List (Int × List UInt8)} {m : Nat} (hx : Lexes x B) (hm : l.drop m = x) (hml : m + x.length = l.length) (hg : gapV l = (m + (gapV x).1, (gapV x).2)) : Lexes l B := by
  cases hx with
  | nil h => exact .nil (by rw [hg, h]; exact Prod.ext (by show m + x.length = _; omega) rfl)
  | cons h hgl hn hr =>
    rename_i g rest
    have hd : l.drop (m + g) = x.drop g := by rw [← List.drop_drop, hm]
    have := Lexes.cons (l := l) (g := m + g) (rest := rest) (by rw [hg, h]) (by omega) (by rw [hd]; exact hn) (by rw [hd, Nat.add_assoc, ← List.drop_drop, hm]; exact hr)
    rw [hd] at this
    exact this
theorem lexes_join {l r : List UInt8} {A B : List (Int × List UInt8)} (hA : Lexes l A) (hB : Lexes r B) : Lexes (l ++ 10 :: r) (A ++ B) := by
  induction hA with
  | nil h =>
    rename_i l
    rw [List.nil_append]
    refine lexes_shift (m := l.length + 1) hB ?_ (by simp; omega) (gap_ext_end l r h)
    rw [← List.drop_drop, List.drop_left]; rfl
  | cons h hg hn hr ih =>
    rename_i l g rest
    have h0 : l.drop g ≠ [] := by
      intro e; have := congrArg List.length e; simp at this; omega
    have hnl := tokV_le (l := l.drop g) (by rw [List.length_drop]; omega)
    have hgd : (l ++ 10 :: r).drop g = l.drop g ++ 10 :: r := List.drop_append_of_le_length (by omega)
    have ht := tok_ext (c := 10) r h0 hn (by decide)
    have hc := Lexes.cons (l := l ++ 10 :: r) (g := g) (rest := rest ++ B) (gap_ext_mid l r h hg) (by simp; omega) (by rw [hgd, ht]; exact hn) (by
      rw [hgd, ht, List.drop_append_of_le_length (by rw [List.length_drop] at hnl; omega)]; exact ih)
    rw [hgd, ht, List.take_append_of_le_length hnl] at hc
    exact hc
/-- What stands between in the texts of the statement on blanks. -/
def gapW (k : Nat) : List UInt8 := [[32], [9, 10], [32, 47, 42, 32, 42, 47, 32], [32, 47, 47, 32, 39, 10]].getD k []
theorem gapW_head : ∀ k, k < 4 → ∃ c r, gapW k = c :: r ∧ bl (bt c) = true ∧ c ≠ 47 ∧ c ≠ 42 := by
  intro k hk
  have : k = 0 ∨ k = 1 ∨ k = 2 ∨ k = 3 := by omega
  rcases this with rfl | rfl | rfl | rfl
  all_goals exact ⟨_, _, rfl, by decide, by decide, by decide⟩
theorem gapW_len : ∀ k, k < 4 → (gapW k).length ≤ 7 := by decide
theorem gap_one (c : UInt8) (x : List UInt8) (h : bl (bt c) = true) : gapV (c :: x) = (1 + (gapV x).1, (gapV x).2) := by
  rw [gap_step (n := 1) (by simp) (og_blank (by rw [List.getD_cons_zero]; exact h)) (by simp)]
  rfl
theorem gap_w (k : Nat) (hk : k < 4) (x : List UInt8) : gapV (gapW k ++ x) = ((gapW k).length + (gapV x).1, (gapV x).2) := by
  have : k = 0 ∨ k = 1 ∨ k = 2 ∨ k = 3 := by omega
  rcases this with rfl | rfl | rfl | rfl
  · exact gap_one 32 x (by decide)
  · show gapV (9 :: 10 :: x) = _
    rw [gap_one 9 _ (by decide), gap_one 10 _ (by decide)]
    exact Prod.ext (by show 1 + (1 + (gapV x).1) = 2 + (gapV x).1; omega) rfl
  · show gapV (32 :: 47 :: 42 :: 32 :: 42 :: 47 :: 32 :: x) = _
    have ho : og (47 :: 42 :: 32 :: 42 :: 47 :: 32 :: x) = some 5 := og_shut (i := 1) (by rw [List.getD_cons_zero]; decide) (by simp [Lib.hasPrefix, List.isPrefixOf]) (by simp [Lib.hasPrefix, List.isPrefixOf]) (by simp [Lib.index, List.isPrefixOf])
    rw [gap_one 32 _ (by decide), gap_step (by simp) ho (by simp)]
    show (1 + (5 + (gapV (32 :: x)).1), (gapV (32 :: x)).2) = _
    rw [gap_one 32 _ (by decide)]
    exact Prod.ext (by show 1 + (5 + (1 + (gapV x).1)) = 7 + (gapV x).1; omega) rfl
  · show gapV (32 :: 47 :: 47 :: 32 :: 39 :: 10 :: x) = _
    have hl : ln (47 :: 47 :: 32 :: 39 :: 10 :: x) = 4 := by simp [ln, tw]
    have ho : og (47 :: 47 :: 32 :: 39 :: 10 :: x) = some 4 := by rw [og_line (by rw [List.getD_cons_zero]; decide) (by simp [Lib.hasPrefix, List.isPrefixOf]), hl]
    rw [gap_one 32 _ (by decide), gap_step (by simp) ho (by simp)]
    show (1 + (4 + (gapV (10 :: x)).1), (gapV (10 :: x)).2) = _
    rw [gap_one 10 _ (by decide)]
    exact Prod.ext (by show 1 + (4 + (1 + (gapV x).1)) = 6 + (gapV x).1; omega) rfl
theorem lexes_w {x : List UInt8} {B : List (Int × List UInt8)} (k : Nat) (hk : k < 4) (hx : Lexes x B) : Lexes (gapW k ++ x) B :=
  lexes_shift (m := (gapW k).length) hx List.drop_left (by simp) (gap_w k hk x)
/-- A kind and a text that are a token's. -/
def TokIs (p : Int × List UInt8) : Prop := p.2 ≠ [] ∧ tokV p.2 = (p.1, p.2.length)
theorem lexes_toks {l : List UInt8} {A : List (Int × List UInt8)} (h : Lexes l A) : ∀ p ∈ A, TokIs p := by
  induction h with
  | nil h => intro p hp; cases hp
  | cons h hg hn hr ih =>
    rename_i l g rest
    intro p hp
    rcases List.mem_cons.1 hp with rfl | hp
    · have h0 : l.drop g ≠ [] := by
        intro e; have := congrArg List.length e; simp at this; omega
      have hnl := tokV_le (l := l.drop g) (by rw [List.length_drop]; omega)
      have hlen : ((l.drop g).take (tokV (l.drop g)).2).length = (tokV (l.drop g)).2 := by rw [List.length_take]; omega
      refine ⟨fun e => ?_, ?_⟩
      · have := congrArg List.length e
        rw [hlen] at this
        exact hn this
      · rw [hlen, tok_cut h0 hn]
    · exact ih p hp
theorem tok_head {t : List UInt8} (h0 : t ≠ []) (hn : (tokV t).2 ≠ 0) : bl (bt (t.getD 0 0)) = false ∧ (t.getD 0 0 = 47 → (tokV t).2 = 1) := by
  refine ⟨?_, ?_⟩
  · cases hb : bl (bt (t.getD 0 0)) with
    | false => rfl
    | true =>
      exfalso
      apply hn
      obtain ⟨b1, b2, b3, b4⟩ := bl_nm hb
      have hd : dg (bt (t.getD 0 0)) = false := by
        cases hd : dg (bt (t.getD 0 0)) with
        | false => rfl
        | true => unfold nm at b1; rw [hd] at b1; simp at b1
      have h1 : ∀ y : Int, ¬ (bt (t.getD 0 0), y) ∈ twoT := fun y hm => by
        have hall : ∀ p ∈ twoT, bl p.1 = false := by decide
        have := hall _ hm; rw [hb] at this; cases this
      have h2 : ¬ bt (t.getD 0 0) ∈ oneT := fun hm => by
        have hall : ∀ p ∈ oneT, bl p = false := by decide
        have := hall _ hm; rw [hb] at this; cases this
      unfold tokV
      rw [if_neg (by rw [hd]; simpa using b4), if_neg (by rw [b1]; simp)]
      show sgW t = 0
      rw [sgW_eq, if_neg (h1 _), if_neg h2]
  · intro e
    unfold tokV
    rw [e, if_neg (by decide), if_neg (by decide)]
    show sgW t = 1
    have h2 : ∀ y : Int, ¬ ((47 : Int), y) ∈ twoT := fun y h => by
      have : ∀ p ∈ twoT, p.1 ≠ 47 := by decide
      exact this _ h rfl
    rw [sgW_eq, e, show bt 47 = 47 from rfl, if_neg (h2 _), if_pos (by decide)]
theorem og_tok {t x : List UInt8} {c : UInt8} (h0 : t ≠ []) (hn : (tokV t).2 = t.length) (hc : c ≠ 47) (hc2 : c ≠ 42) : og (t ++ c :: x) = some 0 := by
  have hl : 0 < t.length := List.length_pos_iff.2 h0
  obtain ⟨h1, h2⟩ := tok_head h0 (by omega)
  have hh := head_app h0 (c :: x)
  have hp : ∀ b : UInt8, c ≠ b → Lib.hasPrefix (t ++ c :: x) [47, b] = false := fun b hb => by
    rw [pre_app2 h0 hb]
    cases hx : Lib.hasPrefix t [47, b] with
    | false => rfl
    | true =>
      exfalso
      have hlen := (List.isPrefixOf_iff_prefix.1 hx).length_le
      simp at hlen
      have he : t.getD 0 0 = 47 := by
        cases t with
        | nil => exact absurd rfl h0
        | cons y t => simp [Lib.hasPrefix, List.isPrefixOf] at hx; simpa using hx.1.symm
      have := h2 he
      omega
  exact og_none (by rw [hh]; exact h1) (hp 47 hc) (hp 42 hc2)
theorem lexes_tok {p : Int × List UInt8} {c : UInt8} {x : List UInt8} {B : List (Int × List UInt8)} (hp : TokIs p) (hb : bl (bt c) = true) (hc : c ≠ 47) (hc2 : c ≠ 42) (hB : Lexes (c :: x) B) : Lexes (p.2 ++ c :: x) (p :: B) := by
  obtain ⟨k, t⟩ := p
  obtain ⟨h0, ht⟩ := hp
  dsimp only at *
  have hl : 0 < t.length := List.length_pos_iff.2 h0
  have hn : (tokV t).2 = t.length := by rw [ht]
  have hg : gapV (t ++ c :: x) = (0, true) := gap_stop (by simp) (og_tok h0 hn hc hc2)
  have he := tok_ext x h0 (by omega) hb
  have := Lexes.cons (l := t ++ c :: x) (g := 0) (rest := B) hg (by simp; omega) (by rw [List.drop_zero, he, ht]; show t.length ≠ 0; omega) (by rw [List.drop_zero, he, ht]; show Lexes ((t ++ c :: x).drop (0 + t.length)) B; rw [Nat.zero_add, List.drop_left]; exact hB)
  rw [List.drop_zero, he, ht] at this
  simp only [List.take_left] at this
  exact this
/-- The text of tokens from the i-th on, with blanks behind each. -/
def txG (W : Nat → Nat) : Nat → List (Int × List UInt8) → List UInt8
  | _, [] => []
  | i, p :: A => p.2 ++ (gapW (W i) ++ txG W (i + 1) A)
theorem lexes_txG (W : Nat → Nat) (hW : ∀ i, W i < 4) (A : List (Int × List UInt8)) (h : ∀ p ∈ A, TokIs p) : ∀ i, Lexes (txG W i A) A := by
  induction A with
  | nil => intro i; exact .nil rfl
  | cons p A ih =>
    intro i
    have hr := lexes_w (W i) (hW i) (ih (fun q hq => h q (by simp [hq])) (i + 1))
    obtain ⟨c, r, hw, h1, h2, h3⟩ := gapW_head (W i) (hW i)
    simp only [txG]
    rw [hw, List.cons_append] at hr ⊢
    exact lexes_tok (h p (by simp)) h1 h2 h3 hr
theorem txG_len (W : Nat → Nat) (hW : ∀ i, W i < 4) (A : List (Int × List UInt8)) : ∀ i, (txG W i A).length ≤ (A.map fun p => p.2.length).sum + 7 * A.length := by
  induction A with
  | nil => intro i; simp [txG]
  | cons p A ih =>
    intro i
    have := gapW_len (W i) (hW i)
    have := ih (i + 1)
    simp only [txG, List.length_append, List.map_cons, List.sum_cons, List.length_cons]
    omega
end Lx
end Go.Proofs.Ytlobphanodhcoaa
