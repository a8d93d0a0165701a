/- Texts one behind the other, and texts with blanks between: their tokens. No condition. -/
import Derived.Test.YtfjobnljdkiihaaGreatDoorQaLexP
namespace Go.Proofs.YtfjobnljdkiihaaGreatDoor
open Go.RowKit Go.Maps
set_option linter.unusedVariables false
set_option linter.unusedSimpArgs false
set_option maxRecDepth 100000
open Lx
namespace Lx
end Lx
end Go.Proofs.YtfjobnljdkiihaaGreatDoor
namespace Go.Proofs.YtfjobnljdkiihaaGreatDoor
open Go.RowKit Go.Maps
set_option linter.unusedVariables false
set_option linter.unusedSimpArgs false
set_option maxRecDepth 100000
open Lx
namespace Lx
/-- The kinds and texts of the tokens of a list of bytes. -/
inductive Lexes : List UInt8 → List (Int × List UInt8) → Prop
  | nil {l : List UInt8} (h : gapV l = (l.length, true)) : Lexes l []
  | cons {l : List UInt8} {g : Nat} {rest : List (Int × List UInt8)} (h : gapV l = (g, true)) (hg : g < l.length) (hn : (tokV (l.drop g)).2 ≠ 0) (hr : Lexes (l.drop (g + (tokV (l.drop g)).2)) rest) : Lexes l (((tokV (l.drop g)).1, (l.drop g).take (tokV (l.drop g)).2) :: rest)
def pr (t : Tk) : Int × List UInt8 := (t.kd, t.tx.data.toList)
theorem lx_to (s : ByteArray) : ∀ f j T, s.size - j < f → j ≤ s.size → (lx s f j T).er = 0 → ∃ A, Lexes (s.data.toList.drop j) A ∧ (lx s f j T).tk.map pr = T.map pr ++ A ++ [(0, [])] := by
  intro f
  induction f with
  | zero => intro j T hf; omega
  | succ f ih =>
    intro j T hf hj he
    have hgl := gap_le (s.data.toList.drop j)
    rw [List.length_drop, sz] at hgl
    have hgv : gapV (s.data.toList.drop j) = ((gapV (s.data.toList.drop j)).1, (gapV (s.data.toList.drop j)).2) := rfl
    rw [lx] at he ⊢
    have hdd : ∀ m, (s.data.toList.drop j).drop m = s.data.toList.drop (j + m) := fun m => List.drop_drop ..
    generalize (gapV (s.data.toList.drop j)).1 = g at *
    generalize (gapV (s.data.toList.drop j)).2 = b at *
    cases b with
    | false => rw [if_pos rfl] at he; simp at he
    | true =>
      rw [if_neg (by simp)] at he ⊢
      by_cases h2 : j + g = s.size
      · rw [if_pos h2]
        refine ⟨[], .nil (by rw [hgv, List.length_drop, sz]; congr 1; omega), ?_⟩
        simp [pr]
      · rw [if_neg h2] at he ⊢
        by_cases h3 : (tokV (s.data.toList.drop (j + g))).2 = 0
        · rw [if_pos h3] at he; simp at he
        · rw [if_neg h3] at he ⊢
          by_cases h4 : 2500 ≤ T.length
          · rw [if_pos h4] at he; simp at he
          · rw [if_neg h4] at he ⊢
            have hn := tokV_le (l := s.data.toList.drop (j + g)) (by rw [List.length_drop, sz]; omega)
            rw [List.length_drop, sz] at hn
            obtain ⟨A, hA, hm⟩ := ih _ _ (by omega) (by omega) he
            refine ⟨_ :: A, .cons hgv (by rw [List.length_drop, sz]; omega) (by rw [hdd]; exact h3) (rest := A) ?_, ?_⟩
            · rw [hdd, hdd, ← Nat.add_assoc]; exact hA
            · rw [hm, hdd]
              simp [pr, ext_tok]
theorem lx_of {s : ByteArray} {l : List UInt8} {A : List (Int × List UInt8)} (h : Lexes l A) : ∀ f j T, l = s.data.toList.drop j → s.size - j < f → j ≤ s.size → T.length + A.length ≤ 2500 → (lx s f j T).er = 0 ∧ (lx s f j T).tk.map pr = T.map pr ++ A ++ [(0, [])] := by
  induction h with
  | nil h =>
    intro f j T hl hf hj hT
    subst hl
    rw [List.length_drop, sz] at h
    obtain ⟨f, rfl⟩ : ∃ f', f = f' + 1 := ⟨f - 1, by omega⟩
    rw [lx, h]
    simp only []
    rw [if_neg (by simp), if_pos (by omega)]
    exact ⟨rfl, by simp [pr]⟩
  | cons h hg hn hr ih =>
    rename_i l g rest
    intro f j T hl hf hj hT
    subst hl
    have hdd : ∀ m, (s.data.toList.drop j).drop m = s.data.toList.drop (j + m) := fun m => List.drop_drop ..
    rw [List.length_drop, sz] at hg
    have hnl := tokV_le (l := (s.data.toList.drop j).drop g) (by rw [List.length_drop, List.length_drop, sz]; omega)
    rw [List.length_drop, List.length_drop, sz] at hnl
    obtain ⟨f, rfl⟩ : ∃ f', f = f' + 1 := ⟨f - 1, by omega⟩
    rw [hdd] at hn hnl ⊢
    rw [lx, h]
    simp only [List.length_cons] at hT ⊢
    rw [if_neg (by simp), if_neg (by omega), if_neg hn, if_neg (by omega)]
    obtain ⟨i1, i2⟩ := ih f (j + g + (tokV (s.data.toList.drop (j + g))).2) (T ++ [⟨(tokV (s.data.toList.drop (j + g))).1, s.extract (j + g) (j + g + (tokV (s.data.toList.drop (j + g))).2), j + g⟩]) (by rw [hdd, hdd, Nat.add_assoc]) (by omega) (by omega) (by simp; omega)
    refine ⟨i1, ?_⟩
    rw [i2]
    simp [pr, ext_tok]
theorem lexV_to {s : ByteArray} (h : (lexV s).er = 0) : ∃ A, Lexes s.data.toList A ∧ (lexV s).tk.map pr = A ++ [(0, [])] := by
  unfold lexV at h ⊢
  split at h
  · simp at h
  · rename_i hb
    rw [if_neg hb]
    have := lx_to s _ 0 [] (by omega) (Nat.zero_le _) h
    simpa using this
theorem lexV_of {s : ByteArray} {A : List (Int × List UInt8)} (hs : s.size ≤ 8192) (h : Lexes s.data.toList A) (hA : A.length ≤ 2500) : (lexV s).er = 0 ∧ (lexV s).tk.map pr = A ++ [(0, [])] := by
  unfold lexV
  rw [if_neg (by omega)]
  have := lx_of h (s.size + 1) 0 [] rfl (by omega) (Nat.zero_le _) (by simpa using hA)
  simpa using this
theorem lexes_shift {l x : List UInt8} {B : List (Int × List UInt8)} {m : Nat} (hx : Lexes x B) (hm : l.drop m = x) (hml : m + x.length = l.length) (hg : gapV l = (m + (gapV x).1, (gapV x).2)) : Lexes l B := by
  cases hx with
  | nil h => exact .nil (by rw [hg, h]; exact Prod.ext (by show m + x.length = _; omega) rfl)
  | cons h hgl hn hr =>
    rename_i g rest
    have hd : l.drop (m + g) = x.drop g := by rw [← List.drop_drop, hm]
    have := Lexes.cons (l := l) (g := m + g) (rest := rest) (by rw [hg, h]) (by omega) (by rw [hd]; exact hn) (by rw [hd, Nat.add_assoc, ← List.drop_drop, hm]; exact hr)
    rw [hd] at this
    exact this
/-- What stands between in the texts of the statement on blanks. -/
def gapW (k : Nat) : List UInt8 := [[32], [9, 10], [32, 47, 42, 32, 42, 47, 32], [32, 47, 47, 32, 39, 10]].getD k []
theorem gap_one (c : UInt8) (x : List UInt8) (h : bl (bt c) = true) : gapV (c :: x) = (1 + (gapV x).1, (gapV x).2) := by
  rw [gap_step (n := 1) (by simp) (og_blank (by rw [List.getD_cons_zero]; exact h)) (by simp)]
  rfl
theorem gap_w (k : Nat) (hk : k < 4) (x : List UInt8) : gapV (gapW k ++ x) = ((gapW k).length + (gapV x).1, (gapV x).2) := by
  have : k = 0 ∨ k = 1 ∨ k = 2 ∨ k = 3 := by omega
  rcases this with rfl | rfl | rfl | rfl
  · exact gap_one 32 x (by decide)
  · show gapV (9 :: 10 :: x) = _
    rw [gap_one 9 _ (by decide), gap_one 10 _ (by decide)]
    exact Prod.ext (by show 1 + (1 + (gapV x).1) = 2 + (gapV x).1; omega) rfl
  · show gapV (32 :: 47 :: 42 :: 32 :: 42 :: 47 :: 32 :: x) = _
    have ho : og (47 :: 42 :: 32 :: 42 :: 47 :: 32 :: x) = some 5 := og_shut (i := 1) (by rw [List.getD_cons_zero]; decide) (by simp [Lib.hasPrefix, List.isPrefixOf]) (by simp [Lib.hasPrefix, List.isPrefixOf]) (by simp [Lib.index, List.isPrefixOf])
    rw [gap_one 32 _ (by decide), gap_step (by simp) ho (by simp)]
    show (1 + (5 + (gapV (32 :: x)).1), (gapV (32 :: x)).2) = _
    rw [gap_one 32 _ (by decide)]
    exact Prod.ext (by show 1 + (5 + (1 + (gapV x).1)) = 7 + (gapV x).1; omega) rfl
  · show gapV (32 :: 47 :: 47 :: 32 :: 39 :: 10 :: x) = _
    have hl : ln (47 :: 47 :: 32 :: 39 :: 10 :: x) = 4 := by simp [ln, tw]
    have ho : og (47 :: 47 :: 32 :: 39 :: 10 :: x) = some 4 := by rw [og_line (by rw [List.getD_cons_zero]; decide) (by simp [Lib.hasPrefix, List.isPrefixOf]), hl]
    rw [gap_one 32 _ (by decide), gap_step (by simp) ho (by simp)]
    show (1 + (4 + (gapV (10 :: x)).1), (gapV (10 :: x)).2) = _
    rw [gap_one 10 _ (by decide)]
    exact Prod.ext (by show 1 + (4 + (1 + (gapV x).1)) = 6 + (gapV x).1; omega) rfl
theorem lexes_w {x : List UInt8} {B : List (Int × List UInt8)} (k : Nat) (hk : k < 4) (hx : Lexes x B) : Lexes (gapW k ++ x) B :=
  lexes_shift (m := (gapW k).length) hx List.drop_left (by simp) (gap_w k hk x)
end Lx
end Go.Proofs.YtfjobnljdkiihaaGreatDoor
