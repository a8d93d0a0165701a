/- Texts one behind the other, and texts with blanks between: their tokens. No condition. -/
import Derived.Test.YtfjobnljdkiihaaGreatDoorQtLexP
namespace Go.Proofs.YtfjobnljdkiihaaGreatDoor
open Go.RowKit Go.Maps
set_option linter.unusedVariables false
set_option linter.unusedSimpArgs false
set_option maxRecDepth 100000
open Lx
namespace Lx
end Lx
namespace Lx
inductive Lexes : List UInt8 → List (Int × List UInt8) → Prop
 | nil {l : List UInt8} (h : gapV l = (l.length, true)) : Lexes l []
 | cons {l : List UInt8} {g : Nat} {rest : List (Int × List UInt8)} (h : gapV l = (g, true)) (hg : g < l.length) (hn : (tokV (l.drop g)).2 ≠ 0) (hr : Lexes (l.drop (g + (tokV (l.drop g)).2)) rest) : Lexes l (((tokV (l.drop g)).1, (l.drop g).take (tokV (l.drop g)).2) :: rest)
def pr (t : Tk) : Int × List UInt8 := (t.kd, t.tx.data.toList)
theorem lx_to (s : ByteArray) : ∀ f j T, s.size - j < f → j ≤ s.size → (lx s f j T).er = 0 → ∃ A, Lexes (s.data.toList.drop j) A ∧ (lx s f j T).tk.map pr = T.map pr ++ A ++ [(0, [])] := by
 intro f
 induction f with
 | zero => intro j T hf; omega
 | succ f ih =>
  intro j T hf hj he
  have hgl := gap_le (s.data.toList.drop j)
  rw [List.length_drop, sz] at hgl
  have hgv : gapV (s.data.toList.drop j) = ((gapV (s.data.toList.drop j)).1, (gapV (s.data.toList.drop j)).2) := rfl
  rw [lx] at he ⊢
  have hdd : ∀ m, (s.data.toList.drop j).drop m = s.data.toList.drop (j + m) := fun m => List.drop_drop ..
  generalize (gapV (s.data.toList.drop j)).1 = g at *
  generalize (gapV (s.data.toList.drop j)).2 = b at *
  cases b with
  | false => rw [if_pos rfl] at he; simp at he
  | true =>
   rw [if_neg (by simp)] at he ⊢
   by_cases h2 : j + g = s.size
   ·rw [if_pos h2]
    refine ⟨[], .nil (by rw [hgv, List.length_drop, sz]; congr 1; omega), ?_⟩
    simp [pr]
   ·rw [if_neg h2] at he ⊢
    by_cases h3 : (tokV (s.data.toList.drop (j + g))).2 = 0
    ·rw [if_pos h3] at he; simp at he
    ·rw [if_neg h3] at he ⊢
     by_cases h4 : 2500 ≤ T.length
     ·rw [if_pos h4] at he; simp at he
     ·rw [if_neg h4] at he ⊢
      have hn := tokV_le (l := s.data.toList.drop (j + g)) (by rw [List.length_drop, sz]; omega)
      rw [List.length_drop, sz] at hn
      obtain ⟨A, hA, hm⟩ := ih _ _ (by omega) (by omega) he
      refine ⟨_ :: A, .cons hgv (by rw [List.length_drop, sz]; omega) (by rw [hdd]; exact h3) (rest := A) ?_, ?_⟩
      ·rw [hdd, hdd, ← Nat.add_assoc]; exact hA
      ·rw [hm, hdd]
       simp [pr, ext_tok]
theorem lexV_to {s : ByteArray} (h : (lexV s).er = 0) : ∃ A, Lexes s.data.toList A ∧ (lexV s).tk.map pr = A ++ [(0, [])] := by
 unfold lexV at h ⊢
 split at h
 ·simp at h
 ·rename_i hb
  rw [if_neg hb]
  have := lx_to s _ 0 [] (by omega) (Nat.zero_le _) h
  simpa using this
end Lx
end Go.Proofs.YtfjobnljdkiihaaGreatDoor
