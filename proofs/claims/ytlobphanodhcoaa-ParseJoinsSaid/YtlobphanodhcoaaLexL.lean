/- The fixed fact of the statements on package lex; two lists of tokens compared. Conditions: each theorem's. -/
import Derived.Test.YtlobphanodhcoaaLexK
import Derived.Deep.MidRow
import Derived.Laws.Rows
namespace Go.Proofs.Ytlobphanodhcoaa
open Go.RowKit Go.Maps
set_option linter.unusedVariables false
set_option linter.unusedSimpArgs false
set_option maxRecDepth 100000
open Lx
namespace Lx
def tk0 : Tk := ⟨0, ⟨#[]⟩, 0⟩
end Lx
theorem tksL_get (T : List Tk) (k : Nat) (hk : k < T.length) (j : Nat) (hj : j < 3) : (tksL T)[k * 3 + j]? = (tkL (T.getD k tk0))[j]? := by
  induction T generalizing k with
  | nil => simp at hk
  | cons t T ih =>
    cases k with
    | zero =>
      simp only [tksL, List.flatMap_cons, List.getD_cons_zero, Nat.zero_mul, Nat.zero_add]
      rw [List.getElem?_append_left (by simp [tkL]; omega)]
    | succ k =>
      simp only [tksL, List.flatMap_cons, List.getD_cons_succ]
      rw [List.getElem?_append_right (by simp [tkL]; omega)]
      have := ih k (by simpa using hk)
      rw [← this]
      unfold tksL
      congr 1
      simp [tkL]; omega
theorem tks_at {w : World} {base : Nat} {v : Value} {T : List Tk} (h : TksAt w base v T) (h0 : 0 < T.length) : ∃ g cap, v = .slice (some ⟨g, 0, none⟩) T.length cap ∧ base ≤ g ∧ g < w.heap.size ∧ ∀ k, k < T.length →
    w.cell? ⟨g, k * 3, none⟩ = some (.int .i64 (T.getD k tk0).kd) ∧ w.cell? ⟨g, k * 3 + 1, none⟩ = some (.string (T.getD k tk0).tx) ∧ w.cell? ⟨g, k * 3 + 2, none⟩ = some (.int .i64 (T.getD k tk0).at_) := by
  obtain ⟨hl, h⟩ := h
  rcases h with ⟨_, hz⟩ | ⟨g, cap, cur, rfl, hb, hh, hn, hm, hsz, htk⟩
  · omega
  · refine ⟨g, cap, rfl, hb, (Array.getElem?_eq_some_iff.1 hh).1, fun k hk => ?_⟩
    have hget : ∀ j, j < 3 → cur[k * 3 + j]? = (tkL (T.getD k tk0))[j]? := fun j hj => by
      rw [← tksL_get T k hk j hj, ← htk, List.getElem?_take, if_pos (by omega)]
      simp
    refine ⟨?_, ?_, ?_⟩
    · rw [cell_of_row _ _ _ _ _ _ hh]; exact hget 0 (by omega)
    · rw [cell_of_row _ _ _ _ _ _ hh]; exact hget 1 (by omega)
    · rw [cell_of_row _ _ _ _ _ _ hh]; exact hget 2 (by omega)
theorem awake1 : lexV ⟨#[112, 45, 62, 120, 32, 61, 32, 48, 120, 49, 102, 59]⟩ = ⟨[⟨1, ⟨#[112]⟩, 0⟩, ⟨3, ⟨#[45, 62]⟩, 1⟩, ⟨1, ⟨#[120]⟩, 3⟩, ⟨3, ⟨#[61]⟩, 5⟩, ⟨2, ⟨#[48, 120, 49, 102]⟩, 7⟩, ⟨3, ⟨#[59]⟩, 11⟩, ⟨0, ⟨#[]⟩, 12⟩], 0, 0⟩ := by kernel_rfl
theorem awake2 : lexV ⟨#[32, 49, 50, 97]⟩ = ⟨[], 1, 10⟩ := by kernel_rfl
end Go.Proofs.Ytlobphanodhcoaa
