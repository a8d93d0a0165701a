/- The document's gaps between tokens. Conditions: each theorem's. -/
import Derived.Test.YtlobphanodhcoaaLexB
namespace Go.Proofs.Ytlobphanodhcoaa
open Go.RowKit
set_option linter.unusedVariables false
set_option linter.unusedSimpArgs false
set_option maxRecDepth 10000
open Lx
theorem pre_take (l p : List UInt8) : p.isPrefixOf l = (l.take p.length == p) := by
  induction p generalizing l with
  | nil => simp
  | cons c p ih =>
    cases l with
    | nil => simp
    | cons b l =>
      simp only [List.isPrefixOf, List.length_cons, List.take_succ_cons]
      rw [ih, Bool.eq_iff_iff]
      simp
      intro _
      exact eq_comm
theorem pre_long {l p : List UInt8} (h : l.length < p.length) : p.isPrefixOf l = false := by
  cases hq : p.isPrefixOf l with
  | false => rfl
  | true => have := (List.isPrefixOf_iff_prefix.1 hq).length_le; omega
namespace Lx
theorem bl_or (c : Int) : bl c = true ↔ c = 32 ∨ c = 9 ∨ c = 10 ∨ c = 13 := by simp [bl]; omega
/-- og, told by what a list begins with. -/
theorem og_blank {l : List UInt8} (h : bl (bt (l.getD 0 0)) = true) : og l = some 1 := by unfold og; rw [if_pos h]
theorem og_line {l : List UInt8} (h : bl (bt (l.getD 0 0)) = false) (h2 : Lib.hasPrefix l [47, 47] = true) : og l = some (ln l) := by unfold og; rw [if_neg (by rw [h]; simp), if_pos h2]
theorem og_none {l : List UInt8} (h : bl (bt (l.getD 0 0)) = false) (h2 : Lib.hasPrefix l [47, 47] = false) (h3 : Lib.hasPrefix l [47, 42] = false) : og l = some 0 := by unfold og; rw [if_neg (by rw [h]; simp), if_neg (by rw [h2]; simp), h3]; rfl
theorem og_open {l : List UInt8} (h : bl (bt (l.getD 0 0)) = false) (h2 : Lib.hasPrefix l [47, 47] = false) (h3 : Lib.hasPrefix l [47, 42] = true) (h4 : Lib.index (l.drop 2) [42, 47] = -1) : og l = none := by
  unfold og; rw [if_neg (by rw [h]; simp), if_neg (by rw [h2]; simp), h3, if_neg (by simp), if_pos (by omega)]
theorem og_shut {l : List UInt8} {i : Nat} (h : bl (bt (l.getD 0 0)) = false) (h2 : Lib.hasPrefix l [47, 47] = false) (h3 : Lib.hasPrefix l [47, 42] = true) (h4 : Lib.index (l.drop 2) [42, 47] = i) : og l = some (4 + i) := by
  unfold og; rw [if_neg (by rw [h]; simp), if_neg (by rw [h2]; simp), h3, if_neg (by simp), if_neg (by omega), h4]; rfl
theorem ln_two {l : List UInt8} (h : Lib.hasPrefix l [47, 47] = true) : ln l ≠ 0 := by
  cases l with
  | nil => simp [Lib.hasPrefix] at h
  | cons c l =>
    have : c = 47 := by simp [Lib.hasPrefix] at h; exact h.1.symm
    subst this
    simp [ln, tw]
theorem drop_zero_at (l : List UInt8) (j : Nat) : (l.drop j).getD 0 0 = l.getD j 0 := by simp [List.getD_eq_getElem?_getD]
end Lx
theorem retIB {a b : Int} {x y : Bool} (h : a = b) (h2 : x = y) : Ending.returned (.tuple #[.int .i64 a, .bool x]) = Ending.returned (.tuple #[.int .i64 b, .bool y]) := by rw [h, h2]
end Go.Proofs.Ytlobphanodhcoaa
