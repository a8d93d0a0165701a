/- Tokens don't hang on what stands behind a blank. No condition. -/
import Derived.Test.YtlobphanodhcoaaLexP
namespace Go.Proofs.Ytlobphanodhcoaa
open Go.RowKit Go.Maps
set_option linter.unusedVariables false
set_option linter.unusedSimpArgs false
set_option maxRecDepth 100000
open Lx
namespace Lx
theorem bl_nm {c : Int} (h : bl c = true) : nm c = false ∧ c ≠ 47 ∧ c ≠ 42 ∧ c ≠ 39 := by
  have := (bl_or c).1 h
  rcases this with rfl | rfl | rfl | rfl <;> decide
theorem bl_two {x c : Int} (h : bl c = true) : ¬ (x, c) ∈ twoT := by
  intro hm
  have hall : ∀ p ∈ twoT, bl p.2 = false := by decide
  have := hall _ hm
  rw [h] at this; cases this
theorem tw_app {p : UInt8 → Bool} {l : List UInt8} {c : UInt8} {r : List UInt8} (hc : p c = false) : tw p (l ++ c :: r) = tw p l := by
  induction l with
  | nil => simp [tw, hc]
  | cons x l ih => simp only [List.cons_append, tw]; rw [ih]
theorem tw_take {p : UInt8 → Bool} {l : List UInt8} : tw p (l.take (tw p l)) = tw p l := by
  induction l with
  | nil => rfl
  | cons x l ih =>
    simp only [tw]
    split
    · rename_i h; simp only [List.take_succ_cons, tw, h, if_true]; rw [ih]
    · simp [tw]
theorem head_app {l : List UInt8} (h : l ≠ []) (r : List UInt8) : (l ++ r).getD 0 0 = l.getD 0 0 := by
  cases l with
  | nil => exact absurd rfl h
  | cons x l => rfl
theorem bt10 {c : UInt8} (h : bl (bt c) = true) : nm (bt c) = false := (bl_nm h).1
/-- A blank, and anything, behind a list in which a token stands. -/
theorem tok_ext {l : List UInt8} {c : UInt8} (r : List UInt8) (h0 : l ≠ []) (hn : (tokV l).2 ≠ 0) (hc : bl (bt c) = true) : tokV (l ++ c :: r) = tokV l := by
  have hh := head_app h0 (c :: r)
  have hnm := bt10 hc
  have htg : tg (l ++ c :: r) = tg l := tw_app (p := fun c => nm (bt c)) hnm
  have hle := tw_le (fun c => nm (bt c)) l
  change tg l ≤ _ at hle
  have htk : (l ++ c :: r).take (tg l) = l.take (tg l) := List.take_append_of_le_length hle
  have h1 : 0 < l.length := List.length_pos_iff.2 h0
  unfold tokV at hn ⊢
  rw [hh]
  by_cases hd : dg (bt (l.getD 0 0)) = true ∨ bt (l.getD 0 0) = 39
  · rw [if_pos hd] at hn ⊢
    rw [if_pos hd]
    suffices h : nbV (l ++ c :: r) = nbV l by rw [h]
    by_cases hq : bt (l.getD 0 0) = 39
    · have hl3 : 3 ≤ l.length := by
        rcases Nat.lt_or_ge l.length 3 with hlt | hge
        · exfalso
          apply hn
          show nbV l = 0
          unfold nbV nbL
          rw [if_pos hq, Nat.min_eq_right (by omega), List.take_of_length_le (Nat.le_refl _)]
          rw [mean_no (by unfold isQ; rw [show decide (l.length = 3) = false from decide_eq_false (by omega)]; rfl) (by rw [hq]; rfl)]
          rfl
        · exact hge
      unfold nbV nbL
      rw [hh, if_pos hq, if_pos hq, Nat.min_eq_left hl3, Nat.min_eq_left (by simp; omega), List.take_append_of_le_length hl3]
    · unfold nbV nbL
      rw [hh, if_neg hq, if_neg hq, htg, htk]
  · rw [if_neg hd] at hn ⊢
    rw [if_neg hd]
    by_cases hm : nm (bt (l.getD 0 0)) = true
    · rw [if_pos hm, if_pos hm]
      unfold nwV
      rw [htg, htk]
    · rw [if_neg hm, if_neg hm]
      suffices h : sgW (l ++ c :: r) = sgW l by rw [h]
      rw [sgW_eq, sgW_eq, hh]
      cases l with
      | nil => exact absurd rfl h0
      | cons x l =>
        cases l with
        | nil =>
          have h2 : ¬ (bt x, bt c) ∈ twoT := bl_two hc
          have h3 : ¬ (bt x, (0 : Int)) ∈ twoT := fun e => two_not0 e rfl
          show (if (bt x, bt c) ∈ twoT then 2 else _) = (if (bt x, (0 : Int)) ∈ twoT then 2 else _)
          rw [if_neg h2, if_neg h3]
        | cons y l => rfl
/-- What stands behind a token doesn't matter. -/
theorem tok_cut {l : List UInt8} (h0 : l ≠ []) (hn : (tokV l).2 ≠ 0) : tokV (l.take (tokV l).2) = tokV l := by
  obtain ⟨n, hN⟩ : ∃ n, n = (tokV l).2 := ⟨_, rfl⟩
  rw [← hN] at hn ⊢
  have hh := take_head l n hn
  have h1 : 0 < l.length := List.length_pos_iff.2 h0
  unfold tokV at hN ⊢
  rw [hh]
  by_cases hd : dg (bt (l.getD 0 0)) = true ∨ bt (l.getD 0 0) = 39
  · rw [if_pos hd] at hN ⊢
    rw [if_pos hd]
    dsimp only at hN
    have hnb : n = nbL l ∧ (meanV (l.take (nbL l))).isSome = true := by
      unfold nbV at hN
      split at hN
      · rename_i h; exact ⟨hN, h⟩
      · exact absurd hN hn
    obtain ⟨e1, e2⟩ := hnb
    have hle := nbL_le l
    have hb : nbL (l.take n) = n := by
      unfold nbL
      rw [hh]
      split
      · rename_i hq
        have : n = min 3 l.length := by rw [e1]; unfold nbL; rw [if_pos hq]
        rw [List.length_take]; omega
      · rename_i hq
        have : n = tg l := by rw [e1]; unfold nbL; rw [if_neg hq]
        rw [this]; exact tw_take
    have : nbV (l.take n) = nbV l := by
      unfold nbV
      rw [hb, ← e1, List.take_take, Nat.min_self]
    rw [this]
  · rw [if_neg hd] at hN ⊢
    rw [if_neg hd]
    by_cases hm : nm (bt (l.getD 0 0)) = true
    · rw [if_pos hm] at hN ⊢
      rw [if_pos hm]
      unfold nwV at hN ⊢
      by_cases h32 : 32 < tg l
      · rw [if_pos h32] at hN; exact absurd hN hn
      · rw [if_neg h32] at hN ⊢
        dsimp only at hN
        have : tg (l.take n) = n := by rw [hN]; exact tw_take
        rw [this, if_neg (by omega), List.take_take, Nat.min_self, hN]
    · rw [if_neg hm] at hN ⊢
      rw [if_neg hm]
      dsimp only at hN
      suffices h : sgW (l.take n) = sgW l by rw [h]
      rw [sgW_eq] at hN
      rw [sgW_eq, sgW_eq, hh]
      by_cases h2 : (bt (l.getD 0 0), bt (l.getD 1 0)) ∈ twoT
      · rw [if_pos h2] at hN
        subst hN
        have : (l.take 2).getD 1 0 = l.getD 1 0 := by
          cases l with
          | nil => rfl
          | cons x l => cases l <;> rfl
        rw [this]
      · rw [if_neg h2] at hN
        by_cases h3 : bt (l.getD 0 0) ∈ oneT
        · rw [if_pos h3] at hN
          subst hN
          have : (l.take 1).getD 1 0 = 0 := by cases l <;> rfl
          rw [this, show bt 0 = 0 from rfl, if_neg (fun e => two_not0 e rfl), if_neg h2]
        · rw [if_neg h3] at hN; exact absurd hN hn
theorem pre_app {l p r : List UInt8} (h : p.length ≤ l.length) : Lib.hasPrefix (l ++ r) p = Lib.hasPrefix l p := by
  unfold Lib.hasPrefix
  rw [pre_take, pre_take, List.take_append_of_le_length h]
theorem pre_app2 {l r : List UInt8} {a b c : UInt8} (h0 : l ≠ []) (hc : c ≠ b) : Lib.hasPrefix (l ++ c :: r) [a, b] = Lib.hasPrefix l [a, b] := by
  cases l with
  | nil => exact absurd rfl h0
  | cons x l =>
    cases l with
    | nil =>
      simp only [Lib.hasPrefix, List.cons_append, List.nil_append, List.isPrefixOf]
      rw [show (b == c) = false from beq_eq_false_iff_ne.mpr fun e => hc e.symm]
      simp
    | cons y l => exact pre_app (by simp)
theorem index_app {a b sub : List UInt8} (h : 0 ≤ Lib.index a sub) : Lib.index (a ++ b) sub = Lib.index a sub := by
  induction a with
  | nil =>
    cases sub with
    | nil => cases b <;> rfl
    | cons x s => simp [Lib.index] at h
  | cons x a ih =>
    have hr := Lib.index_room (x :: a) sub h
    have hlen : sub.length ≤ (x :: a).length := by omega
    have hp : sub.isPrefixOf ((x :: a) ++ b) = sub.isPrefixOf (x :: a) := pre_app hlen
    rw [List.cons_append] at hp ⊢
    simp only [Lib.index] at h ⊢
    rw [hp]
    split
    · rfl
    · rename_i hnp
      rw [if_neg hnp] at h
      by_cases e : Lib.index a sub = -1
      · rw [e] at h; simp at h
      · have hge := Lib.index_ge a sub
        rw [ih (by omega)]
theorem og_ext {l r : List UInt8} {n : Nat} (h0 : l ≠ []) (h : og l = some n) : og (l ++ 10 :: r) = some n := by
  have hh := head_app h0 (10 :: r)
  have e1 := pre_app2 (r := r) (a := 47) (b := 47) (c := 10) h0 (by decide)
  have e2 := pre_app2 (r := r) (a := 47) (b := 42) (c := 10) h0 (by decide)
  have e3 : ln (l ++ 10 :: r) = ln l := tw_app (p := fun c => !decide (c = 10)) (by decide)
  unfold og at h ⊢
  rw [hh, e1, e2, e3]
  split
  · rename_i hb; rw [if_pos hb] at h; exact h
  · rename_i hb
    rw [if_neg hb] at h
    split
    · rename_i hl; rw [if_pos hl] at h; exact h
    · rename_i hl
      rw [if_neg hl] at h
      split
      · rename_i hs; rw [if_pos hs] at h; exact h
      · rename_i hs
        rw [if_neg hs] at h
        by_cases hneg : Lib.index (l.drop 2) [42, 47] < 0
        · rw [if_pos hneg] at h; cases h
        · rw [if_neg hneg] at h
          have hpre : Lib.hasPrefix l [47, 42] = true := by simpa using hs
          have hl2 : 2 ≤ l.length := by
            have := (List.isPrefixOf_iff_prefix.1 hpre).length_le
            simpa using this
          rw [List.drop_append_of_le_length hl2, index_app (by omega), if_neg hneg]
          exact h
end Lx
end Go.Proofs.Ytlobphanodhcoaa
