/- Package lex: what stands between tokens. Conditions: each theorem's. -/
import Derived.Test.YtlobphanodhcoaaLexA
namespace Go.Proofs.Ytlobphanodhcoaa
open Go.RowKit
set_option linter.unusedVariables false
set_option linter.unusedSimpArgs false
set_option maxRecDepth 10000
open Lx
namespace Lx
def gp : Nat → List UInt8 → Nat × Bool
  | 0, _ => (0, true)
  | f + 1, l => if l = [] then (0, true) else match og l with
    | none => (0, false)
    | some n => if n = 0 then (0, true) else (n + (gp f (l.drop n)).1, (gp f (l.drop n)).2)
/-- How many bytes stand ahead of the next token; is there no remark without an end? -/
def gapV (l : List UInt8) : Nat × Bool := gp (l.length + 1) l
theorem og_le {l : List UInt8} {n : Nat} (h : og l = some n) (h0 : l ≠ []) : n ≤ l.length := by
  have hl : 0 < l.length := List.length_pos_iff.2 h0
  unfold og at h
  split at h
  · injection h with h; omega
  · split at h
    · injection h with h
      rw [← h]
      exact tw_le _ _
    · split at h
      · injection h with h; omega
      · split at h
        · cases h
        · injection h with h
          have h3 := Lib.index_room (l.drop 2) [42, 47] (by omega)
          simp at h3
          omega
theorem gp_fuel (f g : Nat) (l : List UInt8) (hf : l.length < f) (hg : l.length < g) : gp f l = gp g l := by
  induction f generalizing g l with
  | zero => omega
  | succ f ih =>
    cases g with
    | zero => omega
    | succ g =>
      simp only [gp]
      by_cases h : l = []
      · simp [h]
      · rw [if_neg h, if_neg h]
        have h0 : 0 < l.length := List.length_pos_iff.2 h
        cases ho : og l with
        | none => rfl
        | some n =>
          dsimp only
          by_cases hn : n = 0
          · simp [hn]
          · rw [if_neg hn, if_neg hn, ih g (l.drop n) (by simp; omega) (by simp; omega)]
theorem gap_nil : gapV [] = (0, true) := rfl
theorem gap_step {l : List UInt8} {n : Nat} (h0 : l ≠ []) (h : og l = some n) (hn : n ≠ 0) : gapV l = (n + (gapV (l.drop n)).1, (gapV (l.drop n)).2) := by
  have hl : 0 < l.length := List.length_pos_iff.2 h0
  have e := gp_fuel l.length ((l.drop n).length + 1) (l.drop n) (by simp; omega) (by omega)
  unfold gapV
  rw [← e]
  show gp (l.length + 1) l = _
  rw [gp, if_neg h0, h]
  dsimp only
  rw [if_neg hn]
theorem gap_stop {l : List UInt8} (h0 : l ≠ []) (h : og l = some 0) : gapV l = (0, true) := by
  unfold gapV
  rw [gp, if_neg h0, h]
  rfl
theorem gap_bad {l : List UInt8} (h0 : l ≠ []) (h : og l = none) : gapV l = (0, false) := by
  unfold gapV
  rw [gp, if_neg h0, h]
theorem gap_le (l : List UInt8) : (gapV l).1 ≤ l.length := by
  suffices ∀ n, ∀ l : List UInt8, l.length ≤ n → (gapV l).1 ≤ l.length from this _ l (Nat.le_refl _)
  intro n
  induction n with
  | zero => intro l hl; rw [List.length_eq_zero_iff.1 (by omega : l.length = 0)]; simp [gap_nil]
  | succ n ih =>
    intro l hl
    by_cases h0 : l = []
    · subst h0; simp [gap_nil]
    cases ho : og l with
    | none => rw [gap_bad h0 ho]; exact Nat.zero_le _
    | some m =>
      by_cases hm : m = 0
      · subst hm; rw [gap_stop h0 ho]; exact Nat.zero_le _
      · rw [gap_step h0 ho hm]
        have := og_le ho h0
        have := ih (l.drop m) (by simp; omega)
        simp at this ⊢
        omega
end Lx
set_option maxHeartbeats 1000000 in
theorem gap_any (s : ByteArray) (w : World) (hs : s.size ≤ 1048576) (hsh : MaxIs w) :
    Calls Try.prog 15 #[.string s] w fun e w' => e = .returned (.tuple #[.int .i64 (gapV s.data.toList).1, .bool (gapV s.data.toList).2]) ∧ w = w' := by
  have hsz := sz s
  have H0 : Hid (gapV s.data.toList = (0 + (gapV (s.data.toList.drop 0)).1, (gapV (s.data.toList.drop 0)).2)) := Lib.hid (by simp)
  go_enter Try.func15, Try.ntmps15
  go_wp2
  go_loop [4] (fun k => ∃ j : Nat, j ≤ s.size ∧ k = .int .i64 j ∧ Hid (gapV s.data.toList = (j + (gapV (s.data.toList.drop j)).1, (gapV (s.data.toList.drop j)).2))) (fun k => s.size - (intOf k).toNat)
  case atStart => exact ⟨0, Nat.zero_le _, rfl, H0⟩
  case round =>
    obtain ⟨j, hj, rfl, HG⟩ := hrel
    clear H0
    by_cases hlt : j < s.size
    · have hex := ext_end s j
      have hxs : (s.extract j s.size).size = s.size - j := by rw [← sz, hex]; simp [hsz]
      have HX := Lib.hid hex
      have HXS := Lib.hid hxs
      have hne : s.data.toList.drop j ≠ [] := by
        intro e; have := congrArg List.length e; simp at this; omega
      have hle := fun n h => og_le (n := n) h hne
      have hstep := fun n h hn => gap_step (n := n) hne h hn
      have hstop := gap_stop hne
      have hbad := gap_bad hne
      have HA := Lib.hid (And.intro hle (And.intro hstep (And.intro hstop hbad)))
      clear hex hxs hle hstep hstop hbad hne
      go_wp2_with fail
      refine (oneGap_any _ _ (by rw [HXS.out]; omega) (by rw [HXS.out]; omega) hsh).mono ?_
      rintro e w' ⟨rfl, rfl⟩
      rw [HX.out]
      obtain ⟨a1, a2, a3, a4⟩ := HA.out
      cases ho : og (s.data.toList.drop j) with
      | none =>
        have hg := HG.out
        rw [a4 ho] at hg
        have HG2 := Lib.hid hg
        clear a1 a2 a3 a4 ho hg HG HA
        go_wp2
        go_ret2
        exact ⟨by rw [HG2.out]; rfl, rfl⟩
      | some n =>
        have hn := a1 n ho
        simp only [List.length_drop, hsz] at hn
        by_cases hn0 : n = 0
        · subst hn0
          have hg := HG.out
          rw [a3 ho] at hg
          have HG2 := Lib.hid hg
          clear a1 a2 a3 a4 ho hg HG HA
          go_wp2
          go_ret2
          exact ⟨by rw [HG2.out]; rfl, rfl⟩
        · have hg := HG.out
          rw [a2 n ho hn0] at hg
          have HG2 := Lib.hid hg
          have hn1 : ((n : Int) == 0) = false := beq_eq_false_iff_ne.mpr (by omega)
          clear a1 a2 a3 a4 ho hg HG HA
          go_wp2
          go_round
          case rel =>
            refine ⟨j + n, by omega, by go_num, Lib.hid ?_⟩
            rw [HG2.out, List.drop_drop]
            simp [Nat.add_assoc]
          case measure => simp [intOf]; omega
    · obtain rfl : j = s.size := by omega
      have hg := HG.out
      rw [List.drop_of_length_le (by omega)] at hg
      have HG2 := Lib.hid hg
      clear hg HG
      go_wp2
      go_ret2
      exact ⟨by rw [HG2.out, gap_nil]; rfl, rfl⟩
end Go.Proofs.Ytlobphanodhcoaa
