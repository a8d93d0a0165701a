/- What holds of all tokens of a text. No condition. -/
import Derived.Test.YtlobphanodhcoaaLexL
namespace Go.Proofs.Ytlobphanodhcoaa
open Go.RowKit Go.Maps
set_option linter.unusedVariables false
set_option linter.unusedSimpArgs false
set_option maxRecDepth 100000
open Lx
namespace Lx
theorem lx_all (P : Tk → Prop) (s : ByteArray) (hend : ∀ p, p ≤ s.size → P ⟨0, ⟨#[]⟩, p⟩) (hnew : ∀ p, p < s.size → (tokV (s.data.toList.drop p)).2 ≠ 0 → P ⟨(tokV (s.data.toList.drop p)).1, s.extract p (p + (tokV (s.data.toList.drop p)).2), p⟩) :
    ∀ f j T, j ≤ s.size → (∀ t ∈ T, P t) → ∀ t ∈ (lx s f j T).tk, P t := by
  intro f
  induction f with
  | zero => intro j T _ _ t ht; simp [lx] at ht
  | succ f ih =>
    intro j T hj hT
    have hg := gap_le (s.data.toList.drop j)
    rw [List.length_drop, sz] at hg
    rw [lx]
    generalize (gapV (s.data.toList.drop j)).1 = g at *
    split
    · intro t ht; cases ht
    · split
      · intro t ht
        rcases List.mem_append.1 ht with h | h
        · exact hT t h
        · rw [List.mem_singleton.1 h]; exact hend _ (by omega)
      · split
        · intro t ht; cases ht
        · split
          · intro t ht; cases ht
          · rename_i h1 h2 h3 h4
            have hn := tokV_le (l := s.data.toList.drop (j + g)) (by rw [List.length_drop, sz]; omega)
            rw [List.length_drop, sz] at hn
            refine ih _ _ (by omega) fun t ht => ?_
            rcases List.mem_append.1 ht with h | h
            · exact hT t h
            · rw [List.mem_singleton.1 h]; exact hnew _ (by omega) h3
theorem lexV_all (P : Tk → Prop) (s : ByteArray) (hend : ∀ p, p ≤ s.size → P ⟨0, ⟨#[]⟩, p⟩) (hnew : ∀ p, p < s.size → (tokV (s.data.toList.drop p)).2 ≠ 0 → P ⟨(tokV (s.data.toList.drop p)).1, s.extract p (p + (tokV (s.data.toList.drop p)).2), p⟩) : ∀ t ∈ (lexV s).tk, P t := by
  unfold lexV
  split
  · intro t ht; cases ht
  · exact lx_all P s hend hnew _ _ _ (Nat.zero_le _) (by simp)
theorem lx_err (s : ByteArray) : ∀ f j T, (lx s f j T).er = 0 ∨ (lx s f j T).tk = [] := by
  intro f
  induction f with
  | zero => intro j T; exact .inr rfl
  | succ f ih =>
    intro j T
    rw [lx]
    split
    · exact .inr rfl
    · split
      · exact .inl rfl
      · split
        · exact .inr rfl
        · split
          · exact .inr rfl
          · exact ih _ _
theorem lexV_err (s : ByteArray) : (lexV s).er = 0 ∨ (lexV s).tk = [] := by
  unfold lexV
  split
  · exact .inr rfl
  · exact lx_err _ _ _ _
theorem lexV_len (s : ByteArray) : (lexV s).tk.length ≤ 2501 := by
  unfold lexV
  split
  · simp
  · suffices ∀ f j T, T.length ≤ 2500 → (lx s f j T).tk.length ≤ 2501 from this _ _ _ (by simp)
    intro f
    induction f with
    | zero => intro j T _; simp [lx]
    | succ f ih =>
      intro j T hT
      rw [lx]
      split
      · simp
      · split
        · simp; omega
        · split
          · simp
          · split
            · simp
            · exact ih _ _ (by simp; omega)
theorem isQ_39 {l : List UInt8} (h : bt (l.getD 0 0) ≠ 39) : isQ l = false := by
  unfold isQ
  rw [show decide (bt (l.getD 0 0) = 39) = false from decide_eq_false h]
  simp
theorem take_head (l : List UInt8) (n : Nat) (h : n ≠ 0) : (l.take n).getD 0 0 = l.getD 0 0 := by
  cases n with
  | zero => exact absurd rfl h
  | succ n => cases l <;> simp
/-- A token is a TNum just if it means something. -/
theorem tok_mean {l : List UInt8} (hn : (tokV l).2 ≠ 0) : (tokV l).1 = 2 ↔ (meanV (l.take (tokV l).2)).isSome = true := by
  have hno : ¬ (dg (bt (l.getD 0 0)) = true ∨ bt (l.getD 0 0) = 39) → ∀ n, n ≠ 0 → meanV (l.take n) = none := fun h n hn => by
    refine mean_no (isQ_39 ?_) ?_
    · rw [take_head l n hn]; exact fun e => h (.inr e)
    · rw [take_head l n hn]; cases hd : dg (bt (l.getD 0 0)) with
      | false => rfl
      | true => exact absurd (.inl hd) h
  unfold tokV at hn ⊢
  split
  · rename_i h
    rw [if_pos h] at hn
    simp only [true_iff]
    unfold nbV at hn ⊢
    dsimp only at hn ⊢
    split
    · rename_i h2; exact h2
    · rename_i h2; rw [if_neg h2] at hn; exact absurd rfl hn
  · rename_i h
    rw [if_neg h] at hn
    split
    · rename_i h2
      rw [if_pos h2] at hn
      rw [hno h _ hn]
      unfold nwV
      split
      · simp
      · dsimp only; split <;> simp
    · rename_i h2
      rw [if_neg h2] at hn
      rw [hno h _ hn]
      simp
end Lx
theorem ext_tok (s : ByteArray) (p n : Nat) : (s.extract p (p + n)).data.toList = (s.data.toList.drop p).take n := by rw [Lib.extract_data, show p + n - p = n by omega]
/-- What holds of each token of a text. -/
def TkOk (s : ByteArray) (t : Tk) : Prop := t.tx.size ≤ s.size ∧ (t.kd = 2 ↔ (meanV t.tx.data.toList).isSome = true)
theorem lexV_ok (s : ByteArray) : ∀ t ∈ (lexV s).tk, TkOk s t := by
  refine lexV_all _ s (fun p hp => ⟨Nat.zero_le _, by simp; decide⟩) fun p hp hn => ⟨?_, ?_⟩
  · rw [← sz, ext_tok, List.length_take, List.length_drop, sz]; omega
  · rw [ext_tok]; exact tok_mean hn
end Go.Proofs.Ytlobphanodhcoaa
