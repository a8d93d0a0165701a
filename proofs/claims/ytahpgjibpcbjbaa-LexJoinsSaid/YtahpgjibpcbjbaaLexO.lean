/- The tokens of a text stand in order. Conditions: each theorem's. -/
import Derived.Test.YtahpgjibpcbjbaaLexP
import Derived.IntWalk
namespace Go.Proofs.Ytahpgjibpcbjbaa
open Go.RowKit Go.Maps
set_option linter.unusedVariables false
set_option linter.unusedSimpArgs false
set_option maxRecDepth 100000
open Lx
namespace Lx
/-- Where the tokens ahead of the k-th end. -/
def enT (T : List Tk) (k : Nat) : Nat := if k = 0 then 0 else (T.getD (k - 1) tk0).at_ + (T.getD (k - 1) tk0).tx.size
structure OkT (s : ByteArray) (T : List Tk) (k : Nat) : Prop where
  a : enT T k ≤ (T.getD k tk0).at_
  b : 0 < (T.getD k tk0).tx.size
  c : (T.getD k tk0).at_ + (T.getD k tk0).tx.size ≤ s.size
  d : (T.getD k tk0).tx = s.extract (T.getD k tk0).at_ ((T.getD k tk0).at_ + (T.getD k tk0).tx.size)
theorem getD_app {T : List Tk} {t : Tk} {k : Nat} (h : k < T.length) : (T ++ [t]).getD k tk0 = T.getD k tk0 := by
  simp [List.getD_eq_getElem?_getD, List.getElem?_append_left h]
theorem getD_app_last {T : List Tk} {t : Tk} : (T ++ [t]).getD T.length tk0 = t := by simp [List.getD_eq_getElem?_getD]
theorem enT_app {T : List Tk} {t : Tk} {k : Nat} (h : k ≤ T.length) : enT (T ++ [t]) k = enT T k := by
  unfold enT
  by_cases h0 : k = 0
  · simp [h0]
  · rw [if_neg h0, if_neg h0, getD_app (by omega)]
theorem okT_app {s : ByteArray} {T : List Tk} {t : Tk} {k : Nat} (h : k < T.length) (hk : OkT s T k) : OkT s (T ++ [t]) k := by
  obtain ⟨a, b, c, d⟩ := hk
  refine ⟨?_, ?_, ?_, ?_⟩
  · rw [enT_app (by omega), getD_app h]; exact a
  · rw [getD_app h]; exact b
  · rw [getD_app h]; exact c
  · rw [getD_app h]; exact d
/-- All but the last are so; the last one is the end. -/
def Ord (s : ByteArray) (R : Rs) : Prop := R.er = 0 → ∃ T, R.tk = T ++ [⟨0, ⟨#[]⟩, s.size⟩] ∧ ∀ k, k < T.length → OkT s T k
theorem ext_size (s : ByteArray) (p n : Nat) (h : p + n ≤ s.size) : (s.extract p (p + n)).size = n := by
  rw [← sz, ext_tok, List.length_take, List.length_drop, sz]; omega
theorem lx_ord (s : ByteArray) : ∀ f j T, s.size - j < f → j ≤ s.size → (∀ k, k < T.length → OkT s T k) → enT T T.length ≤ j → Ord s (lx s f j T) := by
  intro f
  induction f with
  | zero => intro j T hf; omega
  | succ f ih =>
    intro j T hf hj hT hE
    have hg := gap_le (s.data.toList.drop j)
    rw [List.length_drop, sz] at hg
    rw [lx]
    generalize (gapV (s.data.toList.drop j)).1 = g at *
    split
    · intro h; simp at h
    · split
      · rename_i h2
        intro _
        exact ⟨T, by rw [h2], hT⟩
      · split
        · intro h; simp at h
        · split
          · intro h; simp at h
          · rename_i h1 h2 h3 h4
            have hn := tokV_le (l := s.data.toList.drop (j + g)) (by rw [List.length_drop, sz]; omega)
            rw [List.length_drop, sz] at hn
            generalize (tokV (s.data.toList.drop (j + g))).2 = n at *
            generalize (tokV (s.data.toList.drop (j + g))).1 = kd at *
            have hsz := ext_size s (j + g) n (by omega)
            refine ih _ _ (by omega) (by omega) (fun k hk => ?_) ?_
            · by_cases hlt : k < T.length
              · exact okT_app hlt (hT k hlt)
              · obtain rfl : k = T.length := by simp at hk; omega
                refine ⟨?_, ?_, ?_, ?_⟩
                · rw [enT_app (Nat.le_refl _), getD_app_last]; show _ ≤ j + g; omega
                · rw [getD_app_last]; show 0 < (s.extract (j + g) (j + g + n)).size; omega
                · rw [getD_app_last]; show j + g + (s.extract (j + g) (j + g + n)).size ≤ _; omega
                · rw [getD_app_last]; show s.extract (j + g) (j + g + n) = s.extract (j + g) (j + g + (s.extract (j + g) (j + g + n)).size); rw [hsz]
            · unfold enT
              rw [if_neg (by simp), List.length_append, show T.length + [(⟨kd, s.extract (j + g) (j + g + n), j + g⟩ : Tk)].length - 1 = T.length by simp, getD_app_last]
              show j + g + (s.extract (j + g) (j + g + n)).size ≤ _
              omega
theorem lexV_ord (s : ByteArray) : Ord s (lexV s) := by
  unfold lexV
  split
  · intro h; simp at h
  · exact lx_ord s _ _ _ (by omega) (Nat.zero_le _) (by simp) (by simp [enT])
end Lx
set_option maxHeartbeats 8000000 in
theorem lexOrder_walk {w : World} (s : ByteArray) (hM : MaxIs w) (hs0 : s.size ≤ maxLen) :
    Calls Try.prog 5 #[.string s] w fun e w' => e = .returned (.bool true) ∧ Below w.heap.size w w' := by
  unfold maxLen at hs0
  go_enter Try.func5, Try.ntmps5
  go_wp2_with fail
  refine (awake_any _ hM).mono ?_
  rintro e w1 ⟨rfl, hb1⟩
  by_cases hbig : 8192 < s.size
  · have hb' : (8192 : Int) < (s.size : Int) := by omega
    go_wp2_with fail
    refine (awake_any _ (hM.keep hb1)).mono ?_
    rintro e w2 ⟨rfl, h2⟩
    go_wp2
    go_ret
    exact ⟨rfl, hb1.trans (h2.mono hb1.size)⟩
  have hb' : ¬ (8192 : Int) < (s.size : Int) := by omega
  have hs : s.size ≤ 1048576 := by omega
  have hlen := lexV_len s
  have HO := Lib.hid (And.intro (lexV_ord s) (lexV_err s))
  have hlex := lex_any s w1 hs (hM.keep hb1)
  generalize lexV s = R at *
  obtain ⟨T, pl, er⟩ := R
  dsimp only at *
  go_wp2_with fail
  refine hlex.mono ?_
  rintro e w2 ⟨v, rfl, hv, h2⟩
  clear hlex
  have hb2 := hb1.trans (h2.mono hb1.size)
  by_cases her : er = 0
  · subst her
    obtain ⟨T', hT', hok⟩ := HO.out.1 rfl
    dsimp only at hT'
    subst hT'
    have h0 : 0 < (T' ++ [(⟨0, ⟨#[]⟩, s.size⟩ : Tk)]).length := by simp
    obtain ⟨g, c, rfl, hg1, hg2, hc⟩ := tks_at hv h0
    have hln : (T' ++ [(⟨0, ⟨#[]⟩, s.size⟩ : Tk)]).length = T'.length + 1 := by simp
    rw [hln] at hlen hc ⊢
    have HC := Lib.hid hc
    have HK := Lib.hid hok
    clear hc hv hok HO hln h0
    go_wp2_with fail
    go_loopw [6, 30] (fun a k wr => ∃ j : Nat, j ≤ T'.length ∧ k = .int .i64 j ∧ a = .int .i64 (enT T' j) ∧ Below w2.heap.size w2 wr) (fun _ k _ => T'.length + 1 - (intOf k).toNat)
    case atStart => exact ⟨0, by omega, rfl, rfl, Below.refl _ _⟩
    case round =>
      obtain ⟨j, hj, rfl, rfl, hbe⟩ := hrel
      obtain ⟨c0, c1, c2⟩ := HC.out j (by omega)
      have d0 := (hbe.cell (p := ⟨g, j * 3, none⟩) hg2).trans c0
      have d1 := (hbe.cell (p := ⟨g, j * 3 + 1, none⟩) hg2).trans c1
      have d2 := (hbe.cell (p := ⟨g, j * 3 + 2, none⟩) hg2).trans c2
      clear c0 c1 c2
      have dj0 : (0 : Int) ≤ (j : Int) := by omega
      have dj1 : (j : Int) < (T'.length : Int) + 1 := by omega
      by_cases hlt : j < T'.length
      · rw [getD_app hlt] at d0 d1 d2
        have hq := HK.out j hlt
        obtain ⟨q1, q2, q3, q4⟩ := hq
        have hnx : enT T' (j + 1) = (T'.getD j tk0).at_ + (T'.getD j tk0).tx.size := by unfold enT; rw [if_neg (by omega), Nat.add_sub_cancel]
        have HNX := Lib.hid hnx
        clear hnx
        generalize T'.getD j tk0 = t at *
        obtain ⟨kd, tx, tat⟩ := t
        dsimp only at *
        have HQ := Lib.hid q4
        clear q4
        have e1 : ((j : Int) == (T'.length : Int)) = false := beq_eq_false_iff_ne.mpr (by omega)
        go_wp2_with fail
        have hbx := hbe.alloc hbe.size (.cells #[.int .i64 kd, .string tx, .int .i64 tat] 31)
        have hnew := heap_alloc_new wr (.cells #[.int .i64 kd, .string tx, .int .i64 tat] 31)
        have hxb : wr.heap.size < (wr.alloc (.cells #[.int .i64 kd, .string tx, .int .i64 tat] 31)).heap.size := by rw [szA]; omega
        generalize wr.alloc (.cells #[.int .i64 kd, .string tx, .int .i64 tat] 31) = W at *
        generalize wr.heap.size = xb at *
        have z1 : ∀ m, (W.drewN m).cell? ⟨xb, 1, none⟩ = some (.string tx) := fun m => by rw [(below_drewN (Below.refl W.heap.size W) m).cell hxb, cell_of_row _ _ _ _ _ _ hnew]; rfl
        have z2 : ∀ m, (W.drewN m).cell? ⟨xb, 2, none⟩ = some (.int .i64 tat) := fun m => by rw [(below_drewN (Below.refl W.heap.size W) m).cell hxb, cell_of_row _ _ _ _ _ _ hnew]; rfl
        have t1 : decide ((tat : Int) < (enT T' j : Int)) = false := decide_eq_false (by omega)
        have hemp : tx.toList.isEmpty = false := by
          rw [ByteArray.toList_eq]
          cases hx : tx.data.toList with
          | nil => rw [← sz tx, hx] at q2; simp at q2
          | cons => rfl
        have hemp2 : (!tx.toList.isEmpty) = true := by rw [hemp]; rfl
        have hemp3 : (tx.toList == []) = false := by rw [ByteArray.toList_eq] at hemp ⊢; cases hx : tx.data.toList with
          | nil => rw [hx] at hemp; simp at hemp
          | cons => rfl
        have s1 : IntKind.i64.wrap ((s.size : Int) - (tat : Int)) = (s.size : Int) - (tat : Int) := IntWalk.i64_in _ (by omega)
        have s2 : IntKind.i64.wrap ((tat : Int) + (tx.size : Int)) = (tat : Int) + (tx.size : Int) := IntWalk.i64_in _ (by omega)
        have s3 : ((tat : Int) + (tx.size : Int)).toNat = tat + tx.size := by omega
        have t3 : decide ((s.size : Int) - (tat : Int) < (tx.size : Int)) = false := decide_eq_false (by omega)
        have s4 : (0 : Int) ≤ (tat : Int) + (tx.size : Int) := by omega
        have s5 : (tat : Int) + (tx.size : Int) ≤ (s.size : Int) := by omega
        have s6 : (tat : Int) ≤ (tat : Int) + (tx.size : Int) := by omega
        have t4 : ((s.extract tat (tat + tx.size)).toList == tx.toList) = true := by rw [← HQ.out]; simp
        have t5 : ((s.extract tat (tat + tx.size)).toList != tx.toList) = false := by rw [bne, t4]; rfl
        go_quiet (fail)
        clear t1 t3 t4 t5 s1 s3
        go_wp2
        go_roundw
        case rel => exact ⟨j + 1, by omega, by go_num, congrArg (Value.int .i64) (by rw [HNX.out]; omega), below_drewN hbx _⟩
        case measure => simp [intOf]; omega
      · obtain rfl : j = T'.length := by omega
        rw [getD_app_last] at d0 d1 d2
        dsimp only at *
        go_wp2
        go_ret
        exact ⟨rfl, hb2.trans ((hbe.alloc hbe.size _).mono hb2.size)⟩
  · obtain rfl : T = [] := by
      rcases HO.out.2 with h | h
      · exact absurd h her
      · exact h
    have hne : (er == 0) = false := beq_eq_false_iff_ne.mpr her
    have hne2 : (er != 0) = true := by rw [bne, hne]; rfl
    obtain ⟨A, c, rfl⟩ := own_slice hv
    go_wp2
    go_ret
    exact ⟨rfl, hb2⟩
end Go.Proofs.Ytahpgjibpcbjbaa
