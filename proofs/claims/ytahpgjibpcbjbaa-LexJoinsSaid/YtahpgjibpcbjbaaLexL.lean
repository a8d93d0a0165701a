/- The fixed fact of the statements on package lex; two lists of tokens compared. Conditions: each theorem's. -/
import Derived.Test.YtahpgjibpcbjbaaLexK
import Derived.Deep.MidRow
import Derived.Laws.Rows
namespace Go.Proofs.Ytahpgjibpcbjbaa
open Go.RowKit Go.Maps
set_option linter.unusedVariables false
set_option linter.unusedSimpArgs false
set_option maxRecDepth 100000
open Lx
namespace Lx
def tk0 : Tk := ⟨0, ⟨#[]⟩, 0⟩
end Lx
theorem tksL_get (T : List Tk) (k : Nat) (hk : k < T.length) (j : Nat) (hj : j < 3) : (tksL T)[k * 3 + j]? = (tkL (T.getD k tk0))[j]? := by
  induction T generalizing k with
  | nil => simp at hk
  | cons t T ih =>
    cases k with
    | zero =>
      simp only [tksL, List.flatMap_cons, List.getD_cons_zero, Nat.zero_mul, Nat.zero_add]
      rw [List.getElem?_append_left (by simp [tkL]; omega)]
    | succ k =>
      simp only [tksL, List.flatMap_cons, List.getD_cons_succ]
      rw [List.getElem?_append_right (by simp [tkL]; omega)]
      have := ih k (by simpa using hk)
      rw [← this]
      unfold tksL
      congr 1
      simp [tkL]; omega
theorem tks_at {w : World} {base : Nat} {v : Value} {T : List Tk} (h : TksAt w base v T) (h0 : 0 < T.length) : ∃ g cap, v = .slice (some ⟨g, 0, none⟩) T.length cap ∧ base ≤ g ∧ g < w.heap.size ∧ ∀ k, k < T.length →
    w.cell? ⟨g, k * 3, none⟩ = some (.int .i64 (T.getD k tk0).kd) ∧ w.cell? ⟨g, k * 3 + 1, none⟩ = some (.string (T.getD k tk0).tx) ∧ w.cell? ⟨g, k * 3 + 2, none⟩ = some (.int .i64 (T.getD k tk0).at_) := by
  obtain ⟨hl, h⟩ := h
  rcases h with ⟨_, hz⟩ | ⟨g, cap, cur, rfl, hb, hh, hn, hm, hsz, htk⟩
  · omega
  · refine ⟨g, cap, rfl, hb, (Array.getElem?_eq_some_iff.1 hh).1, fun k hk => ?_⟩
    have hget : ∀ j, j < 3 → cur[k * 3 + j]? = (tkL (T.getD k tk0))[j]? := fun j hj => by
      rw [← tksL_get T k hk j hj, ← htk, List.getElem?_take, if_pos (by omega)]
      simp
    refine ⟨?_, ?_, ?_⟩
    · rw [cell_of_row _ _ _ _ _ _ hh]; exact hget 0 (by omega)
    · rw [cell_of_row _ _ _ _ _ _ hh]; exact hget 1 (by omega)
    · rw [cell_of_row _ _ _ _ _ _ hh]; exact hget 2 (by omega)
theorem awake1 : lexV ⟨#[112, 45, 62, 120, 32, 61, 32, 48, 120, 49, 102, 59]⟩ = ⟨[⟨1, ⟨#[112]⟩, 0⟩, ⟨3, ⟨#[45, 62]⟩, 1⟩, ⟨1, ⟨#[120]⟩, 3⟩, ⟨3, ⟨#[61]⟩, 5⟩, ⟨2, ⟨#[48, 120, 49, 102]⟩, 7⟩, ⟨3, ⟨#[59]⟩, 11⟩, ⟨0, ⟨#[]⟩, 12⟩], 0, 0⟩ := by kernel_rfl
theorem awake2 : lexV ⟨#[32, 49, 50, 97]⟩ = ⟨[], 1, 10⟩ := by kernel_rfl
set_option maxHeartbeats 2000000 in
theorem awake_any (w : World) (hM : MaxIs w) : Calls Try.prog 10 #[] w fun e w' => e = .returned (.bool true) ∧ Below w.heap.size w w' := by
  go_enter Try.func10, Try.ntmps10
  go_wp2_with fail
  refine (lex_any _ _ (by decide) hM).mono ?_
  rintro e w1 ⟨v1, rfl, ht1, hb1⟩
  rw [awake1] at ht1 ⊢
  go_wp2_with fail
  refine (mean_any _ _ (by decide)).mono ?_
  rintro e w' ⟨rfl, rfl⟩
  rw [show meanV (⟨#[39, 65, 39]⟩ : ByteArray).data.toList = some 65 by decide, show mnE (some 65) = 0 from rfl]
  go_wp2_with fail
  refine (lex_any _ _ (by decide) (hM.keep hb1)).mono ?_
  rintro e w2 ⟨v2, rfl, ht2, hb2⟩
  rw [awake2] at ht2 ⊢
  obtain ⟨g, cap, rfl, hg1, hg2, hc⟩ := tks_at (T := [⟨1, ⟨#[112]⟩, 0⟩, ⟨3, ⟨#[45, 62]⟩, 1⟩, ⟨1, ⟨#[120]⟩, 3⟩, ⟨3, ⟨#[61]⟩, 5⟩, ⟨2, ⟨#[48, 120, 49, 102]⟩, 7⟩, ⟨3, ⟨#[59]⟩, 11⟩, ⟨0, ⟨#[]⟩, 12⟩]) (own_keep ht1 hb2) (by simp)
  obtain ⟨c0, c1, c2⟩ := hc 1 (by simp)
  clear hc ht1 ht2
  go_wp2
  go_ret
  exact ⟨rfl, hb1.trans (hb2.mono hb1.size)⟩
set_option maxHeartbeats 4000000 in
theorem same_any {w : World} {b1 b2 : Nat} {v u : Value} {T : List Tk} (hv : TksAt w b1 v T) (hu : TksAt w b2 u T) (hT : T.length ≤ 1048576) :
    Calls Try.prog 13 #[v, u] w fun e w' => e = .returned (.bool true) ∧ Below w.heap.size w w' := by
  by_cases h0 : 0 < T.length
  · obtain ⟨g, c, rfl, hg1, hg2, hc⟩ := tks_at hv h0
    obtain ⟨g', c', rfl, hg1', hg2', hc'⟩ := tks_at hu h0
    have HC := Lib.hid hc
    have HC' := Lib.hid hc'
    clear hc hc' hv hu
    go_enter Try.func13, Try.ntmps13
    go_wp2_with fail
    go_loopw [13] (fun k wr => ∃ j : Nat, j ≤ T.length ∧ k = .int .i64 j ∧ Below w.heap.size w wr) (fun k _ => T.length - (intOf k).toNat)
    case atStart => exact ⟨0, by omega, rfl, Below.refl _ _⟩
    case round =>
      obtain ⟨j, hj, rfl, hbe⟩ := hrel
      by_cases hlt : j < T.length
      · obtain ⟨c0, c1, c2⟩ := HC.out j hlt
        obtain ⟨d0, d1, d2⟩ := HC'.out j hlt
        have dj0 : (0 : Int) ≤ (j : Int) := by omega
        have dj1 : (j : Int) < (T.length : Int) := by omega
        generalize T.getD j tk0 = t at *
        obtain ⟨kd, tx, tat⟩ := t
        dsimp only at *
        have hk : ∀ (m : Nat) (o : Nat) (g : Nat) (x : Value), g < w.heap.size → w.cell? ⟨g, o, none⟩ = some x → (wr.drewN m).cell? ⟨g, o, none⟩ = some x := fun m o g x hg hx => ((below_drewN hbe m).cell (p := ⟨g, o, none⟩) hg).trans hx
        have c0' := fun m => hk m _ _ _ hg2 c0
        have c1' := fun m => hk m _ _ _ hg2 c1
        have c2' := fun m => hk m _ _ _ hg2 c2
        have d0' := fun m => hk m _ _ _ hg2' d0
        have d1' := fun m => hk m _ _ _ hg2' d1
        have d2' := fun m => hk m _ _ _ hg2' d2
        clear hk c0 c1 c2 d0 d1 d2
        go_wp2_with fail
        go_quiet (fail)
        go_wp2
        go_roundw
        case rel => exact ⟨j + 1, by omega, by go_num, below_drewN hbe _⟩
        case measure => simp [intOf]; omega
      · obtain rfl : j = T.length := by omega
        go_wp2
        go_ret
        exact ⟨rfl, hbe⟩
  · obtain ⟨A, c, rfl⟩ := own_slice hv
    obtain ⟨A', c', rfl⟩ := own_slice hu
    have hz : T.length = 0 := by omega
    rw [hz]
    go_enter Try.func13, Try.ntmps13
    go_wp2_with fail
    go_loop [13] (fun k => k = .int .i64 0) (fun _ => 0)
    case atStart => rfl
    case round =>
      obtain rfl := hrel
      go_wp2
      go_ret
      exact ⟨rfl, Below.refl _ _⟩
end Go.Proofs.Ytahpgjibpcbjbaa
