/- As many tokens, and bytes, as may be. Conditions: each theorem's. -/
import Derived.Test.YtahpgjibpcbjbaaLexP
import Derived.Laws.MakeOwn
import Derived.Laws.IdiomStrings
namespace Go.Proofs.Ytahpgjibpcbjbaa
open Go.RowKit Go.Maps
set_option linter.unusedVariables false
set_option linter.unusedSimpArgs false
set_option maxRecDepth 100000
open Lx
namespace Lx
theorem gap_tilde (r : List UInt8) : gapV (126 :: r) = (0, true) := by
  refine gap_stop (by simp) (og_none ?_ ?_ ?_)
  · rw [List.getD_cons_zero]; decide
  · simp [Lib.hasPrefix, List.isPrefixOf]
  · simp [Lib.hasPrefix, List.isPrefixOf]
theorem tok_tilde (r : List UInt8) : (tokV (126 :: r)).2 = 1 := by
  have e : (126 :: r).getD 0 0 = 126 := rfl
  unfold tokV
  rw [e, if_neg (by decide), if_neg (by decide)]
  show sgW (126 :: r) = 1
  have h2 : ∀ y : Int, ¬ ((126 : Int), y) ∈ twoT := fun y h => by
    have : ∀ p ∈ twoT, p.1 ≠ 126 := by decide
    exact this _ h rfl
  rw [sgW_eq, e, show bt 126 = 126 from rfl, if_neg (h2 _), if_pos (by decide)]
theorem gap_blanks (b : Nat) : gapV (List.replicate b 32) = (b, true) := by
  induction b with
  | zero => exact gap_nil
  | succ b ih =>
    have h : og (List.replicate (b + 1) 32) = some 1 := og_blank (by rw [List.replicate_succ, List.getD_cons_zero]; decide)
    rw [gap_step (by simp) h (by simp), List.replicate_succ]
    simp only [List.drop_succ_cons, List.drop_zero]
    rw [ih]
    simp [Nat.add_comm]
def txt (n b : Nat) : List UInt8 := List.replicate n 126 ++ List.replicate b 32
theorem txt_len (n b : Nat) : (txt n b).length = n + b := by simp [txt]
theorem txt_get {n b j : Nat} (h : j < (txt n b).length) : ((txt n b)[j].toNat : Int) = if j < n then 126 else 32 := by
  simp only [txt, List.getElem_append]
  split
  · rename_i h; rw [if_pos (by simpa using h)]; simp
  · rename_i h; rw [if_neg (by simpa using h)]; simp
theorem txt_in {n b j : Nat} (h : j < n) : ∃ r, (txt n b).drop j = 126 :: r := by
  refine ⟨(txt n b).drop (j + 1), ?_⟩
  rw [List.drop_eq_getElem_cons (by rw [txt_len]; omega)]
  congr 1
  unfold txt
  rw [List.getElem_append_left (by simpa using h)]
  simp
theorem txt_out (n b : Nat) : (txt n b).drop n = List.replicate b 32 := by
  unfold txt
  rw [List.drop_append_of_le_length (by simp)]
  simp
theorem lx_txt {s : ByteArray} {n b : Nat} (hs : s.data.toList = txt n b) : ∀ f j T, n + b - j < f → j ≤ n → j ≤ 2500 → T.length = j →
    (n ≤ 2500 → (lx s f j T).er = 0 ∧ (lx s f j T).tk.length = n + 1) ∧ (2500 < n → (lx s f j T).er = 3 ∧ (lx s f j T).pl = 2500) := by
  have hsz : s.size = n + b := by rw [← sz, hs, txt_len]
  intro f
  induction f with
  | zero => intro j T hf; omega
  | succ f ih =>
    intro j T hf hjn hj hT
    by_cases hlt : j < n
    · obtain ⟨r, hr⟩ := txt_in (b := b) hlt
      rw [lx, hs, hr, gap_tilde]
      simp only [Nat.add_zero]
      rw [if_neg (by simp), if_neg (by omega), hr, tok_tilde, if_neg (by simp)]
      by_cases h25 : 2500 ≤ T.length
      · rw [if_pos h25]
        refine ⟨fun h => by omega, fun h => ⟨rfl, ?_⟩⟩
        show ((j : Nat) : Int) = 2500
        omega
      · rw [if_neg h25]
        exact ih _ _ (by omega) (by omega) (by omega) (by simp [hT])
    · obtain rfl : j = n := by omega
      rw [lx, hs, txt_out, gap_blanks]
      simp only []
      rw [if_neg (by simp), if_pos hsz.symm]
      exact ⟨fun _ => ⟨rfl, by simp [hT]⟩, fun h => by omega⟩
theorem lexV_txt {s : ByteArray} {n b : Nat} (hs : s.data.toList = txt n b) : (8192 < n + b → (lexV s).er = 3 ∧ (lexV s).pl = 8192) ∧ (¬ 8192 < n + b → 2500 < n → (lexV s).er = 3 ∧ (lexV s).pl = 2500) ∧ (¬ 8192 < n + b → n ≤ 2500 → (lexV s).er = 0 ∧ (lexV s).tk.length = n + 1) := by
  have hsz : s.size = n + b := by rw [← sz, hs, txt_len]
  have h := lx_txt hs (s.size + 1) 0 [] (by omega) (Nat.zero_le _) (by omega) rfl
  refine ⟨fun hb => ?_, fun hb hn => ?_, fun hb hn => ?_⟩
  · unfold lexV; rw [if_pos (by omega)]; exact ⟨rfl, rfl⟩
  · unfold lexV; rw [if_neg (by omega)]; exact h.2 hn
  · unfold lexV; rw [if_neg (by omega)]; exact h.1 hn
theorem small_mod (a : Int) (m : Nat) (hm : 0 < m) (hm2 : m ≤ 100000) : ∃ n : Nat, n < m ∧ wrap64 ((IntKind.u64.wrap a).tmod m) = (n : Int) := by
  have h0 : 0 ≤ IntKind.u64.wrap a := by unfold IntKind.wrap; simp [IntKind.bits, IntKind.signed]; omega
  have h1 : (IntKind.u64.wrap a).tmod m = IntKind.u64.wrap a % m := Int.tmod_eq_emod_of_nonneg h0
  have h2 := Int.emod_nonneg (IntKind.u64.wrap a) (show (m : Int) ≠ 0 by omega)
  have h3 := Int.emod_lt_of_pos (IntKind.u64.wrap a) (show (0 : Int) < m by omega)
  rw [h1]
  generalize IntKind.u64.wrap a % (m : Int) = r at *
  exact ⟨r.toNat, by omega, by unfold wrap64; omega⟩
end Lx
theorem infoB8 : (Try.prog.info? 5).map (fun i => (i.zero, i.size, i.bytes)) = some (some (.int .u8 0), 1, 1) := by kernel_rfl
set_option maxHeartbeats 8000000 in
theorem lexLimits_walk {w : World} (a c : Int) (hM : MaxIs w) :
    Calls Try.prog 8 #[.int .i64 a, .int .i64 c] w fun e w' => e = .returned (.bool true) ∧ Below w.heap.size w w' := by
  obtain ⟨n, hn, hA'⟩ := small_mod a 2510 (by omega) (by omega)
  obtain ⟨b, hb, hC'⟩ := small_mod c 8200 (by omega) (by omega)
  have hA : wrap64 ((IntKind.u64.wrap a).tmod 2510) = (n : Int) := hA'
  have hC : wrap64 ((IntKind.u64.wrap c).tmod 8200) = (b : Int) := hC'
  clear hA' hC'
  obtain ⟨i0, hi0, hz0, hz1, hz2⟩ := info_parts infoB8
  have hmk : ∀ w1 : World, (Instr.makeSlice 38 (.int .i64 ((n : Int) + (b : Int))) (.int .i64 ((n : Int) + (b : Int)))).run Try.prog w1 = .ok (.slice (some ⟨w1.heap.size, 0, none⟩) (n + b) (n + b)) (w1.alloc (.cells (madeCells #[.int .u8 0] ((n + b) * 1)) 5)) := fun w1 => by
    have := run_make (P := Try.prog) w1 38 5 i0 (.int .u8 0) Try.underlying38 hi0 hz0 .i64 .i64 ((n : Int) + (b : Int)) ((n : Int) + (b : Int)) (by omega) (by omega) (by rw [hz2]; omega) (by omega)
    rw [hz1, show ((n : Int) + (b : Int)).toNat = n + b by omega] at this
    exact this
  have n0 : (0 : Int) ≤ (n : Int) := by omega
  have b0 : (0 : Int) ≤ (b : Int) := by omega
  have n1 : (n : Int) ≤ 2510 := by omega
  have b1 : (b : Int) ≤ 8200 := by omega
  go_enter Try.func8, Try.ntmps8
  go_wp2_with fail
  refine (awake_any _ hM).mono ?_
  rintro e w1 ⟨rfl, hb1⟩
  go_wp2_with fail
  try rw [hA]
  try rw [hC]
  have hnew := heap_alloc_new w1 (.cells (madeCells #[.int .u8 0] (n + b)) 5)
  have hmsz : (madeCells #[Value.int .u8 0] (n + b)).size = n + b := by simp [madeCells]
  have hbL := hb1.alloc hb1.size (.cells (madeCells #[.int .u8 0] (n + b)) 5)
  have hgw : w.heap.size ≤ w1.heap.size := hb1.size
  generalize w1.alloc (.cells (madeCells #[.int .u8 0] (n + b)) 5) = w2 at *
  generalize w1.heap.size = g at *
  clear hA hC hmk
  generalize madeCells #[Value.int .u8 0] (n + b) = cs0 at *
  go_loopw [26] (fun k wr => ∃ (j : Nat) (cs : Array Value), j ≤ n + b ∧ k = .int .i64 j ∧ Below w.heap.size w wr ∧ wr.heap[g]? = some (.cells cs 5 (0, 0)) ∧ cs.size = n + b ∧ Hid (∀ i, i < j → cs[i]? = some (.int .u8 (if i < n then 126 else 32)))) (fun k _ => n + b - (intOf k).toNat)
  case atStart => exact ⟨0, cs0, by omega, rfl, hbL, hnew, hmsz, Lib.hid fun i hi => by omega⟩
  case round =>
    obtain ⟨j, cs, hj, rfl, hbe, hh, hcz, HQ⟩ := hrel
    clear hnew hmsz hbL
    by_cases hlt : j < n + b
    · have e0 : wr.cell? ⟨g, j, none⟩ = some (cs[j]'(by omega)) := by rw [cell_of_row _ _ _ _ _ _ hh]; simp
      have fz := frozen_of_row _ _ j _ _ hh
      have dj0 : (0 : Int) ≤ (j : Int) := by omega
      have dj1 : (j : Int) < (n : Int) + (b : Int) := by omega
      generalize (cs[j]'(by omega)) = x at *
      have h1 := heap_setCell_same wr g j _ _ (.int .u8 32) hh
      by_cases hjn : j < n
      · have h2 := heap_setCell_same _ g j _ _ (.int .u8 126) h1
        have hji : (j : Int) < (n : Int) := by omega
        go_wp2
        go_roundw
        case rel =>
          refine ⟨j + 1, (cs.setIfInBounds j (.int .u8 32)).setIfInBounds j (.int .u8 126), by omega, by go_num, (hbe.setCell hgw _).setCell hgw _, h2, by simp [hcz], Lib.hid fun i hi => ?_⟩
          by_cases e : i = j
          · subst e; rw [if_pos hjn, Array.getElem?_setIfInBounds_self_of_lt (by simp; omega)]
          · rw [Array.getElem?_setIfInBounds_ne (fun e' => e e'.symm), Array.getElem?_setIfInBounds_ne (fun e' => e e'.symm)]; exact HQ.out i (by omega)
        case measure => simp [intOf]; omega
      · have hji : decide ((j : Int) < (n : Int)) = false := decide_eq_false (by omega)
        go_wp2
        go_roundw
        case rel =>
          refine ⟨j + 1, cs.setIfInBounds j (.int .u8 32), by omega, by go_num, hbe.setCell hgw _, h1, by simp [hcz], Lib.hid fun i hi => ?_⟩
          by_cases e : i = j
          · subst e; rw [if_neg hjn, Array.getElem?_setIfInBounds_self_of_lt (by omega)]
          · rw [Array.getElem?_setIfInBounds_ne (fun e' => e e'.symm)]; exact HQ.out i (by omega)
        case measure => simp [intOf]; omega
    · obtain rfl : j = n + b := by omega
      have hconv := run_convert_bytes_back (P := Try.prog) wr 38 9 5 ⟨g, 0, none⟩ (n + b) (txt n b) Try.underlying38 Try.underlying5 Try.underlying9 (fun j hj => by
        rw [txt_len] at hj
        have hadd : (⟨g, 0, none⟩ : Addr).add j = ⟨g, j, none⟩ := by unfold Addr.add; split <;> simp_all
        rw [hadd, cell_of_row _ _ _ _ _ _ hh, HQ.out j hj, txt_get])
      rw [txt_len] at hconv
      have hx := lexV_txt (s := ⟨(txt n b).toArray⟩) (n := n) (b := b) rfl
      have hxs : (⟨(txt n b).toArray⟩ : ByteArray).size ≤ 1048576 := by show ((txt n b).toArray).size ≤ _; rw [List.size_toArray, txt_len]; omega
      have hlex := lex_any ⟨(txt n b).toArray⟩ wr hxs (hM.keep hbe)
      generalize (⟨(txt n b).toArray⟩ : ByteArray) = S at *
      have hlen := lexV_len S
      generalize lexV S = R at *
      obtain ⟨T, pl, er⟩ := R
      dsimp only at *
      have HX := Lib.hid hx
      clear hx
      have hd : decide ((n : Int) + (b : Int) < (n : Int) + (b : Int)) = false := by simp
      go_wp2_with fail
      refine hlex.mono ?_
      rintro e w3 ⟨v, rfl, hv, h3⟩
      clear hlex hconv
      have hb3 := hbe.trans (h3.mono hbe.size)
      obtain ⟨A, cc, rfl⟩ := own_slice hv
      by_cases h1 : 8192 < n + b
      · obtain ⟨rfl, rfl⟩ := HX.out.1 h1
        have h1' : (8192 : Int) < (n : Int) + (b : Int) := by omega
        go_wp2
        go_ret
        exact ⟨rfl, hb3⟩
      have h1' : ¬ (8192 : Int) < (n : Int) + (b : Int) := by omega
      by_cases h2 : 2500 < n
      · obtain ⟨rfl, rfl⟩ := HX.out.2.1 h1 h2
        have h2' : (2500 : Int) < (n : Int) := by omega
        go_wp2
        go_ret
        exact ⟨rfl, hb3⟩
      · obtain ⟨rfl, hl⟩ := HX.out.2.2 h1 (by omega)
        have h2' : ¬ (2500 : Int) < (n : Int) := by omega
        have hl' : ((T.length : Int) == (n : Int) + 1) = true := by rw [beq_iff_eq]; omega
        go_wp2
        go_ret
        exact ⟨rfl, hb3⟩
end Go.Proofs.Ytahpgjibpcbjbaa
