/- The tokens of a text, in package lex. Conditions: a text below a size, the library's variable holds a number. -/
import Derived.Test.YtlobphanodhcoaaLexJ
namespace Go.Proofs.Ytlobphanodhcoaa
open Go.RowKit Go.Maps
set_option linter.unusedVariables false
set_option linter.unusedSimpArgs false
set_option maxRecDepth 100000
open Lx
set_option maxHeartbeats 1000000 in
theorem clone_any (s : ByteArray) (w : World) (hs : s.size ≤ 1048576) :
    Calls Try.prog 13 #[.string s] w fun e w' => e = .returned (.string s) ∧ Below w.heap.size w w' := by
  go_enter Try.func13, Try.ntmps13
  go_wp2_with fail
  refine (Try.stringslite_Clone s _ (by omega)).mono ?_
  rintro e w' ⟨rfl, hb⟩
  go_wp2
  go_ret
  exact ⟨rfl, hb⟩
set_option maxHeartbeats 8000000 in
theorem lex_any (s : ByteArray) (w : World) (hs : s.size ≤ 1048576) (hM : MaxIs w) :
    Calls Try.prog 7 #[.string s] w fun e w' => ∃ v, e = .returned (.tuple #[v, .int .i64 (lexV s).pl, .int .i64 (lexV s).er]) ∧ TksAt w' w.heap.size v (lexV s).tk ∧ Below w.heap.size w w' := by
  have hsz := sz s
  obtain ⟨i0, hi0, hz0, hz1, hz2⟩ := info_parts infoTk
  by_cases hbig : 8192 < s.size
  · have hb' : (8192 : Int) < (s.size : Int) := by omega
    have hL : lexV s = ⟨[], 8192, 3⟩ := by unfold lexV; rw [if_pos hbig]
    have HL := Lib.hid hL
    clear hL
    go_enter Try.func7, Try.ntmps7
    go_wp2
    go_ret3
    exact ⟨_, by rw [HL.out]; rfl, by rw [HL.out]; exact tks_nil _ _, Below.refl _ _⟩
  have hb' : ¬ (8192 : Int) < (s.size : Int) := by omega
  have hL : lexV s = lx s (s.size + 1) 0 [] := by unfold lexV; rw [if_neg hbig]
  have HL := Lib.hid hL
  clear hL
  go_enter Try.func7, Try.ntmps7
  go_wp2_with fail
  refine (clone_any s _ hs).mono ?_
  rintro e w1 ⟨rfl, hb1⟩
  go_wp2_with fail
  refine (allSigns_any _).mono ?_
  rintro e w2 ⟨rfl, hS, hb2⟩
  have hb2' := hb1.trans (hb2.mono hb1.size)
  have hM2 := hM.keep hb2'
  have hSl := hS.lt
  go_wp2_with fail
  have hsz2 : w1.heap.size < w2.heap.size := hSl
  have hbL : Below w2.heap.size w2 (w2.alloc (.cells #[] 56)) := (Below.refl _ _).alloc (Nat.le_refl _) _
  have hown0 : TksAt (w2.alloc (.cells #[] 56)) w2.heap.size (.slice (some ⟨w2.heap.size, 0, none⟩) 0 0) [] := ⟨rfl, .inr ⟨w2.heap.size, 0, #[], rfl, Nat.le_refl _, heap_alloc_new w2 _, by simp, by unfold maxLen; omega, rfl, rfl⟩⟩
  go_loopw [6, 7] (fun v a wr => ∃ (f j : Nat) (T : List Tk), j ≤ s.size ∧ s.size - j < f ∧ T.length ≤ 2500 ∧ a = .int .i64 j ∧ Hid (lexV s = lx s f j T) ∧ TksAt wr w2.heap.size v T ∧ Below w2.heap.size w2 wr) (fun _ a _ => s.size - (intOf a).toNat)
  case atStart => exact ⟨s.size + 1, 0, [], by omega, by omega, by simp, rfl, HL, hown0, hbL⟩
  case round =>
    obtain ⟨f, j, T, hj, hf, hT, rfl, HG, hov, hbe⟩ := hrel
    clear HL hbL hown0
    obtain ⟨f, rfl⟩ : ∃ f', f = f' + 1 := ⟨f - 1, by omega⟩
    have hg := HG.out
    rw [lx] at hg
    have hgl := gap_le (s.data.toList.drop j)
    rw [List.length_drop, hsz] at hgl
    obtain ⟨p, hp⟩ : ∃ p, j + (gapV (s.data.toList.drop j)).1 = p := ⟨_, rfl⟩
    rw [hp] at hg
    have HG2 := Lib.hid hg
    have hMr := hM2.keep hbe
    have hxs : (s.extract j s.size).size ≤ 1048576 := by rw [← sz, ext_end]; simp; omega
    have hcall := gap_any (s.extract j s.size) wr hxs hMr
    rw [ext_end] at hcall
    have hpi : (j : Int) + ((gapV (s.data.toList.drop j)).1 : Int) = (p : Int) := by omega
    clear hg HG hxs
    have hpj : j ≤ p ∧ p ≤ s.size := by omega
    have j0 : (0 : Int) ≤ (j : Int) := by omega
    have j1 : (j : Int) ≤ (s.size : Int) := by omega
    have p0 : (0 : Int) ≤ (p : Int) := by omega
    have p1 : (p : Int) ≤ (s.size : Int) := by omega
    generalize (gapV (s.data.toList.drop j)).1 = g1 at *
    generalize (gapV (s.data.toList.drop j)).2 = g2 at *
    obtain ⟨vA, vc, rfl⟩ := own_slice hov
    clear hp hgl
    go_wp2_with fail
    refine hcall.mono ?_
    rintro e w' ⟨rfl, rfl⟩
    clear hcall
    cases g2
    · have hg := HG2.out
      rw [if_pos rfl] at hg
      have HG3 := Lib.hid hg
      clear hg HG2
      go_wp2
      go_ret3
      exact ⟨_, by rw [HG3.out]; rfl, by rw [HG3.out]; exact tks_nil _ _, hb2'.trans (hbe.mono hb2'.size)⟩
    have hg := HG2.out
    rw [if_neg (by simp)] at hg
    have HG3 := Lib.hid hg
    clear hg HG2
    by_cases hend : p = s.size
    · subst hend
      have hg := HG3.out
      rw [if_pos rfl] at hg
      have HG4 := Lib.hid hg
      have hpe : ((s.size : Int) == (s.size : Int)) = true := by rw [beq_iff_eq]
      clear hg HG3
      go_wp2_with (at_builtin; refine wpList_append_lies (o := ⟨some 40, _, _, _, _, _⟩) _ rfl (.tmp 36) (.tmp 39) 46 rfl w2.heap.size 56 i0 (.agg #[.int .i64 0, .string ⟨#[]⟩, .int .i64 0]) 3 32 Try.underlying46 hi0 hz0 hz1 hz2 rfl (by decide) _ _ _ rfl (hov.alloc _) ⟨wr.heap.size, 0, none⟩ 1 1 [.int .i64 0, .string ⟨#[]⟩, .int .i64 s.size] rfl rfl (World.news_of_block (cs := ([.int .i64 0, .string ⟨#[]⟩, .int .i64 s.size]).toArray) (t := 56) (fr := (0, 0)) (heap_alloc_new wr _)) (by simp [Value.oneCell']) (by omega) (by unfold maxLen; omega) (by omega) (by have := hbe.size; simp only [szA]; omega) (wr.heap.size + 1) (szA _ _) ?_; intro ga cap w5 hown5 hgrow5 hat5 hlt5)
      have hfin := own_below (hov.alloc _) (Nat.le_refl _) hgrow5 (by simp only [szA]; have := hbe.size; omega) (hbe.alloc hbe.size (.cells #[.int .i64 0, .string ⟨#[]⟩, .int .i64 s.size] 56))
      go_ret3
      refine ⟨_, by rw [HG4.out]; rfl, ?_, hb2'.trans (hfin.mono hb2'.size)⟩
      rw [HG4.out]
      unfold TksAt
      rw [tksL_snoc, List.length_append]
      exact own_lower hown5 hb2'.size
    have hpl : p < s.size := by omega
    have hg := HG3.out
    rw [if_neg hend] at hg
    have HG4 := Lib.hid hg
    have hpe : ((p : Int) == (s.size : Int)) = false := beq_eq_false_iff_ne.mpr (by omega)
    have htl := tokV_le (l := s.data.toList.drop p) (by rw [List.length_drop, hsz]; omega)
    rw [List.length_drop, hsz] at htl
    have hxs : (s.extract p s.size).size ≤ 1048576 := by rw [← sz, ext_end]; simp; omega
    have hx0 : 0 < (s.extract p s.size).size := by rw [← sz, ext_end]; simp; omega
    have hcall := token_any (s.extract p s.size) w1.heap.size wr hxs hx0 (hS.keep hbe hSl)
    rw [ext_end] at hcall
    clear hg HG3 hxs hx0
    generalize (tokV (s.data.toList.drop p)).1 = kd at *
    generalize (tokV (s.data.toList.drop p)).2 = n at *
    go_wp2_with fail
    refine hcall.mono ?_
    rintro e w4 ⟨rfl, hb4⟩
    clear hcall hpi
    have hbe2 := hbe.trans (hb4.mono hbe.size)
    have hov2 := own_keep hov hb4
    by_cases hn : n = 0
    · have hg := HG4.out
      rw [if_pos hn] at hg
      have HG5 := Lib.hid hg
      have hn' : ((n : Int) == 0) = true := by rw [beq_iff_eq]; omega
      clear hg HG4
      go_wp2
      go_ret3
      exact ⟨_, by rw [HG5.out]; rfl, by rw [HG5.out]; exact tks_nil _ _, hb2'.trans (hbe2.mono hb2'.size)⟩
    have hg := HG4.out
    rw [if_neg hn] at hg
    have hq0 : ((n : Int) == 0) = false := beq_eq_false_iff_ne.mpr (by omega)
    by_cases hful : 2500 ≤ T.length
    · rw [if_pos hful] at hg
      have HG5 := Lib.hid hg
      have hf' : ((T.length : Int) == 2500) = true := by rw [beq_iff_eq]; omega
      clear hg HG4
      go_wp2
      go_ret3
      exact ⟨_, by rw [HG5.out]; rfl, by rw [HG5.out]; exact tks_nil _ _, hb2'.trans (hbe2.mono hb2'.size)⟩
    rw [if_neg hful] at hg
    have HG5 := Lib.hid hg
    have hf' : ((T.length : Int) == 2500) = false := beq_eq_false_iff_ne.mpr (by omega)
    have hq1 : (p : Int) + (n : Int) ≤ (s.size : Int) := by omega
    have hq2 : (p : Int) ≤ (p : Int) + (n : Int) := by omega
    clear hg HG4
    have hTl : T.length < 2500 := by omega
    go_wp2_with (at_builtin; refine wpList_append_lies (o := ⟨some 69, _, _, _, _, _⟩) _ rfl (.tmp 58) (.tmp 68) 46 rfl w2.heap.size 56 i0 (.agg #[.int .i64 0, .string ⟨#[]⟩, .int .i64 0]) 3 32 Try.underlying46 hi0 hz0 hz1 hz2 rfl (by decide) _ _ _ rfl (hov2.alloc _) ⟨w4.heap.size, 0, none⟩ 1 1 [.int .i64 kd, .string (s.extract p (p + n)), .int .i64 p] rfl rfl (World.news_of_block (cs := ([.int .i64 kd, .string (s.extract p (p + n)), .int .i64 p]).toArray) (t := 56) (fr := (0, 0)) (heap_alloc_new w4 _)) (by simp [Value.oneCell']) (by omega) (by unfold maxLen; omega) (by omega) (by have := hbe2.size; simp only [szA]; omega) (w4.heap.size + 1) (szA _ _) ?_; intro ga cap w5 hown5 hgrow5 hat5 hlt5)
    have hfin := own_below (hov2.alloc _) (Nat.le_refl _) hgrow5 (by simp only [szA]; have := hbe2.size; omega) (hbe2.alloc hbe2.size (.cells #[.int .i64 kd, .string (s.extract p (p + n)), .int .i64 p] 56))
    go_roundw
    case rel =>
      refine ⟨f, p + n, T ++ [⟨kd, s.extract p (p + n), p⟩], by omega, by omega, by simp; omega, by go_num, HG5, ?_, hfin⟩
      unfold TksAt
      rw [tksL_snoc, List.length_append]
      exact hown5
    case measure => simp [intOf]; omega
end Go.Proofs.Ytlobphanodhcoaa
