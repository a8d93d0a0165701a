/- The laws of layer 2 that read words back: CodeWords and CodeReads answer true, of any arguments; at most new blocks in memory. Conditions: the table of forms as the program lays it, and that the arguments are of their Go types. -/
import Derived.Test.YtpdflpkbamdbeaaDoorCodeRdec
import Derived.Test.YtpdflpkbamdbeaaDoorCodeDec
import Derived.Test.YtpdflpkbamdbeaaDoorCodeLawsH
namespace Go.Proofs.YtpdflpkbamdbeaaDoor
open Go.RowKit
set_option linter.unusedVariables false
set_option linter.unusedSimpArgs false
set_option maxRecDepth 10000
open Pc
--CUT
/-- What Decode says of a word that an instruction has. -/
theorem decode_back (op rd r1 r2 n W : Int) (w : World) (h : encS op rd r1 r2 n = 0) (hW : encW op rd r1 r2 n = W) (hF : FormsIn w) :
    Calls Tryd.prog 16 #[.int .u32 W] w fun e w' => e = .returned (.tuple #[ins op rd r1 r2 n, .int .i64 0]) ∧ Below w.heap.size w w' := by
  obtain ⟨o1, o2, hs, hw⟩ := encS_zero h
  have hr := encW_range op rd r1 r2 n
  rw [hW] at hr
  obtain ⟨m, d1, d2, d3, d4, -⟩ := enc_dec _ _ _ _ rd r1 r2 n (rowOf_ok op o1 o2) hs
  rw [← hw, hW] at m d1 d2 d3 d4
  have hf := findOp_of op W o1 o2 m
  refine (decode_gen W w hr.1 hr.2 hF).mono ?_
  intro e w' hd
  unfold DecPost at hd
  rw [hf, d1, d2, d3, d4] at hd
  have : op ≠ 0 := by omega
  simpa [this] using hd
/-- Of any word it says something. -/
def DecSome (w : World) (e : Ending) (w' : World) : Prop := ∃ a b c d f x : Int, e = .returned (.tuple #[ins a b c d f, .int .i64 x]) ∧ Below w.heap.size w w'
theorem decode_some (W : Int) (w : World) (h0 : 0 ≤ W) (h1 : W < 4294967296) (hF : FormsIn w) : Calls Tryd.prog 16 #[.int .u32 W] w (DecSome w) := by
  refine (decode_gen W w h0 h1 hF).mono ?_
  rintro e w' ⟨rfl, hb⟩
  exact ⟨_, _, _, _, _, _, rfl, hb⟩

set_option maxHeartbeats 4000000 in
theorem words_ok (op rd r1 r2 n : Int) (w : World) (hop : (Lit.int .i64 op).wf = true) (hF : FormsIn w) (h : Hid (encS op rd r1 r2 n = 0)) :
    Calls Tryd.prog 3 #[ins op rd r1 r2 n] w fun e w' => e = .returned (.bool true) ∧ Below w.heap.size w w' := by
  have hb0 : Below w.heap.size w (w.alloc (insB op rd r1 r2 n)) := (Below.refl _ _).alloc (Nat.le_refl _) _
  go_enter Tryd.func3, Tryd.ntmps3
  go_wp2_with fail
  refine (awake_any _ (hF.keep hb0 (Nat.le_refl _))).mono ?_
  rintro e w1 ⟨rfl, h1⟩
  have hz1 : w.heap.size < w1.heap.size := by have := h1.size; simp only [szA] at this; omega
  have G1 := Lib.hid (row_at h1 (by simp only [szA]; omega) (heap_alloc_new w (insB op rd r1 r2 n)))
  have hB1 := hb0.trans (h1.mono (by simp only [szA]; omega))
  have hF1 := hF.keep hB1 (Nat.le_refl _)
  clear h1 hb0
  go_wp2_with ((refine wpList_load_g (o := ⟨some 12, _, _, _, _, _⟩) rfl 23 (.tmp 1) rfl w.heap.size rfl 23 _ (0, 0) _ (G1.out) Tryd.underlying23 rfl sizeInstr ?_))
  refine (encode_any op rd r1 r2 n _ hop hF1).mono ?_
  rintro e w2 ⟨rfl, h2⟩
  have G2 := Lib.hid (row_at h2 hz1 G1.out)
  have hz2 : w.heap.size < w2.heap.size := by have := h2.size; omega
  have hB2 := hB1.trans (h2.mono hB1.size)
  have hF2 := hF.keep hB2 (Nat.le_refl _)
  clear h2 hB1 hF1
  go_wp2_with ((refine wpList_load_g (o := ⟨some 17, _, _, _, _, _⟩) rfl 23 (.tmp 1) rfl w.heap.size rfl 23 _ (0, 0) _ (G2.out) Tryd.underlying23 rfl sizeInstr ?_))
  refine (renc_any op rd r1 r2 n _).mono ?_
  rintro e w3 ⟨rfl, h3⟩
  have G3 := Lib.hid (row_at h3 hz2 G2.out)
  have hz3 : w.heap.size < w3.heap.size := by have := h3.size; omega
  have hB3 := hB2.trans (h3.mono hB2.size)
  have hF3 := hF.keep hB3 (Nat.le_refl _)
  clear h3 hB2 hF2
  rw [h.out]
  generalize hW : encW op rd r1 r2 n = W at *
  have HW := Lib.hid hW; clear hW
  go_wp2_with fail
  refine (decode_back op rd r1 r2 n W _ h.out HW.out hF3).mono ?_
  rintro e w4 ⟨rfl, h4⟩
  have G4 := Lib.hid (row_at h4 hz3 G3.out)
  have hz4 : w.heap.size < w4.heap.size := by have := h4.size; omega
  have hB4 := hB3.trans (h4.mono hB3.size)
  have G5 := Lib.hid (row_at ((Below.refl w4.heap.size w4).alloc (Nat.le_refl _) (insB op rd r1 r2 n)) hz4 G4.out)
  clear h4 hB3 hF3
  go_wp2_with ((refine wpList_load_g (o := ⟨some 41, _, _, _, _, _⟩) rfl 23 (.tmp 1) rfl w.heap.size rfl 23 _ (0, 0) _ (G5.out) Tryd.underlying23 rfl sizeInstr ?_))
  go_ret
  exact ⟨rfl, hB4.alloc hB4.size _⟩

set_option maxHeartbeats 4000000 in
theorem words_bad (op rd r1 r2 n : Int) (w : World) (hop : (Lit.int .i64 op).wf = true) (hF : FormsIn w) (h : Hid (encS op rd r1 r2 n ≠ 0)) :
    Calls Tryd.prog 3 #[ins op rd r1 r2 n] w fun e w' => e = .returned (.bool true) ∧ Below w.heap.size w w' := by
  have hb0 : Below w.heap.size w (w.alloc (insB op rd r1 r2 n)) := (Below.refl _ _).alloc (Nat.le_refl _) _
  go_enter Tryd.func3, Tryd.ntmps3
  go_wp2_with fail
  refine (awake_any _ (hF.keep hb0 (Nat.le_refl _))).mono ?_
  rintro e w1 ⟨rfl, h1⟩
  have hz1 : w.heap.size < w1.heap.size := by have := h1.size; simp only [szA] at this; omega
  have G1 := Lib.hid (row_at h1 (by simp only [szA]; omega) (heap_alloc_new w (insB op rd r1 r2 n)))
  have hB1 := hb0.trans (h1.mono (by simp only [szA]; omega))
  have hF1 := hF.keep hB1 (Nat.le_refl _)
  clear h1 hb0
  go_wp2_with ((refine wpList_load_g (o := ⟨some 12, _, _, _, _, _⟩) rfl 23 (.tmp 1) rfl w.heap.size rfl 23 _ (0, 0) _ (G1.out) Tryd.underlying23 rfl sizeInstr ?_))
  refine (encode_any op rd r1 r2 n _ hop hF1).mono ?_
  rintro e w2 ⟨rfl, h2⟩
  have G2 := Lib.hid (row_at h2 hz1 G1.out)
  have hz2 : w.heap.size < w2.heap.size := by have := h2.size; omega
  have hB2 := hB1.trans (h2.mono hB1.size)
  have hF2 := hF.keep hB2 (Nat.le_refl _)
  clear h2 hB1 hF1
  go_wp2_with ((refine wpList_load_g (o := ⟨some 17, _, _, _, _, _⟩) rfl 23 (.tmp 1) rfl w.heap.size rfl 23 _ (0, 0) _ (G2.out) Tryd.underlying23 rfl sizeInstr ?_))
  refine (renc_any op rd r1 r2 n _).mono ?_
  rintro e w3 ⟨rfl, h3⟩
  have hB3 := hB2.trans (h3.mono hB2.size)
  have hF3 := hF.keep hB3 (Nat.le_refl _)
  clear h3 hB2 hF2
  have hr := encW_range op rd r1 r2 n
  have hb : (encS op rd r1 r2 n != 0) = true := by simpa using h.out
  have hb' : (encS op rd r1 r2 n == 0) = false := by simpa using h.out
  generalize encW op rd r1 r2 n = W at *
  generalize encS op rd r1 r2 n = S at *
  go_wp2_with fail
  refine (decode_some W _ hr.1 hr.2 hF3).mono ?_
  rintro e w4 ⟨a, b, c, d, f, x, rfl, h4⟩
  have hB4 := hB3.trans (h4.mono hB3.size)
  clear h4 hB3 hF3
  go_wp2
  go_ret
  exact ⟨rfl, hB4.alloc hB4.size _⟩

theorem codeWords_walk (op rd r1 r2 n : Int) (w : World) (hop : (Lit.int .i64 op).wf = true) (hF : FormsIn w) :
    Calls Tryd.prog 3 #[ins op rd r1 r2 n] w fun e w' => e = .returned (.bool true) ∧ Below w.heap.size w w' := by
  by_cases h : encS op rd r1 r2 n = 0
  · exact words_ok op rd r1 r2 n w hop hF (Lib.hid h)
  · exact words_bad op rd r1 r2 n w hop hF (Lib.hid h)

/-- What Decode, and the document's, say of a word that is an instruction's; and of one that is none. -/
theorem reads_yes (u : Int) (h0 : 0 ≤ u) (h1 : u < 4294967296) (hf : findOp u ≠ 0) : ∃ op rd r1 r2 n : Int, (Lit.int .i64 op).wf = true ∧ encS op rd r1 r2 n = 0 ∧ encW op rd r1 r2 n = u ∧
    (∀ w e w', DecPost u w e w' → e = .returned (.tuple #[ins op rd r1 r2 n, .int .i64 0]) ∧ Below w.heap.size w w') ∧ (∀ w e w', RDecPost u w e w' → e = .returned (.tuple #[ins op rd r1 r2 n, .bool true]) ∧ Below w.heap.size w w') := by
  have hr := findOp_range u
  have hm := findOp_mt u hf
  have hy := cand_yes (findOp u) u (by omega) hr.2 h0 h1 hm
  refine ⟨findOp u, _, _, _, _, wfI (by omega), hy.1, hy.2, ?_, ?_⟩
  · intro w e w' h; unfold DecPost at h; simpa [hf] using h
  · intro w e w' h
    unfold RDecPost at h
    rw [show (findOp u == 0) = false by simpa using hf] at h
    simpa [hf] using h
theorem reads_no (u : Int) (hf : findOp u = 0) : (∀ w e w', DecPost u w e w' → e = .returned (.tuple #[ins 0 0 0 0 0, .int .i64 2]) ∧ Below w.heap.size w w') ∧ (∀ w e w', RDecPost u w e w' → e = .returned (.tuple #[ins 0 0 0 0 0, .bool false]) ∧ Below w.heap.size w w') := by
  refine ⟨?_, ?_⟩
  · intro w e w' h; unfold DecPost at h; simpa [hf] using h
  · intro w e w' h; unfold RDecPost at h; simpa [hf] using h

set_option maxHeartbeats 4000000 in
theorem reads_two (u op rd r1 r2 n S U : Int) (x : Int) (bb tt : Bool) (w : World) (h0 : 0 ≤ u) (h1 : u < 4294967296) (hF : FormsIn w) (hop : (Lit.int .i64 op).wf = true)
    (hD : Hid (∀ w e w', DecPost u w e w' → e = .returned (.tuple #[ins op rd r1 r2 n, .int .i64 x]) ∧ Below w.heap.size w w')) (hR : Hid (∀ w e w', RDecPost u w e w' → e = .returned (.tuple #[ins op rd r1 r2 n, .bool bb]) ∧ Below w.heap.size w w'))
    (hx : x = 0 ∧ bb = true ∧ S = 0 ∧ U = u ∨ x = 2 ∧ bb = false) (hS : Hid (encS op rd r1 r2 n = S)) (hU : Hid (encW op rd r1 r2 n = U)) :
    Calls Tryd.prog 4 #[.int .u32 u] w fun e w' => e = .returned (.bool true) ∧ Below w.heap.size w w' := by
  have Hx := Lib.hid hx; clear hx
  go_enter Tryd.func4, Tryd.ntmps4
  go_wp2_with fail
  refine (awake_any _ hF).mono ?_
  rintro e w1 ⟨rfl, hB1⟩
  have hF1 := hF.keep hB1 (Nat.le_refl _)
  go_wp2_with fail
  refine (decode_gen u _ h0 h1 hF1).mono ?_
  intro e w2 hd
  obtain ⟨rfl, h2⟩ := hD.out _ _ _ hd
  have hB2 := hB1.trans (h2.mono hB1.size)
  clear hd hB1 h2 hF1
  go_wp2_with fail
  refine (refDecode_any u _ h0 h1).mono ?_
  intro e w3 hd
  obtain ⟨rfl, h3⟩ := hR.out _ _ _ hd
  have hB3 := (hB2.alloc hB2.size (insB op rd r1 r2 n)).trans (h3.mono (by simp only [szA]; have := hB2.size; omega))
  have G3 := Lib.hid (row_at h3 (by simp only [szA]; omega) (heap_alloc_new w2 (insB op rd r1 r2 n)))
  have hz3 : w2.heap.size < w3.heap.size := by have := h3.size; simp only [szA] at this; omega
  have hne : ¬ w2.heap.size = w3.heap.size := by omega
  clear hd h3 hB2
  have hB4 := hB3.alloc hB3.size (insB op rd r1 r2 n)
  have G4 := Lib.hid (row_at ((Below.refl w3.heap.size w3).alloc (Nat.le_refl _) (insB op rd r1 r2 n)) hz3 G3.out)
  have hF4 := hF.keep hB4 (Nat.le_refl _)
  rcases Hx.out with ⟨rfl, rfl, rfl, rfl⟩ | ⟨rfl, rfl⟩
  all_goals
    clear Hx hB3
    go_wp2_with (first | (refine wpList_load_g (o := ⟨some 21, _, _, _, _, _⟩) rfl 23 (.tmp 3) rfl w2.heap.size rfl 23 _ (0, 0) _ (G4.out) Tryd.underlying23 rfl sizeInstr ?_) | (refine wpList_load_g (o := ⟨some 39, _, _, _, _, _⟩) rfl 23 (.tmp 3) rfl w2.heap.size rfl 23 _ (0, 0) _ (G4.out) Tryd.underlying23 rfl sizeInstr ?_))
    refine (encode_any op rd r1 r2 n _ hop hF4).mono ?_
    rintro e w5 ⟨rfl, h5⟩
    have hB5 := hB4.trans (h5.mono hB4.size)
    clear h5 hB4
    rw [hS.out, hU.out]
    go_wp2
    go_ret
    exact ⟨rfl, hB5⟩
theorem codeReads_walk (u : Int) (w : World) (h0 : 0 ≤ u) (h1 : u < 4294967296) (hF : FormsIn w) :
    Calls Tryd.prog 4 #[.int .u32 u] w fun e w' => e = .returned (.bool true) ∧ Below w.heap.size w w' := by
  by_cases hf : findOp u = 0
  · obtain ⟨hD, hR⟩ := reads_no u hf
    exact reads_two u 0 0 0 0 0 _ _ 2 false true w h0 h1 hF (by decide) (Lib.hid hD) (Lib.hid hR) (.inr ⟨rfl, rfl⟩) (Lib.hid rfl) (Lib.hid rfl)
  · obtain ⟨op, rd, r1, r2, n, hw, hs, hu, hD, hR⟩ := reads_yes u h0 h1 hf
    exact reads_two u op rd r1 r2 n 0 u 0 true true w h0 h1 hF hw (Lib.hid hD) (Lib.hid hR) (.inl ⟨rfl, rfl, rfl, rfl⟩) (Lib.hid hs) (Lib.hid hu)
end Go.Proofs.YtpdflpkbamdbeaaDoor
