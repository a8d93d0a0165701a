/- The document's Decode, any word: the instruction, or none; at most new blocks in memory. Condition: that the word is of 32 bits. -/
import Derived.Test.YtppcbommaddkgaaDoorCodeRencAny
import Derived.Test.YtppcbommaddkgaaDoorCodeLawsH
import Derived.Test.YtppcbommaddkgaaDoorCodeDec
namespace Go.Proofs.YtppcbommaddkgaaDoor
open Go.RowKit
set_option linter.unusedVariables false
set_option linter.unusedSimpArgs false
set_option maxRecDepth 10000
open Pc
--CUT
namespace Pc
/-- The instruction that a word is of, by an Op's row. -/
theorem cand_yes (op u : Int) (o1 : 1 ≤ op) (o2 : op ≤ 55) (h0 : 0 ≤ u) (h1 : u < 4294967296) (h : mtR (rowOf op) u = true) :
    encS op (dRd (rowOf op).1 u) (dR1 (rowOf op).1 u) (dR2 (rowOf op).1 u) (dI (rowOf op).1 u) = 0 ∧ encW op (dRd (rowOf op).1 u) (dR1 (rowOf op).1 u) (dR2 (rowOf op).1 u) (dI (rowOf op).1 u) = u := by
  have hd := dec_enc _ _ _ _ u (rowOf_ok op o1 o2) h0 h1 h
  have hs : encS op (dRd (rowOf op).1 u) (dR1 (rowOf op).1 u) (dR2 (rowOf op).1 u) (dI (rowOf op).1 u) = 0 := by unfold encS; rw [if_pos ⟨o1, o2⟩]; exact hd.1
  exact ⟨hs, by unfold encW; rw [if_pos hs]; exact hd.2⟩
theorem cand_no (op u : Int) (o1 : 1 ≤ op) (o2 : op ≤ 55) (h : mtR (rowOf op) u = false)
    (hs : encS op (dRd (rowOf op).1 u) (dR1 (rowOf op).1 u) (dR2 (rowOf op).1 u) (dI (rowOf op).1 u) = 0) : encW op (dRd (rowOf op).1 u) (dR1 (rowOf op).1 u) (dR2 (rowOf op).1 u) (dI (rowOf op).1 u) ≠ u := by
  intro he
  obtain ⟨_, _, hs', hw⟩ := encS_zero hs
  have := (enc_dec _ _ _ _ _ _ _ _ (rowOf_ok op o1 o2) hs').1
  rw [← hw, he] at this
  unfold mtR at h
  rw [this] at h
  cases h
end Pc
namespace Pc
theorem fld_0 (u : Int) (h0 : 0 ≤ u) (h1 : u < 4294967296) : u / 128 % 32 = dRd 0 u ∧ u / 32768 % 32 = dR1 0 u ∧ u / 1048576 % 32 = dR2 0 u ∧ 0 = dI 0 u := by
  refine ⟨by simp [dRd, uRd], by simp [dR1, uR1], by simp [dR2, uR2], ?_⟩
  simp [dI]
theorem fld_1 (u : Int) (h0 : 0 ≤ u) (h1 : u < 4294967296) : u / 128 % 32 = dRd 1 u ∧ u / 32768 % 32 = dR1 1 u ∧ 0 = dR2 1 u ∧ sg (u / 1048576) 4096 = dI 1 u := by
  refine ⟨by simp [dRd, uRd], by simp [dR1, uR1], by simp [dR2, uR2], ?_⟩
  simp [dI]
theorem fld_2 (u : Int) (h0 : 0 ≤ u) (h1 : u < 4294967296) : u / 128 % 32 = dRd 2 u ∧ u / 32768 % 32 = dR1 2 u ∧ 0 = dR2 2 u ∧ u / 1048576 % 64 = dI 2 u := by
  refine ⟨by simp [dRd, uRd], by simp [dR1, uR1], by simp [dR2, uR2], ?_⟩
  simp [dI]
theorem fld_3 (u : Int) (h0 : 0 ≤ u) (h1 : u < 4294967296) : 0 = dRd 3 u ∧ u / 32768 % 32 = dR1 3 u ∧ u / 1048576 % 32 = dR2 3 u ∧ sg (u / 128 % 32 + 32 * (u / 33554432)) 4096 = dI 3 u := by
  refine ⟨by simp [dRd, uRd], by simp [dR1, uR1], by simp [dR2, uR2], ?_⟩
  simp [dI]
  simp only [sg]
  split <;> split <;> omega
theorem fld_4 (u : Int) (h0 : 0 ≤ u) (h1 : u < 4294967296) : 0 = dRd 4 u ∧ u / 32768 % 32 = dR1 4 u ∧ u / 1048576 % 32 = dR2 4 u ∧ sg (u / 128 % 32 / 2 * 2 + 32 * (u / 33554432 % 64) + 2048 * (u / 128 % 2) + 4096 * (u / 2147483648)) 8192 = dI 4 u := by
  refine ⟨by simp [dRd, uRd], by simp [dR1, uR1], by simp [dR2, uR2], ?_⟩
  simp [dI]
  simp only [sg]
  split <;> split <;> omega
theorem fld_5 (u : Int) (h0 : 0 ≤ u) (h1 : u < 4294967296) : u / 128 % 32 = dRd 5 u ∧ 0 = dR1 5 u ∧ 0 = dR2 5 u ∧ sg (u / 4096) 1048576 = dI 5 u := by
  refine ⟨by simp [dRd, uRd], by simp [dR1, uR1], by simp [dR2, uR2], ?_⟩
  simp [dI]
theorem fld_6 (u : Int) (h0 : 0 ≤ u) (h1 : u < 4294967296) : u / 128 % 32 = dRd 6 u ∧ 0 = dR1 6 u ∧ 0 = dR2 6 u ∧ sg (2 * (u / 2097152 % 1024) + 2048 * (u / 1048576 % 2) + 4096 * (u / 4096 % 256) + 1048576 * (u / 2147483648)) 2097152 = dI 6 u := by
  refine ⟨by simp [dRd, uRd], by simp [dR1, uR1], by simp [dR2, uR2], ?_⟩
  simp [dI]
  simp only [sg]
  split <;> split <;> omega
theorem fld_7 (u : Int) (h0 : 0 ≤ u) (h1 : u < 4294967296) : 0 = dRd 7 u ∧ 0 = dR1 7 u ∧ 0 = dR2 7 u ∧ 0 = dI 7 u := by
  refine ⟨by simp [dRd, uRd], by simp [dR1, uR1], by simp [dR2, uR2], ?_⟩
  simp [dI]
end Pc
theorem renc_as {op a b c d A B C D : Int} {w : World} {Q : Ending → World → Prop} (ha : A = a) (hb : B = b) (hc : C = c) (hd : D = d)
    (h : Calls Tryd.prog 26 #[ins op a b c d] w Q) : Calls Tryd.prog 26 #[ins op A B C D] w Q := by
  subst ha hb hc hd; exact h
theorem signed_any (x n : Int) (w : World) (h0 : 0 ≤ x) (hn : x < n) (hn' : n ≤ 2097152) : Calls Tryd.prog 48 #[.int .i64 x, .int .i64 n] w fun e w' => e = .returned (.int .i64 (sg x n)) ∧ w = w' := by
  by_cases h : x ≥ n / 2
  · refine (signed_hi x n w h0 hn hn' (decide_eq_true h)).mono ?_
    rintro e w' ⟨rfl, rfl⟩
    exact ⟨by unfold sg; rw [if_pos h], rfl⟩
  · refine (signed_lo x n w h0 hn hn' (decide_eq_false h)).mono ?_
    rintro e w' ⟨rfl, rfl⟩
    exact ⟨by unfold sg; rw [if_neg h], rfl⟩
/-- The document's answer. -/
def RDecPost (u : Int) (w : World) (e : Ending) (w' : World) : Prop :=
  e = .returned (.tuple #[ins (findOp u) (if findOp u = 0 then 0 else dRd (rowOf (findOp u)).1 u) (if findOp u = 0 then 0 else dR1 (rowOf (findOp u)).1 u) (if findOp u = 0 then 0 else dR2 (rowOf (findOp u)).1 u) (if findOp u = 0 then 0 else dI (rowOf (findOp u)).1 u), .bool (!(findOp u == 0))]) ∧ Below w.heap.size w w'
theorem rdecPost_none {u : Int} {w w' : World} (h : ∀ op : Int, 1 ≤ op → op ≤ 55 → mtR (rowOf op) u = false) (hb : Below w.heap.size w w') : RDecPost u w (.returned (.tuple #[ins 0 0 0 0 0, .bool false])) w' := by
  have e := findOp_none u h
  unfold RDecPost
  rw [e]
  exact ⟨by simp, hb⟩
theorem rdecPost_some {u x : Int} {w w' : World} (h1 : 1 ≤ x) (h2 : x ≤ 55) (hm : mtR (rowOf x) u = true) (hb : Below w.heap.size w w') :
    RDecPost u w (.returned (.tuple #[ins x (dRd (rowOf x).1 u) (dR1 (rowOf x).1 u) (dR2 (rowOf x).1 u) (dI (rowOf x).1 u), .bool true])) w' := by
  have e := findOp_of x u h1 h2 hm
  unfold RDecPost
  rw [e]
  have : x ≠ 0 := by omega
  exact ⟨by simp [this], hb⟩
theorem rdecPost_some2 {u x A B C D : Int} {w w' : World} (h1 : 1 ≤ x) (h2 : x ≤ 55) (hm : mtR (rowOf x) u = true) (hA : A = dRd (rowOf x).1 u) (hB : B = dR1 (rowOf x).1 u) (hC : C = dR2 (rowOf x).1 u) (hD : D = dI (rowOf x).1 u) (hb : Below w.heap.size w w') :
    RDecPost u w (.returned (.tuple #[ins x A B C D, .bool true])) w' := by
  subst hA hB hC hD; exact rdecPost_some h1 h2 hm hb
def RdRel (w : World) (u : Int) (s8 : Value) (wr : World) : Prop :=
  ∃ op : Int, 1 ≤ op ∧ op ≤ 56 ∧ s8 = .int .i64 op ∧ Below w.heap.size w wr ∧ wr.heap[w.heap.size]? = some (insB 0 0 0 0 0) ∧ w.heap.size < wr.heap.size ∧ ∀ x : Int, 1 ≤ x → x < op → mtR (rowOf x) u = false

set_option maxRecDepth 100000 in
set_option maxHeartbeats 8000000 in
theorem refDecode_any (u : Int) (w : World) (h0 : 0 ≤ u) (h1 : u < 4294967296) :
    Calls Tryd.prog 29 #[.int .u32 u] w (RDecPost u w) := by
  have q0 : 0 ≤ u / 128 % 32 ∧ u / 128 % 32 < 32 ∧ 0 ≤ u / 32768 % 32 ∧ u / 32768 % 32 < 32 ∧ 0 ≤ u / 1048576 % 32 ∧ u / 1048576 % 32 < 32 := by omega
  go_enter Tryd.func29, Tryd.ntmps29
  go_wp2
  go_loopw [8] (fun s8 wr => RdRel w u s8 wr) (fun s8 wr => (56 - intOf s8).toNat)
  case atStart => exact ⟨1, by omega, by omega, rfl, (Below.refl w.heap.size w).alloc (Nat.le_refl _) (insB 0 0 0 0 0), heap_alloc_new w (insB 0 0 0 0 0), by simp only [szA]; omega, fun x x1 x2 => by omega⟩
  case round =>
    obtain ⟨op, o1, o2, rfl, hB, hZ, hz, hno⟩ := hrel
    have Hno := Lib.hid hno; clear hno
    by_cases hop : op ≤ 55
    · have hdo : decide (op ≤ 55) = true := decide_eq_true hop
      have hof : ∀ w : World, Calls Tryd.prog 37 #[.int .i64 op] w fun e w' => e = .returned (rowV (rowOf op)) ∧ Below w.heap.size w w' := fun w => of_any op w o1 hop
      have hyes := cand_yes op u o1 hop h0 h1
      have hnot := cand_no op u o1 hop
      obtain ⟨hk, e1, e2, f1, f2, g1, g2, -⟩ := okRow_out (rowOf_ok op o1 hop)
      obtain ⟨r, hr⟩ : ∃ r, rowOf op = r := ⟨_, rfl⟩
      rw [hr] at hk e1 e2 f1 f2 g1 g2 hyes hnot
      obtain ⟨k, o, f, g⟩ := r
      simp only at hk e1 e2 f1 f2 g1 g2 hyes hnot
      have Hr := Lib.hid hr; have Hyes := Lib.hid hyes; have Hnot := Lib.hid hnot
      clear hyes hnot hr
      go_wp2_with fail
      refine (hof _).mono ?_
      rintro e w1 ⟨rfl, hb1⟩
      rw [Hr.out]
      have hB1 := hB.trans (hb1.mono hB.size)
      have hZ1 := Lib.hid (row_at hb1 hz hZ)
      have hz1 : w.heap.size < w1.heap.size := by have := hb1.size; omega
      clear hof hb1 hB hZ
      rcases hk with hk | hk | hk | hk | hk | hk | hk | hk <;> subst hk
      · have hv : rowV (0, o, f, g) = .agg #[.int .u8 82, .int .i64 o, .int .i64 f, .int .i64 g] := rfl
        rw [hv]
        obtain ⟨eA, eB, eC, eD⟩ := fld_0 u h0 h1
        have EA := Lib.hid eA; have EB := Lib.hid eB; have EC := Lib.hid eC; have ED := Lib.hid eD
        clear eA eB eC eD
        go_wp2_with (go_at_call 48; refine (signed_any _ _ _ (by omega) (by omega) (by omega)).mono ?_; rintro e w9 ⟨rfl, rfl⟩)
        refine renc_as EA.out EB.out EC.out ED.out ?_
        refine (renc_any op _ _ _ _ _).mono ?_
        rintro e w2 ⟨rfl, hb2⟩
        have hB2 := (hB1.trans ((below2 w1 _ _).mono hB1.size)).trans (hb2.mono (by simp only [szA]; omega))
        have hZ2 := Lib.hid (row_at hb2 (by simp only [szA]; omega) (row_at (below2 w1 _ _) hz1 hZ1.out))
        have hI2 := row_at hb2 (by simp only [szA]; omega) (heap_alloc2_new w1 _ _)
        have hz2 : w1.heap.size + 1 < w2.heap.size := by have := hb2.size; simp only [szA] at this; omega
        have HI2 := Lib.hid hI2
        clear hb2 hB1 hI2
        generalize encW op (dRd 0 u) (dR1 0 u) (dR2 0 u) (dI 0 u) = W at *
        generalize encS op (dRd 0 u) (dR1 0 u) (dR2 0 u) (dI 0 u) = S at *
        cases hm : mtR (0, o, f, g) u
        · have hn := Hnot.out hm
          by_cases hS : S = 0
          · have hn' := hn hS
            subst hS
            have hWu : (W == u) = false := by simp [hn']
            have hWu' : decide (W = u) = false := decide_eq_false hn'
            clear hn hn'
            go_wp2
            go_roundw
            case rel => exact ⟨op + 1, by omega, by omega, rfl, hB2, hZ2.out, by omega, fun x x1 x2 => by
              by_cases hx : x < op
              · exact Hno.out x x1 hx
              · obtain rfl : x = op := by omega
                rw [Hr.out]; exact hm⟩
            case measure => simp [intOf]; omega
          · have hS1 : (S == 0) = false := by simp [hS]
            have hS2 : decide (S = 0) = false := decide_eq_false hS
            clear hn hS
            go_wp2
            go_roundw
            case rel => exact ⟨op + 1, by omega, by omega, rfl, hB2, hZ2.out, by omega, fun x x1 x2 => by
              by_cases hx : x < op
              · exact Hno.out x x1 hx
              · obtain rfl : x = op := by omega
                rw [Hr.out]; exact hm⟩
            case measure => simp [intOf]; omega
        · obtain ⟨hS, hW⟩ := Hyes.out hm
          subst hS
          subst hW
          go_wp2_with (first | (refine wpList_load_g (o := ⟨some 133, _, _, _, _, _⟩) rfl 49 (.tmp 10) rfl (w1.heap.size + 1) rfl 49 _ (0, 0) _ HI2.out Tryd.underlying49 rfl sizeInstr ?_) | (refine wpList_store_row (o := ⟨none, _, _, _, _, _⟩) rfl 49 (.tmp 2) (.tmp 133) rfl w.heap.size _ rfl rfl 49 _ hZ2.out sizeInstr rfl (ins_one _ _ _ _ _) ?_))
          exact bodyPost_ret (res_cell_tmp Tryd.results29 _ _ w.heap.size 49 _ (0, 0) _ _ rfl rfl (setRow_heap _ w.heap.size _ _ _ _ hZ2.out) Tryd.underlying49 rfl sizeInstr) rfl (rdecPost_some2 o1 hop (by rw [Hr.out]; exact hm) (EA.out.trans (by rw [Hr.out])) (EB.out.trans (by rw [Hr.out])) (EC.out.trans (by rw [Hr.out])) (ED.out.trans (by rw [Hr.out])) (below_setRow hB2 (by omega) _))
      · have hv : rowV (1, o, f, g) = .agg #[.int .u8 73, .int .i64 o, .int .i64 f, .int .i64 g] := rfl
        rw [hv]
        obtain ⟨eA, eB, eC, eD⟩ := fld_1 u h0 h1
        have EA := Lib.hid eA; have EB := Lib.hid eB; have EC := Lib.hid eC; have ED := Lib.hid eD
        clear eA eB eC eD
        go_wp2_with (go_at_call 48; refine (signed_any _ _ _ (by omega) (by omega) (by omega)).mono ?_; rintro e w9 ⟨rfl, rfl⟩)
        refine renc_as EA.out EB.out EC.out ED.out ?_
        refine (renc_any op _ _ _ _ _).mono ?_
        rintro e w2 ⟨rfl, hb2⟩
        have hB2 := (hB1.trans ((below2 w1 _ _).mono hB1.size)).trans (hb2.mono (by simp only [szA]; omega))
        have hZ2 := Lib.hid (row_at hb2 (by simp only [szA]; omega) (row_at (below2 w1 _ _) hz1 hZ1.out))
        have hI2 := row_at hb2 (by simp only [szA]; omega) (heap_alloc2_new w1 _ _)
        have hz2 : w1.heap.size + 1 < w2.heap.size := by have := hb2.size; simp only [szA] at this; omega
        have HI2 := Lib.hid hI2
        clear hb2 hB1 hI2
        generalize encW op (dRd 1 u) (dR1 1 u) (dR2 1 u) (dI 1 u) = W at *
        generalize encS op (dRd 1 u) (dR1 1 u) (dR2 1 u) (dI 1 u) = S at *
        cases hm : mtR (1, o, f, g) u
        · have hn := Hnot.out hm
          by_cases hS : S = 0
          · have hn' := hn hS
            subst hS
            have hWu : (W == u) = false := by simp [hn']
            have hWu' : decide (W = u) = false := decide_eq_false hn'
            clear hn hn'
            go_wp2
            go_roundw
            case rel => exact ⟨op + 1, by omega, by omega, rfl, hB2, hZ2.out, by omega, fun x x1 x2 => by
              by_cases hx : x < op
              · exact Hno.out x x1 hx
              · obtain rfl : x = op := by omega
                rw [Hr.out]; exact hm⟩
            case measure => simp [intOf]; omega
          · have hS1 : (S == 0) = false := by simp [hS]
            have hS2 : decide (S = 0) = false := decide_eq_false hS
            clear hn hS
            go_wp2
            go_roundw
            case rel => exact ⟨op + 1, by omega, by omega, rfl, hB2, hZ2.out, by omega, fun x x1 x2 => by
              by_cases hx : x < op
              · exact Hno.out x x1 hx
              · obtain rfl : x = op := by omega
                rw [Hr.out]; exact hm⟩
            case measure => simp [intOf]; omega
        · obtain ⟨hS, hW⟩ := Hyes.out hm
          subst hS
          subst hW
          go_wp2_with (first | (refine wpList_load_g (o := ⟨some 133, _, _, _, _, _⟩) rfl 49 (.tmp 10) rfl (w1.heap.size + 1) rfl 49 _ (0, 0) _ HI2.out Tryd.underlying49 rfl sizeInstr ?_) | (refine wpList_store_row (o := ⟨none, _, _, _, _, _⟩) rfl 49 (.tmp 2) (.tmp 133) rfl w.heap.size _ rfl rfl 49 _ hZ2.out sizeInstr rfl (ins_one _ _ _ _ _) ?_))
          exact bodyPost_ret (res_cell_tmp Tryd.results29 _ _ w.heap.size 49 _ (0, 0) _ _ rfl rfl (setRow_heap _ w.heap.size _ _ _ _ hZ2.out) Tryd.underlying49 rfl sizeInstr) rfl (rdecPost_some2 o1 hop (by rw [Hr.out]; exact hm) (EA.out.trans (by rw [Hr.out])) (EB.out.trans (by rw [Hr.out])) (EC.out.trans (by rw [Hr.out])) (ED.out.trans (by rw [Hr.out])) (below_setRow hB2 (by omega) _))
      · have hv : rowV (2, o, f, g) = .agg #[.int .u8 84, .int .i64 o, .int .i64 f, .int .i64 g] := rfl
        rw [hv]
        obtain ⟨eA, eB, eC, eD⟩ := fld_2 u h0 h1
        have EA := Lib.hid eA; have EB := Lib.hid eB; have EC := Lib.hid eC; have ED := Lib.hid eD
        clear eA eB eC eD
        go_wp2_with (go_at_call 48; refine (signed_any _ _ _ (by omega) (by omega) (by omega)).mono ?_; rintro e w9 ⟨rfl, rfl⟩)
        refine renc_as EA.out EB.out EC.out ED.out ?_
        refine (renc_any op _ _ _ _ _).mono ?_
        rintro e w2 ⟨rfl, hb2⟩
        have hB2 := (hB1.trans ((below2 w1 _ _).mono hB1.size)).trans (hb2.mono (by simp only [szA]; omega))
        have hZ2 := Lib.hid (row_at hb2 (by simp only [szA]; omega) (row_at (below2 w1 _ _) hz1 hZ1.out))
        have hI2 := row_at hb2 (by simp only [szA]; omega) (heap_alloc2_new w1 _ _)
        have hz2 : w1.heap.size + 1 < w2.heap.size := by have := hb2.size; simp only [szA] at this; omega
        have HI2 := Lib.hid hI2
        clear hb2 hB1 hI2
        generalize encW op (dRd 2 u) (dR1 2 u) (dR2 2 u) (dI 2 u) = W at *
        generalize encS op (dRd 2 u) (dR1 2 u) (dR2 2 u) (dI 2 u) = S at *
        cases hm : mtR (2, o, f, g) u
        · have hn := Hnot.out hm
          by_cases hS : S = 0
          · have hn' := hn hS
            subst hS
            have hWu : (W == u) = false := by simp [hn']
            have hWu' : decide (W = u) = false := decide_eq_false hn'
            clear hn hn'
            go_wp2
            go_roundw
            case rel => exact ⟨op + 1, by omega, by omega, rfl, hB2, hZ2.out, by omega, fun x x1 x2 => by
              by_cases hx : x < op
              · exact Hno.out x x1 hx
              · obtain rfl : x = op := by omega
                rw [Hr.out]; exact hm⟩
            case measure => simp [intOf]; omega
          · have hS1 : (S == 0) = false := by simp [hS]
            have hS2 : decide (S = 0) = false := decide_eq_false hS
            clear hn hS
            go_wp2
            go_roundw
            case rel => exact ⟨op + 1, by omega, by omega, rfl, hB2, hZ2.out, by omega, fun x x1 x2 => by
              by_cases hx : x < op
              · exact Hno.out x x1 hx
              · obtain rfl : x = op := by omega
                rw [Hr.out]; exact hm⟩
            case measure => simp [intOf]; omega
        · obtain ⟨hS, hW⟩ := Hyes.out hm
          subst hS
          subst hW
          go_wp2_with (first | (refine wpList_load_g (o := ⟨some 133, _, _, _, _, _⟩) rfl 49 (.tmp 10) rfl (w1.heap.size + 1) rfl 49 _ (0, 0) _ HI2.out Tryd.underlying49 rfl sizeInstr ?_) | (refine wpList_store_row (o := ⟨none, _, _, _, _, _⟩) rfl 49 (.tmp 2) (.tmp 133) rfl w.heap.size _ rfl rfl 49 _ hZ2.out sizeInstr rfl (ins_one _ _ _ _ _) ?_))
          exact bodyPost_ret (res_cell_tmp Tryd.results29 _ _ w.heap.size 49 _ (0, 0) _ _ rfl rfl (setRow_heap _ w.heap.size _ _ _ _ hZ2.out) Tryd.underlying49 rfl sizeInstr) rfl (rdecPost_some2 o1 hop (by rw [Hr.out]; exact hm) (EA.out.trans (by rw [Hr.out])) (EB.out.trans (by rw [Hr.out])) (EC.out.trans (by rw [Hr.out])) (ED.out.trans (by rw [Hr.out])) (below_setRow hB2 (by omega) _))
      · have hv : rowV (3, o, f, g) = .agg #[.int .u8 83, .int .i64 o, .int .i64 f, .int .i64 g] := rfl
        rw [hv]
        obtain ⟨eA, eB, eC, eD⟩ := fld_3 u h0 h1
        have EA := Lib.hid eA; have EB := Lib.hid eB; have EC := Lib.hid eC; have ED := Lib.hid eD
        clear eA eB eC eD
        go_wp2_with (go_at_call 48; refine (signed_any _ _ _ (by omega) (by omega) (by omega)).mono ?_; rintro e w9 ⟨rfl, rfl⟩)
        refine renc_as EA.out EB.out EC.out ED.out ?_
        refine (renc_any op _ _ _ _ _).mono ?_
        rintro e w2 ⟨rfl, hb2⟩
        have hB2 := (hB1.trans ((below2 w1 _ _).mono hB1.size)).trans (hb2.mono (by simp only [szA]; omega))
        have hZ2 := Lib.hid (row_at hb2 (by simp only [szA]; omega) (row_at (below2 w1 _ _) hz1 hZ1.out))
        have hI2 := row_at hb2 (by simp only [szA]; omega) (heap_alloc2_new w1 _ _)
        have hz2 : w1.heap.size + 1 < w2.heap.size := by have := hb2.size; simp only [szA] at this; omega
        have HI2 := Lib.hid hI2
        clear hb2 hB1 hI2
        generalize encW op (dRd 3 u) (dR1 3 u) (dR2 3 u) (dI 3 u) = W at *
        generalize encS op (dRd 3 u) (dR1 3 u) (dR2 3 u) (dI 3 u) = S at *
        cases hm : mtR (3, o, f, g) u
        · have hn := Hnot.out hm
          by_cases hS : S = 0
          · have hn' := hn hS
            subst hS
            have hWu : (W == u) = false := by simp [hn']
            have hWu' : decide (W = u) = false := decide_eq_false hn'
            clear hn hn'
            go_wp2
            go_roundw
            case rel => exact ⟨op + 1, by omega, by omega, rfl, hB2, hZ2.out, by omega, fun x x1 x2 => by
              by_cases hx : x < op
              · exact Hno.out x x1 hx
              · obtain rfl : x = op := by omega
                rw [Hr.out]; exact hm⟩
            case measure => simp [intOf]; omega
          · have hS1 : (S == 0) = false := by simp [hS]
            have hS2 : decide (S = 0) = false := decide_eq_false hS
            clear hn hS
            go_wp2
            go_roundw
            case rel => exact ⟨op + 1, by omega, by omega, rfl, hB2, hZ2.out, by omega, fun x x1 x2 => by
              by_cases hx : x < op
              · exact Hno.out x x1 hx
              · obtain rfl : x = op := by omega
                rw [Hr.out]; exact hm⟩
            case measure => simp [intOf]; omega
        · obtain ⟨hS, hW⟩ := Hyes.out hm
          subst hS
          subst hW
          go_wp2_with (first | (refine wpList_load_g (o := ⟨some 133, _, _, _, _, _⟩) rfl 49 (.tmp 10) rfl (w1.heap.size + 1) rfl 49 _ (0, 0) _ HI2.out Tryd.underlying49 rfl sizeInstr ?_) | (refine wpList_store_row (o := ⟨none, _, _, _, _, _⟩) rfl 49 (.tmp 2) (.tmp 133) rfl w.heap.size _ rfl rfl 49 _ hZ2.out sizeInstr rfl (ins_one _ _ _ _ _) ?_))
          exact bodyPost_ret (res_cell_tmp Tryd.results29 _ _ w.heap.size 49 _ (0, 0) _ _ rfl rfl (setRow_heap _ w.heap.size _ _ _ _ hZ2.out) Tryd.underlying49 rfl sizeInstr) rfl (rdecPost_some2 o1 hop (by rw [Hr.out]; exact hm) (EA.out.trans (by rw [Hr.out])) (EB.out.trans (by rw [Hr.out])) (EC.out.trans (by rw [Hr.out])) (ED.out.trans (by rw [Hr.out])) (below_setRow hB2 (by omega) _))
      · have hv : rowV (4, o, f, g) = .agg #[.int .u8 66, .int .i64 o, .int .i64 f, .int .i64 g] := rfl
        rw [hv]
        obtain ⟨eA, eB, eC, eD⟩ := fld_4 u h0 h1
        have EA := Lib.hid eA; have EB := Lib.hid eB; have EC := Lib.hid eC; have ED := Lib.hid eD
        clear eA eB eC eD
        go_wp2_with (go_at_call 48; refine (signed_any _ _ _ (by omega) (by omega) (by omega)).mono ?_; rintro e w9 ⟨rfl, rfl⟩)
        refine renc_as EA.out EB.out EC.out ED.out ?_
        refine (renc_any op _ _ _ _ _).mono ?_
        rintro e w2 ⟨rfl, hb2⟩
        have hB2 := (hB1.trans ((below2 w1 _ _).mono hB1.size)).trans (hb2.mono (by simp only [szA]; omega))
        have hZ2 := Lib.hid (row_at hb2 (by simp only [szA]; omega) (row_at (below2 w1 _ _) hz1 hZ1.out))
        have hI2 := row_at hb2 (by simp only [szA]; omega) (heap_alloc2_new w1 _ _)
        have hz2 : w1.heap.size + 1 < w2.heap.size := by have := hb2.size; simp only [szA] at this; omega
        have HI2 := Lib.hid hI2
        clear hb2 hB1 hI2
        generalize encW op (dRd 4 u) (dR1 4 u) (dR2 4 u) (dI 4 u) = W at *
        generalize encS op (dRd 4 u) (dR1 4 u) (dR2 4 u) (dI 4 u) = S at *
        cases hm : mtR (4, o, f, g) u
        · have hn := Hnot.out hm
          by_cases hS : S = 0
          · have hn' := hn hS
            subst hS
            have hWu : (W == u) = false := by simp [hn']
            have hWu' : decide (W = u) = false := decide_eq_false hn'
            clear hn hn'
            go_wp2
            go_roundw
            case rel => exact ⟨op + 1, by omega, by omega, rfl, hB2, hZ2.out, by omega, fun x x1 x2 => by
              by_cases hx : x < op
              · exact Hno.out x x1 hx
              · obtain rfl : x = op := by omega
                rw [Hr.out]; exact hm⟩
            case measure => simp [intOf]; omega
          · have hS1 : (S == 0) = false := by simp [hS]
            have hS2 : decide (S = 0) = false := decide_eq_false hS
            clear hn hS
            go_wp2
            go_roundw
            case rel => exact ⟨op + 1, by omega, by omega, rfl, hB2, hZ2.out, by omega, fun x x1 x2 => by
              by_cases hx : x < op
              · exact Hno.out x x1 hx
              · obtain rfl : x = op := by omega
                rw [Hr.out]; exact hm⟩
            case measure => simp [intOf]; omega
        · obtain ⟨hS, hW⟩ := Hyes.out hm
          subst hS
          subst hW
          go_wp2_with (first | (refine wpList_load_g (o := ⟨some 133, _, _, _, _, _⟩) rfl 49 (.tmp 10) rfl (w1.heap.size + 1) rfl 49 _ (0, 0) _ HI2.out Tryd.underlying49 rfl sizeInstr ?_) | (refine wpList_store_row (o := ⟨none, _, _, _, _, _⟩) rfl 49 (.tmp 2) (.tmp 133) rfl w.heap.size _ rfl rfl 49 _ hZ2.out sizeInstr rfl (ins_one _ _ _ _ _) ?_))
          exact bodyPost_ret (res_cell_tmp Tryd.results29 _ _ w.heap.size 49 _ (0, 0) _ _ rfl rfl (setRow_heap _ w.heap.size _ _ _ _ hZ2.out) Tryd.underlying49 rfl sizeInstr) rfl (rdecPost_some2 o1 hop (by rw [Hr.out]; exact hm) (EA.out.trans (by rw [Hr.out])) (EB.out.trans (by rw [Hr.out])) (EC.out.trans (by rw [Hr.out])) (ED.out.trans (by rw [Hr.out])) (below_setRow hB2 (by omega) _))
      · have hv : rowV (5, o, f, g) = .agg #[.int .u8 85, .int .i64 o, .int .i64 f, .int .i64 g] := rfl
        rw [hv]
        obtain ⟨eA, eB, eC, eD⟩ := fld_5 u h0 h1
        have EA := Lib.hid eA; have EB := Lib.hid eB; have EC := Lib.hid eC; have ED := Lib.hid eD
        clear eA eB eC eD
        go_wp2_with (go_at_call 48; refine (signed_any _ _ _ (by omega) (by omega) (by omega)).mono ?_; rintro e w9 ⟨rfl, rfl⟩)
        refine renc_as EA.out EB.out EC.out ED.out ?_
        refine (renc_any op _ _ _ _ _).mono ?_
        rintro e w2 ⟨rfl, hb2⟩
        have hB2 := (hB1.trans ((below2 w1 _ _).mono hB1.size)).trans (hb2.mono (by simp only [szA]; omega))
        have hZ2 := Lib.hid (row_at hb2 (by simp only [szA]; omega) (row_at (below2 w1 _ _) hz1 hZ1.out))
        have hI2 := row_at hb2 (by simp only [szA]; omega) (heap_alloc2_new w1 _ _)
        have hz2 : w1.heap.size + 1 < w2.heap.size := by have := hb2.size; simp only [szA] at this; omega
        have HI2 := Lib.hid hI2
        clear hb2 hB1 hI2
        generalize encW op (dRd 5 u) (dR1 5 u) (dR2 5 u) (dI 5 u) = W at *
        generalize encS op (dRd 5 u) (dR1 5 u) (dR2 5 u) (dI 5 u) = S at *
        cases hm : mtR (5, o, f, g) u
        · have hn := Hnot.out hm
          by_cases hS : S = 0
          · have hn' := hn hS
            subst hS
            have hWu : (W == u) = false := by simp [hn']
            have hWu' : decide (W = u) = false := decide_eq_false hn'
            clear hn hn'
            go_wp2
            go_roundw
            case rel => exact ⟨op + 1, by omega, by omega, rfl, hB2, hZ2.out, by omega, fun x x1 x2 => by
              by_cases hx : x < op
              · exact Hno.out x x1 hx
              · obtain rfl : x = op := by omega
                rw [Hr.out]; exact hm⟩
            case measure => simp [intOf]; omega
          · have hS1 : (S == 0) = false := by simp [hS]
            have hS2 : decide (S = 0) = false := decide_eq_false hS
            clear hn hS
            go_wp2
            go_roundw
            case rel => exact ⟨op + 1, by omega, by omega, rfl, hB2, hZ2.out, by omega, fun x x1 x2 => by
              by_cases hx : x < op
              · exact Hno.out x x1 hx
              · obtain rfl : x = op := by omega
                rw [Hr.out]; exact hm⟩
            case measure => simp [intOf]; omega
        · obtain ⟨hS, hW⟩ := Hyes.out hm
          subst hS
          subst hW
          go_wp2_with (first | (refine wpList_load_g (o := ⟨some 133, _, _, _, _, _⟩) rfl 49 (.tmp 10) rfl (w1.heap.size + 1) rfl 49 _ (0, 0) _ HI2.out Tryd.underlying49 rfl sizeInstr ?_) | (refine wpList_store_row (o := ⟨none, _, _, _, _, _⟩) rfl 49 (.tmp 2) (.tmp 133) rfl w.heap.size _ rfl rfl 49 _ hZ2.out sizeInstr rfl (ins_one _ _ _ _ _) ?_))
          exact bodyPost_ret (res_cell_tmp Tryd.results29 _ _ w.heap.size 49 _ (0, 0) _ _ rfl rfl (setRow_heap _ w.heap.size _ _ _ _ hZ2.out) Tryd.underlying49 rfl sizeInstr) rfl (rdecPost_some2 o1 hop (by rw [Hr.out]; exact hm) (EA.out.trans (by rw [Hr.out])) (EB.out.trans (by rw [Hr.out])) (EC.out.trans (by rw [Hr.out])) (ED.out.trans (by rw [Hr.out])) (below_setRow hB2 (by omega) _))
      · have hv : rowV (6, o, f, g) = .agg #[.int .u8 74, .int .i64 o, .int .i64 f, .int .i64 g] := rfl
        rw [hv]
        obtain ⟨eA, eB, eC, eD⟩ := fld_6 u h0 h1
        have EA := Lib.hid eA; have EB := Lib.hid eB; have EC := Lib.hid eC; have ED := Lib.hid eD
        clear eA eB eC eD
        go_wp2_with (go_at_call 48; refine (signed_any _ _ _ (by omega) (by omega) (by omega)).mono ?_; rintro e w9 ⟨rfl, rfl⟩)
        refine renc_as EA.out EB.out EC.out ED.out ?_
        refine (renc_any op _ _ _ _ _).mono ?_
        rintro e w2 ⟨rfl, hb2⟩
        have hB2 := (hB1.trans ((below2 w1 _ _).mono hB1.size)).trans (hb2.mono (by simp only [szA]; omega))
        have hZ2 := Lib.hid (row_at hb2 (by simp only [szA]; omega) (row_at (below2 w1 _ _) hz1 hZ1.out))
        have hI2 := row_at hb2 (by simp only [szA]; omega) (heap_alloc2_new w1 _ _)
        have hz2 : w1.heap.size + 1 < w2.heap.size := by have := hb2.size; simp only [szA] at this; omega
        have HI2 := Lib.hid hI2
        clear hb2 hB1 hI2
        generalize encW op (dRd 6 u) (dR1 6 u) (dR2 6 u) (dI 6 u) = W at *
        generalize encS op (dRd 6 u) (dR1 6 u) (dR2 6 u) (dI 6 u) = S at *
        cases hm : mtR (6, o, f, g) u
        · have hn := Hnot.out hm
          by_cases hS : S = 0
          · have hn' := hn hS
            subst hS
            have hWu : (W == u) = false := by simp [hn']
            have hWu' : decide (W = u) = false := decide_eq_false hn'
            clear hn hn'
            go_wp2
            go_roundw
            case rel => exact ⟨op + 1, by omega, by omega, rfl, hB2, hZ2.out, by omega, fun x x1 x2 => by
              by_cases hx : x < op
              · exact Hno.out x x1 hx
              · obtain rfl : x = op := by omega
                rw [Hr.out]; exact hm⟩
            case measure => simp [intOf]; omega
          · have hS1 : (S == 0) = false := by simp [hS]
            have hS2 : decide (S = 0) = false := decide_eq_false hS
            clear hn hS
            go_wp2
            go_roundw
            case rel => exact ⟨op + 1, by omega, by omega, rfl, hB2, hZ2.out, by omega, fun x x1 x2 => by
              by_cases hx : x < op
              · exact Hno.out x x1 hx
              · obtain rfl : x = op := by omega
                rw [Hr.out]; exact hm⟩
            case measure => simp [intOf]; omega
        · obtain ⟨hS, hW⟩ := Hyes.out hm
          subst hS
          subst hW
          go_wp2_with (first | (refine wpList_load_g (o := ⟨some 133, _, _, _, _, _⟩) rfl 49 (.tmp 10) rfl (w1.heap.size + 1) rfl 49 _ (0, 0) _ HI2.out Tryd.underlying49 rfl sizeInstr ?_) | (refine wpList_store_row (o := ⟨none, _, _, _, _, _⟩) rfl 49 (.tmp 2) (.tmp 133) rfl w.heap.size _ rfl rfl 49 _ hZ2.out sizeInstr rfl (ins_one _ _ _ _ _) ?_))
          exact bodyPost_ret (res_cell_tmp Tryd.results29 _ _ w.heap.size 49 _ (0, 0) _ _ rfl rfl (setRow_heap _ w.heap.size _ _ _ _ hZ2.out) Tryd.underlying49 rfl sizeInstr) rfl (rdecPost_some2 o1 hop (by rw [Hr.out]; exact hm) (EA.out.trans (by rw [Hr.out])) (EB.out.trans (by rw [Hr.out])) (EC.out.trans (by rw [Hr.out])) (ED.out.trans (by rw [Hr.out])) (below_setRow hB2 (by omega) _))
      · have hv : rowV (7, o, f, g) = .agg #[.int .u8 78, .int .i64 o, .int .i64 f, .int .i64 g] := rfl
        rw [hv]
        obtain ⟨eA, eB, eC, eD⟩ := fld_7 u h0 h1
        have EA := Lib.hid eA; have EB := Lib.hid eB; have EC := Lib.hid eC; have ED := Lib.hid eD
        clear eA eB eC eD
        go_wp2_with (go_at_call 48; refine (signed_any _ _ _ (by omega) (by omega) (by omega)).mono ?_; rintro e w9 ⟨rfl, rfl⟩)
        refine renc_as EA.out EB.out EC.out ED.out ?_
        refine (renc_any op _ _ _ _ _).mono ?_
        rintro e w2 ⟨rfl, hb2⟩
        have hB2 := (hB1.trans ((below2 w1 _ _).mono hB1.size)).trans (hb2.mono (by simp only [szA]; omega))
        have hZ2 := Lib.hid (row_at hb2 (by simp only [szA]; omega) (row_at (below2 w1 _ _) hz1 hZ1.out))
        have hI2 := row_at hb2 (by simp only [szA]; omega) (heap_alloc2_new w1 _ _)
        have hz2 : w1.heap.size + 1 < w2.heap.size := by have := hb2.size; simp only [szA] at this; omega
        have HI2 := Lib.hid hI2
        clear hb2 hB1 hI2
        generalize encW op (dRd 7 u) (dR1 7 u) (dR2 7 u) (dI 7 u) = W at *
        generalize encS op (dRd 7 u) (dR1 7 u) (dR2 7 u) (dI 7 u) = S at *
        cases hm : mtR (7, o, f, g) u
        · have hn := Hnot.out hm
          by_cases hS : S = 0
          · have hn' := hn hS
            subst hS
            have hWu : (W == u) = false := by simp [hn']
            have hWu' : decide (W = u) = false := decide_eq_false hn'
            clear hn hn'
            go_wp2
            go_roundw
            case rel => exact ⟨op + 1, by omega, by omega, rfl, hB2, hZ2.out, by omega, fun x x1 x2 => by
              by_cases hx : x < op
              · exact Hno.out x x1 hx
              · obtain rfl : x = op := by omega
                rw [Hr.out]; exact hm⟩
            case measure => simp [intOf]; omega
          · have hS1 : (S == 0) = false := by simp [hS]
            have hS2 : decide (S = 0) = false := decide_eq_false hS
            clear hn hS
            go_wp2
            go_roundw
            case rel => exact ⟨op + 1, by omega, by omega, rfl, hB2, hZ2.out, by omega, fun x x1 x2 => by
              by_cases hx : x < op
              · exact Hno.out x x1 hx
              · obtain rfl : x = op := by omega
                rw [Hr.out]; exact hm⟩
            case measure => simp [intOf]; omega
        · obtain ⟨hS, hW⟩ := Hyes.out hm
          subst hS
          subst hW
          go_wp2_with (first | (refine wpList_load_g (o := ⟨some 133, _, _, _, _, _⟩) rfl 49 (.tmp 10) rfl (w1.heap.size + 1) rfl 49 _ (0, 0) _ HI2.out Tryd.underlying49 rfl sizeInstr ?_) | (refine wpList_store_row (o := ⟨none, _, _, _, _, _⟩) rfl 49 (.tmp 2) (.tmp 133) rfl w.heap.size _ rfl rfl 49 _ hZ2.out sizeInstr rfl (ins_one _ _ _ _ _) ?_))
          exact bodyPost_ret (res_cell_tmp Tryd.results29 _ _ w.heap.size 49 _ (0, 0) _ _ rfl rfl (setRow_heap _ w.heap.size _ _ _ _ hZ2.out) Tryd.underlying49 rfl sizeInstr) rfl (rdecPost_some2 o1 hop (by rw [Hr.out]; exact hm) (EA.out.trans (by rw [Hr.out])) (EB.out.trans (by rw [Hr.out])) (EC.out.trans (by rw [Hr.out])) (ED.out.trans (by rw [Hr.out])) (below_setRow hB2 (by omega) _))
    · have hdo : decide (op ≤ 55) = false := decide_eq_false hop
      have hall : Hid (∀ x : Int, 1 ≤ x → x ≤ 55 → mtR (rowOf x) u = false) := Lib.hid fun x x1 x2 => Hno.out x x1 (by omega)
      have hZ2 := Lib.hid hZ; clear hZ
      go_wp2_with (refine wpList_store_row (o := ⟨none, _, _, _, _, _⟩) rfl 49 (.tmp 2) (.tmp 134) rfl w.heap.size #[.int .i64 0, .int .i64 0, .int .i64 0, .int .i64 0, .int .i64 0] rfl rfl 49 _ hZ2.out sizeInstr rfl (ins_one _ _ _ _ _) ?_)
      exact bodyPost_ret (v := .tuple #[ins 0 0 0 0 0, .bool false]) (res_cell_tmp Tryd.results29 _ _ w.heap.size 49 _ (0, 0) _ _ rfl rfl (setRow_heap _ w.heap.size _ _ _ _ hZ2.out) Tryd.underlying49 rfl sizeInstr) rfl (rdecPost_none hall.out (below_setRow hB (by omega) _))
end Go.Proofs.YtppcbommaddkgaaDoor
