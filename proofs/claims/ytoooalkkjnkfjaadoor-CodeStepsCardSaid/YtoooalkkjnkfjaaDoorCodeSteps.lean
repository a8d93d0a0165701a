/- CodeSteps: each Imm of a form comes back, and the next one has another word: it answers true; at most new blocks in memory. Conditions: the table of forms as the program lays it, and that the arguments are of their Go types. -/
import Derived.Test.YtoooalkkjnkfjaaDoorCodeStepsH
namespace Go.Proofs.YtoooalkkjnkfjaaDoor
open Go.RowKit
set_option linter.unusedVariables false
set_option linter.unusedSimpArgs false
open Pc

set_option maxHeartbeats 2000000 in
theorem steps_0 (wh n : Int) (w : World) (hw : 0 ≤ wh ∧ wh < 256) (hm : Hid (wh % 8 = 0)) (hF : FormsIn w) :
    Calls Tryd.prog 7 #[.int .u8 wh, .int .i64 n] w fun e w' => e = .returned (.bool true) ∧ Below w.heap.size w w' := by
  have hidx : ∀ W, (Instr.index 41 (.agg #[.int .i64 28, .int .i64 36, .int .i64 44, .int .i64 47, .int .i64 51, .int .i64 53, .int .i64 37, .int .i64 39]) (.int .u8 (wh % 8))).run Tryd.prog W = .ok (.int .i64 28) W := fun W => by rw [hm.out]; kernel_rfl
  go_enter Tryd.func7, Tryd.ntmps7
  go_wp2_with fail
  refine (awake_any _ hF).mono ?_
  rintro e w1 ⟨rfl, h1⟩
  have hF1 := hF.keep h1 (Nat.le_refl _)
  go_wp2_with fail
  refine (room_in 28 _ _ _ 1 _ (by omega) (by omega) (by omega) (Lib.hid (show rowOf 28 = _ by rfl)) hF1).mono ?_
  rintro e w2 ⟨rfl, h2⟩
  have hB2 := h1.trans (h2.mono h1.size)
  have hF2 := hF.keep hB2 (Nat.le_refl _)
  rw [show loI ((1 : Nat) : Int) = -2048 by rfl, show hiI ((1 : Nat) : Int) = 2047 by rfl]
  clear h1 h2 hF1
  go_wp2_with fail
  obtain ⟨K, hK⟩ : ∃ K, wrap64 (-2048 + wrap64 (wrap64 ((IntKind.u64.wrap n).tmod 4095))) = K := ⟨_, rfl⟩
  have hKr : -2048 ≤ K ∧ K ≤ 2047 - 1 := by
    subst hK
    rw [IntKind.wrap_u64, Int.tmod_eq_emod_of_nonneg (by omega)]
    unfold wrap64
    omega
  simp only [hK]
  have HK := Lib.hid hK
  clear hK
  have e1 : encS 28 0 0 0 K = 0 := (enc_ok (by omega) (by omega) (show rowOf 28 = _ by rfl) (by simp [immB, hasI, loI, hiI, evI]; omega)).resolve_right (by decide)
  have e2 : encS 28 0 0 0 (K + 1) = 0 := (enc_ok (by omega) (by omega) (show rowOf 28 = _ by rfl) (by simp [immB, hasI, loI, hiI, evI]; omega)).resolve_right (by decide)
  have hne : encW 28 0 0 0 K ≠ encW 28 0 0 0 (K + 1) := fun h => by have := (enc_apart e1 e2 h).2.2.2.2; omega
  have hneb : (encW 28 0 0 0 K != encW 28 0 0 0 (K + 1)) = true := by simp [hne]
  have hneb2 : (encW 28 0 0 0 K == encW 28 0 0 0 (K + 1)) = false := by simp [hne]
  have E1 := Lib.hid e1; have E2 := Lib.hid e2
  have hk0 : -2048 ≤ K := hKr.1
  have hk1 : K ≤ 2047 - 1 := by omega
  clear e1 e2 hne hKr
  refine (encode_any 28 0 0 0 K _ (by decide) hF2).mono ?_
  rintro e w3 ⟨rfl, h3⟩
  rw [E1.out]
  have hB3 := hB2.trans (h3.mono hB2.size)
  have hF3 := hF.keep hB3 (Nat.le_refl _)
  clear h3 hF2 hB2
  go_wp2_with fail
  refine (encode_any 28 0 0 0 (K + 1) _ (by decide) hF3).mono ?_
  rintro e w4 ⟨rfl, h4⟩
  rw [E2.out]
  have hB4 := hB3.trans (h4.mono hB3.size)
  have hF4 := hF.keep hB4 (Nat.le_refl _)
  clear h4 hF3 hB3
  go_wp2_with fail
  refine (decode_made _ (by decide) (show rowOf 28 = _ by rfl) E1.out hF4).mono ?_
  rintro e w5 ⟨rfl, h5⟩
  have hB5 := hB4.trans (h5.mono hB4.size)
  go_wp2_with fail
  refine (decode_made _ (by decide) (show rowOf 28 = _ by rfl) E2.out (hF.keep (hB5.alloc hB5.size _) (Nat.le_refl _))).mono ?_
  rintro e w6 ⟨rfl, h6⟩
  have c4 : w6.cell? ⟨w5.heap.size, 4, none⟩ = some (.int .i64 K) := (h6.cell (by simp)).trans (by go_simp)
  have hz6 : w5.heap.size < w6.heap.size := by have := h6.size; simp only [szA] at this; omega
  have hB6 := (hB5.alloc hB5.size _).trans (h6.mono (by simp only [szA]; have := hB5.size; omega))
  clear h6 h5
  go_wp2
  go_ret
  exact ⟨rfl, hB6.alloc hB6.size _⟩

set_option maxHeartbeats 2000000 in
theorem steps_1 (wh n : Int) (w : World) (hw : 0 ≤ wh ∧ wh < 256) (hm : Hid (wh % 8 = 1)) (hF : FormsIn w) :
    Calls Tryd.prog 7 #[.int .u8 wh, .int .i64 n] w fun e w' => e = .returned (.bool true) ∧ Below w.heap.size w w' := by
  have hidx : ∀ W, (Instr.index 41 (.agg #[.int .i64 28, .int .i64 36, .int .i64 44, .int .i64 47, .int .i64 51, .int .i64 53, .int .i64 37, .int .i64 39]) (.int .u8 (wh % 8))).run Tryd.prog W = .ok (.int .i64 36) W := fun W => by rw [hm.out]; kernel_rfl
  go_enter Tryd.func7, Tryd.ntmps7
  go_wp2_with fail
  refine (awake_any _ hF).mono ?_
  rintro e w1 ⟨rfl, h1⟩
  have hF1 := hF.keep h1 (Nat.le_refl _)
  go_wp2_with fail
  refine (room_in 36 _ _ _ 2 _ (by omega) (by omega) (by omega) (Lib.hid (show rowOf 36 = _ by rfl)) hF1).mono ?_
  rintro e w2 ⟨rfl, h2⟩
  have hB2 := h1.trans (h2.mono h1.size)
  have hF2 := hF.keep hB2 (Nat.le_refl _)
  rw [show loI ((2 : Nat) : Int) = 0 by rfl, show hiI ((2 : Nat) : Int) = 63 by rfl]
  clear h1 h2 hF1
  go_wp2_with fail
  obtain ⟨K, hK⟩ : ∃ K, wrap64 (wrap64 (wrap64 ((IntKind.u64.wrap n).tmod 63))) = K := ⟨_, rfl⟩
  have hKr : 0 ≤ K ∧ K ≤ 63 - 1 := by
    subst hK
    rw [IntKind.wrap_u64, Int.tmod_eq_emod_of_nonneg (by omega)]
    unfold wrap64
    omega
  simp only [hK]
  have HK := Lib.hid hK
  clear hK
  have e1 : encS 36 0 0 0 K = 0 := (enc_ok (by omega) (by omega) (show rowOf 36 = _ by rfl) (by simp [immB, hasI, loI, hiI, evI]; omega)).resolve_right (by decide)
  have e2 : encS 36 0 0 0 (K + 1) = 0 := (enc_ok (by omega) (by omega) (show rowOf 36 = _ by rfl) (by simp [immB, hasI, loI, hiI, evI]; omega)).resolve_right (by decide)
  have hne : encW 36 0 0 0 K ≠ encW 36 0 0 0 (K + 1) := fun h => by have := (enc_apart e1 e2 h).2.2.2.2; omega
  have hneb : (encW 36 0 0 0 K != encW 36 0 0 0 (K + 1)) = true := by simp [hne]
  have hneb2 : (encW 36 0 0 0 K == encW 36 0 0 0 (K + 1)) = false := by simp [hne]
  have E1 := Lib.hid e1; have E2 := Lib.hid e2
  have hk0 : 0 ≤ K := hKr.1
  have hk1 : K ≤ 63 - 1 := by omega
  clear e1 e2 hne hKr
  refine (encode_any 36 0 0 0 K _ (by decide) hF2).mono ?_
  rintro e w3 ⟨rfl, h3⟩
  rw [E1.out]
  have hB3 := hB2.trans (h3.mono hB2.size)
  have hF3 := hF.keep hB3 (Nat.le_refl _)
  clear h3 hF2 hB2
  go_wp2_with fail
  refine (encode_any 36 0 0 0 (K + 1) _ (by decide) hF3).mono ?_
  rintro e w4 ⟨rfl, h4⟩
  rw [E2.out]
  have hB4 := hB3.trans (h4.mono hB3.size)
  have hF4 := hF.keep hB4 (Nat.le_refl _)
  clear h4 hF3 hB3
  go_wp2_with fail
  refine (decode_made _ (by decide) (show rowOf 36 = _ by rfl) E1.out hF4).mono ?_
  rintro e w5 ⟨rfl, h5⟩
  have hB5 := hB4.trans (h5.mono hB4.size)
  go_wp2_with fail
  refine (decode_made _ (by decide) (show rowOf 36 = _ by rfl) E2.out (hF.keep (hB5.alloc hB5.size _) (Nat.le_refl _))).mono ?_
  rintro e w6 ⟨rfl, h6⟩
  have c4 : w6.cell? ⟨w5.heap.size, 4, none⟩ = some (.int .i64 K) := (h6.cell (by simp)).trans (by go_simp)
  have hz6 : w5.heap.size < w6.heap.size := by have := h6.size; simp only [szA] at this; omega
  have hB6 := (hB5.alloc hB5.size _).trans (h6.mono (by simp only [szA]; have := hB5.size; omega))
  clear h6 h5
  go_wp2
  go_ret
  exact ⟨rfl, hB6.alloc hB6.size _⟩

set_option maxHeartbeats 2000000 in
theorem steps_2 (wh n : Int) (w : World) (hw : 0 ≤ wh ∧ wh < 256) (hm : Hid (wh % 8 = 2)) (hF : FormsIn w) :
    Calls Tryd.prog 7 #[.int .u8 wh, .int .i64 n] w fun e w' => e = .returned (.bool true) ∧ Below w.heap.size w w' := by
  have hidx : ∀ W, (Instr.index 41 (.agg #[.int .i64 28, .int .i64 36, .int .i64 44, .int .i64 47, .int .i64 51, .int .i64 53, .int .i64 37, .int .i64 39]) (.int .u8 (wh % 8))).run Tryd.prog W = .ok (.int .i64 44) W := fun W => by rw [hm.out]; kernel_rfl
  go_enter Tryd.func7, Tryd.ntmps7
  go_wp2_with fail
  refine (awake_any _ hF).mono ?_
  rintro e w1 ⟨rfl, h1⟩
  have hF1 := hF.keep h1 (Nat.le_refl _)
  go_wp2_with fail
  refine (room_in 44 _ _ _ 3 _ (by omega) (by omega) (by omega) (Lib.hid (show rowOf 44 = _ by rfl)) hF1).mono ?_
  rintro e w2 ⟨rfl, h2⟩
  have hB2 := h1.trans (h2.mono h1.size)
  have hF2 := hF.keep hB2 (Nat.le_refl _)
  rw [show loI ((3 : Nat) : Int) = -2048 by rfl, show hiI ((3 : Nat) : Int) = 2047 by rfl]
  clear h1 h2 hF1
  go_wp2_with fail
  obtain ⟨K, hK⟩ : ∃ K, wrap64 (-2048 + wrap64 (wrap64 ((IntKind.u64.wrap n).tmod 4095))) = K := ⟨_, rfl⟩
  have hKr : -2048 ≤ K ∧ K ≤ 2047 - 1 := by
    subst hK
    rw [IntKind.wrap_u64, Int.tmod_eq_emod_of_nonneg (by omega)]
    unfold wrap64
    omega
  simp only [hK]
  have HK := Lib.hid hK
  clear hK
  have e1 : encS 44 0 0 0 K = 0 := (enc_ok (by omega) (by omega) (show rowOf 44 = _ by rfl) (by simp [immB, hasI, loI, hiI, evI]; omega)).resolve_right (by decide)
  have e2 : encS 44 0 0 0 (K + 1) = 0 := (enc_ok (by omega) (by omega) (show rowOf 44 = _ by rfl) (by simp [immB, hasI, loI, hiI, evI]; omega)).resolve_right (by decide)
  have hne : encW 44 0 0 0 K ≠ encW 44 0 0 0 (K + 1) := fun h => by have := (enc_apart e1 e2 h).2.2.2.2; omega
  have hneb : (encW 44 0 0 0 K != encW 44 0 0 0 (K + 1)) = true := by simp [hne]
  have hneb2 : (encW 44 0 0 0 K == encW 44 0 0 0 (K + 1)) = false := by simp [hne]
  have E1 := Lib.hid e1; have E2 := Lib.hid e2
  have hk0 : -2048 ≤ K := hKr.1
  have hk1 : K ≤ 2047 - 1 := by omega
  clear e1 e2 hne hKr
  refine (encode_any 44 0 0 0 K _ (by decide) hF2).mono ?_
  rintro e w3 ⟨rfl, h3⟩
  rw [E1.out]
  have hB3 := hB2.trans (h3.mono hB2.size)
  have hF3 := hF.keep hB3 (Nat.le_refl _)
  clear h3 hF2 hB2
  go_wp2_with fail
  refine (encode_any 44 0 0 0 (K + 1) _ (by decide) hF3).mono ?_
  rintro e w4 ⟨rfl, h4⟩
  rw [E2.out]
  have hB4 := hB3.trans (h4.mono hB3.size)
  have hF4 := hF.keep hB4 (Nat.le_refl _)
  clear h4 hF3 hB3
  go_wp2_with fail
  refine (decode_made _ (by decide) (show rowOf 44 = _ by rfl) E1.out hF4).mono ?_
  rintro e w5 ⟨rfl, h5⟩
  have hB5 := hB4.trans (h5.mono hB4.size)
  go_wp2_with fail
  refine (decode_made _ (by decide) (show rowOf 44 = _ by rfl) E2.out (hF.keep (hB5.alloc hB5.size _) (Nat.le_refl _))).mono ?_
  rintro e w6 ⟨rfl, h6⟩
  have c4 : w6.cell? ⟨w5.heap.size, 4, none⟩ = some (.int .i64 K) := (h6.cell (by simp)).trans (by go_simp)
  have hz6 : w5.heap.size < w6.heap.size := by have := h6.size; simp only [szA] at this; omega
  have hB6 := (hB5.alloc hB5.size _).trans (h6.mono (by simp only [szA]; have := hB5.size; omega))
  clear h6 h5
  go_wp2
  go_ret
  exact ⟨rfl, hB6.alloc hB6.size _⟩

set_option maxHeartbeats 2000000 in
theorem steps_3 (wh n : Int) (w : World) (hw : 0 ≤ wh ∧ wh < 256) (hm : Hid (wh % 8 = 3)) (hF : FormsIn w) :
    Calls Tryd.prog 7 #[.int .u8 wh, .int .i64 n] w fun e w' => e = .returned (.bool true) ∧ Below w.heap.size w w' := by
  have hidx : ∀ W, (Instr.index 41 (.agg #[.int .i64 28, .int .i64 36, .int .i64 44, .int .i64 47, .int .i64 51, .int .i64 53, .int .i64 37, .int .i64 39]) (.int .u8 (wh % 8))).run Tryd.prog W = .ok (.int .i64 47) W := fun W => by rw [hm.out]; kernel_rfl
  go_enter Tryd.func7, Tryd.ntmps7
  go_wp2_with fail
  refine (awake_any _ hF).mono ?_
  rintro e w1 ⟨rfl, h1⟩
  have hF1 := hF.keep h1 (Nat.le_refl _)
  go_wp2_with fail
  refine (room_in 47 _ _ _ 4 _ (by omega) (by omega) (by omega) (Lib.hid (show rowOf 47 = _ by rfl)) hF1).mono ?_
  rintro e w2 ⟨rfl, h2⟩
  have hB2 := h1.trans (h2.mono h1.size)
  have hF2 := hF.keep hB2 (Nat.le_refl _)
  rw [show loI ((4 : Nat) : Int) = -4096 by rfl, show hiI ((4 : Nat) : Int) = 4094 by rfl]
  clear h1 h2 hF1
  go_wp2_with fail
  obtain ⟨K, hK⟩ : ∃ K, wrap64 (-4096 + wrap64 (2 * wrap64 ((IntKind.u64.wrap n).tmod 4095))) = K := ⟨_, rfl⟩
  have hKr : -4096 ≤ K ∧ K ≤ 4094 - 2 ∧ K % 2 = 0 := by
    subst hK
    rw [IntKind.wrap_u64, Int.tmod_eq_emod_of_nonneg (by omega)]
    unfold wrap64
    omega
  simp only [hK]
  have HK := Lib.hid hK
  clear hK
  have e1 : encS 47 0 0 0 K = 0 := (enc_ok (by omega) (by omega) (show rowOf 47 = _ by rfl) (by simp [immB, hasI, loI, hiI, evI]; omega)).resolve_right (by decide)
  have e2 : encS 47 0 0 0 (K + 2) = 0 := (enc_ok (by omega) (by omega) (show rowOf 47 = _ by rfl) (by simp [immB, hasI, loI, hiI, evI]; omega)).resolve_right (by decide)
  have hne : encW 47 0 0 0 K ≠ encW 47 0 0 0 (K + 2) := fun h => by have := (enc_apart e1 e2 h).2.2.2.2; omega
  have hneb : (encW 47 0 0 0 K != encW 47 0 0 0 (K + 2)) = true := by simp [hne]
  have hneb2 : (encW 47 0 0 0 K == encW 47 0 0 0 (K + 2)) = false := by simp [hne]
  have E1 := Lib.hid e1; have E2 := Lib.hid e2
  have hk0 : -4096 ≤ K := hKr.1
  have hk1 : K ≤ 4094 - 2 := by omega
  clear e1 e2 hne hKr
  refine (encode_any 47 0 0 0 K _ (by decide) hF2).mono ?_
  rintro e w3 ⟨rfl, h3⟩
  rw [E1.out]
  have hB3 := hB2.trans (h3.mono hB2.size)
  have hF3 := hF.keep hB3 (Nat.le_refl _)
  clear h3 hF2 hB2
  go_wp2_with fail
  refine (encode_any 47 0 0 0 (K + 2) _ (by decide) hF3).mono ?_
  rintro e w4 ⟨rfl, h4⟩
  rw [E2.out]
  have hB4 := hB3.trans (h4.mono hB3.size)
  have hF4 := hF.keep hB4 (Nat.le_refl _)
  clear h4 hF3 hB3
  go_wp2_with fail
  refine (decode_made _ (by decide) (show rowOf 47 = _ by rfl) E1.out hF4).mono ?_
  rintro e w5 ⟨rfl, h5⟩
  have hB5 := hB4.trans (h5.mono hB4.size)
  go_wp2_with fail
  refine (decode_made _ (by decide) (show rowOf 47 = _ by rfl) E2.out (hF.keep (hB5.alloc hB5.size _) (Nat.le_refl _))).mono ?_
  rintro e w6 ⟨rfl, h6⟩
  have c4 : w6.cell? ⟨w5.heap.size, 4, none⟩ = some (.int .i64 K) := (h6.cell (by simp)).trans (by go_simp)
  have hz6 : w5.heap.size < w6.heap.size := by have := h6.size; simp only [szA] at this; omega
  have hB6 := (hB5.alloc hB5.size _).trans (h6.mono (by simp only [szA]; have := hB5.size; omega))
  clear h6 h5
  go_wp2
  go_ret
  exact ⟨rfl, hB6.alloc hB6.size _⟩

set_option maxHeartbeats 2000000 in
theorem steps_4 (wh n : Int) (w : World) (hw : 0 ≤ wh ∧ wh < 256) (hm : Hid (wh % 8 = 4)) (hF : FormsIn w) :
    Calls Tryd.prog 7 #[.int .u8 wh, .int .i64 n] w fun e w' => e = .returned (.bool true) ∧ Below w.heap.size w w' := by
  have hidx : ∀ W, (Instr.index 41 (.agg #[.int .i64 28, .int .i64 36, .int .i64 44, .int .i64 47, .int .i64 51, .int .i64 53, .int .i64 37, .int .i64 39]) (.int .u8 (wh % 8))).run Tryd.prog W = .ok (.int .i64 51) W := fun W => by rw [hm.out]; kernel_rfl
  go_enter Tryd.func7, Tryd.ntmps7
  go_wp2_with fail
  refine (awake_any _ hF).mono ?_
  rintro e w1 ⟨rfl, h1⟩
  have hF1 := hF.keep h1 (Nat.le_refl _)
  go_wp2_with fail
  refine (room_in 51 _ _ _ 5 _ (by omega) (by omega) (by omega) (Lib.hid (show rowOf 51 = _ by rfl)) hF1).mono ?_
  rintro e w2 ⟨rfl, h2⟩
  have hB2 := h1.trans (h2.mono h1.size)
  have hF2 := hF.keep hB2 (Nat.le_refl _)
  rw [show loI ((5 : Nat) : Int) = -524288 by rfl, show hiI ((5 : Nat) : Int) = 524287 by rfl]
  clear h1 h2 hF1
  go_wp2_with fail
  obtain ⟨K, hK⟩ : ∃ K, wrap64 (-524288 + wrap64 (wrap64 ((IntKind.u64.wrap n).tmod 1048575))) = K := ⟨_, rfl⟩
  have hKr : -524288 ≤ K ∧ K ≤ 524287 - 1 := by
    subst hK
    rw [IntKind.wrap_u64, Int.tmod_eq_emod_of_nonneg (by omega)]
    unfold wrap64
    omega
  simp only [hK]
  have HK := Lib.hid hK
  clear hK
  have e1 : encS 51 0 0 0 K = 0 := (enc_ok (by omega) (by omega) (show rowOf 51 = _ by rfl) (by simp [immB, hasI, loI, hiI, evI]; omega)).resolve_right (by decide)
  have e2 : encS 51 0 0 0 (K + 1) = 0 := (enc_ok (by omega) (by omega) (show rowOf 51 = _ by rfl) (by simp [immB, hasI, loI, hiI, evI]; omega)).resolve_right (by decide)
  have hne : encW 51 0 0 0 K ≠ encW 51 0 0 0 (K + 1) := fun h => by have := (enc_apart e1 e2 h).2.2.2.2; omega
  have hneb : (encW 51 0 0 0 K != encW 51 0 0 0 (K + 1)) = true := by simp [hne]
  have hneb2 : (encW 51 0 0 0 K == encW 51 0 0 0 (K + 1)) = false := by simp [hne]
  have E1 := Lib.hid e1; have E2 := Lib.hid e2
  have hk0 : -524288 ≤ K := hKr.1
  have hk1 : K ≤ 524287 - 1 := by omega
  clear e1 e2 hne hKr
  refine (encode_any 51 0 0 0 K _ (by decide) hF2).mono ?_
  rintro e w3 ⟨rfl, h3⟩
  rw [E1.out]
  have hB3 := hB2.trans (h3.mono hB2.size)
  have hF3 := hF.keep hB3 (Nat.le_refl _)
  clear h3 hF2 hB2
  go_wp2_with fail
  refine (encode_any 51 0 0 0 (K + 1) _ (by decide) hF3).mono ?_
  rintro e w4 ⟨rfl, h4⟩
  rw [E2.out]
  have hB4 := hB3.trans (h4.mono hB3.size)
  have hF4 := hF.keep hB4 (Nat.le_refl _)
  clear h4 hF3 hB3
  go_wp2_with fail
  refine (decode_made _ (by decide) (show rowOf 51 = _ by rfl) E1.out hF4).mono ?_
  rintro e w5 ⟨rfl, h5⟩
  have hB5 := hB4.trans (h5.mono hB4.size)
  go_wp2_with fail
  refine (decode_made _ (by decide) (show rowOf 51 = _ by rfl) E2.out (hF.keep (hB5.alloc hB5.size _) (Nat.le_refl _))).mono ?_
  rintro e w6 ⟨rfl, h6⟩
  have c4 : w6.cell? ⟨w5.heap.size, 4, none⟩ = some (.int .i64 K) := (h6.cell (by simp)).trans (by go_simp)
  have hz6 : w5.heap.size < w6.heap.size := by have := h6.size; simp only [szA] at this; omega
  have hB6 := (hB5.alloc hB5.size _).trans (h6.mono (by simp only [szA]; have := hB5.size; omega))
  clear h6 h5
  go_wp2
  go_ret
  exact ⟨rfl, hB6.alloc hB6.size _⟩

set_option maxHeartbeats 2000000 in
theorem steps_5 (wh n : Int) (w : World) (hw : 0 ≤ wh ∧ wh < 256) (hm : Hid (wh % 8 = 5)) (hF : FormsIn w) :
    Calls Tryd.prog 7 #[.int .u8 wh, .int .i64 n] w fun e w' => e = .returned (.bool true) ∧ Below w.heap.size w w' := by
  have hidx : ∀ W, (Instr.index 41 (.agg #[.int .i64 28, .int .i64 36, .int .i64 44, .int .i64 47, .int .i64 51, .int .i64 53, .int .i64 37, .int .i64 39]) (.int .u8 (wh % 8))).run Tryd.prog W = .ok (.int .i64 53) W := fun W => by rw [hm.out]; kernel_rfl
  go_enter Tryd.func7, Tryd.ntmps7
  go_wp2_with fail
  refine (awake_any _ hF).mono ?_
  rintro e w1 ⟨rfl, h1⟩
  have hF1 := hF.keep h1 (Nat.le_refl _)
  go_wp2_with fail
  refine (room_in 53 _ _ _ 6 _ (by omega) (by omega) (by omega) (Lib.hid (show rowOf 53 = _ by rfl)) hF1).mono ?_
  rintro e w2 ⟨rfl, h2⟩
  have hB2 := h1.trans (h2.mono h1.size)
  have hF2 := hF.keep hB2 (Nat.le_refl _)
  rw [show loI ((6 : Nat) : Int) = -1048576 by rfl, show hiI ((6 : Nat) : Int) = 1048574 by rfl]
  clear h1 h2 hF1
  go_wp2_with fail
  obtain ⟨K, hK⟩ : ∃ K, wrap64 (-1048576 + wrap64 (2 * wrap64 ((IntKind.u64.wrap n).tmod 1048575))) = K := ⟨_, rfl⟩
  have hKr : -1048576 ≤ K ∧ K ≤ 1048574 - 2 ∧ K % 2 = 0 := by
    subst hK
    rw [IntKind.wrap_u64, Int.tmod_eq_emod_of_nonneg (by omega)]
    unfold wrap64
    omega
  simp only [hK]
  have HK := Lib.hid hK
  clear hK
  have e1 : encS 53 0 0 0 K = 0 := (enc_ok (by omega) (by omega) (show rowOf 53 = _ by rfl) (by simp [immB, hasI, loI, hiI, evI]; omega)).resolve_right (by decide)
  have e2 : encS 53 0 0 0 (K + 2) = 0 := (enc_ok (by omega) (by omega) (show rowOf 53 = _ by rfl) (by simp [immB, hasI, loI, hiI, evI]; omega)).resolve_right (by decide)
  have hne : encW 53 0 0 0 K ≠ encW 53 0 0 0 (K + 2) := fun h => by have := (enc_apart e1 e2 h).2.2.2.2; omega
  have hneb : (encW 53 0 0 0 K != encW 53 0 0 0 (K + 2)) = true := by simp [hne]
  have hneb2 : (encW 53 0 0 0 K == encW 53 0 0 0 (K + 2)) = false := by simp [hne]
  have E1 := Lib.hid e1; have E2 := Lib.hid e2
  have hk0 : -1048576 ≤ K := hKr.1
  have hk1 : K ≤ 1048574 - 2 := by omega
  clear e1 e2 hne hKr
  refine (encode_any 53 0 0 0 K _ (by decide) hF2).mono ?_
  rintro e w3 ⟨rfl, h3⟩
  rw [E1.out]
  have hB3 := hB2.trans (h3.mono hB2.size)
  have hF3 := hF.keep hB3 (Nat.le_refl _)
  clear h3 hF2 hB2
  go_wp2_with fail
  refine (encode_any 53 0 0 0 (K + 2) _ (by decide) hF3).mono ?_
  rintro e w4 ⟨rfl, h4⟩
  rw [E2.out]
  have hB4 := hB3.trans (h4.mono hB3.size)
  have hF4 := hF.keep hB4 (Nat.le_refl _)
  clear h4 hF3 hB3
  go_wp2_with fail
  refine (decode_made _ (by decide) (show rowOf 53 = _ by rfl) E1.out hF4).mono ?_
  rintro e w5 ⟨rfl, h5⟩
  have hB5 := hB4.trans (h5.mono hB4.size)
  go_wp2_with fail
  refine (decode_made _ (by decide) (show rowOf 53 = _ by rfl) E2.out (hF.keep (hB5.alloc hB5.size _) (Nat.le_refl _))).mono ?_
  rintro e w6 ⟨rfl, h6⟩
  have c4 : w6.cell? ⟨w5.heap.size, 4, none⟩ = some (.int .i64 K) := (h6.cell (by simp)).trans (by go_simp)
  have hz6 : w5.heap.size < w6.heap.size := by have := h6.size; simp only [szA] at this; omega
  have hB6 := (hB5.alloc hB5.size _).trans (h6.mono (by simp only [szA]; have := hB5.size; omega))
  clear h6 h5
  go_wp2
  go_ret
  exact ⟨rfl, hB6.alloc hB6.size _⟩

set_option maxHeartbeats 2000000 in
theorem steps_6 (wh n : Int) (w : World) (hw : 0 ≤ wh ∧ wh < 256) (hm : Hid (wh % 8 = 6)) (hF : FormsIn w) :
    Calls Tryd.prog 7 #[.int .u8 wh, .int .i64 n] w fun e w' => e = .returned (.bool true) ∧ Below w.heap.size w w' := by
  have hidx : ∀ W, (Instr.index 41 (.agg #[.int .i64 28, .int .i64 36, .int .i64 44, .int .i64 47, .int .i64 51, .int .i64 53, .int .i64 37, .int .i64 39]) (.int .u8 (wh % 8))).run Tryd.prog W = .ok (.int .i64 37) W := fun W => by rw [hm.out]; kernel_rfl
  go_enter Tryd.func7, Tryd.ntmps7
  go_wp2_with fail
  refine (awake_any _ hF).mono ?_
  rintro e w1 ⟨rfl, h1⟩
  have hF1 := hF.keep h1 (Nat.le_refl _)
  go_wp2_with fail
  refine (room_in 37 _ _ _ 1 _ (by omega) (by omega) (by omega) (Lib.hid (show rowOf 37 = _ by rfl)) hF1).mono ?_
  rintro e w2 ⟨rfl, h2⟩
  have hB2 := h1.trans (h2.mono h1.size)
  have hF2 := hF.keep hB2 (Nat.le_refl _)
  rw [show loI ((1 : Nat) : Int) = -2048 by rfl, show hiI ((1 : Nat) : Int) = 2047 by rfl]
  clear h1 h2 hF1
  go_wp2_with fail
  obtain ⟨K, hK⟩ : ∃ K, wrap64 (-2048 + wrap64 (wrap64 ((IntKind.u64.wrap n).tmod 4095))) = K := ⟨_, rfl⟩
  have hKr : -2048 ≤ K ∧ K ≤ 2047 - 1 := by
    subst hK
    rw [IntKind.wrap_u64, Int.tmod_eq_emod_of_nonneg (by omega)]
    unfold wrap64
    omega
  simp only [hK]
  have HK := Lib.hid hK
  clear hK
  have e1 : encS 37 0 0 0 K = 0 := (enc_ok (by omega) (by omega) (show rowOf 37 = _ by rfl) (by simp [immB, hasI, loI, hiI, evI]; omega)).resolve_right (by decide)
  have e2 : encS 37 0 0 0 (K + 1) = 0 := (enc_ok (by omega) (by omega) (show rowOf 37 = _ by rfl) (by simp [immB, hasI, loI, hiI, evI]; omega)).resolve_right (by decide)
  have hne : encW 37 0 0 0 K ≠ encW 37 0 0 0 (K + 1) := fun h => by have := (enc_apart e1 e2 h).2.2.2.2; omega
  have hneb : (encW 37 0 0 0 K != encW 37 0 0 0 (K + 1)) = true := by simp [hne]
  have hneb2 : (encW 37 0 0 0 K == encW 37 0 0 0 (K + 1)) = false := by simp [hne]
  have E1 := Lib.hid e1; have E2 := Lib.hid e2
  have hk0 : -2048 ≤ K := hKr.1
  have hk1 : K ≤ 2047 - 1 := by omega
  clear e1 e2 hne hKr
  refine (encode_any 37 0 0 0 K _ (by decide) hF2).mono ?_
  rintro e w3 ⟨rfl, h3⟩
  rw [E1.out]
  have hB3 := hB2.trans (h3.mono hB2.size)
  have hF3 := hF.keep hB3 (Nat.le_refl _)
  clear h3 hF2 hB2
  go_wp2_with fail
  refine (encode_any 37 0 0 0 (K + 1) _ (by decide) hF3).mono ?_
  rintro e w4 ⟨rfl, h4⟩
  rw [E2.out]
  have hB4 := hB3.trans (h4.mono hB3.size)
  have hF4 := hF.keep hB4 (Nat.le_refl _)
  clear h4 hF3 hB3
  go_wp2_with fail
  refine (decode_made _ (by decide) (show rowOf 37 = _ by rfl) E1.out hF4).mono ?_
  rintro e w5 ⟨rfl, h5⟩
  have hB5 := hB4.trans (h5.mono hB4.size)
  go_wp2_with fail
  refine (decode_made _ (by decide) (show rowOf 37 = _ by rfl) E2.out (hF.keep (hB5.alloc hB5.size _) (Nat.le_refl _))).mono ?_
  rintro e w6 ⟨rfl, h6⟩
  have c4 : w6.cell? ⟨w5.heap.size, 4, none⟩ = some (.int .i64 K) := (h6.cell (by simp)).trans (by go_simp)
  have hz6 : w5.heap.size < w6.heap.size := by have := h6.size; simp only [szA] at this; omega
  have hB6 := (hB5.alloc hB5.size _).trans (h6.mono (by simp only [szA]; have := hB5.size; omega))
  clear h6 h5
  go_wp2
  go_ret
  exact ⟨rfl, hB6.alloc hB6.size _⟩

set_option maxHeartbeats 2000000 in
theorem steps_7 (wh n : Int) (w : World) (hw : 0 ≤ wh ∧ wh < 256) (hm : Hid (wh % 8 = 7)) (hF : FormsIn w) :
    Calls Tryd.prog 7 #[.int .u8 wh, .int .i64 n] w fun e w' => e = .returned (.bool true) ∧ Below w.heap.size w w' := by
  have hidx : ∀ W, (Instr.index 41 (.agg #[.int .i64 28, .int .i64 36, .int .i64 44, .int .i64 47, .int .i64 51, .int .i64 53, .int .i64 37, .int .i64 39]) (.int .u8 (wh % 8))).run Tryd.prog W = .ok (.int .i64 39) W := fun W => by rw [hm.out]; kernel_rfl
  go_enter Tryd.func7, Tryd.ntmps7
  go_wp2_with fail
  refine (awake_any _ hF).mono ?_
  rintro e w1 ⟨rfl, h1⟩
  have hF1 := hF.keep h1 (Nat.le_refl _)
  go_wp2_with fail
  refine (room_in 39 _ _ _ 1 _ (by omega) (by omega) (by omega) (Lib.hid (show rowOf 39 = _ by rfl)) hF1).mono ?_
  rintro e w2 ⟨rfl, h2⟩
  have hB2 := h1.trans (h2.mono h1.size)
  have hF2 := hF.keep hB2 (Nat.le_refl _)
  rw [show loI ((1 : Nat) : Int) = -2048 by rfl, show hiI ((1 : Nat) : Int) = 2047 by rfl]
  clear h1 h2 hF1
  go_wp2_with fail
  obtain ⟨K, hK⟩ : ∃ K, wrap64 (-2048 + wrap64 (wrap64 ((IntKind.u64.wrap n).tmod 4095))) = K := ⟨_, rfl⟩
  have hKr : -2048 ≤ K ∧ K ≤ 2047 - 1 := by
    subst hK
    rw [IntKind.wrap_u64, Int.tmod_eq_emod_of_nonneg (by omega)]
    unfold wrap64
    omega
  simp only [hK]
  have HK := Lib.hid hK
  clear hK
  have e1 : encS 39 0 0 0 K = 0 := (enc_ok (by omega) (by omega) (show rowOf 39 = _ by rfl) (by simp [immB, hasI, loI, hiI, evI]; omega)).resolve_right (by decide)
  have e2 : encS 39 0 0 0 (K + 1) = 0 := (enc_ok (by omega) (by omega) (show rowOf 39 = _ by rfl) (by simp [immB, hasI, loI, hiI, evI]; omega)).resolve_right (by decide)
  have hne : encW 39 0 0 0 K ≠ encW 39 0 0 0 (K + 1) := fun h => by have := (enc_apart e1 e2 h).2.2.2.2; omega
  have hneb : (encW 39 0 0 0 K != encW 39 0 0 0 (K + 1)) = true := by simp [hne]
  have hneb2 : (encW 39 0 0 0 K == encW 39 0 0 0 (K + 1)) = false := by simp [hne]
  have E1 := Lib.hid e1; have E2 := Lib.hid e2
  have hk0 : -2048 ≤ K := hKr.1
  have hk1 : K ≤ 2047 - 1 := by omega
  clear e1 e2 hne hKr
  refine (encode_any 39 0 0 0 K _ (by decide) hF2).mono ?_
  rintro e w3 ⟨rfl, h3⟩
  rw [E1.out]
  have hB3 := hB2.trans (h3.mono hB2.size)
  have hF3 := hF.keep hB3 (Nat.le_refl _)
  clear h3 hF2 hB2
  go_wp2_with fail
  refine (encode_any 39 0 0 0 (K + 1) _ (by decide) hF3).mono ?_
  rintro e w4 ⟨rfl, h4⟩
  rw [E2.out]
  have hB4 := hB3.trans (h4.mono hB3.size)
  have hF4 := hF.keep hB4 (Nat.le_refl _)
  clear h4 hF3 hB3
  go_wp2_with fail
  refine (decode_made _ (by decide) (show rowOf 39 = _ by rfl) E1.out hF4).mono ?_
  rintro e w5 ⟨rfl, h5⟩
  have hB5 := hB4.trans (h5.mono hB4.size)
  go_wp2_with fail
  refine (decode_made _ (by decide) (show rowOf 39 = _ by rfl) E2.out (hF.keep (hB5.alloc hB5.size _) (Nat.le_refl _))).mono ?_
  rintro e w6 ⟨rfl, h6⟩
  have c4 : w6.cell? ⟨w5.heap.size, 4, none⟩ = some (.int .i64 K) := (h6.cell (by simp)).trans (by go_simp)
  have hz6 : w5.heap.size < w6.heap.size := by have := h6.size; simp only [szA] at this; omega
  have hB6 := (hB5.alloc hB5.size _).trans (h6.mono (by simp only [szA]; have := hB5.size; omega))
  clear h6 h5
  go_wp2
  go_ret
  exact ⟨rfl, hB6.alloc hB6.size _⟩

theorem codeSteps_walk (wh n : Int) (w : World) (hw : 0 ≤ wh ∧ wh < 256) (hF : FormsIn w) :
    Calls Tryd.prog 7 #[.int .u8 wh, .int .i64 n] w fun e w' => e = .returned (.bool true) ∧ Below w.heap.size w w' := by
  have : wh % 8 = 0 ∨ wh % 8 = 1 ∨ wh % 8 = 2 ∨ wh % 8 = 3 ∨ wh % 8 = 4 ∨ wh % 8 = 5 ∨ wh % 8 = 6 ∨ wh % 8 = 7 := by omega
  rcases this with h | h | h | h | h | h | h | h
  · exact steps_0 wh n w hw (Lib.hid h) hF
  · exact steps_1 wh n w hw (Lib.hid h) hF
  · exact steps_2 wh n w hw (Lib.hid h) hF
  · exact steps_3 wh n w hw (Lib.hid h) hF
  · exact steps_4 wh n w hw (Lib.hid h) hF
  · exact steps_5 wh n w hw (Lib.hid h) hF
  · exact steps_6 wh n w hw (Lib.hid h) hF
  · exact steps_7 wh n w hw (Lib.hid h) hF
end Go.Proofs.YtoooalkkjnkfjaaDoor
