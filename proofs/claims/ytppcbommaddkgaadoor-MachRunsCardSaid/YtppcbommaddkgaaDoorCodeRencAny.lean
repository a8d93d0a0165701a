/- The document's Encode, any instruction: its word, or what is wrong. At most new blocks in memory. No condition but that the arguments are of their Go types. -/
import Derived.Test.YtppcbommaddkgaaDoorCodeRencA
import Derived.Test.YtppcbommaddkgaaDoorCodeRencB
import Derived.Test.YtppcbommaddkgaaDoorCodeRencC
import Derived.Test.YtppcbommaddkgaaDoorCodeOfAny
namespace Go.Proofs.YtppcbommaddkgaaDoor
open Go.RowKit
set_option linter.unusedVariables false
set_option linter.unusedSimpArgs false
set_option maxRecDepth 10000
open Pc
namespace Pc
theorem tm2 (n : Int) : n.tmod 2 = 0 ↔ n % 2 = 0 :=
  ⟨fun h => Int.emod_eq_zero_of_dvd (Int.dvd_of_tmod_eq_zero h), fun h => Int.tmod_eq_zero_of_dvd (Int.dvd_of_emod_eq_zero h)⟩
end Pc
set_option maxHeartbeats 1000000 in
theorem renc_R (op rd r1 r2 n o f g : Int) (w : World) (hof : ∀ w : World, Calls Tryd.prog 37 #[.int .i64 op] w fun e w' => e = .returned (.agg #[.int .u8 82, .int .i64 o, .int .i64 f, .int .i64 g]) ∧ Below w.heap.size w w')
    (ho : 0 ≤ o ∧ o < 128) (hf : 0 ≤ f ∧ f < 8) (hg : 0 ≤ g ∧ g < 128) :
    Calls Tryd.prog 26 #[ins op rd r1 r2 n] w fun e w' => e = .returned (.tuple #[.int .u32 (if encSt 0 rd r1 r2 n = 0 then word 0 o f g rd r1 r2 n else 0), .int .i64 (encSt 0 rd r1 r2 n)]) ∧ Below w.heap.size w w' := by
  by_cases z_n : n = 0
  rotate_left
  · have e : encSt 0 rd r1 r2 n = 2 := by simp [encSt, zeroB, allowB, regB, immB, uRd, uR1, uR2, hasI, loI, hiI, evI] <;> omega
    refine (renc_R_zn op rd r1 r2 n o f g w hof ho hf hg (decide_eq_false z_n)).mono ?_
    rintro _ _ ⟨rfl, h⟩
    exact ⟨by simp [e], h⟩
  subst z_n
  by_cases c_rd_lo : rd < 0
  · have e : encSt 0 rd r1 r2 0 = 1 := by simp [encSt, zeroB, allowB, regB, immB, uRd, uR1, uR2, hasI, loI, hiI, evI] <;> omega
    refine (renc_R_rd_lo op rd r1 r2 0 o f g w hof ho hf hg (decide_eq_true c_rd_lo)).mono ?_
    rintro _ _ ⟨rfl, h⟩
    exact ⟨by simp [e], h⟩
  by_cases c_rd_hi : rd > 31
  · have e : encSt 0 rd r1 r2 0 = 1 := by simp [encSt, zeroB, allowB, regB, immB, uRd, uR1, uR2, hasI, loI, hiI, evI] <;> omega
    refine (renc_R_rd_hi op rd r1 r2 0 o f g w hof ho hf hg (decide_eq_false c_rd_lo) (decide_eq_true c_rd_hi)).mono ?_
    rintro _ _ ⟨rfl, h⟩
    exact ⟨by simp [e], h⟩
  by_cases c_r1_lo : r1 < 0
  · have e : encSt 0 rd r1 r2 0 = 1 := by simp [encSt, zeroB, allowB, regB, immB, uRd, uR1, uR2, hasI, loI, hiI, evI] <;> omega
    refine (renc_R_r1_lo op rd r1 r2 0 o f g w hof ho hf hg (decide_eq_false c_rd_lo) (decide_eq_false c_rd_hi) (decide_eq_true c_r1_lo)).mono ?_
    rintro _ _ ⟨rfl, h⟩
    exact ⟨by simp [e], h⟩
  by_cases c_r1_hi : r1 > 31
  · have e : encSt 0 rd r1 r2 0 = 1 := by simp [encSt, zeroB, allowB, regB, immB, uRd, uR1, uR2, hasI, loI, hiI, evI] <;> omega
    refine (renc_R_r1_hi op rd r1 r2 0 o f g w hof ho hf hg (decide_eq_false c_rd_lo) (decide_eq_false c_rd_hi) (decide_eq_false c_r1_lo) (decide_eq_true c_r1_hi)).mono ?_
    rintro _ _ ⟨rfl, h⟩
    exact ⟨by simp [e], h⟩
  by_cases c_r2_lo : r2 < 0
  · have e : encSt 0 rd r1 r2 0 = 1 := by simp [encSt, zeroB, allowB, regB, immB, uRd, uR1, uR2, hasI, loI, hiI, evI] <;> omega
    refine (renc_R_r2_lo op rd r1 r2 0 o f g w hof ho hf hg (decide_eq_false c_rd_lo) (decide_eq_false c_rd_hi) (decide_eq_false c_r1_lo) (decide_eq_false c_r1_hi) (decide_eq_true c_r2_lo)).mono ?_
    rintro _ _ ⟨rfl, h⟩
    exact ⟨by simp [e], h⟩
  by_cases c_r2_hi : r2 > 31
  · have e : encSt 0 rd r1 r2 0 = 1 := by simp [encSt, zeroB, allowB, regB, immB, uRd, uR1, uR2, hasI, loI, hiI, evI] <;> omega
    refine (renc_R_r2_hi op rd r1 r2 0 o f g w hof ho hf hg (decide_eq_false c_rd_lo) (decide_eq_false c_rd_hi) (decide_eq_false c_r1_lo) (decide_eq_false c_r1_hi) (decide_eq_false c_r2_lo) (decide_eq_true c_r2_hi)).mono ?_
    rintro _ _ ⟨rfl, h⟩
    exact ⟨by simp [e], h⟩
  have e : encSt 0 rd r1 r2 0 = 0 := by simp [encSt, zeroB, allowB, regB, immB, uRd, uR1, uR2, hasI, loI, hiI, evI] <;> omega
  refine (renc_R_ok op rd r1 r2 0 o f g w hof ho hf hg (decide_eq_false c_rd_lo) (decide_eq_false c_rd_hi) (decide_eq_false c_r1_lo) (decide_eq_false c_r1_hi) (decide_eq_false c_r2_lo) (decide_eq_false c_r2_hi)).mono ?_
  rintro _ _ ⟨rfl, h⟩
  exact ⟨by simp [e], h⟩
set_option maxHeartbeats 1000000 in
theorem renc_I (op rd r1 r2 n o f g : Int) (w : World) (hof : ∀ w : World, Calls Tryd.prog 37 #[.int .i64 op] w fun e w' => e = .returned (.agg #[.int .u8 73, .int .i64 o, .int .i64 f, .int .i64 g]) ∧ Below w.heap.size w w')
    (ho : 0 ≤ o ∧ o < 128) (hf : 0 ≤ f ∧ f < 8) (hg : 0 ≤ g ∧ g < 128) (g0 : g = 0) :
    Calls Tryd.prog 26 #[ins op rd r1 r2 n] w fun e w' => e = .returned (.tuple #[.int .u32 (if encSt 1 rd r1 r2 n = 0 then word 1 o f g rd r1 r2 n else 0), .int .i64 (encSt 1 rd r1 r2 n)]) ∧ Below w.heap.size w w' := by
  by_cases z_r2 : r2 = 0
  rotate_left
  · have e : encSt 1 rd r1 r2 n = 2 := by simp [encSt, zeroB, allowB, regB, immB, uRd, uR1, uR2, hasI, loI, hiI, evI] <;> omega
    refine (renc_I_zr2 op rd r1 r2 n o f g w hof ho hf hg g0 (decide_eq_false z_r2)).mono ?_
    rintro _ _ ⟨rfl, h⟩
    exact ⟨by simp [e], h⟩
  subst z_r2
  by_cases c_rd_lo : rd < 0
  · have e : encSt 1 rd r1 0 n = 1 := by simp [encSt, zeroB, allowB, regB, immB, uRd, uR1, uR2, hasI, loI, hiI, evI] <;> omega
    refine (renc_I_rd_lo op rd r1 0 n o f g w hof ho hf hg g0 (decide_eq_true c_rd_lo)).mono ?_
    rintro _ _ ⟨rfl, h⟩
    exact ⟨by simp [e], h⟩
  by_cases c_rd_hi : rd > 31
  · have e : encSt 1 rd r1 0 n = 1 := by simp [encSt, zeroB, allowB, regB, immB, uRd, uR1, uR2, hasI, loI, hiI, evI] <;> omega
    refine (renc_I_rd_hi op rd r1 0 n o f g w hof ho hf hg g0 (decide_eq_false c_rd_lo) (decide_eq_true c_rd_hi)).mono ?_
    rintro _ _ ⟨rfl, h⟩
    exact ⟨by simp [e], h⟩
  by_cases c_r1_lo : r1 < 0
  · have e : encSt 1 rd r1 0 n = 1 := by simp [encSt, zeroB, allowB, regB, immB, uRd, uR1, uR2, hasI, loI, hiI, evI] <;> omega
    refine (renc_I_r1_lo op rd r1 0 n o f g w hof ho hf hg g0 (decide_eq_false c_rd_lo) (decide_eq_false c_rd_hi) (decide_eq_true c_r1_lo)).mono ?_
    rintro _ _ ⟨rfl, h⟩
    exact ⟨by simp [e], h⟩
  by_cases c_r1_hi : r1 > 31
  · have e : encSt 1 rd r1 0 n = 1 := by simp [encSt, zeroB, allowB, regB, immB, uRd, uR1, uR2, hasI, loI, hiI, evI] <;> omega
    refine (renc_I_r1_hi op rd r1 0 n o f g w hof ho hf hg g0 (decide_eq_false c_rd_lo) (decide_eq_false c_rd_hi) (decide_eq_false c_r1_lo) (decide_eq_true c_r1_hi)).mono ?_
    rintro _ _ ⟨rfl, h⟩
    exact ⟨by simp [e], h⟩
  by_cases c_n_lo : n < -2048
  · have e : encSt 1 rd r1 0 n = 1 := by simp [encSt, zeroB, allowB, regB, immB, uRd, uR1, uR2, hasI, loI, hiI, evI] <;> omega
    refine (renc_I_n_lo op rd r1 0 n o f g w hof ho hf hg g0 (decide_eq_false c_rd_lo) (decide_eq_false c_rd_hi) (decide_eq_false c_r1_lo) (decide_eq_false c_r1_hi) (decide_eq_true c_n_lo)).mono ?_
    rintro _ _ ⟨rfl, h⟩
    exact ⟨by simp [e], h⟩
  by_cases c_n_hi : n > 2047
  · have e : encSt 1 rd r1 0 n = 1 := by simp [encSt, zeroB, allowB, regB, immB, uRd, uR1, uR2, hasI, loI, hiI, evI] <;> omega
    refine (renc_I_n_hi op rd r1 0 n o f g w hof ho hf hg g0 (decide_eq_false c_rd_lo) (decide_eq_false c_rd_hi) (decide_eq_false c_r1_lo) (decide_eq_false c_r1_hi) (decide_eq_false c_n_lo) (decide_eq_true c_n_hi)).mono ?_
    rintro _ _ ⟨rfl, h⟩
    exact ⟨by simp [e], h⟩
  have e : encSt 1 rd r1 0 n = 0 := by simp [encSt, zeroB, allowB, regB, immB, uRd, uR1, uR2, hasI, loI, hiI, evI] <;> omega
  refine (renc_I_ok op rd r1 0 n o f g w hof ho hf hg g0 (decide_eq_false c_rd_lo) (decide_eq_false c_rd_hi) (decide_eq_false c_r1_lo) (decide_eq_false c_r1_hi) (decide_eq_false c_n_lo) (decide_eq_false c_n_hi)).mono ?_
  rintro _ _ ⟨rfl, h⟩
  exact ⟨by simp [e], h⟩
set_option maxHeartbeats 1000000 in
theorem renc_T (op rd r1 r2 n o f g : Int) (w : World) (hof : ∀ w : World, Calls Tryd.prog 37 #[.int .i64 op] w fun e w' => e = .returned (.agg #[.int .u8 84, .int .i64 o, .int .i64 f, .int .i64 g]) ∧ Below w.heap.size w w')
    (ho : 0 ≤ o ∧ o < 128) (hf : 0 ≤ f ∧ f < 8) (hg : 0 ≤ g ∧ g < 128) (g0 : g % 2 = 0) :
    Calls Tryd.prog 26 #[ins op rd r1 r2 n] w fun e w' => e = .returned (.tuple #[.int .u32 (if encSt 2 rd r1 r2 n = 0 then word 2 o f g rd r1 r2 n else 0), .int .i64 (encSt 2 rd r1 r2 n)]) ∧ Below w.heap.size w w' := by
  by_cases z_r2 : r2 = 0
  rotate_left
  · have e : encSt 2 rd r1 r2 n = 2 := by simp [encSt, zeroB, allowB, regB, immB, uRd, uR1, uR2, hasI, loI, hiI, evI] <;> omega
    refine (renc_T_zr2 op rd r1 r2 n o f g w hof ho hf hg g0 (decide_eq_false z_r2)).mono ?_
    rintro _ _ ⟨rfl, h⟩
    exact ⟨by simp [e], h⟩
  subst z_r2
  by_cases c_rd_lo : rd < 0
  · have e : encSt 2 rd r1 0 n = 1 := by simp [encSt, zeroB, allowB, regB, immB, uRd, uR1, uR2, hasI, loI, hiI, evI] <;> omega
    refine (renc_T_rd_lo op rd r1 0 n o f g w hof ho hf hg g0 (decide_eq_true c_rd_lo)).mono ?_
    rintro _ _ ⟨rfl, h⟩
    exact ⟨by simp [e], h⟩
  by_cases c_rd_hi : rd > 31
  · have e : encSt 2 rd r1 0 n = 1 := by simp [encSt, zeroB, allowB, regB, immB, uRd, uR1, uR2, hasI, loI, hiI, evI] <;> omega
    refine (renc_T_rd_hi op rd r1 0 n o f g w hof ho hf hg g0 (decide_eq_false c_rd_lo) (decide_eq_true c_rd_hi)).mono ?_
    rintro _ _ ⟨rfl, h⟩
    exact ⟨by simp [e], h⟩
  by_cases c_r1_lo : r1 < 0
  · have e : encSt 2 rd r1 0 n = 1 := by simp [encSt, zeroB, allowB, regB, immB, uRd, uR1, uR2, hasI, loI, hiI, evI] <;> omega
    refine (renc_T_r1_lo op rd r1 0 n o f g w hof ho hf hg g0 (decide_eq_false c_rd_lo) (decide_eq_false c_rd_hi) (decide_eq_true c_r1_lo)).mono ?_
    rintro _ _ ⟨rfl, h⟩
    exact ⟨by simp [e], h⟩
  by_cases c_r1_hi : r1 > 31
  · have e : encSt 2 rd r1 0 n = 1 := by simp [encSt, zeroB, allowB, regB, immB, uRd, uR1, uR2, hasI, loI, hiI, evI] <;> omega
    refine (renc_T_r1_hi op rd r1 0 n o f g w hof ho hf hg g0 (decide_eq_false c_rd_lo) (decide_eq_false c_rd_hi) (decide_eq_false c_r1_lo) (decide_eq_true c_r1_hi)).mono ?_
    rintro _ _ ⟨rfl, h⟩
    exact ⟨by simp [e], h⟩
  by_cases c_n_lo : n < 0
  · have e : encSt 2 rd r1 0 n = 1 := by simp [encSt, zeroB, allowB, regB, immB, uRd, uR1, uR2, hasI, loI, hiI, evI] <;> omega
    refine (renc_T_n_lo op rd r1 0 n o f g w hof ho hf hg g0 (decide_eq_false c_rd_lo) (decide_eq_false c_rd_hi) (decide_eq_false c_r1_lo) (decide_eq_false c_r1_hi) (decide_eq_true c_n_lo)).mono ?_
    rintro _ _ ⟨rfl, h⟩
    exact ⟨by simp [e], h⟩
  by_cases c_n_hi : n > 63
  · have e : encSt 2 rd r1 0 n = 1 := by simp [encSt, zeroB, allowB, regB, immB, uRd, uR1, uR2, hasI, loI, hiI, evI] <;> omega
    refine (renc_T_n_hi op rd r1 0 n o f g w hof ho hf hg g0 (decide_eq_false c_rd_lo) (decide_eq_false c_rd_hi) (decide_eq_false c_r1_lo) (decide_eq_false c_r1_hi) (decide_eq_false c_n_lo) (decide_eq_true c_n_hi)).mono ?_
    rintro _ _ ⟨rfl, h⟩
    exact ⟨by simp [e], h⟩
  have e : encSt 2 rd r1 0 n = 0 := by simp [encSt, zeroB, allowB, regB, immB, uRd, uR1, uR2, hasI, loI, hiI, evI] <;> omega
  refine (renc_T_ok op rd r1 0 n o f g w hof ho hf hg g0 (decide_eq_false c_rd_lo) (decide_eq_false c_rd_hi) (decide_eq_false c_r1_lo) (decide_eq_false c_r1_hi) (decide_eq_false c_n_lo) (decide_eq_false c_n_hi)).mono ?_
  rintro _ _ ⟨rfl, h⟩
  exact ⟨by simp [e], h⟩
set_option maxHeartbeats 1000000 in
theorem renc_S (op rd r1 r2 n o f g : Int) (w : World) (hof : ∀ w : World, Calls Tryd.prog 37 #[.int .i64 op] w fun e w' => e = .returned (.agg #[.int .u8 83, .int .i64 o, .int .i64 f, .int .i64 g]) ∧ Below w.heap.size w w')
    (ho : 0 ≤ o ∧ o < 128) (hf : 0 ≤ f ∧ f < 8) (hg : 0 ≤ g ∧ g < 128) (g0 : g = 0) :
    Calls Tryd.prog 26 #[ins op rd r1 r2 n] w fun e w' => e = .returned (.tuple #[.int .u32 (if encSt 3 rd r1 r2 n = 0 then word 3 o f g rd r1 r2 n else 0), .int .i64 (encSt 3 rd r1 r2 n)]) ∧ Below w.heap.size w w' := by
  by_cases z_rd : rd = 0
  rotate_left
  · have e : encSt 3 rd r1 r2 n = 2 := by simp [encSt, zeroB, allowB, regB, immB, uRd, uR1, uR2, hasI, loI, hiI, evI] <;> omega
    refine (renc_S_zrd op rd r1 r2 n o f g w hof ho hf hg g0 (decide_eq_false z_rd)).mono ?_
    rintro _ _ ⟨rfl, h⟩
    exact ⟨by simp [e], h⟩
  subst z_rd
  by_cases c_r1_lo : r1 < 0
  · have e : encSt 3 0 r1 r2 n = 1 := by simp [encSt, zeroB, allowB, regB, immB, uRd, uR1, uR2, hasI, loI, hiI, evI] <;> omega
    refine (renc_S_r1_lo op 0 r1 r2 n o f g w hof ho hf hg g0 (decide_eq_true c_r1_lo)).mono ?_
    rintro _ _ ⟨rfl, h⟩
    exact ⟨by simp [e], h⟩
  by_cases c_r1_hi : r1 > 31
  · have e : encSt 3 0 r1 r2 n = 1 := by simp [encSt, zeroB, allowB, regB, immB, uRd, uR1, uR2, hasI, loI, hiI, evI] <;> omega
    refine (renc_S_r1_hi op 0 r1 r2 n o f g w hof ho hf hg g0 (decide_eq_false c_r1_lo) (decide_eq_true c_r1_hi)).mono ?_
    rintro _ _ ⟨rfl, h⟩
    exact ⟨by simp [e], h⟩
  by_cases c_r2_lo : r2 < 0
  · have e : encSt 3 0 r1 r2 n = 1 := by simp [encSt, zeroB, allowB, regB, immB, uRd, uR1, uR2, hasI, loI, hiI, evI] <;> omega
    refine (renc_S_r2_lo op 0 r1 r2 n o f g w hof ho hf hg g0 (decide_eq_false c_r1_lo) (decide_eq_false c_r1_hi) (decide_eq_true c_r2_lo)).mono ?_
    rintro _ _ ⟨rfl, h⟩
    exact ⟨by simp [e], h⟩
  by_cases c_r2_hi : r2 > 31
  · have e : encSt 3 0 r1 r2 n = 1 := by simp [encSt, zeroB, allowB, regB, immB, uRd, uR1, uR2, hasI, loI, hiI, evI] <;> omega
    refine (renc_S_r2_hi op 0 r1 r2 n o f g w hof ho hf hg g0 (decide_eq_false c_r1_lo) (decide_eq_false c_r1_hi) (decide_eq_false c_r2_lo) (decide_eq_true c_r2_hi)).mono ?_
    rintro _ _ ⟨rfl, h⟩
    exact ⟨by simp [e], h⟩
  by_cases c_n_lo : n < -2048
  · have e : encSt 3 0 r1 r2 n = 1 := by simp [encSt, zeroB, allowB, regB, immB, uRd, uR1, uR2, hasI, loI, hiI, evI] <;> omega
    refine (renc_S_n_lo op 0 r1 r2 n o f g w hof ho hf hg g0 (decide_eq_false c_r1_lo) (decide_eq_false c_r1_hi) (decide_eq_false c_r2_lo) (decide_eq_false c_r2_hi) (decide_eq_true c_n_lo)).mono ?_
    rintro _ _ ⟨rfl, h⟩
    exact ⟨by simp [e], h⟩
  by_cases c_n_hi : n > 2047
  · have e : encSt 3 0 r1 r2 n = 1 := by simp [encSt, zeroB, allowB, regB, immB, uRd, uR1, uR2, hasI, loI, hiI, evI] <;> omega
    refine (renc_S_n_hi op 0 r1 r2 n o f g w hof ho hf hg g0 (decide_eq_false c_r1_lo) (decide_eq_false c_r1_hi) (decide_eq_false c_r2_lo) (decide_eq_false c_r2_hi) (decide_eq_false c_n_lo) (decide_eq_true c_n_hi)).mono ?_
    rintro _ _ ⟨rfl, h⟩
    exact ⟨by simp [e], h⟩
  have e : encSt 3 0 r1 r2 n = 0 := by simp [encSt, zeroB, allowB, regB, immB, uRd, uR1, uR2, hasI, loI, hiI, evI] <;> omega
  refine (renc_S_ok op 0 r1 r2 n o f g w hof ho hf hg g0 (decide_eq_false c_r1_lo) (decide_eq_false c_r1_hi) (decide_eq_false c_r2_lo) (decide_eq_false c_r2_hi) (decide_eq_false c_n_lo) (decide_eq_false c_n_hi)).mono ?_
  rintro _ _ ⟨rfl, h⟩
  exact ⟨by simp [e], h⟩
set_option maxHeartbeats 1000000 in
theorem renc_B (op rd r1 r2 n o f g : Int) (w : World) (hof : ∀ w : World, Calls Tryd.prog 37 #[.int .i64 op] w fun e w' => e = .returned (.agg #[.int .u8 66, .int .i64 o, .int .i64 f, .int .i64 g]) ∧ Below w.heap.size w w')
    (ho : 0 ≤ o ∧ o < 128) (hf : 0 ≤ f ∧ f < 8) (hg : 0 ≤ g ∧ g < 128) (g0 : g = 0) :
    Calls Tryd.prog 26 #[ins op rd r1 r2 n] w fun e w' => e = .returned (.tuple #[.int .u32 (if encSt 4 rd r1 r2 n = 0 then word 4 o f g rd r1 r2 n else 0), .int .i64 (encSt 4 rd r1 r2 n)]) ∧ Below w.heap.size w w' := by
  by_cases z_rd : rd = 0
  rotate_left
  · have e : encSt 4 rd r1 r2 n = 2 := by simp [encSt, zeroB, allowB, regB, immB, uRd, uR1, uR2, hasI, loI, hiI, evI] <;> omega
    refine (renc_B_zrd op rd r1 r2 n o f g w hof ho hf hg g0 (decide_eq_false z_rd)).mono ?_
    rintro _ _ ⟨rfl, h⟩
    exact ⟨by simp [e], h⟩
  subst z_rd
  by_cases c_r1_lo : r1 < 0
  · have e : encSt 4 0 r1 r2 n = 1 := by simp [encSt, zeroB, allowB, regB, immB, uRd, uR1, uR2, hasI, loI, hiI, evI] <;> omega
    refine (renc_B_r1_lo op 0 r1 r2 n o f g w hof ho hf hg g0 (decide_eq_true c_r1_lo)).mono ?_
    rintro _ _ ⟨rfl, h⟩
    exact ⟨by simp [e], h⟩
  by_cases c_r1_hi : r1 > 31
  · have e : encSt 4 0 r1 r2 n = 1 := by simp [encSt, zeroB, allowB, regB, immB, uRd, uR1, uR2, hasI, loI, hiI, evI] <;> omega
    refine (renc_B_r1_hi op 0 r1 r2 n o f g w hof ho hf hg g0 (decide_eq_false c_r1_lo) (decide_eq_true c_r1_hi)).mono ?_
    rintro _ _ ⟨rfl, h⟩
    exact ⟨by simp [e], h⟩
  by_cases c_r2_lo : r2 < 0
  · have e : encSt 4 0 r1 r2 n = 1 := by simp [encSt, zeroB, allowB, regB, immB, uRd, uR1, uR2, hasI, loI, hiI, evI] <;> omega
    refine (renc_B_r2_lo op 0 r1 r2 n o f g w hof ho hf hg g0 (decide_eq_false c_r1_lo) (decide_eq_false c_r1_hi) (decide_eq_true c_r2_lo)).mono ?_
    rintro _ _ ⟨rfl, h⟩
    exact ⟨by simp [e], h⟩
  by_cases c_r2_hi : r2 > 31
  · have e : encSt 4 0 r1 r2 n = 1 := by simp [encSt, zeroB, allowB, regB, immB, uRd, uR1, uR2, hasI, loI, hiI, evI] <;> omega
    refine (renc_B_r2_hi op 0 r1 r2 n o f g w hof ho hf hg g0 (decide_eq_false c_r1_lo) (decide_eq_false c_r1_hi) (decide_eq_false c_r2_lo) (decide_eq_true c_r2_hi)).mono ?_
    rintro _ _ ⟨rfl, h⟩
    exact ⟨by simp [e], h⟩
  by_cases c_n_lo : n < -4096
  · have e : encSt 4 0 r1 r2 n = 1 := by simp [encSt, zeroB, allowB, regB, immB, uRd, uR1, uR2, hasI, loI, hiI, evI] <;> omega
    refine (renc_B_n_lo op 0 r1 r2 n o f g w hof ho hf hg g0 (decide_eq_false c_r1_lo) (decide_eq_false c_r1_hi) (decide_eq_false c_r2_lo) (decide_eq_false c_r2_hi) (decide_eq_true c_n_lo)).mono ?_
    rintro _ _ ⟨rfl, h⟩
    exact ⟨by simp [e], h⟩
  by_cases c_n_hi : n > 4094
  · have e : encSt 4 0 r1 r2 n = 1 := by simp [encSt, zeroB, allowB, regB, immB, uRd, uR1, uR2, hasI, loI, hiI, evI] <;> omega
    refine (renc_B_n_hi op 0 r1 r2 n o f g w hof ho hf hg g0 (decide_eq_false c_r1_lo) (decide_eq_false c_r1_hi) (decide_eq_false c_r2_lo) (decide_eq_false c_r2_hi) (decide_eq_false c_n_lo) (decide_eq_true c_n_hi)).mono ?_
    rintro _ _ ⟨rfl, h⟩
    exact ⟨by simp [e], h⟩
  by_cases c_n_odd : n % 2 = 0
  rotate_left
  · have e : encSt 4 0 r1 r2 n = 1 := by simp [encSt, zeroB, allowB, regB, immB, uRd, uR1, uR2, hasI, loI, hiI, evI] <;> omega
    refine (renc_B_n_odd op 0 r1 r2 n o f g w hof ho hf hg g0 (decide_eq_false c_r1_lo) (decide_eq_false c_r1_hi) (decide_eq_false c_r2_lo) (decide_eq_false c_r2_hi) (decide_eq_false c_n_lo) (decide_eq_false c_n_hi) (decide_eq_false (fun h => c_n_odd ((tm2 n).1 h)))).mono ?_
    rintro _ _ ⟨rfl, h⟩
    exact ⟨by simp [e], h⟩
  have e : encSt 4 0 r1 r2 n = 0 := by simp [encSt, zeroB, allowB, regB, immB, uRd, uR1, uR2, hasI, loI, hiI, evI] <;> omega
  refine (renc_B_ok op 0 r1 r2 n o f g w hof ho hf hg g0 (decide_eq_false c_r1_lo) (decide_eq_false c_r1_hi) (decide_eq_false c_r2_lo) (decide_eq_false c_r2_hi) (decide_eq_false c_n_lo) (decide_eq_false c_n_hi) (decide_eq_true ((tm2 n).2 c_n_odd))).mono ?_
  rintro _ _ ⟨rfl, h⟩
  exact ⟨by simp [e], h⟩
set_option maxHeartbeats 1000000 in
theorem renc_U (op rd r1 r2 n o f g : Int) (w : World) (hof : ∀ w : World, Calls Tryd.prog 37 #[.int .i64 op] w fun e w' => e = .returned (.agg #[.int .u8 85, .int .i64 o, .int .i64 f, .int .i64 g]) ∧ Below w.heap.size w w')
    (ho : 0 ≤ o ∧ o < 128) (hf : 0 ≤ f ∧ f < 8) (hg : 0 ≤ g ∧ g < 128) (g0 : g = 0) (f0 : f = 0) :
    Calls Tryd.prog 26 #[ins op rd r1 r2 n] w fun e w' => e = .returned (.tuple #[.int .u32 (if encSt 5 rd r1 r2 n = 0 then word 5 o f g rd r1 r2 n else 0), .int .i64 (encSt 5 rd r1 r2 n)]) ∧ Below w.heap.size w w' := by
  by_cases z_r1 : r1 = 0
  rotate_left
  · have e : encSt 5 rd r1 r2 n = 2 := by simp [encSt, zeroB, allowB, regB, immB, uRd, uR1, uR2, hasI, loI, hiI, evI] <;> omega
    refine (renc_U_zr1 op rd r1 r2 n o f g w hof ho hf hg g0 f0 (decide_eq_false z_r1)).mono ?_
    rintro _ _ ⟨rfl, h⟩
    exact ⟨by simp [e], h⟩
  subst z_r1
  by_cases z_r2 : r2 = 0
  rotate_left
  · have e : encSt 5 rd 0 r2 n = 2 := by simp [encSt, zeroB, allowB, regB, immB, uRd, uR1, uR2, hasI, loI, hiI, evI] <;> omega
    refine (renc_U_zr2 op rd 0 r2 n o f g w hof ho hf hg g0 f0 (decide_eq_false z_r2)).mono ?_
    rintro _ _ ⟨rfl, h⟩
    exact ⟨by simp [e], h⟩
  subst z_r2
  by_cases c_rd_lo : rd < 0
  · have e : encSt 5 rd 0 0 n = 1 := by simp [encSt, zeroB, allowB, regB, immB, uRd, uR1, uR2, hasI, loI, hiI, evI] <;> omega
    refine (renc_U_rd_lo op rd 0 0 n o f g w hof ho hf hg g0 f0 (decide_eq_true c_rd_lo)).mono ?_
    rintro _ _ ⟨rfl, h⟩
    exact ⟨by simp [e], h⟩
  by_cases c_rd_hi : rd > 31
  · have e : encSt 5 rd 0 0 n = 1 := by simp [encSt, zeroB, allowB, regB, immB, uRd, uR1, uR2, hasI, loI, hiI, evI] <;> omega
    refine (renc_U_rd_hi op rd 0 0 n o f g w hof ho hf hg g0 f0 (decide_eq_false c_rd_lo) (decide_eq_true c_rd_hi)).mono ?_
    rintro _ _ ⟨rfl, h⟩
    exact ⟨by simp [e], h⟩
  by_cases c_n_lo : n < -524288
  · have e : encSt 5 rd 0 0 n = 1 := by simp [encSt, zeroB, allowB, regB, immB, uRd, uR1, uR2, hasI, loI, hiI, evI] <;> omega
    refine (renc_U_n_lo op rd 0 0 n o f g w hof ho hf hg g0 f0 (decide_eq_false c_rd_lo) (decide_eq_false c_rd_hi) (decide_eq_true c_n_lo)).mono ?_
    rintro _ _ ⟨rfl, h⟩
    exact ⟨by simp [e], h⟩
  by_cases c_n_hi : n > 524287
  · have e : encSt 5 rd 0 0 n = 1 := by simp [encSt, zeroB, allowB, regB, immB, uRd, uR1, uR2, hasI, loI, hiI, evI] <;> omega
    refine (renc_U_n_hi op rd 0 0 n o f g w hof ho hf hg g0 f0 (decide_eq_false c_rd_lo) (decide_eq_false c_rd_hi) (decide_eq_false c_n_lo) (decide_eq_true c_n_hi)).mono ?_
    rintro _ _ ⟨rfl, h⟩
    exact ⟨by simp [e], h⟩
  have e : encSt 5 rd 0 0 n = 0 := by simp [encSt, zeroB, allowB, regB, immB, uRd, uR1, uR2, hasI, loI, hiI, evI] <;> omega
  refine (renc_U_ok op rd 0 0 n o f g w hof ho hf hg g0 f0 (decide_eq_false c_rd_lo) (decide_eq_false c_rd_hi) (decide_eq_false c_n_lo) (decide_eq_false c_n_hi)).mono ?_
  rintro _ _ ⟨rfl, h⟩
  exact ⟨by simp [e], h⟩
set_option maxHeartbeats 1000000 in
theorem renc_J (op rd r1 r2 n o f g : Int) (w : World) (hof : ∀ w : World, Calls Tryd.prog 37 #[.int .i64 op] w fun e w' => e = .returned (.agg #[.int .u8 74, .int .i64 o, .int .i64 f, .int .i64 g]) ∧ Below w.heap.size w w')
    (ho : 0 ≤ o ∧ o < 128) (hf : 0 ≤ f ∧ f < 8) (hg : 0 ≤ g ∧ g < 128) (g0 : g = 0) (f0 : f = 0) :
    Calls Tryd.prog 26 #[ins op rd r1 r2 n] w fun e w' => e = .returned (.tuple #[.int .u32 (if encSt 6 rd r1 r2 n = 0 then word 6 o f g rd r1 r2 n else 0), .int .i64 (encSt 6 rd r1 r2 n)]) ∧ Below w.heap.size w w' := by
  by_cases z_r1 : r1 = 0
  rotate_left
  · have e : encSt 6 rd r1 r2 n = 2 := by simp [encSt, zeroB, allowB, regB, immB, uRd, uR1, uR2, hasI, loI, hiI, evI] <;> omega
    refine (renc_J_zr1 op rd r1 r2 n o f g w hof ho hf hg g0 f0 (decide_eq_false z_r1)).mono ?_
    rintro _ _ ⟨rfl, h⟩
    exact ⟨by simp [e], h⟩
  subst z_r1
  by_cases z_r2 : r2 = 0
  rotate_left
  · have e : encSt 6 rd 0 r2 n = 2 := by simp [encSt, zeroB, allowB, regB, immB, uRd, uR1, uR2, hasI, loI, hiI, evI] <;> omega
    refine (renc_J_zr2 op rd 0 r2 n o f g w hof ho hf hg g0 f0 (decide_eq_false z_r2)).mono ?_
    rintro _ _ ⟨rfl, h⟩
    exact ⟨by simp [e], h⟩
  subst z_r2
  by_cases c_rd_lo : rd < 0
  · have e : encSt 6 rd 0 0 n = 1 := by simp [encSt, zeroB, allowB, regB, immB, uRd, uR1, uR2, hasI, loI, hiI, evI] <;> omega
    refine (renc_J_rd_lo op rd 0 0 n o f g w hof ho hf hg g0 f0 (decide_eq_true c_rd_lo)).mono ?_
    rintro _ _ ⟨rfl, h⟩
    exact ⟨by simp [e], h⟩
  by_cases c_rd_hi : rd > 31
  · have e : encSt 6 rd 0 0 n = 1 := by simp [encSt, zeroB, allowB, regB, immB, uRd, uR1, uR2, hasI, loI, hiI, evI] <;> omega
    refine (renc_J_rd_hi op rd 0 0 n o f g w hof ho hf hg g0 f0 (decide_eq_false c_rd_lo) (decide_eq_true c_rd_hi)).mono ?_
    rintro _ _ ⟨rfl, h⟩
    exact ⟨by simp [e], h⟩
  by_cases c_n_lo : n < -1048576
  · have e : encSt 6 rd 0 0 n = 1 := by simp [encSt, zeroB, allowB, regB, immB, uRd, uR1, uR2, hasI, loI, hiI, evI] <;> omega
    refine (renc_J_n_lo op rd 0 0 n o f g w hof ho hf hg g0 f0 (decide_eq_false c_rd_lo) (decide_eq_false c_rd_hi) (decide_eq_true c_n_lo)).mono ?_
    rintro _ _ ⟨rfl, h⟩
    exact ⟨by simp [e], h⟩
  by_cases c_n_hi : n > 1048574
  · have e : encSt 6 rd 0 0 n = 1 := by simp [encSt, zeroB, allowB, regB, immB, uRd, uR1, uR2, hasI, loI, hiI, evI] <;> omega
    refine (renc_J_n_hi op rd 0 0 n o f g w hof ho hf hg g0 f0 (decide_eq_false c_rd_lo) (decide_eq_false c_rd_hi) (decide_eq_false c_n_lo) (decide_eq_true c_n_hi)).mono ?_
    rintro _ _ ⟨rfl, h⟩
    exact ⟨by simp [e], h⟩
  by_cases c_n_odd : n % 2 = 0
  rotate_left
  · have e : encSt 6 rd 0 0 n = 1 := by simp [encSt, zeroB, allowB, regB, immB, uRd, uR1, uR2, hasI, loI, hiI, evI] <;> omega
    refine (renc_J_n_odd op rd 0 0 n o f g w hof ho hf hg g0 f0 (decide_eq_false c_rd_lo) (decide_eq_false c_rd_hi) (decide_eq_false c_n_lo) (decide_eq_false c_n_hi) (decide_eq_false (fun h => c_n_odd ((tm2 n).1 h)))).mono ?_
    rintro _ _ ⟨rfl, h⟩
    exact ⟨by simp [e], h⟩
  have e : encSt 6 rd 0 0 n = 0 := by simp [encSt, zeroB, allowB, regB, immB, uRd, uR1, uR2, hasI, loI, hiI, evI] <;> omega
  refine (renc_J_ok op rd 0 0 n o f g w hof ho hf hg g0 f0 (decide_eq_false c_rd_lo) (decide_eq_false c_rd_hi) (decide_eq_false c_n_lo) (decide_eq_false c_n_hi) (decide_eq_true ((tm2 n).2 c_n_odd))).mono ?_
  rintro _ _ ⟨rfl, h⟩
  exact ⟨by simp [e], h⟩
set_option maxHeartbeats 1000000 in
theorem renc_N (op rd r1 r2 n o f g : Int) (w : World) (hof : ∀ w : World, Calls Tryd.prog 37 #[.int .i64 op] w fun e w' => e = .returned (.agg #[.int .u8 78, .int .i64 o, .int .i64 f, .int .i64 g]) ∧ Below w.heap.size w w')
    (ho : 0 ≤ o ∧ o < 128) (hf : 0 ≤ f ∧ f < 8) (hg : 0 ≤ g ∧ g < 128) (g0 : g = 0) (f0 : f = 0) :
    Calls Tryd.prog 26 #[ins op rd r1 r2 n] w fun e w' => e = .returned (.tuple #[.int .u32 (if encSt 7 rd r1 r2 n = 0 then word 7 o f g rd r1 r2 n else 0), .int .i64 (encSt 7 rd r1 r2 n)]) ∧ Below w.heap.size w w' := by
  by_cases z_rd : rd = 0
  rotate_left
  · have e : encSt 7 rd r1 r2 n = 2 := by simp [encSt, zeroB, allowB, regB, immB, uRd, uR1, uR2, hasI, loI, hiI, evI] <;> omega
    refine (renc_N_zrd op rd r1 r2 n o f g w hof ho hf hg g0 f0 (decide_eq_false z_rd)).mono ?_
    rintro _ _ ⟨rfl, h⟩
    exact ⟨by simp [e], h⟩
  subst z_rd
  by_cases z_r1 : r1 = 0
  rotate_left
  · have e : encSt 7 0 r1 r2 n = 2 := by simp [encSt, zeroB, allowB, regB, immB, uRd, uR1, uR2, hasI, loI, hiI, evI] <;> omega
    refine (renc_N_zr1 op 0 r1 r2 n o f g w hof ho hf hg g0 f0 (decide_eq_false z_r1)).mono ?_
    rintro _ _ ⟨rfl, h⟩
    exact ⟨by simp [e], h⟩
  subst z_r1
  by_cases z_r2 : r2 = 0
  rotate_left
  · have e : encSt 7 0 0 r2 n = 2 := by simp [encSt, zeroB, allowB, regB, immB, uRd, uR1, uR2, hasI, loI, hiI, evI] <;> omega
    refine (renc_N_zr2 op 0 0 r2 n o f g w hof ho hf hg g0 f0 (decide_eq_false z_r2)).mono ?_
    rintro _ _ ⟨rfl, h⟩
    exact ⟨by simp [e], h⟩
  subst z_r2
  by_cases z_n : n = 0
  rotate_left
  · have e : encSt 7 0 0 0 n = 2 := by simp [encSt, zeroB, allowB, regB, immB, uRd, uR1, uR2, hasI, loI, hiI, evI] <;> omega
    refine (renc_N_zn op 0 0 0 n o f g w hof ho hf hg g0 f0 (decide_eq_false z_n)).mono ?_
    rintro _ _ ⟨rfl, h⟩
    exact ⟨by simp [e], h⟩
  subst z_n
  have e : encSt 7 0 0 0 0 = 0 := by simp [encSt, zeroB, allowB, regB, immB, uRd, uR1, uR2, hasI, loI, hiI, evI] <;> omega
  refine (renc_N_ok op 0 0 0 0 o f g w hof ho hf hg g0 f0).mono ?_
  rintro _ _ ⟨rfl, h⟩
  exact ⟨by simp [e], h⟩
set_option maxRecDepth 100000 in
set_option maxHeartbeats 4000000 in
theorem renc_none (op rd r1 r2 n : Int) (w : World) (hof : ∀ w : World, Calls Tryd.prog 37 #[.int .i64 op] w fun e w' => e = .returned (.agg #[.int .u8 0, .int .i64 0, .int .i64 0, .int .i64 0]) ∧ Below w.heap.size w w') :
    Calls Tryd.prog 26 #[ins op rd r1 r2 n] w fun e w' => e = .returned (.tuple #[.int .u32 0, .int .i64 2]) ∧ Below w.heap.size w w' := by
  go_enter Tryd.func26, Tryd.ntmps26
  go_wp2_with (first | (go_at_call 37; refine (hof _).mono ?_; rintro e w1 ⟨rfl, hb⟩; obtain ⟨hz, hlt, hne, q0, q1, q2, q3, q4⟩ := box_after hb) | (go_at_call 38; refine (room_0 _).mono ?_; rintro e w2 ⟨rfl, rfl⟩))
  go_quiet (fail)
  go_wp2_with (first | (go_at_call 37; refine (hof _).mono ?_; rintro e w1 ⟨rfl, hb⟩; obtain ⟨hz, hlt, hne, q0, q1, q2, q3, q4⟩ := box_after hb) | (go_at_call 38; refine (room_0 _).mono ?_; rintro e w2 ⟨rfl, rfl⟩))
  go_ret2
  refine ⟨rfl, ?_⟩
  first | exact belowQ _ (below_end hb) | exact belowQ _ (belowQ _ (below_end hb)) | exact belowQ _ (belowQ _ (belowQ _ (below_end hb)))
theorem renc_any (op rd r1 r2 n : Int) (w : World) :
    Calls Tryd.prog 26 #[ins op rd r1 r2 n] w fun e w' => e = .returned (.tuple #[.int .u32 (encW op rd r1 r2 n), .int .i64 (encS op rd r1 r2 n)]) ∧ Below w.heap.size w w' := by
  by_cases h : 1 ≤ op ∧ op ≤ 55
  · have hof : ∀ w : World, Calls Tryd.prog 37 #[.int .i64 op] w fun e w' => e = .returned (rowV (rowOf op)) ∧ Below w.heap.size w w' := fun w => of_any op w h.1 h.2
    have hok := rowOf_ok op h.1 h.2
    have hs : encS op rd r1 r2 n = encSt (rowOf op).1 rd r1 r2 n := by unfold encS; rw [if_pos h]
    have hw : encW op rd r1 r2 n = if encSt (rowOf op).1 rd r1 r2 n = 0 then word (rowOf op).1 (rowOf op).2.1 (rowOf op).2.2.1 (rowOf op).2.2.2 rd r1 r2 n else 0 := by unfold encW; rw [hs]
    rw [hs, hw]
    clear hs hw
    generalize rowOf op = r at *
    obtain ⟨k, o, f, g⟩ := r
    obtain ⟨hk, o1, o2, f1, f2, g1, g2, e1, e2, e3⟩ := okRow_out hok
    rcases hk with hk | hk | hk | hk | hk | hk | hk | hk <;> simp only at hk <;> subst hk
    · exact renc_R op rd r1 r2 n o f g w hof ⟨o1, o2⟩ ⟨f1, f2⟩ ⟨g1, g2⟩
    · exact renc_I op rd r1 r2 n o f g w hof ⟨o1, o2⟩ ⟨f1, f2⟩ ⟨g1, g2⟩ (by simp at e1; exact e1)
    · exact renc_T op rd r1 r2 n o f g w hof ⟨o1, o2⟩ ⟨f1, f2⟩ ⟨g1, g2⟩ (e3 rfl)
    · exact renc_S op rd r1 r2 n o f g w hof ⟨o1, o2⟩ ⟨f1, f2⟩ ⟨g1, g2⟩ (by simp at e1; exact e1)
    · exact renc_B op rd r1 r2 n o f g w hof ⟨o1, o2⟩ ⟨f1, f2⟩ ⟨g1, g2⟩ (by simp at e1; exact e1)
    · exact renc_U op rd r1 r2 n o f g w hof ⟨o1, o2⟩ ⟨f1, f2⟩ ⟨g1, g2⟩ (by simp at e1; exact e1) (by simp at e2; exact e2)
    · exact renc_J op rd r1 r2 n o f g w hof ⟨o1, o2⟩ ⟨f1, f2⟩ ⟨g1, g2⟩ (by simp at e1; exact e1) (by simp at e2; exact e2)
    · exact renc_N op rd r1 r2 n o f g w hof ⟨o1, o2⟩ ⟨f1, f2⟩ ⟨g1, g2⟩ (by simp at e1; exact e1) (by simp at e2; exact e2)
  · have hs : encS op rd r1 r2 n = 2 := by unfold encS; rw [if_neg h]
    have hw : encW op rd r1 r2 n = 0 := by unfold encW; rw [hs]; rfl
    rw [hs, hw]
    refine renc_none op rd r1 r2 n w fun w => ?_
    by_cases h1 : op < 1
    · exact of_lo op w h1
    · exact of_hi op w (by omega)
end Go.Proofs.YtppcbommaddkgaaDoor
