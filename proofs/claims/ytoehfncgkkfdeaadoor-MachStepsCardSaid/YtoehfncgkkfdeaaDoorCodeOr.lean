/- Chapter 2: the code's own way to a word, by or of pieces, is the sum of its fields. Plain arithmetic; no program. Conditions: those that each theorem names. -/
import Derived.Test.YtoehfncgkkfdeaaDoorCodePlain
namespace Go.Proofs.YtoehfncgkkfdeaaDoor
namespace Pc
set_option linter.unusedVariables false
set_option linter.unusedSimpArgs false

/-! ### the code's own way to a word: or -/
def pcs (k : Int) : List (Nat × Nat × Nat) :=
  if k = 1 then [(0, 20, 12), (0, 0, 0), (0, 0, 0), (0, 0, 0)] else if k = 2 then [(0, 20, 6), (0, 0, 0), (0, 0, 0), (0, 0, 0)]
  else if k = 3 then [(0, 7, 5), (5, 25, 7), (0, 0, 0), (0, 0, 0)] else if k = 4 then [(11, 7, 1), (1, 8, 4), (5, 25, 6), (12, 31, 1)]
  else if k = 5 then [(0, 12, 20), (0, 0, 0), (0, 0, 0), (0, 0, 0)] else if k = 6 then [(12, 12, 8), (11, 20, 1), (1, 21, 10), (20, 31, 1)]
  else [(0, 0, 0), (0, 0, 0), (0, 0, 0), (0, 0, 0)]
def putP (p : Nat × Nat × Nat) (n : Int) : Int := putV p.1 p.2.1 p.2.2 n
def takeP (p : Nat × Nat × Nat) (w : Int) : Int := takeV p.1 p.2.1 p.2.2 w
def packV (k rd r1 r2 n : Int) : Int :=
  orI (orI (orI (orI (orI (orI (rd * 128) (r1 * 32768)) (r2 * 1048576)) (putP ((pcs k).getD 0 (0, 0, 0)) n)) (putP ((pcs k).getD 1 (0, 0, 0)) n)) (putP ((pcs k).getD 2 (0, 0, 0)) n)) (putP ((pcs k).getD 3 (0, 0, 0)) n)
def keyV (opc f3 f7 : Int) : Int := orI (orI opc (f3 * 4096)) (f7 * 33554432)
theorem put0 (n : Int) : putV 0 0 0 n = 0 := by simp [putV]
theorem put_a (n : Int) : putV 0 20 12 n = n % 4096 * 1048576 := by simp [putV]
theorem put_b (n : Int) : putV 0 20 6 n = n % 64 * 1048576 := by simp [putV]
theorem put_c (n : Int) : putV 0 7 5 n = n % 32 * 128 := by simp [putV]
theorem put_d (n : Int) : putV 5 25 7 n = n / 32 % 128 * 33554432 := by simp [putV]
theorem put_e (n : Int) : putV 11 7 1 n = n / 2048 % 2 * 128 := by simp [putV]
theorem put_f (n : Int) : putV 1 8 4 n = n / 2 % 16 * 256 := by simp [putV]
theorem put_g (n : Int) : putV 5 25 6 n = n / 32 % 64 * 33554432 := by simp [putV]
theorem put_h (n : Int) : putV 12 31 1 n = n / 4096 % 2 * 2147483648 := by simp [putV]
theorem put_i (n : Int) : putV 0 12 20 n = n % 1048576 * 4096 := by simp [putV]
theorem put_j (n : Int) : putV 12 12 8 n = n / 4096 % 256 * 4096 := by simp [putV]
theorem put_k (n : Int) : putV 11 20 1 n = n / 2048 % 2 * 1048576 := by simp [putV]
theorem put_l (n : Int) : putV 1 21 10 n = n / 2 % 1024 * 2097152 := by simp [putV]
theorem put_m (n : Int) : putV 20 31 1 n = n / 1048576 % 2 * 2147483648 := by simp [putV]
set_option maxHeartbeats 2000000 in
theorem or_word (k opc f3 f7 rd r1 r2 n : Int) (hrow : okRow k opc f3 f7 = true) (h : encSt k rd r1 r2 n = 0) :
    orI (keyV opc f3 f7) (packV k rd r1 r2 n) = word k opc f3 f7 rd r1 r2 n := by
  obtain ⟨hk, ho⟩ := okRow_out hrow
  have hz : zeroB k rd r1 r2 n = true := by
    cases hz : zeroB k rd r1 r2 n
    · simp [encSt, hz] at h
    · rfl
  have ha : allowB k rd r1 r2 n = true := by
    cases ha : allowB k rd r1 r2 n
    · simp [encSt, hz, ha] at h
    · rfl
  clear h hrow
  obtain ⟨ho0, ho1, hf0, hf1, hg0, hg1, ho2⟩ := ho
  rcases hk with rfl | rfl | rfl | rfl | rfl | rfl | rfl | rfl
  · simp [zeroB, uRd, uR1, uR2, hasI] at hz
    simp [allowB, regB, immB, loI, hiI, evI, hasI] at ha
    show orI (orI (orI opc (f3 * 4096)) (f7 * 33554432)) (orI (orI (orI (orI (orI (orI (rd * 128) (r1 * 32768)) (r2 * 1048576)) (putV 0 0 0 n)) (putV 0 0 0 n)) (putV 0 0 0 n)) (putV 0 0 0 n)) = opc + rd * 128 + f3 * 4096 + r1 * 32768 + r2 * 1048576 + f7 * 33554432 + 0
    simp only [put0, put_a, put_b, put_c, put_d, put_e, put_f, put_g, put_h, put_i, put_j, put_k, put_l, put_m]
    subst hz
    simp only [orI_zero, orI_nonneg]
    refine Eq.trans (b := orI (orI (orI (orI (orI (opc) (rd * 128)) (f3 * 4096)) (r1 * 32768)) (r2 * 1048576)) (f7 * 33554432)) (by ac_rfl) ?_
    rw [orI_add (opc) rd 128 7 (by rfl) (by omega) (by omega) (by omega)]
    rw [orI_add (opc + rd * 128) f3 4096 12 (by rfl) (by omega) (by omega) (by omega)]
    rw [orI_add (opc + rd * 128 + f3 * 4096) r1 32768 15 (by rfl) (by omega) (by omega) (by omega)]
    rw [orI_add (opc + rd * 128 + f3 * 4096 + r1 * 32768) r2 1048576 20 (by rfl) (by omega) (by omega) (by omega)]
    rw [orI_add (opc + rd * 128 + f3 * 4096 + r1 * 32768 + r2 * 1048576) f7 33554432 25 (by rfl) (by omega) (by omega) (by omega)]
    try omega
  · simp [zeroB, uRd, uR1, uR2, hasI] at hz
    simp [allowB, regB, immB, loI, hiI, evI, hasI] at ha
    show orI (orI (orI opc (f3 * 4096)) (f7 * 33554432)) (orI (orI (orI (orI (orI (orI (rd * 128) (r1 * 32768)) (r2 * 1048576)) (putV 0 20 12 n)) (putV 0 0 0 n)) (putV 0 0 0 n)) (putV 0 0 0 n)) = opc + rd * 128 + f3 * 4096 + r1 * 32768 + r2 * 1048576 + f7 * 33554432 + n % 4096 * 1048576
    simp only [put0, put_a, put_b, put_c, put_d, put_e, put_f, put_g, put_h, put_i, put_j, put_k, put_l, put_m]
    subst hz
    obtain rfl : f7 = 0 := by omega
    simp only [Int.zero_mul, orI_zero, zero_orI, orI_nonneg, ho0, Int.le_refl]
    refine Eq.trans (b := orI (orI (orI (orI (opc) (rd * 128)) (f3 * 4096)) (r1 * 32768)) ((n % 4096) * 1048576)) (by ac_rfl) ?_
    rw [orI_add (opc) rd 128 7 (by rfl) (by omega) (by omega) (by omega)]
    rw [orI_add (opc + rd * 128) f3 4096 12 (by rfl) (by omega) (by omega) (by omega)]
    rw [orI_add (opc + rd * 128 + f3 * 4096) r1 32768 15 (by rfl) (by omega) (by omega) (by omega)]
    rw [orI_add (opc + rd * 128 + f3 * 4096 + r1 * 32768) (n % 4096) 1048576 20 (by rfl) (by omega) (by omega) (by omega)]
    try omega
  · simp [zeroB, uRd, uR1, uR2, hasI] at hz
    simp [allowB, regB, immB, loI, hiI, evI, hasI] at ha
    show orI (orI (orI opc (f3 * 4096)) (f7 * 33554432)) (orI (orI (orI (orI (orI (orI (rd * 128) (r1 * 32768)) (r2 * 1048576)) (putV 0 20 6 n)) (putV 0 0 0 n)) (putV 0 0 0 n)) (putV 0 0 0 n)) = opc + rd * 128 + f3 * 4096 + r1 * 32768 + r2 * 1048576 + f7 * 33554432 + n % 64 * 1048576
    simp only [put0, put_a, put_b, put_c, put_d, put_e, put_f, put_g, put_h, put_i, put_j, put_k, put_l, put_m]
    subst hz
    rw [show f7 * 33554432 = f7 / 2 * 67108864 by omega]
    simp only [Int.zero_mul, orI_zero, zero_orI, orI_nonneg, ho0, Int.le_refl]
    refine Eq.trans (b := orI (orI (orI (orI (orI (opc) (rd * 128)) (f3 * 4096)) (r1 * 32768)) ((n % 64) * 1048576)) ((f7 / 2) * 67108864)) (by ac_rfl) ?_
    rw [orI_add (opc) rd 128 7 (by rfl) (by omega) (by omega) (by omega)]
    rw [orI_add (opc + rd * 128) f3 4096 12 (by rfl) (by omega) (by omega) (by omega)]
    rw [orI_add (opc + rd * 128 + f3 * 4096) r1 32768 15 (by rfl) (by omega) (by omega) (by omega)]
    rw [orI_add (opc + rd * 128 + f3 * 4096 + r1 * 32768) (n % 64) 1048576 20 (by rfl) (by omega) (by omega) (by omega)]
    rw [orI_add (opc + rd * 128 + f3 * 4096 + r1 * 32768 + (n % 64) * 1048576) (f7 / 2) 67108864 26 (by rfl) (by omega) (by omega) (by omega)]
    try omega
  · simp [zeroB, uRd, uR1, uR2, hasI] at hz
    simp [allowB, regB, immB, loI, hiI, evI, hasI] at ha
    show orI (orI (orI opc (f3 * 4096)) (f7 * 33554432)) (orI (orI (orI (orI (orI (orI (rd * 128) (r1 * 32768)) (r2 * 1048576)) (putV 0 7 5 n)) (putV 5 25 7 n)) (putV 0 0 0 n)) (putV 0 0 0 n)) = opc + rd * 128 + f3 * 4096 + r1 * 32768 + r2 * 1048576 + f7 * 33554432 + (n % 32 * 128 + n / 32 % 128 * 33554432)
    simp only [put0, put_a, put_b, put_c, put_d, put_e, put_f, put_g, put_h, put_i, put_j, put_k, put_l, put_m]
    subst hz
    obtain rfl : f7 = 0 := by omega
    have q1 : 0 ≤ r1 * 32768 := by omega
    simp only [Int.zero_mul, orI_zero, zero_orI, orI_nonneg, ho0, Int.le_refl, q1]
    refine Eq.trans (b := orI (orI (orI (orI (orI (opc) ((n % 32) * 128)) (f3 * 4096)) (r1 * 32768)) (r2 * 1048576)) ((n / 32 % 128) * 33554432)) (by ac_rfl) ?_
    rw [orI_add (opc) (n % 32) 128 7 (by rfl) (by omega) (by omega) (by omega)]
    rw [orI_add (opc + (n % 32) * 128) f3 4096 12 (by rfl) (by omega) (by omega) (by omega)]
    rw [orI_add (opc + (n % 32) * 128 + f3 * 4096) r1 32768 15 (by rfl) (by omega) (by omega) (by omega)]
    rw [orI_add (opc + (n % 32) * 128 + f3 * 4096 + r1 * 32768) r2 1048576 20 (by rfl) (by omega) (by omega) (by omega)]
    rw [orI_add (opc + (n % 32) * 128 + f3 * 4096 + r1 * 32768 + r2 * 1048576) (n / 32 % 128) 33554432 25 (by rfl) (by omega) (by omega) (by omega)]
    try omega
  · simp [zeroB, uRd, uR1, uR2, hasI] at hz
    simp [allowB, regB, immB, loI, hiI, evI, hasI] at ha
    show orI (orI (orI opc (f3 * 4096)) (f7 * 33554432)) (orI (orI (orI (orI (orI (orI (rd * 128) (r1 * 32768)) (r2 * 1048576)) (putV 11 7 1 n)) (putV 1 8 4 n)) (putV 5 25 6 n)) (putV 12 31 1 n)) = opc + rd * 128 + f3 * 4096 + r1 * 32768 + r2 * 1048576 + f7 * 33554432 + (n / 2048 % 2 * 128 + n / 2 % 16 * 256 + n / 32 % 64 * 33554432 + n / 4096 % 2 * 2147483648)
    simp only [put0, put_a, put_b, put_c, put_d, put_e, put_f, put_g, put_h, put_i, put_j, put_k, put_l, put_m]
    subst hz
    obtain rfl : f7 = 0 := by omega
    have q1 : 0 ≤ r1 * 32768 := by omega
    simp only [Int.zero_mul, orI_zero, zero_orI, orI_nonneg, ho0, Int.le_refl, q1]
    refine Eq.trans (b := orI (orI (orI (orI (orI (orI (orI (opc) ((n / 2048 % 2) * 128)) ((n / 2 % 16) * 256)) (f3 * 4096)) (r1 * 32768)) (r2 * 1048576)) ((n / 32 % 64) * 33554432)) ((n / 4096 % 2) * 2147483648)) (by ac_rfl) ?_
    rw [orI_add (opc) (n / 2048 % 2) 128 7 (by rfl) (by omega) (by omega) (by omega)]
    rw [orI_add (opc + (n / 2048 % 2) * 128) (n / 2 % 16) 256 8 (by rfl) (by omega) (by omega) (by omega)]
    rw [orI_add (opc + (n / 2048 % 2) * 128 + (n / 2 % 16) * 256) f3 4096 12 (by rfl) (by omega) (by omega) (by omega)]
    rw [orI_add (opc + (n / 2048 % 2) * 128 + (n / 2 % 16) * 256 + f3 * 4096) r1 32768 15 (by rfl) (by omega) (by omega) (by omega)]
    rw [orI_add (opc + (n / 2048 % 2) * 128 + (n / 2 % 16) * 256 + f3 * 4096 + r1 * 32768) r2 1048576 20 (by rfl) (by omega) (by omega) (by omega)]
    rw [orI_add (opc + (n / 2048 % 2) * 128 + (n / 2 % 16) * 256 + f3 * 4096 + r1 * 32768 + r2 * 1048576) (n / 32 % 64) 33554432 25 (by rfl) (by omega) (by omega) (by omega)]
    rw [orI_add (opc + (n / 2048 % 2) * 128 + (n / 2 % 16) * 256 + f3 * 4096 + r1 * 32768 + r2 * 1048576 + (n / 32 % 64) * 33554432) (n / 4096 % 2) 2147483648 31 (by rfl) (by omega) (by omega) (by omega)]
    try omega
  · simp [zeroB, uRd, uR1, uR2, hasI] at hz
    simp [allowB, regB, immB, loI, hiI, evI, hasI] at ha
    show orI (orI (orI opc (f3 * 4096)) (f7 * 33554432)) (orI (orI (orI (orI (orI (orI (rd * 128) (r1 * 32768)) (r2 * 1048576)) (putV 0 12 20 n)) (putV 0 0 0 n)) (putV 0 0 0 n)) (putV 0 0 0 n)) = opc + rd * 128 + f3 * 4096 + r1 * 32768 + r2 * 1048576 + f7 * 33554432 + n % 1048576 * 4096
    simp only [put0, put_a, put_b, put_c, put_d, put_e, put_f, put_g, put_h, put_i, put_j, put_k, put_l, put_m]
    obtain ⟨rfl, rfl⟩ := hz
    obtain rfl : f7 = 0 := by omega
    obtain rfl : f3 = 0 := by omega
    have q1 : 0 ≤ rd * 128 := by omega
    simp only [Int.zero_mul, orI_zero, zero_orI, orI_nonneg, ho0, Int.le_refl, q1]
    refine Eq.trans (b := orI (orI (opc) (rd * 128)) ((n % 1048576) * 4096)) (by ac_rfl) ?_
    rw [orI_add (opc) rd 128 7 (by rfl) (by omega) (by omega) (by omega)]
    rw [orI_add (opc + rd * 128) (n % 1048576) 4096 12 (by rfl) (by omega) (by omega) (by omega)]
    try omega
  · simp [zeroB, uRd, uR1, uR2, hasI] at hz
    simp [allowB, regB, immB, loI, hiI, evI, hasI] at ha
    show orI (orI (orI opc (f3 * 4096)) (f7 * 33554432)) (orI (orI (orI (orI (orI (orI (rd * 128) (r1 * 32768)) (r2 * 1048576)) (putV 12 12 8 n)) (putV 11 20 1 n)) (putV 1 21 10 n)) (putV 20 31 1 n)) = opc + rd * 128 + f3 * 4096 + r1 * 32768 + r2 * 1048576 + f7 * 33554432 + (n / 4096 % 256 * 4096 + n / 2048 % 2 * 1048576 + n / 2 % 1024 * 2097152 + n / 1048576 % 2 * 2147483648)
    simp only [put0, put_a, put_b, put_c, put_d, put_e, put_f, put_g, put_h, put_i, put_j, put_k, put_l, put_m]
    obtain ⟨rfl, rfl⟩ := hz
    obtain rfl : f7 = 0 := by omega
    obtain rfl : f3 = 0 := by omega
    have q1 : 0 ≤ rd * 128 := by omega
    simp only [Int.zero_mul, orI_zero, zero_orI, orI_nonneg, ho0, Int.le_refl, q1]
    refine Eq.trans (b := orI (orI (orI (orI (orI (opc) (rd * 128)) ((n / 4096 % 256) * 4096)) ((n / 2048 % 2) * 1048576)) ((n / 2 % 1024) * 2097152)) ((n / 1048576 % 2) * 2147483648)) (by ac_rfl) ?_
    rw [orI_add (opc) rd 128 7 (by rfl) (by omega) (by omega) (by omega)]
    rw [orI_add (opc + rd * 128) (n / 4096 % 256) 4096 12 (by rfl) (by omega) (by omega) (by omega)]
    rw [orI_add (opc + rd * 128 + (n / 4096 % 256) * 4096) (n / 2048 % 2) 1048576 20 (by rfl) (by omega) (by omega) (by omega)]
    rw [orI_add (opc + rd * 128 + (n / 4096 % 256) * 4096 + (n / 2048 % 2) * 1048576) (n / 2 % 1024) 2097152 21 (by rfl) (by omega) (by omega) (by omega)]
    rw [orI_add (opc + rd * 128 + (n / 4096 % 256) * 4096 + (n / 2048 % 2) * 1048576 + (n / 2 % 1024) * 2097152) (n / 1048576 % 2) 2147483648 31 (by rfl) (by omega) (by omega) (by omega)]
    try omega
  · simp [zeroB, uRd, uR1, uR2, hasI] at hz
    simp [allowB, regB, immB, loI, hiI, evI, hasI] at ha
    show orI (orI (orI opc (f3 * 4096)) (f7 * 33554432)) (orI (orI (orI (orI (orI (orI (rd * 128) (r1 * 32768)) (r2 * 1048576)) (putV 0 0 0 n)) (putV 0 0 0 n)) (putV 0 0 0 n)) (putV 0 0 0 n)) = opc + rd * 128 + f3 * 4096 + r1 * 32768 + r2 * 1048576 + f7 * 33554432 + 0
    simp only [put0, put_a, put_b, put_c, put_d, put_e, put_f, put_g, put_h, put_i, put_j, put_k, put_l, put_m]
    obtain ⟨⟨⟨rfl, rfl⟩, rfl⟩, rfl⟩ := hz
    obtain rfl : f7 = 0 := by omega
    obtain rfl : f3 = 0 := by omega
    simp only [Int.zero_mul, orI_zero, zero_orI, orI_nonneg, ho0, Int.le_refl]
    omega
end Pc
end Go.Proofs.YtoehfncgkkfdeaaDoor
