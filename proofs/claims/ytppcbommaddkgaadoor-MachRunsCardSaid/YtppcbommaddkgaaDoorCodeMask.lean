/- Chapter 2: the bits of a word that an Op fixes. Plain arithmetic; no program. Conditions: those that each theorem names. -/
import Derived.Test.YtppcbommaddkgaaDoorCodeOr
namespace Go.Proofs.YtppcbommaddkgaaDoor
namespace Pc
set_option linter.unusedVariables false
set_option linter.unusedSimpArgs false

theorem and_field (w n b : Nat) : w &&& ((2 ^ n - 1) * 2 ^ b) = w / 2 ^ b % 2 ^ n * 2 ^ b := by
  apply Nat.eq_of_testBit_eq
  intro i
  rw [Nat.testBit_and, Nat.testBit_mul_two_pow, Nat.testBit_mul_two_pow, Nat.testBit_two_pow_sub_one, Nat.testBit_mod_two_pow, Nat.testBit_div_two_pow]
  by_cases h : b ≤ i
  · rw [show i - b + b = i by omega]
    simp [h]
    cases w.testBit i <;> simp
  · simp [h]
theorem and3 (w x y z : Nat) : w &&& (x ||| y ||| z) = (w &&& x) ||| (w &&& y) ||| (w &&& z) := by rw [Nat.and_or_distrib_left, Nat.and_or_distrib_left]
theorem or_sum (l m p a : Nat) (hp : p = 2 ^ a) (hl : l < p) : l ||| m * p = l + m * p := by
  subst hp
  rw [Nat.or_comm, Nat.mul_comm, ← Nat.two_pow_add_eq_or_of_lt hl]; omega
theorem mask127 (w : Nat) : w &&& 127 = w % 128 := Nat.and_two_pow_sub_one_eq_mod w 7
theorem mask7 (w : Nat) : w &&& 28672 = w / 4096 % 8 * 4096 := and_field w 3 12
theorem mask25 (w : Nat) : w &&& 4261412864 = w / 33554432 % 128 * 33554432 := and_field w 7 25
theorem mask26 (w : Nat) : w &&& 4227858432 = w / 67108864 % 64 * 67108864 := and_field w 6 26
theorem maskR (w : Nat) : w &&& 4261441663 = w % 128 + w / 4096 % 8 * 4096 + w / 33554432 % 128 * 33554432 := by
  rw [show (4261441663 : Nat) = 127 ||| 28672 ||| 4261412864 by decide, and3, mask127, mask7, mask25, or_sum _ _ 4096 12 (by decide) (by omega), or_sum _ _ 33554432 25 (by decide) (by omega)]
theorem maskT (w : Nat) : w &&& 4227887231 = w % 128 + w / 4096 % 8 * 4096 + w / 67108864 % 64 * 67108864 := by
  rw [show (4227887231 : Nat) = 127 ||| 28672 ||| 4227858432 by decide, and3, mask127, mask7, mask26, or_sum _ _ 4096 12 (by decide) (by omega), or_sum _ _ 67108864 26 (by decide) (by omega)]
theorem maskI (w : Nat) : w &&& 28799 = w % 128 + w / 4096 % 8 * 4096 := by
  rw [show (28799 : Nat) = 127 ||| 28672 by decide, Nat.and_or_distrib_left, mask127, mask7, or_sum _ _ 4096 12 (by decide) (by omega)]
theorem maskN (w : Nat) (h : w < 4294967296) : w &&& 4294967295 = w := by
  have := Nat.and_two_pow_sub_one_eq_mod w 32
  rw [show (4294967295 : Nat) = 2 ^ 32 - 1 by decide, this]; omega
def fixI (k : Int) : Int := if k = 0 then 4261441663 else if k = 1 ∨ k = 3 ∨ k = 4 then 28799 else if k = 2 then 4227887231 else if k = 5 ∨ k = 6 then 127 else 4294967295
theorem keyV_sum (o f g : Int) (ho : 0 ≤ o ∧ o < 128) (hf : 0 ≤ f ∧ f < 8) (hg : 0 ≤ g ∧ g < 128) : keyV o f g = o + f * 4096 + g * 33554432 := by
  unfold keyV
  rw [orI_add o f 4096 12 (by rfl) ho.1 (by omega) hf.1, orI_add (o + f * 4096) g 33554432 25 (by rfl) (by omega) (by omega) hg.1]
theorem andI_nat (x m : Nat) : andI (x : Int) (m : Int) = ((x &&& m : Nat) : Int) := by unfold andI; simp
theorem mask_mt (k o f g w : Int) (hrow : okRow k o f g = true) (h0 : 0 ≤ w) (h1 : w < 4294967296) : (bits .and .u32 w (fixI k) == keyV o f g) = mt k o f g w := by
  obtain ⟨hk, q1, q2, q3, q4, q5, q6, q7, q8, q9⟩ := okRow_out hrow
  rw [keyV_sum o f g ⟨q1, q2⟩ ⟨q3, q4⟩ ⟨q5, q6⟩]
  obtain ⟨x, rfl⟩ := Int.eq_ofNat_of_zero_le h0
  have hx : x < 4294967296 := by omega
  rw [Bool.eq_iff_iff, beq_iff_eq]
  rcases hk with rfl | rfl | rfl | rfl | rfl | rfl | rfl | rfl
  · rw [show fixI 0 = ((4261441663 : Nat) : Int) from rfl, and32 _ _ h0 h1 (by omega) (by omega), andI_nat, maskR]
    simp [mt]; omega
  · rw [show fixI 1 = ((28799 : Nat) : Int) from rfl, and32 _ _ h0 h1 (by omega) (by omega), andI_nat, maskI]
    simp [mt]; omega
  · rw [show fixI 2 = ((4227887231 : Nat) : Int) from rfl, and32 _ _ h0 h1 (by omega) (by omega), andI_nat, maskT]
    simp [mt]; omega
  · rw [show fixI 3 = ((28799 : Nat) : Int) from rfl, and32 _ _ h0 h1 (by omega) (by omega), andI_nat, maskI]
    simp [mt]; omega
  · rw [show fixI 4 = ((28799 : Nat) : Int) from rfl, and32 _ _ h0 h1 (by omega) (by omega), andI_nat, maskI]
    simp [mt]; omega
  · rw [show fixI 5 = ((127 : Nat) : Int) from rfl, and32 _ _ h0 h1 (by omega) (by omega), andI_nat, mask127]
    simp [mt]; omega
  · rw [show fixI 6 = ((127 : Nat) : Int) from rfl, and32 _ _ h0 h1 (by omega) (by omega), andI_nat, mask127]
    simp [mt]; omega
  · rw [show fixI 7 = ((4294967295 : Nat) : Int) from rfl, and32 _ _ h0 h1 (by omega) (by omega), andI_nat, maskN x hx]
    simp [mt]; omega
end Pc
end Go.Proofs.YtppcbommaddkgaaDoor
