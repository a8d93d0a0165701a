/- Plain arithmetic on 64-bit numbers: what each operation of chapter 1 gives, as an integer, and that the several ways of computing it agree. No condition but the ranges that each lemma names. -/
import Derived.WalkKit
import Derived.Laws.Bits64b
import Derived.Laws.MathBits
import Derived.KernelRfl
namespace Go.Proofs.YtoehfncgkkfdeaaDoor.Pl
open Go.RowKit (wrap64 wrap32)
set_option linter.unusedVariables false

/-- 32 bits made 64, signed. -/
def sx (x : Int) : Int := wrap32 x % 18446744073709551616

/-- What operation 'op' of a and b gives (0 where there is none). -/
def opV (op a b : Int) : Int :=
  if op = 1 then (a + b) % 18446744073709551616
  else if op = 2 then (a - b) % 18446744073709551616
  else if op = 3 then a * 2 ^ (b % 64).toNat % 18446744073709551616
  else if op = 4 then (if wrap64 a < wrap64 b then 1 else 0)
  else if op = 5 then (if a < b then 1 else 0)
  else if op = 6 then ((a.toNat ^^^ b.toNat : Nat) : Int)
  else if op = 7 then a / 2 ^ (b % 64).toNat
  else if op = 8 then wrap64 a / 2 ^ (b % 64).toNat % 18446744073709551616
  else if op = 9 then ((a.toNat ||| b.toNat : Nat) : Int)
  else if op = 10 then ((a.toNat &&& b.toNat : Nat) : Int)
  else if op = 11 then a * b % 18446744073709551616
  else if op = 12 then wrap64 a * wrap64 b / 18446744073709551616 % 18446744073709551616
  else if op = 13 then a * b / 18446744073709551616
  else if op = 14 then (if b = 0 then 18446744073709551615 else (wrap64 a).tdiv (wrap64 b) % 18446744073709551616)
  else if op = 15 then (if b = 0 then 18446744073709551615 else a / b)
  else if op = 16 then (if b = 0 then a else (wrap64 a).tmod (wrap64 b) % 18446744073709551616)
  else if op = 17 then (if b = 0 then a else a % b)
  else if op = 18 then sx (a + b)
  else if op = 19 then sx (a - b)
  else if op = 20 then sx (a * 2 ^ (b % 32).toNat)
  else if op = 21 then sx (a % 4294967296 / 2 ^ (b % 32).toNat)
  else if op = 22 then sx (wrap32 a / 2 ^ (b % 32).toNat)
  else if op = 23 then sx (a * b)
  else if op = 24 then (if b % 4294967296 = 0 then 18446744073709551615 else sx ((wrap32 a).tdiv (wrap32 b)))
  else if op = 25 then (if b % 4294967296 = 0 then 18446744073709551615 else sx (a % 4294967296 / (b % 4294967296)))
  else if op = 26 then (if b % 4294967296 = 0 then sx a else sx ((wrap32 a).tmod (wrap32 b)))
  else if op = 27 then (if b % 4294967296 = 0 then sx a else sx (a % 4294967296 % (b % 4294967296)))
  else 0

theorem wrap64_zero {b : Int} (h : 0 ≤ b) (h' : b < 18446744073709551616) : wrap64 b = 0 ↔ b = 0 := by unfold wrap64; omega
theorem wrap32_zero {b : Int} : wrap32 b = 0 ↔ b % 4294967296 = 0 := by unfold wrap32; omega
theorem wrap32_mod (a : Int) : wrap32 (a % 4294967296) = wrap32 a := by unfold wrap32; omega
theorem wrap32_congr {a b : Int} (h : a % 4294967296 = b % 4294967296) : wrap32 a = wrap32 b := by unfold wrap32; omega
theorem sx_congr {a b : Int} (h : a % 4294967296 = b % 4294967296) : sx a = sx b := by unfold sx; rw [wrap32_congr h]
theorem wrap64_32 (x : Int) : wrap64 (wrap32 x) = wrap32 x := by unfold wrap64 wrap32; omega
/-- The code's own way to 64 bits. -/
theorem widen (x : Int) : IntKind.u64.wrap (wrap64 (wrap32 x)) = sx x := by rw [IntKind.wrap_u64, wrap64_32]; rfl
theorem sx_range (x : Int) : 0 ≤ sx x ∧ sx x < 18446744073709551616 := by unfold sx; omega
theorem sx_mod (x : Int) : sx x % 4294967296 = x % 4294967296 := by unfold sx wrap32; omega
theorem wrap32_sx (x : Int) : wrap32 (sx x) = wrap32 x := wrap32_congr (sx_mod x)
theorem wrap64_sx (x : Int) : wrap64 (sx x) = wrap32 x := by unfold sx wrap64 wrap32; omega
theorem sx_sx (x : Int) : sx (sx x) = sx x := sx_congr (sx_mod x)
theorem u64_wrap64 {a : Int} (h : 0 ≤ a) (h' : a < 18446744073709551616) : IntKind.u64.wrap (wrap64 a) = a := by rw [IntKind.wrap_u64]; unfold wrap64; omega
theorem u64_wrap64' (x : Int) : IntKind.u64.wrap (wrap64 x) = x % 18446744073709551616 := by rw [IntKind.wrap_u64]; unfold wrap64; omega

theorem and_63 {b : Int} (h : 0 ≤ b) (h' : b < 18446744073709551616) : bits .and .u64 b 63 = b % 64 := by go_bits2
theorem and_31 (b : Int) : bits .and .u32 (b % 4294967296) 31 = b % 32 := by
  have e : b % 32 = b % 4294967296 % 32 := by omega
  rw [e]
  have h0 : 0 ≤ b % 4294967296 := by omega
  have h1 : b % 4294967296 < 4294967296 := by omega
  generalize b % 4294967296 = c at *
  go_bits2
theorem bits_xor {a b : Int} (ha : 0 ≤ a) (ha' : a < 18446744073709551616) (hb : 0 ≤ b) (hb' : b < 18446744073709551616) : bits .xor .u64 a b = ((a.toNat ^^^ b.toNat : Nat) : Int) := by
  obtain ⟨x, rfl⟩ := Int.eq_ofNat_of_zero_le ha
  obtain ⟨y, rfl⟩ := Int.eq_ofNat_of_zero_le hb
  exact bits_xor_u64_nat x y (by omega) (by omega)
theorem bits_or {a b : Int} (ha : 0 ≤ a) (ha' : a < 18446744073709551616) (hb : 0 ≤ b) (hb' : b < 18446744073709551616) : bits .or .u64 a b = ((a.toNat ||| b.toNat : Nat) : Int) := by
  obtain ⟨x, rfl⟩ := Int.eq_ofNat_of_zero_le ha
  obtain ⟨y, rfl⟩ := Int.eq_ofNat_of_zero_le hb
  exact bits_or_u64_nat x y (by omega) (by omega)
theorem bits_and {a b : Int} (ha : 0 ≤ a) (ha' : a < 18446744073709551616) (hb : 0 ≤ b) (hb' : b < 18446744073709551616) : bits .and .u64 a b = ((a.toNat &&& b.toNat : Nat) : Int) := by
  obtain ⟨x, rfl⟩ := Int.eq_ofNat_of_zero_le ha
  obtain ⟨y, rfl⟩ := Int.eq_ofNat_of_zero_le hb
  exact bits_and_u64_nat x y (by omega) (by omega)
theorem ones64 : bits .xor .u64 IntKind.u64.max 0 = 18446744073709551615 := by decide
theorem ones64' : IntKind.u64.wrap (bits .xor .i64 (-1) 0) = 18446744073709551615 := by decide
theorem ones32 : IntKind.u64.wrap (wrap64 (wrap32 (bits .xor .u32 IntKind.u32.max 0))) = 18446744073709551615 := by kernel_rfl
theorem ones32' : IntKind.u64.wrap (wrap64 (wrap32 (bits .xor .i32 (-1) 0 % 4294967296))) = 18446744073709551615 := by kernel_rfl

theorem pow_split (n : Nat) (h : n ≤ 64) : (2 : Int) ^ n * 2 ^ (64 - n) = 18446744073709551616 := by
  rw [← Int.pow_add, show n + (64 - n) = 64 by omega]; rfl
theorem two_pow_pos (n : Nat) : (0 : Int) < 2 ^ n := Int.pow_pos (by decide)
theorem mul_mod_congr {a a' c m : Int} (h : a % m = a' % m) : a * c % m = a' * c % m := by rw [Int.mul_emod, h, ← Int.mul_emod]

/-- The bits of a number that are all ones or none, masked. -/
theorem copies {a b : Int} (ha : 0 ≤ a) (ha' : a < 18446744073709551616) (hb : 0 ≤ b) (hb' : b < 18446744073709551616) :
    bits .and .u64 (IntKind.u64.wrap (wrap64 a / 9223372036854775808)) b = if 9223372036854775808 ≤ a then b else 0 := by
  by_cases h : 9223372036854775808 ≤ a
  · have e : IntKind.u64.wrap (wrap64 a / 9223372036854775808) = 18446744073709551615 := by rw [IntKind.wrap_u64]; unfold wrap64; omega
    rw [e, if_pos h, bits_and (by omega) (by omega) hb hb']
    obtain ⟨y, rfl⟩ := Int.eq_ofNat_of_zero_le hb
    have : (18446744073709551615 : Int).toNat = 2 ^ 64 - 1 := by decide
    rw [this, Nat.and_comm, Nat.and_two_pow_sub_one_eq_mod]
    simp only [Int.toNat_natCast]
    omega
  · have e : IntKind.u64.wrap (wrap64 a / 9223372036854775808) = 0 := by rw [IntKind.wrap_u64]; unfold wrap64; omega
    rw [e, if_neg h, bits_and (by omega) (by omega) hb hb']
    simp

theorem mulh_floor (a b sa sb : Int) (na nb : Int) (ha : a = sa + na * 18446744073709551616) (hb : b = sb + nb * 18446744073709551616) :
    a * b / 18446744073709551616 = sa * sb / 18446744073709551616 + na * sb + nb * sa + na * nb * 18446744073709551616 := by
  have e : a * b = sa * sb + (na * sb + nb * sa + na * nb * 18446744073709551616) * 18446744073709551616 := by subst ha hb; grind
  rw [e, Int.add_mul_ediv_right _ _ (by decide)]
  omega

/-- MULH, by the code: the unsigned product's upper half less what signs put too much. -/
theorem mulh_code {a b : Int} (ha : 0 ≤ a) (ha' : a < 18446744073709551616) (hb : 0 ≤ b) (hb' : b < 18446744073709551616) :
    IntKind.u64.wrap (IntKind.u64.wrap (a * b / 18446744073709551616 - (if 9223372036854775808 ≤ a then b else 0)) - (if 9223372036854775808 ≤ b then a else 0)) =
      wrap64 a * wrap64 b / 18446744073709551616 % 18446744073709551616 := by
  have h := mulh_floor a b (wrap64 a) (wrap64 b) (if 9223372036854775808 ≤ a then 1 else 0) (if 9223372036854775808 ≤ b then 1 else 0)
    (by unfold wrap64; split <;> omega) (by unfold wrap64; split <;> omega)
  rw [h]
  generalize wrap64 a * wrap64 b / 18446744073709551616 = q
  simp only [IntKind.wrap_u64]
  unfold wrap64
  split <;> split <;> omega
end Go.Proofs.YtoehfncgkkfdeaaDoor.Pl
