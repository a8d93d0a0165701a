/- Plain arithmetic on 64-bit numbers: what each operation of chapter 1 gives, as an integer, and that the several ways of computing it agree. No condition but the ranges that each lemma names. num.Do, of each operation's number and of any two numbers, answers opV and OK; of any other number 0 and ErrRange; nothing in memory changes. Conditions: the numbers are of 64 bits. The document's leaves for chapter 1 (bits, powers, logic bit by bit, the upper half of a product, sizes and signs, low bits): what each answers. Conditions: the ranges that each theorem names. The document's leaves, continued: the upper half of a product, sizes, low bits. Conditions: the ranges that each theorem names. The document's Do of each operation's number and of any two numbers answers opV and true; of any other number 0 and false; at most new blocks in memory. Conditions: the numbers are of 64 bits. The document's Do of the operations of 32 bits, and of all: opV and true. Conditions: the numbers are of 64 bits. The document's Do at any number, num.Narrow, num.Do: what they answer. At most new blocks in memory. Conditions: each theorem's. -/
import Derived.WalkKit
import Derived.Laws.Bits64b
import Derived.Laws.MathBits
import Derived.KernelRfl
import Derived.Test.YtppcbommaddkgaaDoorRows
import Derived.ProofKit
import Derived.OpenShut
import Derived.WalkSpells
import Derived.Lib.Hide
import Derived.Handy
import Derived.Below
import Derived.RegionTactic
import Derived.Deep.QuietTactic
import Derived.BigQuiet
import Derived.ChangeAlike
namespace Go.Proofs.YtppcbommaddkgaaDoor.Pl
open Go.RowKit (wrap64 wrap32)
set_option linter.unusedVariables false

/-- 32 bits made 64, signed. -/
def sx (x : Int) : Int := wrap32 x % 18446744073709551616

/-- What operation 'op' of a and b gives (0 where there is none). -/
def opV (op a b : Int) : Int :=
  if op = 1 then (a + b) % 18446744073709551616
  else if op = 2 then (a - b) % 18446744073709551616
  else if op = 3 then a * 2 ^ (b % 64).toNat % 18446744073709551616
  else if op = 4 then (if wrap64 a < wrap64 b then 1 else 0)
  else if op = 5 then (if a < b then 1 else 0)
  else if op = 6 then ((a.toNat ^^^ b.toNat : Nat) : Int)
  else if op = 7 then a / 2 ^ (b % 64).toNat
  else if op = 8 then wrap64 a / 2 ^ (b % 64).toNat % 18446744073709551616
  else if op = 9 then ((a.toNat ||| b.toNat : Nat) : Int)
  else if op = 10 then ((a.toNat &&& b.toNat : Nat) : Int)
  else if op = 11 then a * b % 18446744073709551616
  else if op = 12 then wrap64 a * wrap64 b / 18446744073709551616 % 18446744073709551616
  else if op = 13 then a * b / 18446744073709551616
  else if op = 14 then (if b = 0 then 18446744073709551615 else (wrap64 a).tdiv (wrap64 b) % 18446744073709551616)
  else if op = 15 then (if b = 0 then 18446744073709551615 else a / b)
  else if op = 16 then (if b = 0 then a else (wrap64 a).tmod (wrap64 b) % 18446744073709551616)
  else if op = 17 then (if b = 0 then a else a % b)
  else if op = 18 then sx (a + b)
  else if op = 19 then sx (a - b)
  else if op = 20 then sx (a * 2 ^ (b % 32).toNat)
  else if op = 21 then sx (a % 4294967296 / 2 ^ (b % 32).toNat)
  else if op = 22 then sx (wrap32 a / 2 ^ (b % 32).toNat)
  else if op = 23 then sx (a * b)
  else if op = 24 then (if b % 4294967296 = 0 then 18446744073709551615 else sx ((wrap32 a).tdiv (wrap32 b)))
  else if op = 25 then (if b % 4294967296 = 0 then 18446744073709551615 else sx (a % 4294967296 / (b % 4294967296)))
  else if op = 26 then (if b % 4294967296 = 0 then sx a else sx ((wrap32 a).tmod (wrap32 b)))
  else if op = 27 then (if b % 4294967296 = 0 then sx a else sx (a % 4294967296 % (b % 4294967296)))
  else 0

theorem wrap64_zero {b : Int} (h : 0 ≤ b) (h' : b < 18446744073709551616) : wrap64 b = 0 ↔ b = 0 := by unfold wrap64; omega
theorem wrap32_zero {b : Int} : wrap32 b = 0 ↔ b % 4294967296 = 0 := by unfold wrap32; omega
theorem wrap32_mod (a : Int) : wrap32 (a % 4294967296) = wrap32 a := by unfold wrap32; omega
theorem wrap32_congr {a b : Int} (h : a % 4294967296 = b % 4294967296) : wrap32 a = wrap32 b := by unfold wrap32; omega
theorem sx_congr {a b : Int} (h : a % 4294967296 = b % 4294967296) : sx a = sx b := by unfold sx; rw [wrap32_congr h]
theorem wrap64_32 (x : Int) : wrap64 (wrap32 x) = wrap32 x := by unfold wrap64 wrap32; omega
/-- The code's own way to 64 bits. -/
theorem widen (x : Int) : IntKind.u64.wrap (wrap64 (wrap32 x)) = sx x := by rw [IntKind.wrap_u64, wrap64_32]; rfl
theorem sx_range (x : Int) : 0 ≤ sx x ∧ sx x < 18446744073709551616 := by unfold sx; omega
theorem sx_mod (x : Int) : sx x % 4294967296 = x % 4294967296 := by unfold sx wrap32; omega
theorem wrap64_sx (x : Int) : wrap64 (sx x) = wrap32 x := by unfold sx wrap64 wrap32; omega
theorem sx_sx (x : Int) : sx (sx x) = sx x := sx_congr (sx_mod x)
theorem u64_wrap64 {a : Int} (h : 0 ≤ a) (h' : a < 18446744073709551616) : IntKind.u64.wrap (wrap64 a) = a := by rw [IntKind.wrap_u64]; unfold wrap64; omega
theorem u64_wrap64' (x : Int) : IntKind.u64.wrap (wrap64 x) = x % 18446744073709551616 := by rw [IntKind.wrap_u64]; unfold wrap64; omega

theorem and_63 {b : Int} (h : 0 ≤ b) (h' : b < 18446744073709551616) : bits .and .u64 b 63 = b % 64 := by go_bits2
theorem and_31 (b : Int) : bits .and .u32 (b % 4294967296) 31 = b % 32 := by
  have e : b % 32 = b % 4294967296 % 32 := by omega
  rw [e]
  have h0 : 0 ≤ b % 4294967296 := by omega
  have h1 : b % 4294967296 < 4294967296 := by omega
  generalize b % 4294967296 = c at *
  go_bits2
theorem bits_xor {a b : Int} (ha : 0 ≤ a) (ha' : a < 18446744073709551616) (hb : 0 ≤ b) (hb' : b < 18446744073709551616) : bits .xor .u64 a b = ((a.toNat ^^^ b.toNat : Nat) : Int) := by
  obtain ⟨x, rfl⟩ := Int.eq_ofNat_of_zero_le ha
  obtain ⟨y, rfl⟩ := Int.eq_ofNat_of_zero_le hb
  exact bits_xor_u64_nat x y (by omega) (by omega)
theorem bits_or {a b : Int} (ha : 0 ≤ a) (ha' : a < 18446744073709551616) (hb : 0 ≤ b) (hb' : b < 18446744073709551616) : bits .or .u64 a b = ((a.toNat ||| b.toNat : Nat) : Int) := by
  obtain ⟨x, rfl⟩ := Int.eq_ofNat_of_zero_le ha
  obtain ⟨y, rfl⟩ := Int.eq_ofNat_of_zero_le hb
  exact bits_or_u64_nat x y (by omega) (by omega)
theorem bits_and {a b : Int} (ha : 0 ≤ a) (ha' : a < 18446744073709551616) (hb : 0 ≤ b) (hb' : b < 18446744073709551616) : bits .and .u64 a b = ((a.toNat &&& b.toNat : Nat) : Int) := by
  obtain ⟨x, rfl⟩ := Int.eq_ofNat_of_zero_le ha
  obtain ⟨y, rfl⟩ := Int.eq_ofNat_of_zero_le hb
  exact bits_and_u64_nat x y (by omega) (by omega)
theorem ones64 : bits .xor .u64 IntKind.u64.max 0 = 18446744073709551615 := by decide
theorem ones64' : IntKind.u64.wrap (bits .xor .i64 (-1) 0) = 18446744073709551615 := by decide
theorem ones32 : IntKind.u64.wrap (wrap64 (wrap32 (bits .xor .u32 IntKind.u32.max 0))) = 18446744073709551615 := by kernel_rfl
theorem ones32' : IntKind.u64.wrap (wrap64 (wrap32 (bits .xor .i32 (-1) 0 % 4294967296))) = 18446744073709551615 := by kernel_rfl

theorem pow_split (n : Nat) (h : n ≤ 64) : (2 : Int) ^ n * 2 ^ (64 - n) = 18446744073709551616 := by
  rw [← Int.pow_add, show n + (64 - n) = 64 by omega]; rfl
theorem two_pow_pos (n : Nat) : (0 : Int) < 2 ^ n := Int.pow_pos (by decide)
theorem mul_mod_congr {a a' c m : Int} (h : a % m = a' % m) : a * c % m = a' * c % m := by rw [Int.mul_emod, h, ← Int.mul_emod]

/-- The bits of a number that are all ones or none, masked. -/
theorem copies {a b : Int} (ha : 0 ≤ a) (ha' : a < 18446744073709551616) (hb : 0 ≤ b) (hb' : b < 18446744073709551616) :
    bits .and .u64 (IntKind.u64.wrap (wrap64 a / 9223372036854775808)) b = if 9223372036854775808 ≤ a then b else 0 := by
  by_cases h : 9223372036854775808 ≤ a
  · have e : IntKind.u64.wrap (wrap64 a / 9223372036854775808) = 18446744073709551615 := by rw [IntKind.wrap_u64]; unfold wrap64; omega
    rw [e, if_pos h, bits_and (by omega) (by omega) hb hb']
    obtain ⟨y, rfl⟩ := Int.eq_ofNat_of_zero_le hb
    have : (18446744073709551615 : Int).toNat = 2 ^ 64 - 1 := by decide
    rw [this, Nat.and_comm, Nat.and_two_pow_sub_one_eq_mod]
    simp only [Int.toNat_natCast]
    omega
  · have e : IntKind.u64.wrap (wrap64 a / 9223372036854775808) = 0 := by rw [IntKind.wrap_u64]; unfold wrap64; omega
    rw [e, if_neg h, bits_and (by omega) (by omega) hb hb']
    simp

theorem mulh_floor (a b sa sb : Int) (na nb : Int) (ha : a = sa + na * 18446744073709551616) (hb : b = sb + nb * 18446744073709551616) :
    a * b / 18446744073709551616 = sa * sb / 18446744073709551616 + na * sb + nb * sa + na * nb * 18446744073709551616 := by
  have e : a * b = sa * sb + (na * sb + nb * sa + na * nb * 18446744073709551616) * 18446744073709551616 := by subst ha hb; grind
  rw [e, Int.add_mul_ediv_right _ _ (by decide)]
  omega

/-- MULH, by the code: the unsigned product's upper half less what signs put too much. -/
theorem mulh_code {a b : Int} (ha : 0 ≤ a) (ha' : a < 18446744073709551616) (hb : 0 ≤ b) (hb' : b < 18446744073709551616) :
    IntKind.u64.wrap (IntKind.u64.wrap (a * b / 18446744073709551616 - (if 9223372036854775808 ≤ a then b else 0)) - (if 9223372036854775808 ≤ b then a else 0)) =
      wrap64 a * wrap64 b / 18446744073709551616 % 18446744073709551616 := by
  have h := mulh_floor a b (wrap64 a) (wrap64 b) (if 9223372036854775808 ≤ a then 1 else 0) (if 9223372036854775808 ≤ b then 1 else 0)
    (by unfold wrap64; split <;> omega) (by unfold wrap64; split <;> omega)
  rw [h]
  generalize wrap64 a * wrap64 b / 18446744073709551616 = q
  simp only [IntKind.wrap_u64]
  unfold wrap64
  split <;> split <;> omega
end Go.Proofs.YtppcbommaddkgaaDoor.Pl
namespace Go.Proofs.YtppcbommaddkgaaDoor
open Go.RowKit
set_option linter.unusedVariables false
open Pl

theorem ret2 {x y : Int} (h : x = y) : Ending.returned (.tuple #[.int .u64 x, .int .i64 0]) = .returned (.tuple #[.int .u64 y, .int .i64 0]) := by rw [h]
theorem ret22 {x y z v : Int} (h : x = y) (h2 : z = v) : Ending.returned (.tuple #[.int .u64 x, .int .u64 z]) = .returned (.tuple #[.int .u64 y, .int .u64 v]) := by rw [h, h2]
theorem ret1 {x y : Int} (h : x = y) : Ending.returned (.int .u64 x) = .returned (.int .u64 y) := by rw [h]

/-- What is said of num.Do at an operation's number. -/
def DoesAt (op : Int) : Prop := ∀ (a b : Int) (w : World), 0 ≤ a → a < 18446744073709551616 → 0 ≤ b → b < 18446744073709551616 →
    Calls Tryd.prog 55 #[.int .i64 op, .int .u64 a, .int .u64 b] w fun e w' => e = .returned (.tuple #[.int .u64 (opV op a b), .int .i64 0]) ∧ w = w'

set_option maxHeartbeats 400000 in
theorem doOp1 (a b : Int) (w : World) (ha : 0 ≤ a) (ha' : a < 18446744073709551616) (hb : 0 ≤ b) (hb' : b < 18446744073709551616) :
    Calls Tryd.prog 55 #[.int .i64 1, .int .u64 a, .int .u64 b] w fun e w' => e = .returned (.tuple #[.int .u64 (opV 1 a b), .int .i64 0]) ∧ w = w' := by
  have Ha := Lib.hid ha'; clear ha'
  have Hb := Lib.hid hb'; clear hb'
  generalize hV : opV 1 a b = V
  have HV := Lib.hid hV; clear hV
  go_enter Tryd.func55, Tryd.ntmps55
  go_wp2
  go_ret2
  refine ⟨ret2 ?_, rfl⟩
  rw [← HV.out]
  clear HV
  have ha' := Ha.out; have hb' := Hb.out
  rw [IntKind.wrap_u64]; rfl

set_option maxHeartbeats 400000 in
theorem doOp2 (a b : Int) (w : World) (ha : 0 ≤ a) (ha' : a < 18446744073709551616) (hb : 0 ≤ b) (hb' : b < 18446744073709551616) :
    Calls Tryd.prog 55 #[.int .i64 2, .int .u64 a, .int .u64 b] w fun e w' => e = .returned (.tuple #[.int .u64 (opV 2 a b), .int .i64 0]) ∧ w = w' := by
  have Ha := Lib.hid ha'; clear ha'
  have Hb := Lib.hid hb'; clear hb'
  generalize hV : opV 2 a b = V
  have HV := Lib.hid hV; clear hV
  go_enter Tryd.func55, Tryd.ntmps55
  go_wp2
  go_ret2
  refine ⟨ret2 ?_, rfl⟩
  rw [← HV.out]
  clear HV
  have ha' := Ha.out; have hb' := Hb.out
  rw [IntKind.wrap_u64]; rfl

set_option maxHeartbeats 400000 in
theorem doOp3 (a b : Int) (w : World) (ha : 0 ≤ a) (ha' : a < 18446744073709551616) (hb : 0 ≤ b) (hb' : b < 18446744073709551616) :
    Calls Tryd.prog 55 #[.int .i64 3, .int .u64 a, .int .u64 b] w fun e w' => e = .returned (.tuple #[.int .u64 (opV 3 a b), .int .i64 0]) ∧ w = w' := by
  have h63 := and_63 hb hb'
  have Ha := Lib.hid ha'; clear ha'
  have Hb := Lib.hid hb'; clear hb'
  generalize hV : opV 3 a b = V
  have HV := Lib.hid hV; clear hV
  go_enter Tryd.func55, Tryd.ntmps55
  go_wp2
  go_ret2
  refine ⟨ret2 ?_, rfl⟩
  rw [← HV.out]
  clear HV
  have ha' := Ha.out; have hb' := Hb.out
  rw [IntKind.wrap_u64]; rfl

set_option maxHeartbeats 400000 in
theorem doOp6 (a b : Int) (w : World) (ha : 0 ≤ a) (ha' : a < 18446744073709551616) (hb : 0 ≤ b) (hb' : b < 18446744073709551616) :
    Calls Tryd.prog 55 #[.int .i64 6, .int .u64 a, .int .u64 b] w fun e w' => e = .returned (.tuple #[.int .u64 (opV 6 a b), .int .i64 0]) ∧ w = w' := by
  have Ha := Lib.hid ha'; clear ha'
  have Hb := Lib.hid hb'; clear hb'
  generalize hV : opV 6 a b = V
  have HV := Lib.hid hV; clear hV
  go_enter Tryd.func55, Tryd.ntmps55
  go_wp2
  go_ret2
  refine ⟨ret2 ?_, rfl⟩
  rw [← HV.out]
  clear HV
  have ha' := Ha.out; have hb' := Hb.out
  rw [bits_xor ha ha' hb hb']; rfl

set_option maxHeartbeats 400000 in
theorem doOp7 (a b : Int) (w : World) (ha : 0 ≤ a) (ha' : a < 18446744073709551616) (hb : 0 ≤ b) (hb' : b < 18446744073709551616) :
    Calls Tryd.prog 55 #[.int .i64 7, .int .u64 a, .int .u64 b] w fun e w' => e = .returned (.tuple #[.int .u64 (opV 7 a b), .int .i64 0]) ∧ w = w' := by
  have h63 := and_63 hb hb'
  have Ha := Lib.hid ha'; clear ha'
  have Hb := Lib.hid hb'; clear hb'
  generalize hV : opV 7 a b = V
  have HV := Lib.hid hV; clear hV
  go_enter Tryd.func55, Tryd.ntmps55
  go_wp2
  go_ret2
  refine ⟨ret2 ?_, rfl⟩
  rw [← HV.out]
  clear HV
  have ha' := Ha.out; have hb' := Hb.out
  rfl

set_option maxHeartbeats 400000 in
theorem doOp8 (a b : Int) (w : World) (ha : 0 ≤ a) (ha' : a < 18446744073709551616) (hb : 0 ≤ b) (hb' : b < 18446744073709551616) :
    Calls Tryd.prog 55 #[.int .i64 8, .int .u64 a, .int .u64 b] w fun e w' => e = .returned (.tuple #[.int .u64 (opV 8 a b), .int .i64 0]) ∧ w = w' := by
  have h63 := and_63 hb hb'
  have Ha := Lib.hid ha'; clear ha'
  have Hb := Lib.hid hb'; clear hb'
  generalize hV : opV 8 a b = V
  have HV := Lib.hid hV; clear hV
  go_enter Tryd.func55, Tryd.ntmps55
  go_wp2
  go_ret2
  refine ⟨ret2 ?_, rfl⟩
  rw [← HV.out]
  clear HV
  have ha' := Ha.out; have hb' := Hb.out
  rw [IntKind.wrap_u64]; rfl

set_option maxHeartbeats 400000 in
theorem doOp9 (a b : Int) (w : World) (ha : 0 ≤ a) (ha' : a < 18446744073709551616) (hb : 0 ≤ b) (hb' : b < 18446744073709551616) :
    Calls Tryd.prog 55 #[.int .i64 9, .int .u64 a, .int .u64 b] w fun e w' => e = .returned (.tuple #[.int .u64 (opV 9 a b), .int .i64 0]) ∧ w = w' := by
  have Ha := Lib.hid ha'; clear ha'
  have Hb := Lib.hid hb'; clear hb'
  generalize hV : opV 9 a b = V
  have HV := Lib.hid hV; clear hV
  go_enter Tryd.func55, Tryd.ntmps55
  go_wp2
  go_ret2
  refine ⟨ret2 ?_, rfl⟩
  rw [← HV.out]
  clear HV
  have ha' := Ha.out; have hb' := Hb.out
  rw [bits_or ha ha' hb hb']; rfl

set_option maxHeartbeats 400000 in
theorem doOp10 (a b : Int) (w : World) (ha : 0 ≤ a) (ha' : a < 18446744073709551616) (hb : 0 ≤ b) (hb' : b < 18446744073709551616) :
    Calls Tryd.prog 55 #[.int .i64 10, .int .u64 a, .int .u64 b] w fun e w' => e = .returned (.tuple #[.int .u64 (opV 10 a b), .int .i64 0]) ∧ w = w' := by
  have Ha := Lib.hid ha'; clear ha'
  have Hb := Lib.hid hb'; clear hb'
  generalize hV : opV 10 a b = V
  have HV := Lib.hid hV; clear hV
  go_enter Tryd.func55, Tryd.ntmps55
  go_wp2
  go_ret2
  refine ⟨ret2 ?_, rfl⟩
  rw [← HV.out]
  clear HV
  have ha' := Ha.out; have hb' := Hb.out
  rw [bits_and ha ha' hb hb']; rfl

set_option maxHeartbeats 400000 in
theorem doOp11 (a b : Int) (w : World) (ha : 0 ≤ a) (ha' : a < 18446744073709551616) (hb : 0 ≤ b) (hb' : b < 18446744073709551616) :
    Calls Tryd.prog 55 #[.int .i64 11, .int .u64 a, .int .u64 b] w fun e w' => e = .returned (.tuple #[.int .u64 (opV 11 a b), .int .i64 0]) ∧ w = w' := by
  have Ha := Lib.hid ha'; clear ha'
  have Hb := Lib.hid hb'; clear hb'
  generalize hV : opV 11 a b = V
  have HV := Lib.hid hV; clear hV
  go_enter Tryd.func55, Tryd.ntmps55
  go_wp2
  go_ret2
  refine ⟨ret2 ?_, rfl⟩
  rw [← HV.out]
  clear HV
  have ha' := Ha.out; have hb' := Hb.out
  rw [IntKind.wrap_u64]; rfl

set_option maxHeartbeats 400000 in
theorem doOp4y (a b : Int) (w : World) (ha : 0 ≤ a) (ha' : a < 18446744073709551616) (hb : 0 ≤ b) (hb' : b < 18446744073709551616) (h : wrap64 a < wrap64 b) :
    Calls Tryd.prog 55 #[.int .i64 4, .int .u64 a, .int .u64 b] w fun e w' => e = .returned (.tuple #[.int .u64 (opV 4 a b), .int .i64 0]) ∧ w = w' := by
  have h1 : decide (wrap64 a < wrap64 b) = true := by simpa using h
  have H := Lib.hid h; clear h
  have Ha := Lib.hid ha'; clear ha'
  have Hb := Lib.hid hb'; clear hb'
  generalize hV : opV 4 a b = V
  have HV := Lib.hid hV; clear hV
  go_enter Tryd.func55, Tryd.ntmps55
  go_wp2
  go_ret2
  refine ⟨ret2 ?_, rfl⟩
  rw [← HV.out]
  clear HV
  have ha' := Ha.out; have hb' := Hb.out
  have h := H.out; show _ = if wrap64 a < wrap64 b then (1 : Int) else 0; first | rw [if_pos h] | rw [if_neg (Int.not_lt.mpr h)]

set_option maxHeartbeats 400000 in
theorem doOp4n (a b : Int) (w : World) (ha : 0 ≤ a) (ha' : a < 18446744073709551616) (hb : 0 ≤ b) (hb' : b < 18446744073709551616) (h : ¬ wrap64 a < wrap64 b) :
    Calls Tryd.prog 55 #[.int .i64 4, .int .u64 a, .int .u64 b] w fun e w' => e = .returned (.tuple #[.int .u64 (opV 4 a b), .int .i64 0]) ∧ w = w' := by
  have h1 : decide (wrap64 a < wrap64 b) = false := by simpa using h
  have H := Lib.hid h; clear h
  have Ha := Lib.hid ha'; clear ha'
  have Hb := Lib.hid hb'; clear hb'
  generalize hV : opV 4 a b = V
  have HV := Lib.hid hV; clear hV
  go_enter Tryd.func55, Tryd.ntmps55
  go_wp2
  go_ret2
  refine ⟨ret2 ?_, rfl⟩
  rw [← HV.out]
  clear HV
  have ha' := Ha.out; have hb' := Hb.out
  have h := H.out; show _ = if wrap64 a < wrap64 b then (1 : Int) else 0; first | rw [if_pos h] | rw [if_neg (Int.not_lt.mpr h)]

theorem doOp4 : DoesAt 4 := fun a b w ha ha' hb hb' => if h : wrap64 a < wrap64 b then doOp4y a b w ha ha' hb hb' h else doOp4n a b w ha ha' hb hb' h

set_option maxHeartbeats 400000 in
theorem doOp5y (a b : Int) (w : World) (ha : 0 ≤ a) (ha' : a < 18446744073709551616) (hb : 0 ≤ b) (hb' : b < 18446744073709551616) (h : a < b) :
    Calls Tryd.prog 55 #[.int .i64 5, .int .u64 a, .int .u64 b] w fun e w' => e = .returned (.tuple #[.int .u64 (opV 5 a b), .int .i64 0]) ∧ w = w' := by
  have h1 : decide (a < b) = true := by simpa using h
  have H := Lib.hid h; clear h
  have Ha := Lib.hid ha'; clear ha'
  have Hb := Lib.hid hb'; clear hb'
  generalize hV : opV 5 a b = V
  have HV := Lib.hid hV; clear hV
  go_enter Tryd.func55, Tryd.ntmps55
  go_wp2
  go_ret2
  refine ⟨ret2 ?_, rfl⟩
  rw [← HV.out]
  clear HV
  have ha' := Ha.out; have hb' := Hb.out
  have h := H.out; show _ = if a < b then (1 : Int) else 0; first | rw [if_pos h] | rw [if_neg (Int.not_lt.mpr h)]

set_option maxHeartbeats 400000 in
theorem doOp5n (a b : Int) (w : World) (ha : 0 ≤ a) (ha' : a < 18446744073709551616) (hb : 0 ≤ b) (hb' : b < 18446744073709551616) (h : ¬ a < b) :
    Calls Tryd.prog 55 #[.int .i64 5, .int .u64 a, .int .u64 b] w fun e w' => e = .returned (.tuple #[.int .u64 (opV 5 a b), .int .i64 0]) ∧ w = w' := by
  have h1 : decide (a < b) = false := by simpa using h
  have H := Lib.hid h; clear h
  have Ha := Lib.hid ha'; clear ha'
  have Hb := Lib.hid hb'; clear hb'
  generalize hV : opV 5 a b = V
  have HV := Lib.hid hV; clear hV
  go_enter Tryd.func55, Tryd.ntmps55
  go_wp2
  go_ret2
  refine ⟨ret2 ?_, rfl⟩
  rw [← HV.out]
  clear HV
  have ha' := Ha.out; have hb' := Hb.out
  have h := H.out; show _ = if a < b then (1 : Int) else 0; first | rw [if_pos h] | rw [if_neg (Int.not_lt.mpr h)]

theorem doOp5 : DoesAt 5 := fun a b w ha ha' hb hb' => if h : a < b then doOp5y a b w ha ha' hb hb' h else doOp5n a b w ha ha' hb hb' h

set_option maxHeartbeats 1000000 in
theorem mul64_any (a b : Int) (w : World) (ha : 0 ≤ a) (ha' : a < 18446744073709551616) (hb : 0 ≤ b) (hb' : b < 18446744073709551616) :
    Calls Tryd.prog 94 #[.int .u64 a, .int .u64 b] w fun e w' => e = .returned (.tuple #[.int .u64 (a * b / 18446744073709551616), .int .u64 (a * b % 18446744073709551616)]) ∧ w = w' := by
  have Ha := Lib.hid ha'; clear ha'
  have Hb := Lib.hid hb'; clear hb'
  generalize hV : a * b / 18446744073709551616 = V
  generalize hU : a * b % 18446744073709551616 = U
  have HV := Lib.hid hV; clear hV
  have HU := Lib.hid hU; clear hU
  go_enter Tryd.func94, Tryd.ntmps94
  go_wp2
  go_ret2
  refine ⟨ret22 ?_ ?_, rfl⟩
  · rw [← HV.out]; clear HV HU
    have ha' := Ha.out; have hb' := Hb.out
    rw [← mul64_arith a b ha ha' hb hb']
    simp only [IntKind.wrap_u64]
    rw [and_low32 a ha ha', and_low32 b hb hb', and_low32 _ (by omega) (by omega)]
  · rw [← HU.out]; rw [IntKind.wrap_u64]

theorem upper_any (a b : Int) (w : World) (ha : 0 ≤ a) (ha' : a < 18446744073709551616) (hb : 0 ≤ b) (hb' : b < 18446744073709551616) :
    Calls Tryd.prog 83 #[.int .u64 a, .int .u64 b] w fun e w' => e = .returned (.int .u64 (a * b / 18446744073709551616)) ∧ w = w' := by
  have Ha := Lib.hid ha'; clear ha'
  have Hb := Lib.hid hb'; clear hb'
  generalize hV : a * b / 18446744073709551616 = V
  have HV := Lib.hid hV; clear hV
  go_enter Tryd.func83, Tryd.ntmps83
  go_wp2_with (go_at_call 94; refine (mul64_any _ _ _ ha Ha.out hb Hb.out).mono ?_; rintro e w' ⟨rfl, rfl⟩; rw [HV.out])
  go_ret
  exact ⟨ret1 rfl, rfl⟩

set_option maxHeartbeats 400000 in
theorem doOp13 (a b : Int) (w : World) (ha : 0 ≤ a) (ha' : a < 18446744073709551616) (hb : 0 ≤ b) (hb' : b < 18446744073709551616) :
    Calls Tryd.prog 55 #[.int .i64 13, .int .u64 a, .int .u64 b] w fun e w' => e = .returned (.tuple #[.int .u64 (opV 13 a b), .int .i64 0]) ∧ w = w' := by
  have Ha := Lib.hid ha'; clear ha'
  have Hb := Lib.hid hb'; clear hb'
  generalize hU : a * b / 18446744073709551616 = U
  have HU := Lib.hid hU; clear hU
  generalize hV : opV 13 a b = V
  have HV := Lib.hid hV; clear hV
  go_enter Tryd.func55, Tryd.ntmps55
  go_wp2_with (first | (go_at_call 83; refine (upper_any _ _ _ ha Ha.out hb Hb.out).mono ?_; rintro e w' ⟨rfl, rfl⟩; rw [HU.out]) | go_in)
  go_ret2
  refine ⟨ret2 ?_, rfl⟩
  rw [← HV.out, ← HU.out]; rfl

set_option maxHeartbeats 400000 in
theorem doOp12 (a b : Int) (w : World) (ha : 0 ≤ a) (ha' : a < 18446744073709551616) (hb : 0 ≤ b) (hb' : b < 18446744073709551616) :
    Calls Tryd.prog 55 #[.int .i64 12, .int .u64 a, .int .u64 b] w fun e w' => e = .returned (.tuple #[.int .u64 (opV 12 a b), .int .i64 0]) ∧ w = w' := by
  have Ha := Lib.hid ha'; clear ha'
  have Hb := Lib.hid hb'; clear hb'
  generalize hU : a * b / 18446744073709551616 = U
  have HU := Lib.hid hU; clear hU
  generalize hV : opV 12 a b = V
  have HV := Lib.hid hV; clear hV
  go_enter Tryd.func55, Tryd.ntmps55
  go_wp2_with (first | (go_at_call 83; refine (upper_any _ _ _ ha Ha.out hb Hb.out).mono ?_; rintro e w' ⟨rfl, rfl⟩; rw [HU.out]) | go_in)
  go_ret2
  refine ⟨ret2 ?_, rfl⟩
  rw [← HV.out]; clear HV
  have ha' := Ha.out; have hb' := Hb.out
  rw [copies ha ha' hb hb', copies hb hb' ha ha', ← HU.out, mulh_code ha ha' hb hb']; rfl

set_option maxHeartbeats 400000 in
theorem doOp14y (a b : Int) (w : World) (ha : 0 ≤ a) (ha' : a < 18446744073709551616) (hb : 0 ≤ b) (hb' : b < 18446744073709551616) (h : b = 0) :
    Calls Tryd.prog 55 #[.int .i64 14, .int .u64 a, .int .u64 b] w fun e w' => e = .returned (.tuple #[.int .u64 (opV 14 a b), .int .i64 0]) ∧ w = w' := by
  have h0 : wrap64 b = 0 := (wrap64_zero hb hb').2 h
  have h1 : (wrap64 b == 0) = true := by rw [h0]; rfl
  have H := Lib.hid h; clear h
  clear h0
  have Ha := Lib.hid ha'; clear ha'
  have Hb := Lib.hid hb'; clear hb'
  generalize hV : opV 14 a b = V
  have HV := Lib.hid hV; clear hV
  go_enter Tryd.func55, Tryd.ntmps55
  go_wp2
  go_ret2
  refine ⟨ret2 ?_, rfl⟩
  rw [← HV.out]
  clear HV
  have ha' := Ha.out; have hb' := Hb.out
  have h := H.out; exact ones64'.trans (if_pos h).symm

set_option maxHeartbeats 400000 in
theorem doOp14n (a b : Int) (w : World) (ha : 0 ≤ a) (ha' : a < 18446744073709551616) (hb : 0 ≤ b) (hb' : b < 18446744073709551616) (h : ¬ b = 0) :
    Calls Tryd.prog 55 #[.int .i64 14, .int .u64 a, .int .u64 b] w fun e w' => e = .returned (.tuple #[.int .u64 (opV 14 a b), .int .i64 0]) ∧ w = w' := by
  have h0 : ¬ wrap64 b = 0 := fun e => h ((wrap64_zero hb hb').1 e)
  have h1 : (wrap64 b == 0) = false := by simpa using h0
  have H := Lib.hid h; clear h
  have Ha := Lib.hid ha'; clear ha'
  have Hb := Lib.hid hb'; clear hb'
  generalize hV : opV 14 a b = V
  have HV := Lib.hid hV; clear hV
  go_enter Tryd.func55, Tryd.ntmps55
  go_wp2
  go_ret2
  refine ⟨ret2 ?_, rfl⟩
  rw [← HV.out]
  clear HV
  have ha' := Ha.out; have hb' := Hb.out
  have h := H.out; show _ = if b = 0 then _ else (wrap64 a).tdiv (wrap64 b) % 18446744073709551616; rw [if_neg h, u64_wrap64']

theorem doOp14 : DoesAt 14 := fun a b w ha ha' hb hb' => if h : b = 0 then doOp14y a b w ha ha' hb hb' h else doOp14n a b w ha ha' hb hb' h

set_option maxHeartbeats 400000 in
theorem doOp15y (a b : Int) (w : World) (ha : 0 ≤ a) (ha' : a < 18446744073709551616) (hb : 0 ≤ b) (hb' : b < 18446744073709551616) (h : b = 0) :
    Calls Tryd.prog 55 #[.int .i64 15, .int .u64 a, .int .u64 b] w fun e w' => e = .returned (.tuple #[.int .u64 (opV 15 a b), .int .i64 0]) ∧ w = w' := by
  have h0 : b = 0 := h
  have h1 : (b == 0) = true := by rw [h0]; rfl
  have H := Lib.hid h; clear h
  clear h0
  have Ha := Lib.hid ha'; clear ha'
  have Hb := Lib.hid hb'; clear hb'
  generalize hV : opV 15 a b = V
  have HV := Lib.hid hV; clear hV
  go_enter Tryd.func55, Tryd.ntmps55
  go_wp2
  go_ret2
  refine ⟨ret2 ?_, rfl⟩
  rw [← HV.out]
  clear HV
  have ha' := Ha.out; have hb' := Hb.out
  have h := H.out; exact ones64.trans (if_pos h).symm

set_option maxHeartbeats 400000 in
theorem doOp15n (a b : Int) (w : World) (ha : 0 ≤ a) (ha' : a < 18446744073709551616) (hb : 0 ≤ b) (hb' : b < 18446744073709551616) (h : ¬ b = 0) :
    Calls Tryd.prog 55 #[.int .i64 15, .int .u64 a, .int .u64 b] w fun e w' => e = .returned (.tuple #[.int .u64 (opV 15 a b), .int .i64 0]) ∧ w = w' := by
  have h0 : ¬ b = 0 := h
  have h1 : (b == 0) = false := by simpa using h0
  have H := Lib.hid h; clear h
  have Ha := Lib.hid ha'; clear ha'
  have Hb := Lib.hid hb'; clear hb'
  generalize hV : opV 15 a b = V
  have HV := Lib.hid hV; clear hV
  go_enter Tryd.func55, Tryd.ntmps55
  go_wp2
  go_ret2
  refine ⟨ret2 ?_, rfl⟩
  rw [← HV.out]
  clear HV
  have ha' := Ha.out; have hb' := Hb.out
  have h := H.out; show _ = if b = 0 then _ else a / b; rw [if_neg h, IntKind.wrap_u64, Int.tdiv_eq_ediv_of_nonneg ha]; exact Int.emod_eq_of_lt (Int.ediv_nonneg ha hb) (Int.lt_of_le_of_lt (Int.ediv_le_self _ ha) ha')

theorem doOp15 : DoesAt 15 := fun a b w ha ha' hb hb' => if h : b = 0 then doOp15y a b w ha ha' hb hb' h else doOp15n a b w ha ha' hb hb' h

set_option maxHeartbeats 400000 in
theorem doOp16y (a b : Int) (w : World) (ha : 0 ≤ a) (ha' : a < 18446744073709551616) (hb : 0 ≤ b) (hb' : b < 18446744073709551616) (h : b = 0) :
    Calls Tryd.prog 55 #[.int .i64 16, .int .u64 a, .int .u64 b] w fun e w' => e = .returned (.tuple #[.int .u64 (opV 16 a b), .int .i64 0]) ∧ w = w' := by
  have h0 : wrap64 b = 0 := (wrap64_zero hb hb').2 h
  have h1 : (wrap64 b == 0) = true := by rw [h0]; rfl
  have H := Lib.hid h; clear h
  clear h0
  have Ha := Lib.hid ha'; clear ha'
  have Hb := Lib.hid hb'; clear hb'
  generalize hV : opV 16 a b = V
  have HV := Lib.hid hV; clear hV
  go_enter Tryd.func55, Tryd.ntmps55
  go_wp2
  go_ret2
  refine ⟨ret2 ?_, rfl⟩
  rw [← HV.out]
  clear HV
  have ha' := Ha.out; have hb' := Hb.out
  have h := H.out; exact (u64_wrap64 ha ha').trans (if_pos h).symm

set_option maxHeartbeats 400000 in
theorem doOp16n (a b : Int) (w : World) (ha : 0 ≤ a) (ha' : a < 18446744073709551616) (hb : 0 ≤ b) (hb' : b < 18446744073709551616) (h : ¬ b = 0) :
    Calls Tryd.prog 55 #[.int .i64 16, .int .u64 a, .int .u64 b] w fun e w' => e = .returned (.tuple #[.int .u64 (opV 16 a b), .int .i64 0]) ∧ w = w' := by
  have h0 : ¬ wrap64 b = 0 := fun e => h ((wrap64_zero hb hb').1 e)
  have h1 : (wrap64 b == 0) = false := by simpa using h0
  have H := Lib.hid h; clear h
  have Ha := Lib.hid ha'; clear ha'
  have Hb := Lib.hid hb'; clear hb'
  generalize hV : opV 16 a b = V
  have HV := Lib.hid hV; clear hV
  go_enter Tryd.func55, Tryd.ntmps55
  go_wp2
  go_ret2
  refine ⟨ret2 ?_, rfl⟩
  rw [← HV.out]
  clear HV
  have ha' := Ha.out; have hb' := Hb.out
  have h := H.out; show _ = if b = 0 then _ else (wrap64 a).tmod (wrap64 b) % 18446744073709551616; rw [if_neg h, IntKind.wrap_u64]

theorem doOp16 : DoesAt 16 := fun a b w ha ha' hb hb' => if h : b = 0 then doOp16y a b w ha ha' hb hb' h else doOp16n a b w ha ha' hb hb' h

set_option maxHeartbeats 400000 in
theorem doOp17y (a b : Int) (w : World) (ha : 0 ≤ a) (ha' : a < 18446744073709551616) (hb : 0 ≤ b) (hb' : b < 18446744073709551616) (h : b = 0) :
    Calls Tryd.prog 55 #[.int .i64 17, .int .u64 a, .int .u64 b] w fun e w' => e = .returned (.tuple #[.int .u64 (opV 17 a b), .int .i64 0]) ∧ w = w' := by
  have h0 : b = 0 := h
  have h1 : (b == 0) = true := by rw [h0]; rfl
  have H := Lib.hid h; clear h
  clear h0
  have Ha := Lib.hid ha'; clear ha'
  have Hb := Lib.hid hb'; clear hb'
  generalize hV : opV 17 a b = V
  have HV := Lib.hid hV; clear hV
  go_enter Tryd.func55, Tryd.ntmps55
  go_wp2
  go_ret2
  refine ⟨ret2 ?_, rfl⟩
  rw [← HV.out]
  clear HV
  have ha' := Ha.out; have hb' := Hb.out
  have h := H.out; exact (if_pos h).symm

set_option maxHeartbeats 400000 in
theorem doOp17n (a b : Int) (w : World) (ha : 0 ≤ a) (ha' : a < 18446744073709551616) (hb : 0 ≤ b) (hb' : b < 18446744073709551616) (h : ¬ b = 0) :
    Calls Tryd.prog 55 #[.int .i64 17, .int .u64 a, .int .u64 b] w fun e w' => e = .returned (.tuple #[.int .u64 (opV 17 a b), .int .i64 0]) ∧ w = w' := by
  have h0 : ¬ b = 0 := h
  have h1 : (b == 0) = false := by simpa using h0
  have H := Lib.hid h; clear h
  have Ha := Lib.hid ha'; clear ha'
  have Hb := Lib.hid hb'; clear hb'
  generalize hV : opV 17 a b = V
  have HV := Lib.hid hV; clear hV
  go_enter Tryd.func55, Tryd.ntmps55
  go_wp2
  go_ret2
  refine ⟨ret2 ?_, rfl⟩
  rw [← HV.out]
  clear HV
  have ha' := Ha.out; have hb' := Hb.out
  have h := H.out; exact (if_neg h).symm

theorem doOp17 : DoesAt 17 := fun a b w ha ha' hb hb' => if h : b = 0 then doOp17y a b w ha ha' hb hb' h else doOp17n a b w ha ha' hb hb' h

set_option maxHeartbeats 400000 in
theorem doOp24y (a b : Int) (w : World) (ha : 0 ≤ a) (ha' : a < 18446744073709551616) (hb : 0 ≤ b) (hb' : b < 18446744073709551616) (h : b % 4294967296 = 0) :
    Calls Tryd.prog 55 #[.int .i64 24, .int .u64 a, .int .u64 b] w fun e w' => e = .returned (.tuple #[.int .u64 (opV 24 a b), .int .i64 0]) ∧ w = w' := by
  have h0 : wrap32 (b % 4294967296) = 0 := by rw [wrap32_mod]; exact wrap32_zero.2 h
  have h1 : (wrap32 (b % 4294967296) == 0) = true := by rw [h0]; rfl
  have H := Lib.hid h; clear h
  clear h0
  have Ha := Lib.hid ha'; clear ha'
  have Hb := Lib.hid hb'; clear hb'
  generalize hV : opV 24 a b = V
  have HV := Lib.hid hV; clear hV
  go_enter Tryd.func55, Tryd.ntmps55
  go_wp2
  go_ret2
  refine ⟨ret2 ?_, rfl⟩
  rw [← HV.out]
  clear HV
  have ha' := Ha.out; have hb' := Hb.out
  have h := H.out; exact ones32'.trans (if_pos h).symm

set_option maxHeartbeats 400000 in
theorem doOp24n (a b : Int) (w : World) (ha : 0 ≤ a) (ha' : a < 18446744073709551616) (hb : 0 ≤ b) (hb' : b < 18446744073709551616) (h : ¬ b % 4294967296 = 0) :
    Calls Tryd.prog 55 #[.int .i64 24, .int .u64 a, .int .u64 b] w fun e w' => e = .returned (.tuple #[.int .u64 (opV 24 a b), .int .i64 0]) ∧ w = w' := by
  have h0 : ¬ wrap32 (b % 4294967296) = 0 := fun e => h (by rw [wrap32_mod] at e; exact wrap32_zero.1 e)
  have h1 : (wrap32 (b % 4294967296) == 0) = false := by simpa using h0
  have H := Lib.hid h; clear h
  have Ha := Lib.hid ha'; clear ha'
  have Hb := Lib.hid hb'; clear hb'
  generalize hV : opV 24 a b = V
  have HV := Lib.hid hV; clear hV
  go_enter Tryd.func55, Tryd.ntmps55
  go_wp2
  go_ret2
  refine ⟨ret2 ?_, rfl⟩
  rw [← HV.out]
  clear HV
  have ha' := Ha.out; have hb' := Hb.out
  have h := H.out; show _ = if b % 4294967296 = 0 then _ else sx ((wrap32 a).tdiv (wrap32 b)); rw [if_neg h, widen, wrap32_mod a, wrap32_mod b]; exact sx_congr (by unfold wrap32; omega)

theorem doOp24 : DoesAt 24 := fun a b w ha ha' hb hb' => if h : b % 4294967296 = 0 then doOp24y a b w ha ha' hb hb' h else doOp24n a b w ha ha' hb hb' h

set_option maxHeartbeats 400000 in
theorem doOp25y (a b : Int) (w : World) (ha : 0 ≤ a) (ha' : a < 18446744073709551616) (hb : 0 ≤ b) (hb' : b < 18446744073709551616) (h : b % 4294967296 = 0) :
    Calls Tryd.prog 55 #[.int .i64 25, .int .u64 a, .int .u64 b] w fun e w' => e = .returned (.tuple #[.int .u64 (opV 25 a b), .int .i64 0]) ∧ w = w' := by
  have h0 : b % 4294967296 = 0 := h
  have h1 : (b % 4294967296 == 0) = true := by rw [h0]; rfl
  have H := Lib.hid h; clear h
  clear h0
  have Ha := Lib.hid ha'; clear ha'
  have Hb := Lib.hid hb'; clear hb'
  generalize hV : opV 25 a b = V
  have HV := Lib.hid hV; clear hV
  go_enter Tryd.func55, Tryd.ntmps55
  go_wp2
  go_ret2
  refine ⟨ret2 ?_, rfl⟩
  rw [← HV.out]
  clear HV
  have ha' := Ha.out; have hb' := Hb.out
  have h := H.out; exact ones32.trans (if_pos h).symm

set_option maxHeartbeats 400000 in
theorem doOp25n (a b : Int) (w : World) (ha : 0 ≤ a) (ha' : a < 18446744073709551616) (hb : 0 ≤ b) (hb' : b < 18446744073709551616) (h : ¬ b % 4294967296 = 0) :
    Calls Tryd.prog 55 #[.int .i64 25, .int .u64 a, .int .u64 b] w fun e w' => e = .returned (.tuple #[.int .u64 (opV 25 a b), .int .i64 0]) ∧ w = w' := by
  have h0 : ¬ b % 4294967296 = 0 := h
  have h1 : (b % 4294967296 == 0) = false := by simpa using h0
  have H := Lib.hid h; clear h
  have Ha := Lib.hid ha'; clear ha'
  have Hb := Lib.hid hb'; clear hb'
  generalize hV : opV 25 a b = V
  have HV := Lib.hid hV; clear hV
  go_enter Tryd.func55, Tryd.ntmps55
  go_wp2
  go_ret2
  refine ⟨ret2 ?_, rfl⟩
  rw [← HV.out]
  clear HV
  have ha' := Ha.out; have hb' := Hb.out
  have h := H.out; show _ = if b % 4294967296 = 0 then _ else sx (a % 4294967296 / (b % 4294967296)); rw [if_neg h, widen]

theorem doOp25 : DoesAt 25 := fun a b w ha ha' hb hb' => if h : b % 4294967296 = 0 then doOp25y a b w ha ha' hb hb' h else doOp25n a b w ha ha' hb hb' h

set_option maxHeartbeats 400000 in
theorem doOp26y (a b : Int) (w : World) (ha : 0 ≤ a) (ha' : a < 18446744073709551616) (hb : 0 ≤ b) (hb' : b < 18446744073709551616) (h : b % 4294967296 = 0) :
    Calls Tryd.prog 55 #[.int .i64 26, .int .u64 a, .int .u64 b] w fun e w' => e = .returned (.tuple #[.int .u64 (opV 26 a b), .int .i64 0]) ∧ w = w' := by
  have h0 : wrap32 (b % 4294967296) = 0 := by rw [wrap32_mod]; exact wrap32_zero.2 h
  have h1 : (wrap32 (b % 4294967296) == 0) = true := by rw [h0]; rfl
  have H := Lib.hid h; clear h
  clear h0
  have Ha := Lib.hid ha'; clear ha'
  have Hb := Lib.hid hb'; clear hb'
  generalize hV : opV 26 a b = V
  have HV := Lib.hid hV; clear hV
  go_enter Tryd.func55, Tryd.ntmps55
  go_wp2
  go_ret2
  refine ⟨ret2 ?_, rfl⟩
  rw [← HV.out]
  clear HV
  have ha' := Ha.out; have hb' := Hb.out
  have h := H.out; show _ = if b % 4294967296 = 0 then sx a else _; rw [if_pos h, widen]; exact sx_congr (by unfold wrap32; omega)

set_option maxHeartbeats 400000 in
theorem doOp26n (a b : Int) (w : World) (ha : 0 ≤ a) (ha' : a < 18446744073709551616) (hb : 0 ≤ b) (hb' : b < 18446744073709551616) (h : ¬ b % 4294967296 = 0) :
    Calls Tryd.prog 55 #[.int .i64 26, .int .u64 a, .int .u64 b] w fun e w' => e = .returned (.tuple #[.int .u64 (opV 26 a b), .int .i64 0]) ∧ w = w' := by
  have h0 : ¬ wrap32 (b % 4294967296) = 0 := fun e => h (by rw [wrap32_mod] at e; exact wrap32_zero.1 e)
  have h1 : (wrap32 (b % 4294967296) == 0) = false := by simpa using h0
  have H := Lib.hid h; clear h
  have Ha := Lib.hid ha'; clear ha'
  have Hb := Lib.hid hb'; clear hb'
  generalize hV : opV 26 a b = V
  have HV := Lib.hid hV; clear hV
  go_enter Tryd.func55, Tryd.ntmps55
  go_wp2
  go_ret2
  refine ⟨ret2 ?_, rfl⟩
  rw [← HV.out]
  clear HV
  have ha' := Ha.out; have hb' := Hb.out
  have h := H.out; show _ = if b % 4294967296 = 0 then _ else sx ((wrap32 a).tmod (wrap32 b)); rw [if_neg h, widen, wrap32_mod a, wrap32_mod b]; exact sx_congr (by omega)

theorem doOp26 : DoesAt 26 := fun a b w ha ha' hb hb' => if h : b % 4294967296 = 0 then doOp26y a b w ha ha' hb hb' h else doOp26n a b w ha ha' hb hb' h

set_option maxHeartbeats 400000 in
theorem doOp27y (a b : Int) (w : World) (ha : 0 ≤ a) (ha' : a < 18446744073709551616) (hb : 0 ≤ b) (hb' : b < 18446744073709551616) (h : b % 4294967296 = 0) :
    Calls Tryd.prog 55 #[.int .i64 27, .int .u64 a, .int .u64 b] w fun e w' => e = .returned (.tuple #[.int .u64 (opV 27 a b), .int .i64 0]) ∧ w = w' := by
  have h0 : b % 4294967296 = 0 := h
  have h1 : (b % 4294967296 == 0) = true := by rw [h0]; rfl
  have H := Lib.hid h; clear h
  clear h0
  have Ha := Lib.hid ha'; clear ha'
  have Hb := Lib.hid hb'; clear hb'
  generalize hV : opV 27 a b = V
  have HV := Lib.hid hV; clear hV
  go_enter Tryd.func55, Tryd.ntmps55
  go_wp2
  go_ret2
  refine ⟨ret2 ?_, rfl⟩
  rw [← HV.out]
  clear HV
  have ha' := Ha.out; have hb' := Hb.out
  have h := H.out; show _ = if b % 4294967296 = 0 then sx a else _; rw [if_pos h, widen]; exact sx_congr (by omega)

set_option maxHeartbeats 400000 in
theorem doOp27n (a b : Int) (w : World) (ha : 0 ≤ a) (ha' : a < 18446744073709551616) (hb : 0 ≤ b) (hb' : b < 18446744073709551616) (h : ¬ b % 4294967296 = 0) :
    Calls Tryd.prog 55 #[.int .i64 27, .int .u64 a, .int .u64 b] w fun e w' => e = .returned (.tuple #[.int .u64 (opV 27 a b), .int .i64 0]) ∧ w = w' := by
  have h0 : ¬ b % 4294967296 = 0 := h
  have h1 : (b % 4294967296 == 0) = false := by simpa using h0
  have H := Lib.hid h; clear h
  have Ha := Lib.hid ha'; clear ha'
  have Hb := Lib.hid hb'; clear hb'
  generalize hV : opV 27 a b = V
  have HV := Lib.hid hV; clear hV
  go_enter Tryd.func55, Tryd.ntmps55
  go_wp2
  go_ret2
  refine ⟨ret2 ?_, rfl⟩
  rw [← HV.out]
  clear HV
  have ha' := Ha.out; have hb' := Hb.out
  have h := H.out; show _ = if b % 4294967296 = 0 then _ else sx (a % 4294967296 % (b % 4294967296)); rw [if_neg h, widen]

theorem doOp27 : DoesAt 27 := fun a b w ha ha' hb hb' => if h : b % 4294967296 = 0 then doOp27y a b w ha ha' hb hb' h else doOp27n a b w ha ha' hb hb' h

set_option maxHeartbeats 400000 in
theorem doOp18 (a b : Int) (w : World) (ha : 0 ≤ a) (ha' : a < 18446744073709551616) (hb : 0 ≤ b) (hb' : b < 18446744073709551616) :
    Calls Tryd.prog 55 #[.int .i64 18, .int .u64 a, .int .u64 b] w fun e w' => e = .returned (.tuple #[.int .u64 (opV 18 a b), .int .i64 0]) ∧ w = w' := by
  have Ha := Lib.hid ha'; clear ha'
  have Hb := Lib.hid hb'; clear hb'
  generalize hV : opV 18 a b = V
  have HV := Lib.hid hV; clear hV
  go_enter Tryd.func55, Tryd.ntmps55
  go_wp2
  go_ret2
  refine ⟨ret2 ?_, rfl⟩
  rw [← HV.out]
  clear HV
  have ha' := Ha.out; have hb' := Hb.out
  rw [widen]; exact sx_congr (by omega)

set_option maxHeartbeats 400000 in
theorem doOp19 (a b : Int) (w : World) (ha : 0 ≤ a) (ha' : a < 18446744073709551616) (hb : 0 ≤ b) (hb' : b < 18446744073709551616) :
    Calls Tryd.prog 55 #[.int .i64 19, .int .u64 a, .int .u64 b] w fun e w' => e = .returned (.tuple #[.int .u64 (opV 19 a b), .int .i64 0]) ∧ w = w' := by
  have Ha := Lib.hid ha'; clear ha'
  have Hb := Lib.hid hb'; clear hb'
  generalize hV : opV 19 a b = V
  have HV := Lib.hid hV; clear hV
  go_enter Tryd.func55, Tryd.ntmps55
  go_wp2
  go_ret2
  refine ⟨ret2 ?_, rfl⟩
  rw [← HV.out]
  clear HV
  have ha' := Ha.out; have hb' := Hb.out
  rw [widen]; exact sx_congr (by omega)

set_option maxHeartbeats 400000 in
theorem doOp23 (a b : Int) (w : World) (ha : 0 ≤ a) (ha' : a < 18446744073709551616) (hb : 0 ≤ b) (hb' : b < 18446744073709551616) :
    Calls Tryd.prog 55 #[.int .i64 23, .int .u64 a, .int .u64 b] w fun e w' => e = .returned (.tuple #[.int .u64 (opV 23 a b), .int .i64 0]) ∧ w = w' := by
  have Ha := Lib.hid ha'; clear ha'
  have Hb := Lib.hid hb'; clear hb'
  generalize hV : opV 23 a b = V
  have HV := Lib.hid hV; clear hV
  go_enter Tryd.func55, Tryd.ntmps55
  go_wp2
  go_ret2
  refine ⟨ret2 ?_, rfl⟩
  rw [← HV.out]
  clear HV
  have ha' := Ha.out; have hb' := Hb.out
  rw [widen]; exact sx_congr (by have := Int.mul_emod a b 4294967296; omega)

set_option maxHeartbeats 400000 in
theorem doOp20 (a b : Int) (w : World) (ha : 0 ≤ a) (ha' : a < 18446744073709551616) (hb : 0 ≤ b) (hb' : b < 18446744073709551616) :
    Calls Tryd.prog 55 #[.int .i64 20, .int .u64 a, .int .u64 b] w fun e w' => e = .returned (.tuple #[.int .u64 (opV 20 a b), .int .i64 0]) ∧ w = w' := by
  have h31 := and_31 b
  have Ha := Lib.hid ha'; clear ha'
  have Hb := Lib.hid hb'; clear hb'
  generalize hV : opV 20 a b = V
  have HV := Lib.hid hV; clear hV
  go_enter Tryd.func55, Tryd.ntmps55
  go_wp2
  go_ret2
  refine ⟨ret2 ?_, rfl⟩
  rw [← HV.out]
  clear HV
  have ha' := Ha.out; have hb' := Hb.out
  rw [widen]; exact sx_congr (by have := mul_mod_congr (a := a % 4294967296) (a' := a) (c := 2 ^ (b % 32).toNat) (m := 4294967296) (by omega); omega)

set_option maxHeartbeats 400000 in
theorem doOp21 (a b : Int) (w : World) (ha : 0 ≤ a) (ha' : a < 18446744073709551616) (hb : 0 ≤ b) (hb' : b < 18446744073709551616) :
    Calls Tryd.prog 55 #[.int .i64 21, .int .u64 a, .int .u64 b] w fun e w' => e = .returned (.tuple #[.int .u64 (opV 21 a b), .int .i64 0]) ∧ w = w' := by
  have h31 := and_31 b
  have Ha := Lib.hid ha'; clear ha'
  have Hb := Lib.hid hb'; clear hb'
  generalize hV : opV 21 a b = V
  have HV := Lib.hid hV; clear hV
  go_enter Tryd.func55, Tryd.ntmps55
  go_wp2
  go_ret2
  refine ⟨ret2 ?_, rfl⟩
  rw [← HV.out]
  clear HV
  have ha' := Ha.out; have hb' := Hb.out
  rw [widen]; rfl

set_option maxHeartbeats 400000 in
theorem doOp22 (a b : Int) (w : World) (ha : 0 ≤ a) (ha' : a < 18446744073709551616) (hb : 0 ≤ b) (hb' : b < 18446744073709551616) :
    Calls Tryd.prog 55 #[.int .i64 22, .int .u64 a, .int .u64 b] w fun e w' => e = .returned (.tuple #[.int .u64 (opV 22 a b), .int .i64 0]) ∧ w = w' := by
  have h31 := and_31 b
  have Ha := Lib.hid ha'; clear ha'
  have Hb := Lib.hid hb'; clear hb'
  generalize hV : opV 22 a b = V
  have HV := Lib.hid hV; clear hV
  go_enter Tryd.func55, Tryd.ntmps55
  go_wp2
  go_ret2
  refine ⟨ret2 ?_, rfl⟩
  rw [← HV.out]
  clear HV
  have ha' := Ha.out; have hb' := Hb.out
  rw [widen, wrap32_mod]; exact sx_congr (by omega)

/-- Of every operation's number. -/
theorem do_any (op : Int) (h1 : 1 ≤ op) (h2 : op ≤ 27) : DoesAt op := by
  have : op = 1 ∨ op = 2 ∨ op = 3 ∨ op = 4 ∨ op = 5 ∨ op = 6 ∨ op = 7 ∨ op = 8 ∨ op = 9 ∨ op = 10 ∨ op = 11 ∨ op = 12 ∨ op = 13 ∨ op = 14 ∨ op = 15 ∨ op = 16 ∨ op = 17 ∨ op = 18 ∨ op = 19 ∨ op = 20 ∨ op = 21 ∨ op = 22 ∨ op = 23 ∨ op = 24 ∨ op = 25 ∨ op = 26 ∨ op = 27 := by omega
  rcases this with rfl | rfl | rfl | rfl | rfl | rfl | rfl | rfl | rfl | rfl | rfl | rfl | rfl | rfl | rfl | rfl | rfl | rfl | rfl | rfl | rfl | rfl | rfl | rfl | rfl | rfl | rfl
  · exact fun a b w ha ha' hb hb' => doOp1 a b w ha ha' hb hb'
  · exact fun a b w ha ha' hb hb' => doOp2 a b w ha ha' hb hb'
  · exact fun a b w ha ha' hb hb' => doOp3 a b w ha ha' hb hb'
  · exact fun a b w ha ha' hb hb' => doOp4 a b w ha ha' hb hb'
  · exact fun a b w ha ha' hb hb' => doOp5 a b w ha ha' hb hb'
  · exact fun a b w ha ha' hb hb' => doOp6 a b w ha ha' hb hb'
  · exact fun a b w ha ha' hb hb' => doOp7 a b w ha ha' hb hb'
  · exact fun a b w ha ha' hb hb' => doOp8 a b w ha ha' hb hb'
  · exact fun a b w ha ha' hb hb' => doOp9 a b w ha ha' hb hb'
  · exact fun a b w ha ha' hb hb' => doOp10 a b w ha ha' hb hb'
  · exact fun a b w ha ha' hb hb' => doOp11 a b w ha ha' hb hb'
  · exact fun a b w ha ha' hb hb' => doOp12 a b w ha ha' hb hb'
  · exact fun a b w ha ha' hb hb' => doOp13 a b w ha ha' hb hb'
  · exact fun a b w ha ha' hb hb' => doOp14 a b w ha ha' hb hb'
  · exact fun a b w ha ha' hb hb' => doOp15 a b w ha ha' hb hb'
  · exact fun a b w ha ha' hb hb' => doOp16 a b w ha ha' hb hb'
  · exact fun a b w ha ha' hb hb' => doOp17 a b w ha ha' hb hb'
  · exact fun a b w ha ha' hb hb' => doOp18 a b w ha ha' hb hb'
  · exact fun a b w ha ha' hb hb' => doOp19 a b w ha ha' hb hb'
  · exact fun a b w ha ha' hb hb' => doOp20 a b w ha ha' hb hb'
  · exact fun a b w ha ha' hb hb' => doOp21 a b w ha ha' hb hb'
  · exact fun a b w ha ha' hb hb' => doOp22 a b w ha ha' hb hb'
  · exact fun a b w ha ha' hb hb' => doOp23 a b w ha ha' hb hb'
  · exact fun a b w ha ha' hb hb' => doOp24 a b w ha ha' hb hb'
  · exact fun a b w ha ha' hb hb' => doOp25 a b w ha ha' hb hb'
  · exact fun a b w ha ha' hb hb' => doOp26 a b w ha ha' hb hb'
  · exact fun a b w ha ha' hb hb' => doOp27 a b w ha ha' hb hb'

end Go.Proofs.YtppcbommaddkgaaDoor
namespace Go.Proofs.YtppcbommaddkgaaDoor
open Go.RowKit
set_option linter.unusedVariables false
open Pl

namespace Pl
def pw (k : Nat) : Int := 2 ^ k % 18446744073709551616
def dv (a : Int) (k : Nat) : Int := a / 2 ^ k
def bt (a : Int) (k : Nat) : Int := a / 2 ^ k % 2
theorem pw_succ (k : Nat) : IntKind.u64.wrap (pw k * 2) = pw (k + 1) := by
  rw [IntKind.wrap_u64]; unfold pw; rw [Int.pow_succ]; omega
theorem pw_lt (k : Nat) (h : k < 64) : pw k = 2 ^ k := by
  unfold pw
  apply Int.emod_eq_of_lt (Int.le_of_lt (two_pow_pos k))
  have := pow_split k (by omega)
  have h2 : (2 : Int) ^ (64 - k) = 2 * 2 ^ (63 - k) := by rw [show 64 - k = 63 - k + 1 by omega, Int.pow_succ]; omega
  have h3 := two_pow_pos (63 - k)
  have h4 := two_pow_pos k
  rw [h2] at this
  have h5 : (2 : Int) ^ k * 2 ≤ 2 ^ k * (2 * 2 ^ (63 - k)) := Int.mul_le_mul_of_nonneg_left (by omega) (by omega)
  omega
theorem pw_range (k : Nat) : 0 ≤ pw k ∧ pw k < 18446744073709551616 := by unfold pw; omega
theorem dv_nonneg {a : Int} (h : 0 ≤ a) (k : Nat) : 0 ≤ dv a k := Int.ediv_nonneg h (Int.le_of_lt (two_pow_pos k))
theorem dv_succ (a : Int) (k : Nat) : dv a k / 2 = dv a (k + 1) := by
  unfold dv; rw [Int.ediv_ediv_of_nonneg (Int.le_of_lt (two_pow_pos k)), Int.pow_succ]
theorem dv_le {a : Int} (h : 0 ≤ a) (k : Nat) : dv a k ≤ a := Int.ediv_le_self _ h
theorem dv_step {a : Int} (h : 0 ≤ a) (h' : a < 18446744073709551616) (k : Nat) : IntKind.u64.wrap ((dv a k).tdiv 2) = dv a (k + 1) := by
  have h0 := dv_nonneg h k
  have h1 := dv_le h k
  rw [IntKind.wrap_u64, Int.tdiv_eq_ediv_of_nonneg h0, ← dv_succ]; omega
end Pl

set_option maxHeartbeats 400000 in
theorem power_any (n : Int) (w : World) (h0 : 0 ≤ n) (h1 : n ≤ 64) :
    Calls Tryd.prog 70 #[.int .i64 n] w fun e w' => e = .returned (.int .u64 (pw n.toNat)) ∧ w = w' := by
  go_enter Tryd.func70, Tryd.ntmps70
  go_wp2
  go_loop [3, 0] (fun v3 v0 => ∃ k : Nat, (k : Int) ≤ n ∧ v0 = .int .i64 (n - k) ∧ v3 = .int .u64 (pw k)) (fun _ v0 => (intOf v0).toNat)
  case atStart => exact ⟨0, by omega, by simp, rfl⟩
  case round =>
    obtain ⟨k, hk, rfl, rfl⟩ := hrel
    by_cases hlt : (k : Int) < n
    · go_wp2
      go_round
      case rel => exact ⟨k + 1, by omega, by rw [show n - (k : Int) - 1 = n - ((k + 1 : Nat) : Int) by omega], by rw [pw_succ]⟩
      case measure => simp [intOf]; omega
    · go_wp2
      go_ret
      exact ⟨ret1 (by rw [show n.toNat = k by omega]), rfl⟩

set_option maxHeartbeats 400000 in
theorem bit_any (a i : Int) (w : World) (ha : 0 ≤ a) (ha' : a < 18446744073709551616) (h0 : 0 ≤ i) (h1 : i ≤ 64) :
    Calls Tryd.prog 77 #[.int .u64 a, .int .i64 i] w fun e w' => e = .returned (.int .u64 (bt a i.toNat)) ∧ w = w' := by
  have Ha := Lib.hid ha'; clear ha'
  go_enter Tryd.func77, Tryd.ntmps77
  go_wp2
  go_loop [0, 1] (fun v0 v1 => ∃ k : Nat, (k : Int) ≤ i ∧ v1 = .int .i64 (i - k) ∧ v0 = .int .u64 (dv a k)) (fun _ v1 => (intOf v1).toNat)
  case atStart => exact ⟨0, by omega, by simp, by simp [dv]⟩
  case round =>
    obtain ⟨k, hk, rfl, rfl⟩ := hrel
    have hd := dv_nonneg ha k
    by_cases hlt : (k : Int) < i
    · go_wp2
      go_round
      case rel => exact ⟨k + 1, by omega, by rw [show i - (k : Int) - 1 = i - ((k + 1 : Nat) : Int) by omega], by rw [dv_step ha Ha.out]⟩
      case measure => simp [intOf]; omega
    · go_wp2
      go_ret
      exact ⟨ret1 (by rw [show i.toNat = k by omega]; rfl), rfl⟩

namespace Pl
def lo (how a b : Int) : Nat := if how = 1 then a.toNat ^^^ b.toNat else if how = 2 then a.toNat ||| b.toNat else a.toNat &&& b.toNat
def lr (how a b : Int) (k : Nat) : Int := ((lo how a b % 2 ^ k : Nat) : Int)
theorem bt_eq {a : Int} (h : 0 ≤ a) (k : Nat) : bt a k = if a.toNat.testBit k then 1 else 0 := by
  obtain ⟨x, rfl⟩ := Int.eq_ofNat_of_zero_le h
  unfold bt
  rw [Nat.testBit_eq_decide_div_mod_eq, Int.toNat_natCast]
  have : ((x : Int) / 2 ^ k % 2) = ((x / 2 ^ k % 2 : Nat) : Int) := by simp
  rw [this]
  by_cases h : x / 2 ^ k % 2 = 1
  · simp [h]
  · have : x / 2 ^ k % 2 = 0 := by omega
    simp [this]
theorem bt_or {a : Int} (k : Nat) : bt a k = 0 ∨ bt a k = 1 := by unfold bt; omega
theorem lr_zero (how a b : Int) : lr how a b 0 = 0 := by simp [lr, Nat.mod_one]
theorem lr_succ (how a b : Int) (k : Nat) : lr how a b (k + 1) = lr how a b k + if (lo how a b).testBit k then 2 ^ k else 0 := by
  unfold lr
  rw [Nat.mod_pow_succ, Nat.testBit_eq_decide_div_mod_eq]
  by_cases h : lo how a b / 2 ^ k % 2 = 1
  · simp [h]
  · have : lo how a b / 2 ^ k % 2 = 0 := by omega
    simp [this]
theorem lr_lt (how a b : Int) (k : Nat) : 0 ≤ lr how a b k ∧ lr how a b k < 2 ^ k := by
  unfold lr
  have := Nat.mod_lt (lo how a b) (Nat.two_pow_pos k)
  refine ⟨Int.natCast_nonneg _, ?_⟩
  have h2 : ((2 ^ k : Nat) : Int) = 2 ^ k := by simp
  rw [← h2]; omega
theorem lr_yes {how a b : Int} {k : Nat} (hk : k < 64) (h : (lo how a b).testBit k = true) : IntKind.u64.wrap (lr how a b k + pw k) = lr how a b (k + 1) := by
  rw [lr_succ, h, if_pos rfl, pw_lt k hk, IntKind.wrap_u64]
  have h1 := lr_lt how a b k
  have h2 := two_pow_pos k
  apply Int.emod_eq_of_lt (by omega)
  have h3 := pow_split (k + 1) (by omega)
  have h4 := two_pow_pos (64 - (k + 1))
  have h5 : (2 : Int) ^ (k + 1) * 1 ≤ 2 ^ (k + 1) * 2 ^ (64 - (k + 1)) := Int.mul_le_mul_of_nonneg_left (by omega) (Int.le_of_lt (two_pow_pos _))
  rw [Int.pow_succ] at h5 h3
  omega
theorem lr_no {how a b : Int} {k : Nat} (h : (lo how a b).testBit k = false) : lr how a b k = lr how a b (k + 1) := by
  rw [lr_succ, h]; simp
theorem lo_lt {how a b : Int} (ha : 0 ≤ a) (ha' : a < 18446744073709551616) (hb : 0 ≤ b) (hb' : b < 18446744073709551616) : lo how a b < 2 ^ 64 := by
  unfold lo
  split
  · exact Nat.xor_lt_two_pow (by omega) (by omega)
  · split
    · exact Nat.or_lt_two_pow (by omega) (by omega)
    · exact Nat.and_lt_two_pow _ (by omega)
theorem lr_all {how a b : Int} (ha : 0 ≤ a) (ha' : a < 18446744073709551616) (hb : 0 ≤ b) (hb' : b < 18446744073709551616) : lr how a b 64 = (lo how a b : Int) := by
  unfold lr; rw [Nat.mod_eq_of_lt (lo_lt ha ha' hb hb')]
theorem lo_bit1 (a b : Int) (k : Nat) (ha : 0 ≤ a) (hb : 0 ≤ b) : (lo 1 a b).testBit k = (bt a k != bt b k) := by
  rw [bt_eq ha, bt_eq hb]; show (a.toNat ^^^ b.toNat).testBit k = _; rw [Nat.testBit_xor]
  cases a.toNat.testBit k <;> cases b.toNat.testBit k <;> rfl
theorem lo_bit2 (a b : Int) (k : Nat) (ha : 0 ≤ a) (hb : 0 ≤ b) : (lo 2 a b).testBit k = (bt a k == 1 || bt b k == 1) := by
  rw [bt_eq ha, bt_eq hb]; show (a.toNat ||| b.toNat).testBit k = _; rw [Nat.testBit_or]
  cases a.toNat.testBit k <;> cases b.toNat.testBit k <;> rfl
theorem lo_bit3 (a b : Int) (k : Nat) (ha : 0 ≤ a) (hb : 0 ≤ b) : (lo 3 a b).testBit k = (bt a k == 1 && bt b k == 1) := by
  rw [bt_eq ha, bt_eq hb]; show (a.toNat &&& b.toNat).testBit k = _; rw [Nat.testBit_and]
  cases a.toNat.testBit k <;> cases b.toNat.testBit k <;> rfl
end Pl

set_option maxHeartbeats 1000000 in
theorem logic_1 (a b : Int) (w : World) (ha : 0 ≤ a) (ha' : a < 18446744073709551616) (hb : 0 ≤ b) (hb' : b < 18446744073709551616) :
    Calls Tryd.prog 64 #[.int .i64 1, .int .u64 a, .int .u64 b] w fun e w' => e = .returned (.int .u64 (lo 1 a b : Int)) ∧ w = w' := by
  rw [← lr_all ha ha' hb hb']
  have Ha := Lib.hid ha'; clear ha'
  have Hb := Lib.hid hb'; clear hb'
  go_enter Tryd.func64, Tryd.ntmps64
  go_wp2
  go_loop [7, 8] (fun v7 v8 => ∃ k : Nat, k ≤ 64 ∧ v8 = .int .i64 k ∧ v7 = .int .u64 (lr 1 a b k)) (fun _ v8 => 64 - (intOf v8).toNat)
  case atStart => exact ⟨0, by omega, rfl, by rw [lr_zero]⟩
  case round =>
    obtain ⟨k, hk, rfl, rfl⟩ := hrel
    by_cases hlt : k < 64
    · have HL := Lib.hid (lo_bit1 a b k ha hb)
      have hpa : bt a k = 0 ∨ bt a k = 1 := bt_or k
      have hpb : bt b k = 0 ∨ bt b k = 1 := bt_or k
      rcases hpa with hpa | hpa <;> rcases hpb with hpb | hpb
      all_goals
        go_wp2_with (first | (go_at_call 77; refine (bit_any _ _ _ (by first | with_reducible exact ha | with_reducible exact hb) (by first | with_reducible exact Ha.out | with_reducible exact Hb.out) (by omega) (by omega)).mono ?_; rintro e w' ⟨rfl, rfl⟩; rw [Int.toNat_natCast]) | (go_at_call 70; refine (power_any k _ (by omega) (by omega)).mono ?_; rintro e w' ⟨rfl, rfl⟩; rw [Int.toNat_natCast]))
        have HL := HL.out
        rw [hpa, hpb] at HL
        go_round
        case rel => exact ⟨k + 1, by omega, by go_num, by first | rw [lr_yes hlt HL] | rw [← lr_no HL]⟩
        case measure => simp [intOf]; omega
    · go_wp2
      go_ret
      exact ⟨ret1 (by rw [show k = 64 by omega]), rfl⟩

set_option maxHeartbeats 1000000 in
theorem logic_2 (a b : Int) (w : World) (ha : 0 ≤ a) (ha' : a < 18446744073709551616) (hb : 0 ≤ b) (hb' : b < 18446744073709551616) :
    Calls Tryd.prog 64 #[.int .i64 2, .int .u64 a, .int .u64 b] w fun e w' => e = .returned (.int .u64 (lo 2 a b : Int)) ∧ w = w' := by
  rw [← lr_all ha ha' hb hb']
  have Ha := Lib.hid ha'; clear ha'
  have Hb := Lib.hid hb'; clear hb'
  go_enter Tryd.func64, Tryd.ntmps64
  go_wp2
  go_loop [7, 8] (fun v7 v8 => ∃ k : Nat, k ≤ 64 ∧ v8 = .int .i64 k ∧ v7 = .int .u64 (lr 2 a b k)) (fun _ v8 => 64 - (intOf v8).toNat)
  case atStart => exact ⟨0, by omega, rfl, by rw [lr_zero]⟩
  case round =>
    obtain ⟨k, hk, rfl, rfl⟩ := hrel
    by_cases hlt : k < 64
    · have HL := Lib.hid (lo_bit2 a b k ha hb)
      have hpa : bt a k = 0 ∨ bt a k = 1 := bt_or k
      have hpb : bt b k = 0 ∨ bt b k = 1 := bt_or k
      rcases hpa with hpa | hpa <;> rcases hpb with hpb | hpb
      all_goals
        go_wp2_with (first | (go_at_call 77; refine (bit_any _ _ _ (by first | with_reducible exact ha | with_reducible exact hb) (by first | with_reducible exact Ha.out | with_reducible exact Hb.out) (by omega) (by omega)).mono ?_; rintro e w' ⟨rfl, rfl⟩; rw [Int.toNat_natCast]) | (go_at_call 70; refine (power_any k _ (by omega) (by omega)).mono ?_; rintro e w' ⟨rfl, rfl⟩; rw [Int.toNat_natCast]))
        have HL := HL.out
        rw [hpa, hpb] at HL
        go_round
        case rel => exact ⟨k + 1, by omega, by go_num, by first | rw [lr_yes hlt HL] | rw [← lr_no HL]⟩
        case measure => simp [intOf]; omega
    · go_wp2
      go_ret
      exact ⟨ret1 (by rw [show k = 64 by omega]), rfl⟩

set_option maxHeartbeats 1000000 in
theorem logic_3 (a b : Int) (w : World) (ha : 0 ≤ a) (ha' : a < 18446744073709551616) (hb : 0 ≤ b) (hb' : b < 18446744073709551616) :
    Calls Tryd.prog 64 #[.int .i64 3, .int .u64 a, .int .u64 b] w fun e w' => e = .returned (.int .u64 (lo 3 a b : Int)) ∧ w = w' := by
  rw [← lr_all ha ha' hb hb']
  have Ha := Lib.hid ha'; clear ha'
  have Hb := Lib.hid hb'; clear hb'
  go_enter Tryd.func64, Tryd.ntmps64
  go_wp2
  go_loop [7, 8] (fun v7 v8 => ∃ k : Nat, k ≤ 64 ∧ v8 = .int .i64 k ∧ v7 = .int .u64 (lr 3 a b k)) (fun _ v8 => 64 - (intOf v8).toNat)
  case atStart => exact ⟨0, by omega, rfl, by rw [lr_zero]⟩
  case round =>
    obtain ⟨k, hk, rfl, rfl⟩ := hrel
    by_cases hlt : k < 64
    · have HL := Lib.hid (lo_bit3 a b k ha hb)
      have hpa : bt a k = 0 ∨ bt a k = 1 := bt_or k
      have hpb : bt b k = 0 ∨ bt b k = 1 := bt_or k
      rcases hpa with hpa | hpa <;> rcases hpb with hpb | hpb
      all_goals
        go_wp2_with (first | (go_at_call 77; refine (bit_any _ _ _ (by first | with_reducible exact ha | with_reducible exact hb) (by first | with_reducible exact Ha.out | with_reducible exact Hb.out) (by omega) (by omega)).mono ?_; rintro e w' ⟨rfl, rfl⟩; rw [Int.toNat_natCast]) | (go_at_call 70; refine (power_any k _ (by omega) (by omega)).mono ?_; rintro e w' ⟨rfl, rfl⟩; rw [Int.toNat_natCast]))
        have HL := HL.out
        rw [hpa, hpb] at HL
        go_round
        case rel => exact ⟨k + 1, by omega, by go_num, by first | rw [lr_yes hlt HL] | rw [← lr_no HL]⟩
        case measure => simp [intOf]; omega
    · go_wp2
      go_ret
      exact ⟨ret1 (by rw [show k = 64 by omega]), rfl⟩

end Go.Proofs.YtppcbommaddkgaaDoor
namespace Go.Proofs.YtppcbommaddkgaaDoor
open Go.RowKit
set_option linter.unusedVariables false
open Pl

namespace Pl
theorem tdivh {x : Int} (h : 0 ≤ x) (h' : x < 18446744073709551616) : IntKind.u64.wrap (x.tdiv 4294967296) = x / 4294967296 := by
  rw [IntKind.wrap_u64, Int.tdiv_eq_ediv_of_nonneg h]; omega
theorem wrapR (x : Int) : 0 ≤ IntKind.u64.wrap x ∧ IntKind.u64.wrap x < 18446744073709551616 := by rw [IntKind.wrap_u64]; omega
theorem high_arith (x y : Int) (hx0 : 0 ≤ x) (hx : x < 18446744073709551616) (hy0 : 0 ≤ y) (hy : y < 18446744073709551616) :
    IntKind.u64.wrap (IntKind.u64.wrap (IntKind.u64.wrap (x / 4294967296 * (y / 4294967296)) +
      (IntKind.u64.wrap (IntKind.u64.wrap (x / 4294967296 * (y % 4294967296)) + IntKind.u64.wrap (x % 4294967296 * (y % 4294967296)) / 4294967296)) / 4294967296) +
      (IntKind.u64.wrap (IntKind.u64.wrap (x % 4294967296 * (y / 4294967296)) +
        (IntKind.u64.wrap (IntKind.u64.wrap (x / 4294967296 * (y % 4294967296)) + IntKind.u64.wrap (x % 4294967296 * (y % 4294967296)) / 4294967296)) % 4294967296)) / 4294967296) = x * y / 18446744073709551616 := by
  simp only [IntKind.wrap_u64]
  have ex : x = x / 4294967296 * 4294967296 + x % 4294967296 := by omega
  have ey : y = y / 4294967296 * 4294967296 + y % 4294967296 := by omega
  have b1 : 0 ≤ x / 4294967296 ∧ x / 4294967296 ≤ 4294967295 := by omega
  have b2 : 0 ≤ x % 4294967296 ∧ x % 4294967296 ≤ 4294967295 := by omega
  have b3 : 0 ≤ y / 4294967296 ∧ y / 4294967296 ≤ 4294967295 := by omega
  have b4 : 0 ≤ y % 4294967296 ∧ y % 4294967296 ≤ 4294967295 := by omega
  generalize x / 4294967296 = x1 at *
  generalize x % 4294967296 = x0 at *
  generalize y / 4294967296 = y1 at *
  generalize y % 4294967296 = y0 at *
  have pA := prod_bound x1 y1 b1.1 b1.2 b3.1 b3.2
  have pB := prod_bound x1 y0 b1.1 b1.2 b4.1 b4.2
  have pC := prod_bound x0 y0 b2.1 b2.2 b4.1 b4.2
  have pD := prod_bound x0 y1 b2.1 b2.2 b3.1 b3.2
  have hxy : x * y = x1 * y1 * 18446744073709551616 + (x1 * y0 + x0 * y1) * 4294967296 + x0 * y0 := by rw [ex, ey]; exact split_mul x1 x0 y1 y0
  rw [hxy]
  generalize x1 * y1 = A at *
  generalize x1 * y0 = B at *
  generalize x0 * y0 = C at *
  generalize x0 * y1 = D at *
  omega
def absV (a : Int) : Int := if 9223372036854775808 ≤ a then 18446744073709551616 - a else a
theorem absV_range {a : Int} (ha : 0 ≤ a) (ha' : a < 18446744073709551616) : 0 ≤ absV a ∧ absV a ≤ 9223372036854775808 := by unfold absV; split <;> omega
end Pl

/-- Nothing that was has changed. -/
def Gb (w w' : World) : Prop := Below w.heap.size w w'
theorem Gb.refl (w : World) : Gb w w := Below.refl _ _
theorem Gb.drew {w w' : World} (h : Gb w w') : Gb w w'.drew := ⟨h.os, h.tape, h.output, h.size, h.block⟩
theorem Gb.alloc {w w' : World} (h : Gb w w') (c : Array Value) (t : TypeId) : Gb w (w'.alloc (.cells c t)) := Below.alloc h h.size _

theorem grownN {w w' : World} {n : Nat} (h : Gb w w') : Gb w (w'.drewN n) := ⟨h.os, h.tape, h.output, h.size, h.block⟩

set_option maxHeartbeats 400000 in
theorem high_any (a b : Int) (w : World) (ha : 0 ≤ a) (ha' : a < 18446744073709551616) (hb : 0 ≤ b) (hb' : b < 18446744073709551616) :
    Calls Tryd.prog 66 #[.int .u64 a, .int .u64 b] w fun e w' => e = .returned (.int .u64 (a * b / 18446744073709551616)) ∧ Gb w w' := by
  have Ha := Lib.hid ha'; clear ha'
  have Hb := Lib.hid hb'; clear hb'
  generalize hV : a * b / 18446744073709551616 = V
  have HV := Lib.hid hV; clear hV
  go_enter Tryd.func66, Tryd.ntmps66
  go_wp2
  go_quiet (fail)
  go_wp2
  go_quiet (fail)
  go_wp2
  all_goals go_ret
  refine ⟨ret1 ?_, grownN (grownN (Gb.refl _))⟩
  rw [← HV.out]
  have ha' := Ha.out; have hb' := Hb.out
  rw [tdivh ha ha', tdivh hb hb', tdivh (wrapR _).1 (wrapR _).2, tdivh (wrapR _).1 (wrapR _).2, tdivh (wrapR _).1 (wrapR _).2]
  rw [Int.tmod_eq_emod_of_nonneg (wrapR _).1]
  exact high_arith a b ha ha' hb hb'

theorem size_any (a : Int) (w : World) (ha : 0 ≤ a) (ha' : a < 18446744073709551616) :
    Calls Tryd.prog 65 #[.int .u64 a] w fun e w' => e = .returned (.int .u64 (absV a)) ∧ w = w' := by
  have Ha := Lib.hid ha'; clear ha'
  generalize hV : absV a = V
  have HV := Lib.hid hV; clear hV
  by_cases h : 9223372036854775808 ≤ a
  · have Hh := Lib.hid h
    go_enter Tryd.func65, Tryd.ntmps65
    go_wp2
    go_ret
    refine ⟨ret1 ?_, rfl⟩
    rw [← HV.out, IntKind.wrap_u64]
    have ha' := Ha.out; have h := Hh.out
    unfold absV; rw [if_pos h]; omega
  · have Hh := Lib.hid h
    go_enter Tryd.func65, Tryd.ntmps65
    go_wp2
    go_ret
    refine ⟨ret1 ?_, rfl⟩
    rw [← HV.out]
    have ha' := Ha.out; have h := Hh.out
    unfold absV; rw [if_neg (by omega)]

namespace Pl
/-- The low n bits of a, signed or not, as a number of 64 bits. -/
def nrV (s : Bool) (a n : Int) : Int :=
  if s = true ∧ 2 ^ (n - 1).toNat ≤ a % 2 ^ n.toNat then a % 2 ^ n.toNat - 2 ^ n.toNat + 18446744073709551616 else a % 2 ^ n.toNat
theorem nrV_64 (s : Bool) {a : Int} (ha : 0 ≤ a) (ha' : a < 18446744073709551616) : nrV s a 64 = a := by
  unfold nrV
  have e : (2 : Int) ^ (64 : Int).toNat = 18446744073709551616 := by decide
  rw [e]; split <;> omega
theorem nr_u (a n : Int) (h1 : 1 ≤ n) (h2 : n ≤ 63) : a % pw n.toNat = nrV false a n := by
  unfold nrV; rw [if_neg (by simp), pw_lt _ (by omega)]
theorem nr_y (a n : Int) (h1 : 1 ≤ n) (h2 : n ≤ 63) (h : pw (n.toNat - 1) ≤ a % pw n.toNat) : IntKind.u64.wrap (a % pw n.toNat - pw n.toNat) = nrV true a n := by
  have h3 := pw_range n.toNat
  have e : n.toNat - 1 = (n - 1).toNat := by omega
  rw [e, pw_lt n.toNat (by omega), pw_lt (n - 1).toNat (by omega)] at h
  rw [pw_lt n.toNat (by omega)] at h3 ⊢
  have h4 := Int.emod_lt_of_pos a (two_pow_pos n.toNat)
  have h5 := Int.emod_nonneg a (Int.ne_of_gt (two_pow_pos n.toNat))
  unfold nrV; rw [if_pos ⟨rfl, h⟩, IntKind.wrap_u64]
  omega
theorem nr_n (a n : Int) (h1 : 1 ≤ n) (h2 : n ≤ 63) (h : a % pw n.toNat < pw (n.toNat - 1)) : a % pw n.toNat = nrV true a n := by
  have e : n.toNat - 1 = (n - 1).toNat := by omega
  rw [e, pw_lt n.toNat (by omega), pw_lt (n - 1).toNat (by omega)] at h
  unfold nrV; rw [if_neg (fun x => Int.not_le.2 h x.2), pw_lt _ (by omega)]
end Pl
theorem ret2b {x y : Int} (h : x = y) : Ending.returned (.tuple #[.int .u64 x, .bool true]) = .returned (.tuple #[.int .u64 y, .bool true]) := by rw [h]

theorem refNarrow_64 (a : Int) (s : Bool) (w : World) :
    Calls Tryd.prog 50 #[.int .u64 a, .int .i64 64, .bool s] w fun e w' => e = .returned (.tuple #[.int .u64 a, .bool true]) ∧ w = w' := by
  go_enter Tryd.func50, Tryd.ntmps50
  go_wp2
  go_ret2
  exact ⟨rfl, rfl⟩

set_option maxHeartbeats 400000 in
theorem refNarrow_u (a n : Int) (w : World) (ha : 0 ≤ a) (h1 : 1 ≤ n) (h2 : n ≤ 63) :
    Calls Tryd.prog 50 #[.int .u64 a, .int .i64 n, .bool false] w fun e w' => e = .returned (.tuple #[.int .u64 (nrV false a n), .bool true]) ∧ w = w' := by
  have hp : ¬ pw n.toNat = 0 := by rw [pw_lt _ (by omega)]; have := two_pow_pos n.toNat; omega
  have hq : 0 ≤ pw n.toNat := (pw_range _).1
  generalize hV : nrV false a n = V
  have HV := Lib.hid hV; clear hV
  go_enter Tryd.func50, Tryd.ntmps50
  go_wp2_with (first | (go_at_call 70; refine (power_any _ _ (by omega) (by omega)).mono ?_; rintro e w' ⟨rfl, rfl⟩) | go_in)
  go_ret2
  refine ⟨ret2b ?_, rfl⟩
  rw [← HV.out]
  exact nr_u a n (by omega) (by omega)
set_option maxHeartbeats 400000 in
theorem refNarrow_s (a n : Int) (w : World) (ha : 0 ≤ a) (h1 : 1 ≤ n) (h2 : n ≤ 63) :
    Calls Tryd.prog 50 #[.int .u64 a, .int .i64 n, .bool true] w fun e w' => e = .returned (.tuple #[.int .u64 (nrV true a n), .bool true]) ∧ w = w' := by
  have hp : ¬ pw n.toNat = 0 := by rw [pw_lt _ (by omega)]; have := two_pow_pos n.toNat; omega
  have hq : 0 ≤ pw n.toNat := (pw_range _).1
  generalize hV : nrV true a n = V
  have HV := Lib.hid hV; clear hV
  by_cases hc : pw (n.toNat - 1) ≤ a % pw n.toNat
  · have hd : decide (pw (n.toNat - 1) ≤ a % pw n.toNat) = true := by simpa using hc
    have Hc := Lib.hid hc
    go_enter Tryd.func50, Tryd.ntmps50
    go_wp2_with (first | (go_at_call 70; refine (power_any _ _ (by omega) (by omega)).mono ?_; rintro e w' ⟨rfl, rfl⟩) | go_in)
    go_ret2
    refine ⟨ret2b ?_, rfl⟩
    rw [← HV.out]
    exact nr_y a n (by omega) (by omega) Hc.out
  · have hd : decide (pw (n.toNat - 1) ≤ a % pw n.toNat) = false := by simpa using hc
    have Hc := Lib.hid (Int.not_le.1 hc)
    go_enter Tryd.func50, Tryd.ntmps50
    go_wp2_with (first | (go_at_call 70; refine (power_any _ _ (by omega) (by omega)).mono ?_; rintro e w' ⟨rfl, rfl⟩) | go_in)
    go_ret2
    refine ⟨ret2b ?_, rfl⟩
    rw [← HV.out]
    exact nr_n a n (by omega) (by omega) Hc.out
theorem refNarrow_any (s : Bool) (a n : Int) (w : World) (ha : 0 ≤ a) (ha' : a < 18446744073709551616) (h1 : 1 ≤ n) (h2 : n ≤ 64) :
    Calls Tryd.prog 50 #[.int .u64 a, .int .i64 n, .bool s] w fun e w' => e = .returned (.tuple #[.int .u64 (nrV s a n), .bool true]) ∧ w = w' := by
  by_cases h : n = 64
  · subst h; rw [nrV_64 s ha ha']; exact refNarrow_64 a s w
  · cases s
    · exact refNarrow_u a n w ha h1 (by omega)
    · exact refNarrow_s a n w ha h1 (by omega)
end Go.Proofs.YtppcbommaddkgaaDoor
namespace Go.Proofs.YtppcbommaddkgaaDoor
open Go.RowKit
set_option linter.unusedVariables false
open Pl

/-- What is said of the document's Do at an operation's number. -/
def RefAt (op : Int) : Prop := ∀ (a b : Int) (w : World), 0 ≤ a → a < 18446744073709551616 → 0 ≤ b → b < 18446744073709551616 →
    Calls Tryd.prog 49 #[.int .i64 op, .int .u64 a, .int .u64 b] w fun e w' => e = .returned (.tuple #[.int .u64 (opV op a b), .bool true]) ∧ Gb w w'

namespace Pl
theorem mod64 (b : Int) : 0 ≤ b % 64 ∧ b % 64 ≤ 63 := by omega
theorem r3 (a b : Int) : IntKind.u64.wrap (a * pw (b % 64).toNat) = a * 2 ^ (b % 64).toNat % 18446744073709551616 := by
  rw [IntKind.wrap_u64, pw_lt _ (by omega)]
theorem r7 (a b : Int) (ha : 0 ≤ a) (ha' : a < 18446744073709551616) : IntKind.u64.wrap (a.tdiv (pw (b % 64).toNat)) = a / 2 ^ (b % 64).toNat := by
  have h := two_pow_pos (b % 64).toNat
  rw [IntKind.wrap_u64, pw_lt _ (by omega), Int.tdiv_eq_ediv_of_nonneg ha]
  have h1 := Int.ediv_le_self (2 ^ (b % 64).toNat) ha
  have h2 := Int.ediv_nonneg ha (Int.le_of_lt h)
  omega
theorem ceil_floor (A P : Int) (hP : 0 < P) : -((A + P - 1) / P) = (-A) / P := by
  have h1 : (A + P - 1) / P * P ≤ A + P - 1 := Int.ediv_mul_le _ (by omega)
  have h2 : A + P - 1 < ((A + P - 1) / P + 1) * P := Int.lt_ediv_add_one_mul_self _ hP
  generalize (A + P - 1) / P = q at *
  symm
  rw [Int.add_mul] at h2
  apply Int.le_antisymm
  · apply Int.le_of_lt_add_one
    apply Int.ediv_lt_of_lt_mul hP
    rw [Int.add_mul, Int.neg_mul]; omega
  · apply Int.le_ediv_of_mul_le hP
    rw [Int.neg_mul]; omega
/-- An arithmetic move of a negative number, by the document's way. -/
theorem r8n (a b : Int) (ha : 9223372036854775808 ≤ a) (ha' : a < 18446744073709551616) :
    IntKind.u64.wrap (-IntKind.u64.wrap ((IntKind.u64.wrap (IntKind.u64.wrap (IntKind.u64.wrap (-a) + pw (b % 64).toNat) - 1)).tdiv (pw (b % 64).toNat))) = wrap64 a / 2 ^ (b % 64).toNat % 18446744073709551616 := by
  have h := two_pow_pos (b % 64).toNat
  have hr := pw_range (b % 64).toNat
  have hu : (2 : Int) ^ (b % 64).toNat ≤ 9223372036854775808 := by
    have := pow_split (b % 64).toNat (by omega)
    have h3 := two_pow_pos (63 - (b % 64).toNat)
    have h2 : (2 : Int) ^ (64 - (b % 64).toNat) = 2 * 2 ^ (63 - (b % 64).toNat) := by rw [show 64 - (b % 64).toNat = 63 - (b % 64).toNat + 1 by omega, Int.pow_succ]; omega
    rw [h2] at this
    have h5 : (2 : Int) ^ (b % 64).toNat * 2 ≤ 2 ^ (b % 64).toNat * (2 * 2 ^ (63 - (b % 64).toNat)) := Int.mul_le_mul_of_nonneg_left (by omega) (by omega)
    omega
  rw [pw_lt _ (by omega)]
  have e : wrap64 a = -(18446744073709551616 - a) := by unfold wrap64; omega
  rw [e, ← ceil_floor _ _ h]
  generalize (2 : Int) ^ (b % 64).toNat = p at *
  have e1 : IntKind.u64.wrap (-a) = 18446744073709551616 - a := by rw [IntKind.wrap_u64]; omega
  have e3 : IntKind.u64.wrap (IntKind.u64.wrap (18446744073709551616 - a + p) - 1) = 18446744073709551616 - a + p - 1 := by rw [IntKind.wrap_u64, IntKind.wrap_u64]; omega
  rw [e1, e3, Int.tdiv_eq_ediv_of_nonneg (by omega), IntKind.wrap_u64, IntKind.wrap_u64]
  generalize (18446744073709551616 - a + p - 1) / p = q
  omega
theorem wrap64_hi {a : Int} (ha : 9223372036854775808 ≤ a) (ha' : a < 18446744073709551616) : wrap64 a = a - 18446744073709551616 := by unfold wrap64; omega
theorem wrap64_lo {a : Int} (h0 : 0 ≤ a) (ha : a < 9223372036854775808) : wrap64 a = a := by unfold wrap64; omega
theorem r8p (a b : Int) (ha : 0 ≤ a) (ha' : a < 9223372036854775808) : a / 2 ^ (b % 64).toNat = wrap64 a / 2 ^ (b % 64).toNat % 18446744073709551616 := by
  rw [wrap64_lo ha ha']
  have h := two_pow_pos (b % 64).toNat
  have h1 := Int.ediv_le_self (2 ^ (b % 64).toNat) ha
  have h2 := Int.ediv_nonneg ha (Int.le_of_lt h)
  omega
/-- The sizes' product is the signed product but for its sign. -/
theorem abs_mul (a b : Int) (ha : 0 ≤ a) (ha' : a < 18446744073709551616) (hb : 0 ≤ b) (hb' : b < 18446744073709551616) :
    wrap64 a * wrap64 b = if (9223372036854775808 ≤ a) = (9223372036854775808 ≤ b) then absV a * absV b else -(absV a * absV b) := by
  by_cases h1 : 9223372036854775808 ≤ a <;> by_cases h2 : 9223372036854775808 ≤ b
  · rw [wrap64_hi h1 ha', wrap64_hi h2 hb', if_pos (by simp [h1, h2])]; unfold absV; rw [if_pos h1, if_pos h2]; grind
  · rw [wrap64_hi h1 ha', wrap64_lo hb (by omega), if_neg (by simp [h1, h2])]; unfold absV; rw [if_pos h1, if_neg h2]; grind
  · rw [wrap64_lo ha (by omega), wrap64_hi h2 hb', if_neg (by simp [h1, h2])]; unfold absV; rw [if_neg h1, if_pos h2]; grind
  · rw [wrap64_lo ha (by omega), wrap64_lo hb (by omega), if_pos (by simp [h1, h2])]; unfold absV; rw [if_neg h1, if_neg h2]
theorem abs_bound (a b : Int) (ha : 0 ≤ a) (ha' : a < 18446744073709551616) (hb : 0 ≤ b) (hb' : b < 18446744073709551616) : 0 ≤ absV a * absV b := 
  Int.mul_nonneg (absV_range ha ha').1 (absV_range hb hb').1
theorem abs_bound2 (a b : Int) (ha : 0 ≤ a) (ha' : a < 18446744073709551616) (hb : 0 ≤ b) (hb' : b < 18446744073709551616) : absV a * absV b ≤ 85070591730234615865843651857942052864 := by
  have := Int.mul_le_mul (absV_range ha ha').2 (absV_range hb hb').2 (absV_range hb hb').1 (by decide)
  simpa using this
/-- MULH by the document: signs the same; apart, with and without a rest. -/
theorem r12s (a b : Int) (ha : 0 ≤ a) (ha' : a < 18446744073709551616) (hb : 0 ≤ b) (hb' : b < 18446744073709551616) (h : (9223372036854775808 ≤ a) = (9223372036854775808 ≤ b)) :
    absV a * absV b / 18446744073709551616 = wrap64 a * wrap64 b / 18446744073709551616 % 18446744073709551616 := by
  rw [abs_mul a b ha ha' hb hb', if_pos h]
  have h0 := abs_bound a b ha ha' hb hb'
  have h1 := abs_bound2 a b ha ha' hb hb'
  generalize absV a * absV b = p at *
  omega
theorem r12n (a b : Int) (ha : 0 ≤ a) (ha' : a < 18446744073709551616) (hb : 0 ≤ b) (hb' : b < 18446744073709551616) (h : ¬ (9223372036854775808 ≤ a) = (9223372036854775808 ≤ b))
    (hz : ¬ IntKind.u64.wrap (absV a * absV b) = 0) :
    IntKind.u64.wrap (IntKind.u64.wrap (-(absV a * absV b / 18446744073709551616)) - 1) = wrap64 a * wrap64 b / 18446744073709551616 % 18446744073709551616 := by
  rw [abs_mul a b ha ha' hb hb', if_neg h]
  have h0 := abs_bound a b ha ha' hb hb'
  have h1 := abs_bound2 a b ha ha' hb hb'
  simp only [IntKind.wrap_u64] at *
  generalize absV a * absV b = p at *
  omega
theorem r12z (a b : Int) (ha : 0 ≤ a) (ha' : a < 18446744073709551616) (hb : 0 ≤ b) (hb' : b < 18446744073709551616) (h : ¬ (9223372036854775808 ≤ a) = (9223372036854775808 ≤ b))
    (hz : IntKind.u64.wrap (absV a * absV b) = 0) :
    IntKind.u64.wrap (-(absV a * absV b / 18446744073709551616)) = wrap64 a * wrap64 b / 18446744073709551616 % 18446744073709551616 := by
  rw [abs_mul a b ha ha' hb hb', if_neg h]
  have h0 := abs_bound a b ha ha' hb hb'
  have h1 := abs_bound2 a b ha ha' hb hb'
  simp only [IntKind.wrap_u64] at *
  generalize absV a * absV b = p at *
  omega
theorem absV_zero {b : Int} (hb : 0 ≤ b) (hb' : b < 18446744073709551616) : absV b = 0 ↔ b = 0 := by unfold absV; split <;> omega
theorem wrap64_abs {a : Int} (ha : 0 ≤ a) (ha' : a < 18446744073709551616) : wrap64 a = if 9223372036854775808 ≤ a then -absV a else absV a := by
  unfold wrap64 absV; split <;> omega
theorem quo_range {x y : Int} (hx : 0 ≤ x) (hy : 0 ≤ y) : 0 ≤ x / y ∧ x / y ≤ x := ⟨Int.ediv_nonneg hx hy, Int.ediv_le_self _ hx⟩
end Pl

set_option maxHeartbeats 1000000 in
theorem ref1 (a b : Int) (w : World) (ha : 0 ≤ a) (ha' : a < 18446744073709551616) (hb : 0 ≤ b) (hb' : b < 18446744073709551616) :
    Calls Tryd.prog 49 #[.int .i64 1, .int .u64 a, .int .u64 b] w fun e w' => e = .returned (.tuple #[.int .u64 (opV 1 a b), .bool true]) ∧ Gb w w' := by
  have Ha := Lib.hid ha'; clear ha'
  have Hb := Lib.hid hb'; clear hb'
  generalize hV : opV 1 a b = V
  have HV := Lib.hid hV; clear hV
  go_enter Tryd.func49, Tryd.ntmps49
  go_wp2
  go_ret2
  refine ⟨ret2b ?_, Gb.refl _⟩
  rw [← HV.out]
  clear HV
  have ha' := Ha.out; have hb' := Hb.out
  rw [IntKind.wrap_u64]; rfl

set_option maxHeartbeats 1000000 in
theorem ref2 (a b : Int) (w : World) (ha : 0 ≤ a) (ha' : a < 18446744073709551616) (hb : 0 ≤ b) (hb' : b < 18446744073709551616) :
    Calls Tryd.prog 49 #[.int .i64 2, .int .u64 a, .int .u64 b] w fun e w' => e = .returned (.tuple #[.int .u64 (opV 2 a b), .bool true]) ∧ Gb w w' := by
  have Ha := Lib.hid ha'; clear ha'
  have Hb := Lib.hid hb'; clear hb'
  generalize hV : opV 2 a b = V
  have HV := Lib.hid hV; clear hV
  go_enter Tryd.func49, Tryd.ntmps49
  go_wp2
  go_ret2
  refine ⟨ret2b ?_, Gb.refl _⟩
  rw [← HV.out]
  clear HV
  have ha' := Ha.out; have hb' := Hb.out
  rw [IntKind.wrap_u64]; rfl

set_option maxHeartbeats 1000000 in
theorem ref3 (a b : Int) (w : World) (ha : 0 ≤ a) (ha' : a < 18446744073709551616) (hb : 0 ≤ b) (hb' : b < 18446744073709551616) :
    Calls Tryd.prog 49 #[.int .i64 3, .int .u64 a, .int .u64 b] w fun e w' => e = .returned (.tuple #[.int .u64 (opV 3 a b), .bool true]) ∧ Gb w w' := by
  have hm := mod64 b
  have Ha := Lib.hid ha'; clear ha'
  have Hb := Lib.hid hb'; clear hb'
  generalize hV : opV 3 a b = V
  have HV := Lib.hid hV; clear hV
  go_enter Tryd.func49, Tryd.ntmps49
  go_wp2_with (first | (go_at_call 70; refine (power_any _ _ (by omega) (by omega)).mono ?_; rintro e w' ⟨rfl, rfl⟩) | go_in)
  go_ret2
  refine ⟨ret2b ?_, Gb.refl _⟩
  rw [← HV.out]
  clear HV
  have ha' := Ha.out; have hb' := Hb.out
  rw [r3]; rfl

set_option maxHeartbeats 1000000 in
theorem ref4ay (a b : Int) (w : World) (ha : 0 ≤ a) (ha' : a < 18446744073709551616) (hb : 0 ≤ b) (hb' : b < 18446744073709551616) (h1 : 9223372036854775808 ≤ a) (h2 : 9223372036854775808 ≤ b) (h : a < b) :
    Calls Tryd.prog 49 #[.int .i64 4, .int .u64 a, .int .u64 b] w fun e w' => e = .returned (.tuple #[.int .u64 (opV 4 a b), .bool true]) ∧ Gb w w' := by
  have D1 : decide (9223372036854775808 ≤ a) = true := by simpa using h1
  have D2 : decide (9223372036854775808 ≤ b) = true := by simpa using h2
  have H1 := Lib.hid h1; have H2 := Lib.hid h2; clear h1 h2
  have hd : decide (a < b) = true := by simpa using h
  have H := Lib.hid h; clear h
  have Ha := Lib.hid ha'; clear ha'
  have Hb := Lib.hid hb'; clear hb'
  generalize hV : opV 4 a b = V
  have HV := Lib.hid hV; clear hV
  go_enter Tryd.func49, Tryd.ntmps49
  go_wp2
  go_ret2
  refine ⟨ret2b ?_, Gb.refl _⟩
  rw [← HV.out]
  clear HV
  have ha' := Ha.out; have hb' := Hb.out
  have h := H.out; have h1 := H1.out; have h2 := H2.out; show _ = if wrap64 a < wrap64 b then (1 : Int) else 0; rw [if_pos (by unfold wrap64; omega)]

set_option maxHeartbeats 1000000 in
theorem ref4an (a b : Int) (w : World) (ha : 0 ≤ a) (ha' : a < 18446744073709551616) (hb : 0 ≤ b) (hb' : b < 18446744073709551616) (h1 : 9223372036854775808 ≤ a) (h2 : 9223372036854775808 ≤ b) (h : ¬ a < b) :
    Calls Tryd.prog 49 #[.int .i64 4, .int .u64 a, .int .u64 b] w fun e w' => e = .returned (.tuple #[.int .u64 (opV 4 a b), .bool true]) ∧ Gb w w' := by
  have D1 : decide (9223372036854775808 ≤ a) = true := by simpa using h1
  have D2 : decide (9223372036854775808 ≤ b) = true := by simpa using h2
  have H1 := Lib.hid h1; have H2 := Lib.hid h2; clear h1 h2
  have hd : decide (a < b) = false := by simpa using h
  have H := Lib.hid h; clear h
  have Ha := Lib.hid ha'; clear ha'
  have Hb := Lib.hid hb'; clear hb'
  generalize hV : opV 4 a b = V
  have HV := Lib.hid hV; clear hV
  go_enter Tryd.func49, Tryd.ntmps49
  go_wp2
  go_ret2
  refine ⟨ret2b ?_, Gb.refl _⟩
  rw [← HV.out]
  clear HV
  have ha' := Ha.out; have hb' := Hb.out
  have h := H.out; have h1 := H1.out; have h2 := H2.out; show _ = if wrap64 a < wrap64 b then (1 : Int) else 0; rw [if_neg (by unfold wrap64; omega)]

set_option maxHeartbeats 1000000 in
theorem ref4b (a b : Int) (w : World) (ha : 0 ≤ a) (ha' : a < 18446744073709551616) (hb : 0 ≤ b) (hb' : b < 18446744073709551616) (h1 : 9223372036854775808 ≤ a) (h2 : b < 9223372036854775808) :
    Calls Tryd.prog 49 #[.int .i64 4, .int .u64 a, .int .u64 b] w fun e w' => e = .returned (.tuple #[.int .u64 (opV 4 a b), .bool true]) ∧ Gb w w' := by
  have D1 : decide (9223372036854775808 ≤ a) = true := by simpa using h1
  have D2 : decide (9223372036854775808 ≤ b) = false := by simpa using h2
  have H1 := Lib.hid h1; have H2 := Lib.hid h2; clear h1 h2
  have Ha := Lib.hid ha'; clear ha'
  have Hb := Lib.hid hb'; clear hb'
  generalize hV : opV 4 a b = V
  have HV := Lib.hid hV; clear hV
  go_enter Tryd.func49, Tryd.ntmps49
  go_wp2
  go_ret2
  refine ⟨ret2b ?_, Gb.refl _⟩
  rw [← HV.out]
  clear HV
  have ha' := Ha.out; have hb' := Hb.out
  have h1 := H1.out; have h2 := H2.out; show _ = if wrap64 a < wrap64 b then (1 : Int) else 0; rw [if_pos (by unfold wrap64; omega)]

set_option maxHeartbeats 1000000 in
theorem ref4c (a b : Int) (w : World) (ha : 0 ≤ a) (ha' : a < 18446744073709551616) (hb : 0 ≤ b) (hb' : b < 18446744073709551616) (h1 : a < 9223372036854775808) (h2 : 9223372036854775808 ≤ b) :
    Calls Tryd.prog 49 #[.int .i64 4, .int .u64 a, .int .u64 b] w fun e w' => e = .returned (.tuple #[.int .u64 (opV 4 a b), .bool true]) ∧ Gb w w' := by
  have D1 : decide (9223372036854775808 ≤ a) = false := by simpa using h1
  have D2 : decide (9223372036854775808 ≤ b) = true := by simpa using h2
  have H1 := Lib.hid h1; have H2 := Lib.hid h2; clear h1 h2
  have Ha := Lib.hid ha'; clear ha'
  have Hb := Lib.hid hb'; clear hb'
  generalize hV : opV 4 a b = V
  have HV := Lib.hid hV; clear hV
  go_enter Tryd.func49, Tryd.ntmps49
  go_wp2
  go_ret2
  refine ⟨ret2b ?_, Gb.refl _⟩
  rw [← HV.out]
  clear HV
  have ha' := Ha.out; have hb' := Hb.out
  have h1 := H1.out; have h2 := H2.out; show _ = if wrap64 a < wrap64 b then (1 : Int) else 0; rw [if_neg (by unfold wrap64; omega)]

set_option maxHeartbeats 1000000 in
theorem ref4dy (a b : Int) (w : World) (ha : 0 ≤ a) (ha' : a < 18446744073709551616) (hb : 0 ≤ b) (hb' : b < 18446744073709551616) (h1 : a < 9223372036854775808) (h2 : b < 9223372036854775808) (h : a < b) :
    Calls Tryd.prog 49 #[.int .i64 4, .int .u64 a, .int .u64 b] w fun e w' => e = .returned (.tuple #[.int .u64 (opV 4 a b), .bool true]) ∧ Gb w w' := by
  have D1 : decide (9223372036854775808 ≤ a) = false := by simpa using h1
  have D2 : decide (9223372036854775808 ≤ b) = false := by simpa using h2
  have H1 := Lib.hid h1; have H2 := Lib.hid h2; clear h1 h2
  have hd : decide (a < b) = true := by simpa using h
  have H := Lib.hid h; clear h
  have Ha := Lib.hid ha'; clear ha'
  have Hb := Lib.hid hb'; clear hb'
  generalize hV : opV 4 a b = V
  have HV := Lib.hid hV; clear hV
  go_enter Tryd.func49, Tryd.ntmps49
  go_wp2
  go_ret2
  refine ⟨ret2b ?_, Gb.refl _⟩
  rw [← HV.out]
  clear HV
  have ha' := Ha.out; have hb' := Hb.out
  have h := H.out; have h1 := H1.out; have h2 := H2.out; show _ = if wrap64 a < wrap64 b then (1 : Int) else 0; rw [if_pos (by unfold wrap64; omega)]

set_option maxHeartbeats 1000000 in
theorem ref4dn (a b : Int) (w : World) (ha : 0 ≤ a) (ha' : a < 18446744073709551616) (hb : 0 ≤ b) (hb' : b < 18446744073709551616) (h1 : a < 9223372036854775808) (h2 : b < 9223372036854775808) (h : ¬ a < b) :
    Calls Tryd.prog 49 #[.int .i64 4, .int .u64 a, .int .u64 b] w fun e w' => e = .returned (.tuple #[.int .u64 (opV 4 a b), .bool true]) ∧ Gb w w' := by
  have D1 : decide (9223372036854775808 ≤ a) = false := by simpa using h1
  have D2 : decide (9223372036854775808 ≤ b) = false := by simpa using h2
  have H1 := Lib.hid h1; have H2 := Lib.hid h2; clear h1 h2
  have hd : decide (a < b) = false := by simpa using h
  have H := Lib.hid h; clear h
  have Ha := Lib.hid ha'; clear ha'
  have Hb := Lib.hid hb'; clear hb'
  generalize hV : opV 4 a b = V
  have HV := Lib.hid hV; clear hV
  go_enter Tryd.func49, Tryd.ntmps49
  go_wp2
  go_ret2
  refine ⟨ret2b ?_, Gb.refl _⟩
  rw [← HV.out]
  clear HV
  have ha' := Ha.out; have hb' := Hb.out
  have h := H.out; have h1 := H1.out; have h2 := H2.out; show _ = if wrap64 a < wrap64 b then (1 : Int) else 0; rw [if_neg (by unfold wrap64; omega)]

theorem ref4 : RefAt 4 := fun a b w ha ha' hb hb' =>
  if h1 : 9223372036854775808 ≤ a then (if h2 : 9223372036854775808 ≤ b then (if h : a < b then ref4ay a b w ha ha' hb hb' h1 h2 h else ref4an a b w ha ha' hb hb' h1 h2 h) else ref4b a b w ha ha' hb hb' h1 (Int.not_le.1 h2))
  else (if h2 : 9223372036854775808 ≤ b then ref4c a b w ha ha' hb hb' (Int.not_le.1 h1) h2 else (if h : a < b then ref4dy a b w ha ha' hb hb' (Int.not_le.1 h1) (Int.not_le.1 h2) h else ref4dn a b w ha ha' hb hb' (Int.not_le.1 h1) (Int.not_le.1 h2) h))

set_option maxHeartbeats 1000000 in
theorem ref5y (a b : Int) (w : World) (ha : 0 ≤ a) (ha' : a < 18446744073709551616) (hb : 0 ≤ b) (hb' : b < 18446744073709551616) (h : a < b) :
    Calls Tryd.prog 49 #[.int .i64 5, .int .u64 a, .int .u64 b] w fun e w' => e = .returned (.tuple #[.int .u64 (opV 5 a b), .bool true]) ∧ Gb w w' := by
  have hd : decide (a < b) = true := by simpa using h
  have H := Lib.hid h; clear h
  have Ha := Lib.hid ha'; clear ha'
  have Hb := Lib.hid hb'; clear hb'
  generalize hV : opV 5 a b = V
  have HV := Lib.hid hV; clear hV
  go_enter Tryd.func49, Tryd.ntmps49
  go_wp2
  go_ret2
  refine ⟨ret2b ?_, Gb.refl _⟩
  rw [← HV.out]
  clear HV
  have ha' := Ha.out; have hb' := Hb.out
  have h := H.out; show _ = if a < b then (1 : Int) else 0; rw [if_pos (by omega)]

set_option maxHeartbeats 1000000 in
theorem ref5n (a b : Int) (w : World) (ha : 0 ≤ a) (ha' : a < 18446744073709551616) (hb : 0 ≤ b) (hb' : b < 18446744073709551616) (h : ¬ a < b) :
    Calls Tryd.prog 49 #[.int .i64 5, .int .u64 a, .int .u64 b] w fun e w' => e = .returned (.tuple #[.int .u64 (opV 5 a b), .bool true]) ∧ Gb w w' := by
  have hd : decide (a < b) = false := by simpa using h
  have H := Lib.hid h; clear h
  have Ha := Lib.hid ha'; clear ha'
  have Hb := Lib.hid hb'; clear hb'
  generalize hV : opV 5 a b = V
  have HV := Lib.hid hV; clear hV
  go_enter Tryd.func49, Tryd.ntmps49
  go_wp2
  go_ret2
  refine ⟨ret2b ?_, Gb.refl _⟩
  rw [← HV.out]
  clear HV
  have ha' := Ha.out; have hb' := Hb.out
  have h := H.out; show _ = if a < b then (1 : Int) else 0; rw [if_neg (by omega)]

theorem ref5 : RefAt 5 := fun a b w ha ha' hb hb' => if h : a < b then ref5y a b w ha ha' hb hb' h else ref5n a b w ha ha' hb hb' h

set_option maxHeartbeats 1000000 in
theorem ref6 (a b : Int) (w : World) (ha : 0 ≤ a) (ha' : a < 18446744073709551616) (hb : 0 ≤ b) (hb' : b < 18446744073709551616) :
    Calls Tryd.prog 49 #[.int .i64 6, .int .u64 a, .int .u64 b] w fun e w' => e = .returned (.tuple #[.int .u64 (opV 6 a b), .bool true]) ∧ Gb w w' := by
  have Ha := Lib.hid ha'; clear ha'
  have Hb := Lib.hid hb'; clear hb'
  generalize hV : opV 6 a b = V
  have HV := Lib.hid hV; clear hV
  go_enter Tryd.func49, Tryd.ntmps49
  go_wp2_with (first | (go_at_call 64; refine (logic_1 a b _ ha Ha.out hb Hb.out).mono ?_; rintro e w' ⟨rfl, rfl⟩) | go_in)
  go_ret2
  refine ⟨ret2b ?_, Gb.refl _⟩
  rw [← HV.out]
  clear HV
  have ha' := Ha.out; have hb' := Hb.out
  rfl

set_option maxHeartbeats 1000000 in
theorem ref9 (a b : Int) (w : World) (ha : 0 ≤ a) (ha' : a < 18446744073709551616) (hb : 0 ≤ b) (hb' : b < 18446744073709551616) :
    Calls Tryd.prog 49 #[.int .i64 9, .int .u64 a, .int .u64 b] w fun e w' => e = .returned (.tuple #[.int .u64 (opV 9 a b), .bool true]) ∧ Gb w w' := by
  have Ha := Lib.hid ha'; clear ha'
  have Hb := Lib.hid hb'; clear hb'
  generalize hV : opV 9 a b = V
  have HV := Lib.hid hV; clear hV
  go_enter Tryd.func49, Tryd.ntmps49
  go_wp2_with (first | (go_at_call 64; refine (logic_2 a b _ ha Ha.out hb Hb.out).mono ?_; rintro e w' ⟨rfl, rfl⟩) | go_in)
  go_ret2
  refine ⟨ret2b ?_, Gb.refl _⟩
  rw [← HV.out]
  clear HV
  have ha' := Ha.out; have hb' := Hb.out
  rfl

set_option maxHeartbeats 1000000 in
theorem ref10 (a b : Int) (w : World) (ha : 0 ≤ a) (ha' : a < 18446744073709551616) (hb : 0 ≤ b) (hb' : b < 18446744073709551616) :
    Calls Tryd.prog 49 #[.int .i64 10, .int .u64 a, .int .u64 b] w fun e w' => e = .returned (.tuple #[.int .u64 (opV 10 a b), .bool true]) ∧ Gb w w' := by
  have Ha := Lib.hid ha'; clear ha'
  have Hb := Lib.hid hb'; clear hb'
  generalize hV : opV 10 a b = V
  have HV := Lib.hid hV; clear hV
  go_enter Tryd.func49, Tryd.ntmps49
  go_wp2_with (first | (go_at_call 64; refine (logic_3 a b _ ha Ha.out hb Hb.out).mono ?_; rintro e w' ⟨rfl, rfl⟩) | go_in)
  go_ret2
  refine ⟨ret2b ?_, Gb.refl _⟩
  rw [← HV.out]
  clear HV
  have ha' := Ha.out; have hb' := Hb.out
  rfl

set_option maxHeartbeats 1000000 in
theorem ref7z (a b : Int) (w : World) (ha : 0 ≤ a) (ha' : a < 18446744073709551616) (hb : 0 ≤ b) (hb' : b < 18446744073709551616) (h : b % 64 = 0) :
    Calls Tryd.prog 49 #[.int .i64 7, .int .u64 a, .int .u64 b] w fun e w' => e = .returned (.tuple #[.int .u64 (opV 7 a b), .bool true]) ∧ Gb w w' := by
  have hm := mod64 b
  have h0 : (b % 64 == 0) = true := by simpa using h
  have H := Lib.hid h; clear h
  have Ha := Lib.hid ha'; clear ha'
  have Hb := Lib.hid hb'; clear hb'
  generalize hV : opV 7 a b = V
  have HV := Lib.hid hV; clear hV
  go_enter Tryd.func49, Tryd.ntmps49
  go_wp2_with (first | (go_at_call 70; refine (power_any _ _ (by omega) (by omega)).mono ?_; rintro e w' ⟨rfl, rfl⟩) | go_in)
  go_ret2
  refine ⟨ret2b ?_, Gb.refl _⟩
  rw [← HV.out]
  clear HV
  have ha' := Ha.out; have hb' := Hb.out
  have h := H.out; show _ = a / 2 ^ (b % 64).toNat; rw [h]; simp

set_option maxHeartbeats 1000000 in
theorem ref7n (a b : Int) (w : World) (ha : 0 ≤ a) (ha' : a < 18446744073709551616) (hb : 0 ≤ b) (hb' : b < 18446744073709551616) (h : ¬ b % 64 = 0) :
    Calls Tryd.prog 49 #[.int .i64 7, .int .u64 a, .int .u64 b] w fun e w' => e = .returned (.tuple #[.int .u64 (opV 7 a b), .bool true]) ∧ Gb w w' := by
  have hm := mod64 b
  have h0 : (b % 64 == 0) = false := by simpa using h
  have H := Lib.hid h; clear h
  have hp : ¬ pw (b % 64).toNat = 0 := by rw [pw_lt _ (by omega)]; have := two_pow_pos (b % 64).toNat; omega
  have Ha := Lib.hid ha'; clear ha'
  have Hb := Lib.hid hb'; clear hb'
  generalize hV : opV 7 a b = V
  have HV := Lib.hid hV; clear hV
  go_enter Tryd.func49, Tryd.ntmps49
  go_wp2_with (first | (go_at_call 70; refine (power_any _ _ (by omega) (by omega)).mono ?_; rintro e w' ⟨rfl, rfl⟩) | go_in)
  go_ret2
  refine ⟨ret2b ?_, Gb.refl _⟩
  rw [← HV.out]
  clear HV
  have ha' := Ha.out; have hb' := Hb.out
  rw [r7 a b ha ha']; rfl

theorem ref7 : RefAt 7 := fun a b w ha ha' hb hb' => if h : b % 64 = 0 then ref7z a b w ha ha' hb hb' h else ref7n a b w ha ha' hb hb' h

set_option maxHeartbeats 1000000 in
theorem ref8m (a b : Int) (w : World) (ha : 0 ≤ a) (ha' : a < 18446744073709551616) (hb : 0 ≤ b) (hb' : b < 18446744073709551616) (h1 : 9223372036854775808 ≤ a) :
    Calls Tryd.prog 49 #[.int .i64 8, .int .u64 a, .int .u64 b] w fun e w' => e = .returned (.tuple #[.int .u64 (opV 8 a b), .bool true]) ∧ Gb w w' := by
  have hm := mod64 b
  have H1 := Lib.hid h1
  have hp : ¬ pw (b % 64).toNat = 0 := by rw [pw_lt _ (by omega)]; have := two_pow_pos (b % 64).toNat; omega
  have Ha := Lib.hid ha'; clear ha'
  have Hb := Lib.hid hb'; clear hb'
  generalize hV : opV 8 a b = V
  have HV := Lib.hid hV; clear hV
  go_enter Tryd.func49, Tryd.ntmps49
  go_wp2_with (first | (go_at_call 70; refine (power_any _ _ (by omega) (by omega)).mono ?_; rintro e w' ⟨rfl, rfl⟩) | go_in)
  go_ret2
  refine ⟨ret2b ?_, Gb.refl _⟩
  rw [← HV.out]
  clear HV
  have ha' := Ha.out; have hb' := Hb.out
  have h1 := H1.out; rw [r8n a b h1 ha']; rfl

set_option maxHeartbeats 1000000 in
theorem ref8z (a b : Int) (w : World) (ha : 0 ≤ a) (ha' : a < 18446744073709551616) (hb : 0 ≤ b) (hb' : b < 18446744073709551616) (h1 : a < 9223372036854775808) (h : b % 64 = 0) :
    Calls Tryd.prog 49 #[.int .i64 8, .int .u64 a, .int .u64 b] w fun e w' => e = .returned (.tuple #[.int .u64 (opV 8 a b), .bool true]) ∧ Gb w w' := by
  have hm := mod64 b
  have H1 := Lib.hid h1
  have h0 : (b % 64 == 0) = true := by simpa using h
  have H := Lib.hid h; clear h
  have Ha := Lib.hid ha'; clear ha'
  have Hb := Lib.hid hb'; clear hb'
  generalize hV : opV 8 a b = V
  have HV := Lib.hid hV; clear hV
  go_enter Tryd.func49, Tryd.ntmps49
  go_wp2_with (first | (go_at_call 70; refine (power_any _ _ (by omega) (by omega)).mono ?_; rintro e w' ⟨rfl, rfl⟩) | go_in)
  go_ret2
  refine ⟨ret2b ?_, Gb.refl _⟩
  rw [← HV.out]
  clear HV
  have ha' := Ha.out; have hb' := Hb.out
  have h := H.out; have h1 := H1.out; show _ = wrap64 a / 2 ^ (b % 64).toNat % 18446744073709551616; rw [← r8p a b ha h1, h]; simp

set_option maxHeartbeats 1000000 in
theorem ref8n (a b : Int) (w : World) (ha : 0 ≤ a) (ha' : a < 18446744073709551616) (hb : 0 ≤ b) (hb' : b < 18446744073709551616) (h1 : a < 9223372036854775808) (h : ¬ b % 64 = 0) :
    Calls Tryd.prog 49 #[.int .i64 8, .int .u64 a, .int .u64 b] w fun e w' => e = .returned (.tuple #[.int .u64 (opV 8 a b), .bool true]) ∧ Gb w w' := by
  have hm := mod64 b
  have H1 := Lib.hid h1
  have h0 : (b % 64 == 0) = false := by simpa using h
  have H := Lib.hid h; clear h
  have hp : ¬ pw (b % 64).toNat = 0 := by rw [pw_lt _ (by omega)]; have := two_pow_pos (b % 64).toNat; omega
  have Ha := Lib.hid ha'; clear ha'
  have Hb := Lib.hid hb'; clear hb'
  generalize hV : opV 8 a b = V
  have HV := Lib.hid hV; clear hV
  go_enter Tryd.func49, Tryd.ntmps49
  go_wp2_with (first | (go_at_call 70; refine (power_any _ _ (by omega) (by omega)).mono ?_; rintro e w' ⟨rfl, rfl⟩) | go_in)
  go_ret2
  refine ⟨ret2b ?_, Gb.refl _⟩
  rw [← HV.out]
  clear HV
  have ha' := Ha.out; have hb' := Hb.out
  have h1 := H1.out; rw [r7 a b ha ha', r8p a b ha h1]; rfl

theorem ref8 : RefAt 8 := fun a b w ha ha' hb hb' => if h1 : 9223372036854775808 ≤ a then ref8m a b w ha ha' hb hb' h1 else (if h : b % 64 = 0 then ref8z a b w ha ha' hb hb' (Int.not_le.1 h1) h else ref8n a b w ha ha' hb hb' (Int.not_le.1 h1) h)

set_option maxHeartbeats 1000000 in
theorem ref11 (a b : Int) (w : World) (ha : 0 ≤ a) (ha' : a < 18446744073709551616) (hb : 0 ≤ b) (hb' : b < 18446744073709551616) :
    Calls Tryd.prog 49 #[.int .i64 11, .int .u64 a, .int .u64 b] w fun e w' => e = .returned (.tuple #[.int .u64 (opV 11 a b), .bool true]) ∧ Gb w w' := by
  have Ha := Lib.hid ha'; clear ha'
  have Hb := Lib.hid hb'; clear hb'
  generalize hV : opV 11 a b = V
  have HV := Lib.hid hV; clear hV
  go_enter Tryd.func49, Tryd.ntmps49
  go_wp2
  go_ret2
  refine ⟨ret2b ?_, Gb.refl _⟩
  rw [← HV.out]
  clear HV
  have ha' := Ha.out; have hb' := Hb.out
  rw [IntKind.wrap_u64]; rfl

set_option maxHeartbeats 1000000 in
theorem ref13 (a b : Int) (w : World) (ha : 0 ≤ a) (ha' : a < 18446744073709551616) (hb : 0 ≤ b) (hb' : b < 18446744073709551616) :
    Calls Tryd.prog 49 #[.int .i64 13, .int .u64 a, .int .u64 b] w fun e w' => e = .returned (.tuple #[.int .u64 (opV 13 a b), .bool true]) ∧ Gb w w' := by
  have Ha := Lib.hid ha'; clear ha'
  have Hb := Lib.hid hb'; clear hb'
  generalize hV : opV 13 a b = V
  have HV := Lib.hid hV; clear hV
  go_enter Tryd.func49, Tryd.ntmps49
  go_wp2_with (first | (go_at_call 66; refine (high_any _ _ _ (by first | with_reducible exact ha | with_reducible exact hb | exact (absV_range ha Ha.out).1 | exact (absV_range hb Hb.out).1) (by first | with_reducible exact Ha.out | with_reducible exact Hb.out | (have := (absV_range ha Ha.out).2; omega) | (have := (absV_range hb Hb.out).2; omega)) (by first | with_reducible exact ha | with_reducible exact hb | exact (absV_range ha Ha.out).1 | exact (absV_range hb Hb.out).1) (by first | with_reducible exact Ha.out | with_reducible exact Hb.out | (have := (absV_range ha Ha.out).2; omega) | (have := (absV_range hb Hb.out).2; omega))).mono ?_; rintro e w' ⟨rfl, hg⟩) | go_in)
  go_ret2
  refine ⟨ret2b ?_, hg⟩
  rw [← HV.out]
  clear HV
  have ha' := Ha.out; have hb' := Hb.out
  rfl

set_option maxHeartbeats 1000000 in
theorem ref12a (a b : Int) (w : World) (ha : 0 ≤ a) (ha' : a < 18446744073709551616) (hb : 0 ≤ b) (hb' : b < 18446744073709551616) (h1 : 9223372036854775808 ≤ a) (h2 : 9223372036854775808 ≤ b) :
    Calls Tryd.prog 49 #[.int .i64 12, .int .u64 a, .int .u64 b] w fun e w' => e = .returned (.tuple #[.int .u64 (opV 12 a b), .bool true]) ∧ Gb w w' := by
  have D1 : decide (9223372036854775808 ≤ a) = true := by simpa using h1
  have D2 : decide (9223372036854775808 ≤ b) = true := by simpa using h2
  have H1 := Lib.hid h1; have H2 := Lib.hid h2; clear h1 h2
  have Ha := Lib.hid ha'; clear ha'
  have Hb := Lib.hid hb'; clear hb'
  generalize hV : opV 12 a b = V
  have HV := Lib.hid hV; clear hV
  go_enter Tryd.func49, Tryd.ntmps49
  go_wp2_with (first | (go_at_call 65; refine (size_any _ _ (by first | with_reducible exact ha | with_reducible exact hb) (by first | with_reducible exact Ha.out | with_reducible exact Hb.out)).mono ?_; rintro e w' ⟨rfl, rfl⟩) | (go_at_call 66; refine (high_any _ _ _ (by first | with_reducible exact ha | with_reducible exact hb | exact (absV_range ha Ha.out).1 | exact (absV_range hb Hb.out).1) (by first | with_reducible exact Ha.out | with_reducible exact Hb.out | (have := (absV_range ha Ha.out).2; omega) | (have := (absV_range hb Hb.out).2; omega)) (by first | with_reducible exact ha | with_reducible exact hb | exact (absV_range ha Ha.out).1 | exact (absV_range hb Hb.out).1) (by first | with_reducible exact Ha.out | with_reducible exact Hb.out | (have := (absV_range ha Ha.out).2; omega) | (have := (absV_range hb Hb.out).2; omega))).mono ?_; rintro e w' ⟨rfl, hg⟩) | go_in)
  go_ret2
  refine ⟨ret2b ?_, hg⟩
  rw [← HV.out]
  clear HV
  have ha' := Ha.out; have hb' := Hb.out
  have h1 := H1.out; have h2 := H2.out; rw [r12s a b ha ha' hb hb' (by simp; omega)]; rfl

set_option maxHeartbeats 1000000 in
theorem ref12bz (a b : Int) (w : World) (ha : 0 ≤ a) (ha' : a < 18446744073709551616) (hb : 0 ≤ b) (hb' : b < 18446744073709551616) (h1 : 9223372036854775808 ≤ a) (h2 : b < 9223372036854775808) (h : IntKind.u64.wrap (absV a * absV b) = 0) :
    Calls Tryd.prog 49 #[.int .i64 12, .int .u64 a, .int .u64 b] w fun e w' => e = .returned (.tuple #[.int .u64 (opV 12 a b), .bool true]) ∧ Gb w w' := by
  have D1 : decide (9223372036854775808 ≤ a) = true := by simpa using h1
  have D2 : decide (9223372036854775808 ≤ b) = false := by simpa using h2
  have H1 := Lib.hid h1; have H2 := Lib.hid h2; clear h1 h2
  have hd : (IntKind.u64.wrap (absV a * absV b) == 0) = true := by simpa using h
  have hd2 : (IntKind.u64.wrap (absV a * absV b) != 0) = false := by simpa using h
  have H := Lib.hid h; clear h
  have Ha := Lib.hid ha'; clear ha'
  have Hb := Lib.hid hb'; clear hb'
  generalize hV : opV 12 a b = V
  have HV := Lib.hid hV; clear hV
  go_enter Tryd.func49, Tryd.ntmps49
  go_wp2_with (first | (go_at_call 65; refine (size_any _ _ (by first | with_reducible exact ha | with_reducible exact hb) (by first | with_reducible exact Ha.out | with_reducible exact Hb.out)).mono ?_; rintro e w' ⟨rfl, rfl⟩) | (go_at_call 66; refine (high_any _ _ _ (by first | with_reducible exact ha | with_reducible exact hb | exact (absV_range ha Ha.out).1 | exact (absV_range hb Hb.out).1) (by first | with_reducible exact Ha.out | with_reducible exact Hb.out | (have := (absV_range ha Ha.out).2; omega) | (have := (absV_range hb Hb.out).2; omega)) (by first | with_reducible exact ha | with_reducible exact hb | exact (absV_range ha Ha.out).1 | exact (absV_range hb Hb.out).1) (by first | with_reducible exact Ha.out | with_reducible exact Hb.out | (have := (absV_range ha Ha.out).2; omega) | (have := (absV_range hb Hb.out).2; omega))).mono ?_; rintro e w' ⟨rfl, hg⟩) | go_in)
  go_ret2
  refine ⟨ret2b ?_, hg⟩
  rw [← HV.out]
  clear HV
  have ha' := Ha.out; have hb' := Hb.out
  have h := H.out; have h1 := H1.out; have h2 := H2.out; rw [r12z a b ha ha' hb hb' (by simp; omega) h]; rfl

set_option maxHeartbeats 1000000 in
theorem ref12bn (a b : Int) (w : World) (ha : 0 ≤ a) (ha' : a < 18446744073709551616) (hb : 0 ≤ b) (hb' : b < 18446744073709551616) (h1 : 9223372036854775808 ≤ a) (h2 : b < 9223372036854775808) (h : ¬ IntKind.u64.wrap (absV a * absV b) = 0) :
    Calls Tryd.prog 49 #[.int .i64 12, .int .u64 a, .int .u64 b] w fun e w' => e = .returned (.tuple #[.int .u64 (opV 12 a b), .bool true]) ∧ Gb w w' := by
  have D1 : decide (9223372036854775808 ≤ a) = true := by simpa using h1
  have D2 : decide (9223372036854775808 ≤ b) = false := by simpa using h2
  have H1 := Lib.hid h1; have H2 := Lib.hid h2; clear h1 h2
  have hd : (IntKind.u64.wrap (absV a * absV b) == 0) = false := by simpa using h
  have hd2 : (IntKind.u64.wrap (absV a * absV b) != 0) = true := by simpa using h
  have H := Lib.hid h; clear h
  have Ha := Lib.hid ha'; clear ha'
  have Hb := Lib.hid hb'; clear hb'
  generalize hV : opV 12 a b = V
  have HV := Lib.hid hV; clear hV
  go_enter Tryd.func49, Tryd.ntmps49
  go_wp2_with (first | (go_at_call 65; refine (size_any _ _ (by first | with_reducible exact ha | with_reducible exact hb) (by first | with_reducible exact Ha.out | with_reducible exact Hb.out)).mono ?_; rintro e w' ⟨rfl, rfl⟩) | (go_at_call 66; refine (high_any _ _ _ (by first | with_reducible exact ha | with_reducible exact hb | exact (absV_range ha Ha.out).1 | exact (absV_range hb Hb.out).1) (by first | with_reducible exact Ha.out | with_reducible exact Hb.out | (have := (absV_range ha Ha.out).2; omega) | (have := (absV_range hb Hb.out).2; omega)) (by first | with_reducible exact ha | with_reducible exact hb | exact (absV_range ha Ha.out).1 | exact (absV_range hb Hb.out).1) (by first | with_reducible exact Ha.out | with_reducible exact Hb.out | (have := (absV_range ha Ha.out).2; omega) | (have := (absV_range hb Hb.out).2; omega))).mono ?_; rintro e w' ⟨rfl, hg⟩) | go_in)
  go_ret2
  refine ⟨ret2b ?_, hg⟩
  rw [← HV.out]
  clear HV
  have ha' := Ha.out; have hb' := Hb.out
  have h := H.out; have h1 := H1.out; have h2 := H2.out; rw [r12n a b ha ha' hb hb' (by simp; omega) h]; rfl

set_option maxHeartbeats 1000000 in
theorem ref12cz (a b : Int) (w : World) (ha : 0 ≤ a) (ha' : a < 18446744073709551616) (hb : 0 ≤ b) (hb' : b < 18446744073709551616) (h1 : a < 9223372036854775808) (h2 : 9223372036854775808 ≤ b) (h : IntKind.u64.wrap (absV a * absV b) = 0) :
    Calls Tryd.prog 49 #[.int .i64 12, .int .u64 a, .int .u64 b] w fun e w' => e = .returned (.tuple #[.int .u64 (opV 12 a b), .bool true]) ∧ Gb w w' := by
  have D1 : decide (9223372036854775808 ≤ a) = false := by simpa using h1
  have D2 : decide (9223372036854775808 ≤ b) = true := by simpa using h2
  have H1 := Lib.hid h1; have H2 := Lib.hid h2; clear h1 h2
  have hd : (IntKind.u64.wrap (absV a * absV b) == 0) = true := by simpa using h
  have hd2 : (IntKind.u64.wrap (absV a * absV b) != 0) = false := by simpa using h
  have H := Lib.hid h; clear h
  have Ha := Lib.hid ha'; clear ha'
  have Hb := Lib.hid hb'; clear hb'
  generalize hV : opV 12 a b = V
  have HV := Lib.hid hV; clear hV
  go_enter Tryd.func49, Tryd.ntmps49
  go_wp2_with (first | (go_at_call 65; refine (size_any _ _ (by first | with_reducible exact ha | with_reducible exact hb) (by first | with_reducible exact Ha.out | with_reducible exact Hb.out)).mono ?_; rintro e w' ⟨rfl, rfl⟩) | (go_at_call 66; refine (high_any _ _ _ (by first | with_reducible exact ha | with_reducible exact hb | exact (absV_range ha Ha.out).1 | exact (absV_range hb Hb.out).1) (by first | with_reducible exact Ha.out | with_reducible exact Hb.out | (have := (absV_range ha Ha.out).2; omega) | (have := (absV_range hb Hb.out).2; omega)) (by first | with_reducible exact ha | with_reducible exact hb | exact (absV_range ha Ha.out).1 | exact (absV_range hb Hb.out).1) (by first | with_reducible exact Ha.out | with_reducible exact Hb.out | (have := (absV_range ha Ha.out).2; omega) | (have := (absV_range hb Hb.out).2; omega))).mono ?_; rintro e w' ⟨rfl, hg⟩) | go_in)
  go_ret2
  refine ⟨ret2b ?_, hg⟩
  rw [← HV.out]
  clear HV
  have ha' := Ha.out; have hb' := Hb.out
  have h := H.out; have h1 := H1.out; have h2 := H2.out; rw [r12z a b ha ha' hb hb' (by simp; omega) h]; rfl

set_option maxHeartbeats 1000000 in
theorem ref12cn (a b : Int) (w : World) (ha : 0 ≤ a) (ha' : a < 18446744073709551616) (hb : 0 ≤ b) (hb' : b < 18446744073709551616) (h1 : a < 9223372036854775808) (h2 : 9223372036854775808 ≤ b) (h : ¬ IntKind.u64.wrap (absV a * absV b) = 0) :
    Calls Tryd.prog 49 #[.int .i64 12, .int .u64 a, .int .u64 b] w fun e w' => e = .returned (.tuple #[.int .u64 (opV 12 a b), .bool true]) ∧ Gb w w' := by
  have D1 : decide (9223372036854775808 ≤ a) = false := by simpa using h1
  have D2 : decide (9223372036854775808 ≤ b) = true := by simpa using h2
  have H1 := Lib.hid h1; have H2 := Lib.hid h2; clear h1 h2
  have hd : (IntKind.u64.wrap (absV a * absV b) == 0) = false := by simpa using h
  have hd2 : (IntKind.u64.wrap (absV a * absV b) != 0) = true := by simpa using h
  have H := Lib.hid h; clear h
  have Ha := Lib.hid ha'; clear ha'
  have Hb := Lib.hid hb'; clear hb'
  generalize hV : opV 12 a b = V
  have HV := Lib.hid hV; clear hV
  go_enter Tryd.func49, Tryd.ntmps49
  go_wp2_with (first | (go_at_call 65; refine (size_any _ _ (by first | with_reducible exact ha | with_reducible exact hb) (by first | with_reducible exact Ha.out | with_reducible exact Hb.out)).mono ?_; rintro e w' ⟨rfl, rfl⟩) | (go_at_call 66; refine (high_any _ _ _ (by first | with_reducible exact ha | with_reducible exact hb | exact (absV_range ha Ha.out).1 | exact (absV_range hb Hb.out).1) (by first | with_reducible exact Ha.out | with_reducible exact Hb.out | (have := (absV_range ha Ha.out).2; omega) | (have := (absV_range hb Hb.out).2; omega)) (by first | with_reducible exact ha | with_reducible exact hb | exact (absV_range ha Ha.out).1 | exact (absV_range hb Hb.out).1) (by first | with_reducible exact Ha.out | with_reducible exact Hb.out | (have := (absV_range ha Ha.out).2; omega) | (have := (absV_range hb Hb.out).2; omega))).mono ?_; rintro e w' ⟨rfl, hg⟩) | go_in)
  go_ret2
  refine ⟨ret2b ?_, hg⟩
  rw [← HV.out]
  clear HV
  have ha' := Ha.out; have hb' := Hb.out
  have h := H.out; have h1 := H1.out; have h2 := H2.out; rw [r12n a b ha ha' hb hb' (by simp; omega) h]; rfl

set_option maxHeartbeats 1000000 in
theorem ref12d (a b : Int) (w : World) (ha : 0 ≤ a) (ha' : a < 18446744073709551616) (hb : 0 ≤ b) (hb' : b < 18446744073709551616) (h1 : a < 9223372036854775808) (h2 : b < 9223372036854775808) :
    Calls Tryd.prog 49 #[.int .i64 12, .int .u64 a, .int .u64 b] w fun e w' => e = .returned (.tuple #[.int .u64 (opV 12 a b), .bool true]) ∧ Gb w w' := by
  have D1 : decide (9223372036854775808 ≤ a) = false := by simpa using h1
  have D2 : decide (9223372036854775808 ≤ b) = false := by simpa using h2
  have H1 := Lib.hid h1; have H2 := Lib.hid h2; clear h1 h2
  have Ha := Lib.hid ha'; clear ha'
  have Hb := Lib.hid hb'; clear hb'
  generalize hV : opV 12 a b = V
  have HV := Lib.hid hV; clear hV
  go_enter Tryd.func49, Tryd.ntmps49
  go_wp2_with (first | (go_at_call 65; refine (size_any _ _ (by first | with_reducible exact ha | with_reducible exact hb) (by first | with_reducible exact Ha.out | with_reducible exact Hb.out)).mono ?_; rintro e w' ⟨rfl, rfl⟩) | (go_at_call 66; refine (high_any _ _ _ (by first | with_reducible exact ha | with_reducible exact hb | exact (absV_range ha Ha.out).1 | exact (absV_range hb Hb.out).1) (by first | with_reducible exact Ha.out | with_reducible exact Hb.out | (have := (absV_range ha Ha.out).2; omega) | (have := (absV_range hb Hb.out).2; omega)) (by first | with_reducible exact ha | with_reducible exact hb | exact (absV_range ha Ha.out).1 | exact (absV_range hb Hb.out).1) (by first | with_reducible exact Ha.out | with_reducible exact Hb.out | (have := (absV_range ha Ha.out).2; omega) | (have := (absV_range hb Hb.out).2; omega))).mono ?_; rintro e w' ⟨rfl, hg⟩) | go_in)
  go_ret2
  refine ⟨ret2b ?_, hg⟩
  rw [← HV.out]
  clear HV
  have ha' := Ha.out; have hb' := Hb.out
  have h1 := H1.out; have h2 := H2.out; rw [r12s a b ha ha' hb hb' (by simp; omega)]; rfl

theorem ref12 : RefAt 12 := fun a b w ha ha' hb hb' =>
  if h1 : 9223372036854775808 ≤ a then (if h2 : 9223372036854775808 ≤ b then ref12a a b w ha ha' hb hb' h1 h2 else (if h : IntKind.u64.wrap (absV a * absV b) = 0 then ref12bz a b w ha ha' hb hb' h1 (Int.not_le.1 h2) h else ref12bn a b w ha ha' hb hb' h1 (Int.not_le.1 h2) h))
  else (if h2 : 9223372036854775808 ≤ b then (if h : IntKind.u64.wrap (absV a * absV b) = 0 then ref12cz a b w ha ha' hb hb' (Int.not_le.1 h1) h2 h else ref12cn a b w ha ha' hb hb' (Int.not_le.1 h1) h2 h) else ref12d a b w ha ha' hb hb' (Int.not_le.1 h1) (Int.not_le.1 h2))

namespace Pl
theorem r14 (a b : Int) (ha : 0 ≤ a) (ha' : a < 18446744073709551616) (hb : 0 ≤ b) (hb' : b < 18446744073709551616) :
    (wrap64 a).tdiv (wrap64 b) = if (9223372036854775808 ≤ a) = (9223372036854775808 ≤ b) then absV a / absV b else -(absV a / absV b) := by
  have h0 := (absV_range ha ha').1
  rw [wrap64_abs ha ha', wrap64_abs hb hb']
  by_cases h1 : 9223372036854775808 ≤ a <;> by_cases h2 : 9223372036854775808 ≤ b
  · rw [if_pos h1, if_pos h2, if_pos (by simp [h1, h2]), Int.neg_tdiv, Int.tdiv_neg, Int.neg_neg, Int.tdiv_eq_ediv_of_nonneg h0]
  · rw [if_pos h1, if_neg h2, if_neg (by simp [h1, h2]), Int.neg_tdiv, Int.tdiv_eq_ediv_of_nonneg h0]
  · rw [if_neg h1, if_pos h2, if_neg (by simp [h1, h2]), Int.tdiv_neg, Int.tdiv_eq_ediv_of_nonneg h0]
  · rw [if_neg h1, if_neg h2, if_pos (by simp [h1, h2]), Int.tdiv_eq_ediv_of_nonneg h0]
theorem r16 (a b : Int) (ha : 0 ≤ a) (ha' : a < 18446744073709551616) (hb : 0 ≤ b) (hb' : b < 18446744073709551616) :
    (wrap64 a).tmod (wrap64 b) = if 9223372036854775808 ≤ a then -(absV a % absV b) else absV a % absV b := by
  have h0 := (absV_range ha ha').1
  rw [wrap64_abs ha ha', wrap64_abs hb hb']
  by_cases h1 : 9223372036854775808 ≤ a <;> by_cases h2 : 9223372036854775808 ≤ b
  · rw [if_pos h1, if_pos h2, if_pos h1, Int.neg_tmod, Int.tmod_neg, Int.tmod_eq_emod_of_nonneg h0]
  · rw [if_pos h1, if_neg h2, if_pos h1, Int.neg_tmod, Int.tmod_eq_emod_of_nonneg h0]
  · rw [if_neg h1, if_pos h2, if_neg h1, Int.tmod_neg, Int.tmod_eq_emod_of_nonneg h0]
  · rw [if_neg h1, if_neg h2, if_neg h1, Int.tmod_eq_emod_of_nonneg h0]
theorem tdivU {x y : Int} (hx : 0 ≤ x) (hx' : x < 18446744073709551616) (hy : 0 ≤ y) : IntKind.u64.wrap (x.tdiv y) = x / y := by
  have := quo_range hx hy
  rw [IntKind.wrap_u64, Int.tdiv_eq_ediv_of_nonneg hx]; omega
/-- A number with its sign turned, or not. -/
def sgnV (t : Bool) (a : Int) : Int := if t then -a % 18446744073709551616 else a
theorem sgnV_no (a : Int) : sgnV false a = a := rfl
theorem absV_lt {a : Int} (ha : 0 ≤ a) (ha' : a < 18446744073709551616) : absV a < 18446744073709551616 := by have := absV_range ha ha'; omega
end Pl

theorem size_q (a : Int) (w : World) (ha : 0 ≤ a) (ha' : a < 18446744073709551616) :
    Calls Tryd.prog 65 #[.int .u64 a] w fun e w' => e = .returned (.int .u64 (absV a)) ∧ w' = w :=
  (size_any a w ha ha').mono fun _ _ ⟨h1, h2⟩ => ⟨h1, h2.symm⟩
theorem neg_q (a : Int) (w : World) :
    Calls Tryd.prog 67 #[.int .u64 a] w fun e w' => e = .returned (.bool (decide (9223372036854775808 ≤ a))) ∧ w' = w := by
  go_enter Tryd.func67, Tryd.ntmps67
  go_wp2
  go_ret
  exact ⟨rfl, rfl⟩
theorem sign_q (a : Int) (t : Bool) (w : World) :
    Calls Tryd.prog 68 #[.int .u64 a, .bool t] w fun e w' => e = .returned (.int .u64 (sgnV t a)) ∧ w' = w := by
  cases t
  · go_enter Tryd.func68, Tryd.ntmps68
    go_wp2
    go_ret
    exact ⟨rfl, rfl⟩
  · go_enter Tryd.func68, Tryd.ntmps68
    go_wp2
    go_ret
    exact ⟨ret1 (by rw [IntKind.wrap_u64]; rfl), rfl⟩

set_option maxHeartbeats 1000000 in
theorem ref14a (a b : Int) (w : World) (ha : 0 ≤ a) (ha' : a < 18446744073709551616) (hb : 0 ≤ b) (hb' : b < 18446744073709551616) (h1 : 9223372036854775808 ≤ a) (h2 : 9223372036854775808 ≤ b) (h : ¬ b = 0) :
    Calls Tryd.prog 49 #[.int .i64 14, .int .u64 a, .int .u64 b] w fun e w' => e = .returned (.tuple #[.int .u64 (opV 14 a b), .bool true]) ∧ Gb w w' := by
  have hz : (b == 0) = false := by simpa using h
  have hn : ¬ absV b = 0 := fun e => h ((absV_zero hb hb').1 e)
  have hnn : 0 ≤ absV b := (absV_range hb hb').1
  have hna : 0 ≤ absV a := (absV_range ha ha').1
  have H := Lib.hid h; clear h
  have D1 : decide (9223372036854775808 ≤ a) = true := by simpa using h1
  have D2 : decide (9223372036854775808 ≤ b) = true := by simpa using h2
  have H1 := Lib.hid h1; have H2 := Lib.hid h2; clear h1 h2
  have Ha := Lib.hid ha'; clear ha'
  have Hb := Lib.hid hb'; clear hb'
  generalize hV : opV 14 a b = V
  have HV := Lib.hid hV; clear hV
  go_enter Tryd.func49, Tryd.ntmps49
  go_wp2_with (first | (go_at_call 65; refine (size_any _ _ (by first | with_reducible exact ha | with_reducible exact hb) (by first | with_reducible exact Ha.out | with_reducible exact Hb.out)).mono ?_; rintro e w' ⟨rfl, rfl⟩) | go_in)
  go_wp2_with (fail)
  go_quiet ((first | (go_at_call 65; exact Calls.quiet_of_same (size_q _ _ (by first | with_reducible exact ha | with_reducible exact hb) (by first | with_reducible exact Ha.out | with_reducible exact Hb.out))) | (go_at_call 67; exact Calls.quiet_of_same (neg_q _ _)) | (go_at_call 68; exact Calls.quiet_of_same (sign_q _ _ _))))
  go_wp2_with (fail)
  go_ret2
  refine ⟨ret2b ?_, grownN (Gb.refl _)⟩
  rw [← HV.out]
  clear HV
  have ha' := Ha.out; have hb' := Hb.out
  have h := H.out; have h1 := H1.out; have h2 := H2.out; show _ = if b = 0 then _ else (wrap64 a).tdiv (wrap64 b) % 18446744073709551616; rw [if_neg h, r14 a b ha ha' hb hb', if_pos (by simp; omega), tdivU hna (absV_lt ha ha') hnn]; first | rfl | (rw [sgnV_no]; have := quo_range hna hnn; have := absV_lt ha ha'; omega)

set_option maxHeartbeats 1000000 in
theorem ref16a (a b : Int) (w : World) (ha : 0 ≤ a) (ha' : a < 18446744073709551616) (hb : 0 ≤ b) (hb' : b < 18446744073709551616) (h1 : 9223372036854775808 ≤ a) (h2 : 9223372036854775808 ≤ b) (h : ¬ b = 0) :
    Calls Tryd.prog 49 #[.int .i64 16, .int .u64 a, .int .u64 b] w fun e w' => e = .returned (.tuple #[.int .u64 (opV 16 a b), .bool true]) ∧ Gb w w' := by
  have hz : (b == 0) = false := by simpa using h
  have hn : ¬ absV b = 0 := fun e => h ((absV_zero hb hb').1 e)
  have hnn : 0 ≤ absV b := (absV_range hb hb').1
  have hna : 0 ≤ absV a := (absV_range ha ha').1
  have H := Lib.hid h; clear h
  have D1 : decide (9223372036854775808 ≤ a) = true := by simpa using h1
  have D2 : decide (9223372036854775808 ≤ b) = true := by simpa using h2
  have H1 := Lib.hid h1; have H2 := Lib.hid h2; clear h1 h2
  have Ha := Lib.hid ha'; clear ha'
  have Hb := Lib.hid hb'; clear hb'
  generalize hV : opV 16 a b = V
  have HV := Lib.hid hV; clear hV
  go_enter Tryd.func49, Tryd.ntmps49
  go_wp2_with (first | (go_at_call 65; refine (size_any _ _ (by first | with_reducible exact ha | with_reducible exact hb) (by first | with_reducible exact Ha.out | with_reducible exact Hb.out)).mono ?_; rintro e w' ⟨rfl, rfl⟩) | go_in)
  go_wp2_with (fail)
  go_quiet ((first | (go_at_call 65; exact Calls.quiet_of_same (size_q _ _ (by first | with_reducible exact ha | with_reducible exact hb) (by first | with_reducible exact Ha.out | with_reducible exact Hb.out))) | (go_at_call 67; exact Calls.quiet_of_same (neg_q _ _)) | (go_at_call 68; exact Calls.quiet_of_same (sign_q _ _ _))))
  go_wp2_with (fail)
  go_ret2
  refine ⟨ret2b ?_, grownN (Gb.refl _)⟩
  rw [← HV.out]
  clear HV
  have ha' := Ha.out; have hb' := Hb.out
  have h := H.out; have h1 := H1.out; have h2 := H2.out; show _ = if b = 0 then _ else (wrap64 a).tmod (wrap64 b) % 18446744073709551616; rw [if_neg h, r16 a b ha ha' hb hb', if_pos (by omega)]; first | rfl | (rw [sgnV_no]; have h5 := Int.emod_nonneg (absV a) hn; have h6 := Int.emod_lt_of_pos (absV a) (by omega : 0 < absV b); have := absV_range hb hb'; omega)

set_option maxHeartbeats 1000000 in
theorem ref14b (a b : Int) (w : World) (ha : 0 ≤ a) (ha' : a < 18446744073709551616) (hb : 0 ≤ b) (hb' : b < 18446744073709551616) (h1 : 9223372036854775808 ≤ a) (h2 : b < 9223372036854775808) (h : ¬ b = 0) :
    Calls Tryd.prog 49 #[.int .i64 14, .int .u64 a, .int .u64 b] w fun e w' => e = .returned (.tuple #[.int .u64 (opV 14 a b), .bool true]) ∧ Gb w w' := by
  have hz : (b == 0) = false := by simpa using h
  have hn : ¬ absV b = 0 := fun e => h ((absV_zero hb hb').1 e)
  have hnn : 0 ≤ absV b := (absV_range hb hb').1
  have hna : 0 ≤ absV a := (absV_range ha ha').1
  have H := Lib.hid h; clear h
  have D1 : decide (9223372036854775808 ≤ a) = true := by simpa using h1
  have D2 : decide (9223372036854775808 ≤ b) = false := by simpa using h2
  have H1 := Lib.hid h1; have H2 := Lib.hid h2; clear h1 h2
  have Ha := Lib.hid ha'; clear ha'
  have Hb := Lib.hid hb'; clear hb'
  generalize hV : opV 14 a b = V
  have HV := Lib.hid hV; clear hV
  go_enter Tryd.func49, Tryd.ntmps49
  go_wp2_with (first | (go_at_call 65; refine (size_any _ _ (by first | with_reducible exact ha | with_reducible exact hb) (by first | with_reducible exact Ha.out | with_reducible exact Hb.out)).mono ?_; rintro e w' ⟨rfl, rfl⟩) | go_in)
  go_wp2_with (fail)
  go_quiet ((first | (go_at_call 65; exact Calls.quiet_of_same (size_q _ _ (by first | with_reducible exact ha | with_reducible exact hb) (by first | with_reducible exact Ha.out | with_reducible exact Hb.out))) | (go_at_call 67; exact Calls.quiet_of_same (neg_q _ _)) | (go_at_call 68; exact Calls.quiet_of_same (sign_q _ _ _))))
  go_wp2_with (fail)
  go_ret2
  refine ⟨ret2b ?_, grownN (Gb.refl _)⟩
  rw [← HV.out]
  clear HV
  have ha' := Ha.out; have hb' := Hb.out
  have h := H.out; have h1 := H1.out; have h2 := H2.out; show _ = if b = 0 then _ else (wrap64 a).tdiv (wrap64 b) % 18446744073709551616; rw [if_neg h, r14 a b ha ha' hb hb', if_neg (by simp; omega), tdivU hna (absV_lt ha ha') hnn]; first | rfl | (rw [sgnV_no]; have := quo_range hna hnn; have := absV_lt ha ha'; omega)

set_option maxHeartbeats 1000000 in
theorem ref16b (a b : Int) (w : World) (ha : 0 ≤ a) (ha' : a < 18446744073709551616) (hb : 0 ≤ b) (hb' : b < 18446744073709551616) (h1 : 9223372036854775808 ≤ a) (h2 : b < 9223372036854775808) (h : ¬ b = 0) :
    Calls Tryd.prog 49 #[.int .i64 16, .int .u64 a, .int .u64 b] w fun e w' => e = .returned (.tuple #[.int .u64 (opV 16 a b), .bool true]) ∧ Gb w w' := by
  have hz : (b == 0) = false := by simpa using h
  have hn : ¬ absV b = 0 := fun e => h ((absV_zero hb hb').1 e)
  have hnn : 0 ≤ absV b := (absV_range hb hb').1
  have hna : 0 ≤ absV a := (absV_range ha ha').1
  have H := Lib.hid h; clear h
  have D1 : decide (9223372036854775808 ≤ a) = true := by simpa using h1
  have D2 : decide (9223372036854775808 ≤ b) = false := by simpa using h2
  have H1 := Lib.hid h1; have H2 := Lib.hid h2; clear h1 h2
  have Ha := Lib.hid ha'; clear ha'
  have Hb := Lib.hid hb'; clear hb'
  generalize hV : opV 16 a b = V
  have HV := Lib.hid hV; clear hV
  go_enter Tryd.func49, Tryd.ntmps49
  go_wp2_with (first | (go_at_call 65; refine (size_any _ _ (by first | with_reducible exact ha | with_reducible exact hb) (by first | with_reducible exact Ha.out | with_reducible exact Hb.out)).mono ?_; rintro e w' ⟨rfl, rfl⟩) | go_in)
  go_wp2_with (fail)
  go_quiet ((first | (go_at_call 65; exact Calls.quiet_of_same (size_q _ _ (by first | with_reducible exact ha | with_reducible exact hb) (by first | with_reducible exact Ha.out | with_reducible exact Hb.out))) | (go_at_call 67; exact Calls.quiet_of_same (neg_q _ _)) | (go_at_call 68; exact Calls.quiet_of_same (sign_q _ _ _))))
  go_wp2_with (fail)
  go_ret2
  refine ⟨ret2b ?_, grownN (Gb.refl _)⟩
  rw [← HV.out]
  clear HV
  have ha' := Ha.out; have hb' := Hb.out
  have h := H.out; have h1 := H1.out; have h2 := H2.out; show _ = if b = 0 then _ else (wrap64 a).tmod (wrap64 b) % 18446744073709551616; rw [if_neg h, r16 a b ha ha' hb hb', if_pos (by omega)]; first | rfl | (rw [sgnV_no]; have h5 := Int.emod_nonneg (absV a) hn; have h6 := Int.emod_lt_of_pos (absV a) (by omega : 0 < absV b); have := absV_range hb hb'; omega)

set_option maxHeartbeats 1000000 in
theorem ref14c (a b : Int) (w : World) (ha : 0 ≤ a) (ha' : a < 18446744073709551616) (hb : 0 ≤ b) (hb' : b < 18446744073709551616) (h1 : a < 9223372036854775808) (h2 : 9223372036854775808 ≤ b) (h : ¬ b = 0) :
    Calls Tryd.prog 49 #[.int .i64 14, .int .u64 a, .int .u64 b] w fun e w' => e = .returned (.tuple #[.int .u64 (opV 14 a b), .bool true]) ∧ Gb w w' := by
  have hz : (b == 0) = false := by simpa using h
  have hn : ¬ absV b = 0 := fun e => h ((absV_zero hb hb').1 e)
  have hnn : 0 ≤ absV b := (absV_range hb hb').1
  have hna : 0 ≤ absV a := (absV_range ha ha').1
  have H := Lib.hid h; clear h
  have D1 : decide (9223372036854775808 ≤ a) = false := by simpa using h1
  have D2 : decide (9223372036854775808 ≤ b) = true := by simpa using h2
  have H1 := Lib.hid h1; have H2 := Lib.hid h2; clear h1 h2
  have Ha := Lib.hid ha'; clear ha'
  have Hb := Lib.hid hb'; clear hb'
  generalize hV : opV 14 a b = V
  have HV := Lib.hid hV; clear hV
  go_enter Tryd.func49, Tryd.ntmps49
  go_wp2_with (first | (go_at_call 65; refine (size_any _ _ (by first | with_reducible exact ha | with_reducible exact hb) (by first | with_reducible exact Ha.out | with_reducible exact Hb.out)).mono ?_; rintro e w' ⟨rfl, rfl⟩) | go_in)
  go_wp2_with (fail)
  go_quiet ((first | (go_at_call 65; exact Calls.quiet_of_same (size_q _ _ (by first | with_reducible exact ha | with_reducible exact hb) (by first | with_reducible exact Ha.out | with_reducible exact Hb.out))) | (go_at_call 67; exact Calls.quiet_of_same (neg_q _ _)) | (go_at_call 68; exact Calls.quiet_of_same (sign_q _ _ _))))
  go_wp2_with (fail)
  go_ret2
  refine ⟨ret2b ?_, grownN (Gb.refl _)⟩
  rw [← HV.out]
  clear HV
  have ha' := Ha.out; have hb' := Hb.out
  have h := H.out; have h1 := H1.out; have h2 := H2.out; show _ = if b = 0 then _ else (wrap64 a).tdiv (wrap64 b) % 18446744073709551616; rw [if_neg h, r14 a b ha ha' hb hb', if_neg (by simp; omega), tdivU hna (absV_lt ha ha') hnn]; first | rfl | (rw [sgnV_no]; have := quo_range hna hnn; have := absV_lt ha ha'; omega)

set_option maxHeartbeats 1000000 in
theorem ref16c (a b : Int) (w : World) (ha : 0 ≤ a) (ha' : a < 18446744073709551616) (hb : 0 ≤ b) (hb' : b < 18446744073709551616) (h1 : a < 9223372036854775808) (h2 : 9223372036854775808 ≤ b) (h : ¬ b = 0) :
    Calls Tryd.prog 49 #[.int .i64 16, .int .u64 a, .int .u64 b] w fun e w' => e = .returned (.tuple #[.int .u64 (opV 16 a b), .bool true]) ∧ Gb w w' := by
  have hz : (b == 0) = false := by simpa using h
  have hn : ¬ absV b = 0 := fun e => h ((absV_zero hb hb').1 e)
  have hnn : 0 ≤ absV b := (absV_range hb hb').1
  have hna : 0 ≤ absV a := (absV_range ha ha').1
  have H := Lib.hid h; clear h
  have D1 : decide (9223372036854775808 ≤ a) = false := by simpa using h1
  have D2 : decide (9223372036854775808 ≤ b) = true := by simpa using h2
  have H1 := Lib.hid h1; have H2 := Lib.hid h2; clear h1 h2
  have Ha := Lib.hid ha'; clear ha'
  have Hb := Lib.hid hb'; clear hb'
  generalize hV : opV 16 a b = V
  have HV := Lib.hid hV; clear hV
  go_enter Tryd.func49, Tryd.ntmps49
  go_wp2_with (first | (go_at_call 65; refine (size_any _ _ (by first | with_reducible exact ha | with_reducible exact hb) (by first | with_reducible exact Ha.out | with_reducible exact Hb.out)).mono ?_; rintro e w' ⟨rfl, rfl⟩) | go_in)
  go_wp2_with (fail)
  go_quiet ((first | (go_at_call 65; exact Calls.quiet_of_same (size_q _ _ (by first | with_reducible exact ha | with_reducible exact hb) (by first | with_reducible exact Ha.out | with_reducible exact Hb.out))) | (go_at_call 67; exact Calls.quiet_of_same (neg_q _ _)) | (go_at_call 68; exact Calls.quiet_of_same (sign_q _ _ _))))
  go_wp2_with (fail)
  go_ret2
  refine ⟨ret2b ?_, grownN (Gb.refl _)⟩
  rw [← HV.out]
  clear HV
  have ha' := Ha.out; have hb' := Hb.out
  have h := H.out; have h1 := H1.out; have h2 := H2.out; show _ = if b = 0 then _ else (wrap64 a).tmod (wrap64 b) % 18446744073709551616; rw [if_neg h, r16 a b ha ha' hb hb', if_neg (by omega)]; first | rfl | (rw [sgnV_no]; have h5 := Int.emod_nonneg (absV a) hn; have h6 := Int.emod_lt_of_pos (absV a) (by omega : 0 < absV b); have := absV_range hb hb'; omega)

set_option maxHeartbeats 1000000 in
theorem ref14d (a b : Int) (w : World) (ha : 0 ≤ a) (ha' : a < 18446744073709551616) (hb : 0 ≤ b) (hb' : b < 18446744073709551616) (h1 : a < 9223372036854775808) (h2 : b < 9223372036854775808) (h : ¬ b = 0) :
    Calls Tryd.prog 49 #[.int .i64 14, .int .u64 a, .int .u64 b] w fun e w' => e = .returned (.tuple #[.int .u64 (opV 14 a b), .bool true]) ∧ Gb w w' := by
  have hz : (b == 0) = false := by simpa using h
  have hn : ¬ absV b = 0 := fun e => h ((absV_zero hb hb').1 e)
  have hnn : 0 ≤ absV b := (absV_range hb hb').1
  have hna : 0 ≤ absV a := (absV_range ha ha').1
  have H := Lib.hid h; clear h
  have D1 : decide (9223372036854775808 ≤ a) = false := by simpa using h1
  have D2 : decide (9223372036854775808 ≤ b) = false := by simpa using h2
  have H1 := Lib.hid h1; have H2 := Lib.hid h2; clear h1 h2
  have Ha := Lib.hid ha'; clear ha'
  have Hb := Lib.hid hb'; clear hb'
  generalize hV : opV 14 a b = V
  have HV := Lib.hid hV; clear hV
  go_enter Tryd.func49, Tryd.ntmps49
  go_wp2_with (first | (go_at_call 65; refine (size_any _ _ (by first | with_reducible exact ha | with_reducible exact hb) (by first | with_reducible exact Ha.out | with_reducible exact Hb.out)).mono ?_; rintro e w' ⟨rfl, rfl⟩) | go_in)
  go_wp2_with (fail)
  go_quiet ((first | (go_at_call 65; exact Calls.quiet_of_same (size_q _ _ (by first | with_reducible exact ha | with_reducible exact hb) (by first | with_reducible exact Ha.out | with_reducible exact Hb.out))) | (go_at_call 67; exact Calls.quiet_of_same (neg_q _ _)) | (go_at_call 68; exact Calls.quiet_of_same (sign_q _ _ _))))
  go_wp2_with (fail)
  go_ret2
  refine ⟨ret2b ?_, grownN (Gb.refl _)⟩
  rw [← HV.out]
  clear HV
  have ha' := Ha.out; have hb' := Hb.out
  have h := H.out; have h1 := H1.out; have h2 := H2.out; show _ = if b = 0 then _ else (wrap64 a).tdiv (wrap64 b) % 18446744073709551616; rw [if_neg h, r14 a b ha ha' hb hb', if_pos (by simp; omega), tdivU hna (absV_lt ha ha') hnn]; first | rfl | (rw [sgnV_no]; have := quo_range hna hnn; have := absV_lt ha ha'; omega)

set_option maxHeartbeats 1000000 in
theorem ref16d (a b : Int) (w : World) (ha : 0 ≤ a) (ha' : a < 18446744073709551616) (hb : 0 ≤ b) (hb' : b < 18446744073709551616) (h1 : a < 9223372036854775808) (h2 : b < 9223372036854775808) (h : ¬ b = 0) :
    Calls Tryd.prog 49 #[.int .i64 16, .int .u64 a, .int .u64 b] w fun e w' => e = .returned (.tuple #[.int .u64 (opV 16 a b), .bool true]) ∧ Gb w w' := by
  have hz : (b == 0) = false := by simpa using h
  have hn : ¬ absV b = 0 := fun e => h ((absV_zero hb hb').1 e)
  have hnn : 0 ≤ absV b := (absV_range hb hb').1
  have hna : 0 ≤ absV a := (absV_range ha ha').1
  have H := Lib.hid h; clear h
  have D1 : decide (9223372036854775808 ≤ a) = false := by simpa using h1
  have D2 : decide (9223372036854775808 ≤ b) = false := by simpa using h2
  have H1 := Lib.hid h1; have H2 := Lib.hid h2; clear h1 h2
  have Ha := Lib.hid ha'; clear ha'
  have Hb := Lib.hid hb'; clear hb'
  generalize hV : opV 16 a b = V
  have HV := Lib.hid hV; clear hV
  go_enter Tryd.func49, Tryd.ntmps49
  go_wp2_with (first | (go_at_call 65; refine (size_any _ _ (by first | with_reducible exact ha | with_reducible exact hb) (by first | with_reducible exact Ha.out | with_reducible exact Hb.out)).mono ?_; rintro e w' ⟨rfl, rfl⟩) | go_in)
  go_wp2_with (fail)
  go_quiet ((first | (go_at_call 65; exact Calls.quiet_of_same (size_q _ _ (by first | with_reducible exact ha | with_reducible exact hb) (by first | with_reducible exact Ha.out | with_reducible exact Hb.out))) | (go_at_call 67; exact Calls.quiet_of_same (neg_q _ _)) | (go_at_call 68; exact Calls.quiet_of_same (sign_q _ _ _))))
  go_wp2_with (fail)
  go_ret2
  refine ⟨ret2b ?_, grownN (Gb.refl _)⟩
  rw [← HV.out]
  clear HV
  have ha' := Ha.out; have hb' := Hb.out
  have h := H.out; have h1 := H1.out; have h2 := H2.out; show _ = if b = 0 then _ else (wrap64 a).tmod (wrap64 b) % 18446744073709551616; rw [if_neg h, r16 a b ha ha' hb hb', if_neg (by omega)]; first | rfl | (rw [sgnV_no]; have h5 := Int.emod_nonneg (absV a) hn; have h6 := Int.emod_lt_of_pos (absV a) (by omega : 0 < absV b); have := absV_range hb hb'; omega)

set_option maxHeartbeats 1000000 in
theorem ref14z (a b : Int) (w : World) (ha : 0 ≤ a) (ha' : a < 18446744073709551616) (hb : 0 ≤ b) (hb' : b < 18446744073709551616) (h : b = 0) :
    Calls Tryd.prog 49 #[.int .i64 14, .int .u64 a, .int .u64 b] w fun e w' => e = .returned (.tuple #[.int .u64 (opV 14 a b), .bool true]) ∧ Gb w w' := by
  have hz : (b == 0) = true := by simpa using h
  have H := Lib.hid h; clear h
  have Ha := Lib.hid ha'; clear ha'
  have Hb := Lib.hid hb'; clear hb'
  generalize hV : opV 14 a b = V
  have HV := Lib.hid hV; clear hV
  go_enter Tryd.func49, Tryd.ntmps49
  go_wp2_with (first | (go_at_call 65; refine (size_any _ _ (by first | with_reducible exact ha | with_reducible exact hb) (by first | with_reducible exact Ha.out | with_reducible exact Hb.out)).mono ?_; rintro e w' ⟨rfl, rfl⟩) | go_in)
  go_ret2
  refine ⟨ret2b ?_, Gb.refl _⟩
  rw [← HV.out]
  clear HV
  have ha' := Ha.out; have hb' := Hb.out
  have h := H.out; show _ = if b = 0 then 18446744073709551615 else _; rw [if_pos h, h]; rfl

theorem ref14 : RefAt 14 := fun a b w ha ha' hb hb' => if h : b = 0 then ref14z a b w ha ha' hb hb' h else
  if h1 : 9223372036854775808 ≤ a then (if h2 : 9223372036854775808 ≤ b then ref14a a b w ha ha' hb hb' h1 h2 h else ref14b a b w ha ha' hb hb' h1 (Int.not_le.1 h2) h)
  else (if h2 : 9223372036854775808 ≤ b then ref14c a b w ha ha' hb hb' (Int.not_le.1 h1) h2 h else ref14d a b w ha ha' hb hb' (Int.not_le.1 h1) (Int.not_le.1 h2) h)

set_option maxHeartbeats 1000000 in
theorem ref16z (a b : Int) (w : World) (ha : 0 ≤ a) (ha' : a < 18446744073709551616) (hb : 0 ≤ b) (hb' : b < 18446744073709551616) (h : b = 0) :
    Calls Tryd.prog 49 #[.int .i64 16, .int .u64 a, .int .u64 b] w fun e w' => e = .returned (.tuple #[.int .u64 (opV 16 a b), .bool true]) ∧ Gb w w' := by
  have hz : (b == 0) = true := by simpa using h
  have H := Lib.hid h; clear h
  have Ha := Lib.hid ha'; clear ha'
  have Hb := Lib.hid hb'; clear hb'
  generalize hV : opV 16 a b = V
  have HV := Lib.hid hV; clear hV
  go_enter Tryd.func49, Tryd.ntmps49
  go_wp2_with (first | (go_at_call 65; refine (size_any _ _ (by first | with_reducible exact ha | with_reducible exact hb) (by first | with_reducible exact Ha.out | with_reducible exact Hb.out)).mono ?_; rintro e w' ⟨rfl, rfl⟩) | go_in)
  go_ret2
  refine ⟨ret2b ?_, Gb.refl _⟩
  rw [← HV.out]
  clear HV
  have ha' := Ha.out; have hb' := Hb.out
  have h := H.out; show _ = if b = 0 then a else _; rw [if_pos h]

theorem ref16 : RefAt 16 := fun a b w ha ha' hb hb' => if h : b = 0 then ref16z a b w ha ha' hb hb' h else
  if h1 : 9223372036854775808 ≤ a then (if h2 : 9223372036854775808 ≤ b then ref16a a b w ha ha' hb hb' h1 h2 h else ref16b a b w ha ha' hb hb' h1 (Int.not_le.1 h2) h)
  else (if h2 : 9223372036854775808 ≤ b then ref16c a b w ha ha' hb hb' (Int.not_le.1 h1) h2 h else ref16d a b w ha ha' hb hb' (Int.not_le.1 h1) (Int.not_le.1 h2) h)

set_option maxHeartbeats 1000000 in
theorem ref15z (a b : Int) (w : World) (ha : 0 ≤ a) (ha' : a < 18446744073709551616) (hb : 0 ≤ b) (hb' : b < 18446744073709551616) (h : b = 0) :
    Calls Tryd.prog 49 #[.int .i64 15, .int .u64 a, .int .u64 b] w fun e w' => e = .returned (.tuple #[.int .u64 (opV 15 a b), .bool true]) ∧ Gb w w' := by
  have hz : (b == 0) = true := by simpa using h
  have H := Lib.hid h; clear h
  have Ha := Lib.hid ha'; clear ha'
  have Hb := Lib.hid hb'; clear hb'
  generalize hV : opV 15 a b = V
  have HV := Lib.hid hV; clear hV
  go_enter Tryd.func49, Tryd.ntmps49
  go_wp2
  go_ret2
  refine ⟨ret2b ?_, Gb.refl _⟩
  rw [← HV.out]
  clear HV
  have ha' := Ha.out; have hb' := Hb.out
  have h := H.out; show _ = if b = 0 then 18446744073709551615 else _; rw [if_pos h, h]; rfl

set_option maxHeartbeats 1000000 in
theorem ref15n (a b : Int) (w : World) (ha : 0 ≤ a) (ha' : a < 18446744073709551616) (hb : 0 ≤ b) (hb' : b < 18446744073709551616) (h : ¬ b = 0) :
    Calls Tryd.prog 49 #[.int .i64 15, .int .u64 a, .int .u64 b] w fun e w' => e = .returned (.tuple #[.int .u64 (opV 15 a b), .bool true]) ∧ Gb w w' := by
  have hz : (b == 0) = false := by simpa using h
  have hn := h
  have H := Lib.hid h; clear h
  have Ha := Lib.hid ha'; clear ha'
  have Hb := Lib.hid hb'; clear hb'
  generalize hV : opV 15 a b = V
  have HV := Lib.hid hV; clear hV
  go_enter Tryd.func49, Tryd.ntmps49
  go_wp2
  go_ret2
  refine ⟨ret2b ?_, Gb.refl _⟩
  rw [← HV.out]
  clear HV
  have ha' := Ha.out; have hb' := Hb.out
  have h := H.out; show _ = if b = 0 then _ else a / b; rw [if_neg h, tdivU ha ha' hb]

theorem ref15 : RefAt 15 := fun a b w ha ha' hb hb' => if h : b = 0 then ref15z a b w ha ha' hb hb' h else ref15n a b w ha ha' hb hb' h

set_option maxHeartbeats 1000000 in
theorem ref17z (a b : Int) (w : World) (ha : 0 ≤ a) (ha' : a < 18446744073709551616) (hb : 0 ≤ b) (hb' : b < 18446744073709551616) (h : b = 0) :
    Calls Tryd.prog 49 #[.int .i64 17, .int .u64 a, .int .u64 b] w fun e w' => e = .returned (.tuple #[.int .u64 (opV 17 a b), .bool true]) ∧ Gb w w' := by
  have hz : (b == 0) = true := by simpa using h
  have H := Lib.hid h; clear h
  have Ha := Lib.hid ha'; clear ha'
  have Hb := Lib.hid hb'; clear hb'
  generalize hV : opV 17 a b = V
  have HV := Lib.hid hV; clear hV
  go_enter Tryd.func49, Tryd.ntmps49
  go_wp2
  go_ret2
  refine ⟨ret2b ?_, Gb.refl _⟩
  rw [← HV.out]
  clear HV
  have ha' := Ha.out; have hb' := Hb.out
  have h := H.out; show _ = if b = 0 then a else _; rw [if_pos h]

set_option maxHeartbeats 1000000 in
theorem ref17n (a b : Int) (w : World) (ha : 0 ≤ a) (ha' : a < 18446744073709551616) (hb : 0 ≤ b) (hb' : b < 18446744073709551616) (h : ¬ b = 0) :
    Calls Tryd.prog 49 #[.int .i64 17, .int .u64 a, .int .u64 b] w fun e w' => e = .returned (.tuple #[.int .u64 (opV 17 a b), .bool true]) ∧ Gb w w' := by
  have hz : (b == 0) = false := by simpa using h
  have hn := h
  have H := Lib.hid h; clear h
  have Ha := Lib.hid ha'; clear ha'
  have Hb := Lib.hid hb'; clear hb'
  generalize hV : opV 17 a b = V
  have HV := Lib.hid hV; clear hV
  go_enter Tryd.func49, Tryd.ntmps49
  go_wp2
  go_ret2
  refine ⟨ret2b ?_, Gb.refl _⟩
  rw [← HV.out]
  clear HV
  have ha' := Ha.out; have hb' := Hb.out
  have h := H.out; show _ = if b = 0 then a else a % b; rw [if_neg h]

theorem ref17 : RefAt 17 := fun a b w ha ha' hb hb' => if h : b = 0 then ref17z a b w ha ha' hb hb' h else ref17n a b w ha ha' hb hb' h

end Go.Proofs.YtppcbommaddkgaaDoor
namespace Go.Proofs.YtppcbommaddkgaaDoor
open Go.RowKit
set_option linter.unusedVariables false
open Pl

/-- Of the operations that those of 32 bits come to. -/
theorem refBase (op : Int) (h : op = 1 ∨ op = 2 ∨ op = 3 ∨ op = 7 ∨ op = 8 ∨ op = 11 ∨ op = 14 ∨ op = 15 ∨ op = 16 ∨ op = 17) : RefAt op := by
  rcases h with rfl | rfl | rfl | rfl | rfl | rfl | rfl | rfl | rfl | rfl
  · exact fun a b w ha ha' hb hb' => ref1 a b w ha ha' hb hb'
  · exact fun a b w ha ha' hb hb' => ref2 a b w ha ha' hb hb'
  · exact fun a b w ha ha' hb hb' => ref3 a b w ha ha' hb hb'
  · exact ref7
  · exact ref8
  · exact fun a b w ha ha' hb hb' => ref11 a b w ha ha' hb hb'
  · exact ref14
  · exact ref15
  · exact ref16
  · exact ref17
namespace Pl
theorem nrV_range (s : Bool) (a n : Int) (h1 : 1 ≤ n) (h2 : n ≤ 64) : 0 ≤ nrV s a n ∧ nrV s a n < 18446744073709551616 := by
  have h4 := Int.emod_lt_of_pos a (two_pow_pos n.toNat)
  have h5 := Int.emod_nonneg a (Int.ne_of_gt (two_pow_pos n.toNat))
  have h6 : (2 : Int) ^ n.toNat ≤ 18446744073709551616 := by
    have h3 := pow_split n.toNat (by omega)
    have h8 := two_pow_pos (64 - n.toNat)
    have h7 : (2 : Int) ^ n.toNat * 1 ≤ 2 ^ n.toNat * 2 ^ (64 - n.toNat) := Int.mul_le_mul_of_nonneg_left (by omega) (Int.le_of_lt (two_pow_pos _))
    omega
  unfold nrV
  split <;> omega
theorem nrV_32 (a : Int) : nrV true a 32 = sx a := by
  unfold nrV sx wrap32
  have e : (2 : Int) ^ (32 : Int).toNat = 4294967296 := by decide
  have e2 : (2 : Int) ^ ((32 : Int) - 1).toNat = 2147483648 := by decide
  rw [e, e2]
  by_cases h : 2147483648 ≤ a % 4294967296
  · rw [if_pos ⟨rfl, h⟩]; omega
  · rw [if_neg (fun x => h x.2)]; omega
theorem nrV_32u (a : Int) : nrV false a 32 = a % 4294967296 := by
  unfold nrV
  have e : (2 : Int) ^ (32 : Int).toNat = 4294967296 := by decide
  rw [e, if_neg (by simp)]
theorem sx_emod64 (x : Int) : sx (x % 18446744073709551616) = sx x := sx_congr (by omega)
theorem low32 (b : Int) : b % 32 % 64 = b % 32 := by omega
theorem sx_zero {b : Int} : sx b = 0 ↔ b % 4294967296 = 0 := by unfold sx wrap32; omega
theorem sx_m1 : sx 18446744073709551615 = 18446744073709551615 := by unfold sx wrap32; omega
/-- What the operations of 32 bits come to. -/
theorem w18 (a b : Int) : sx (opV 1 (sx a) (sx b)) = opV 18 a b := by
  show sx ((sx a + sx b) % 18446744073709551616) = sx (a + b); rw [sx_emod64]; have := sx_mod a; have := sx_mod b; exact sx_congr (by omega)
theorem w19 (a b : Int) : sx (opV 2 (sx a) (sx b)) = opV 19 a b := by
  show sx ((sx a - sx b) % 18446744073709551616) = sx (a - b); rw [sx_emod64]; have := sx_mod a; have := sx_mod b; exact sx_congr (by omega)
theorem w20 (a b : Int) : sx (opV 3 (sx a) (b % 32)) = opV 20 a b := by
  show sx (sx a * 2 ^ (b % 32 % 64).toNat % 18446744073709551616) = sx (a * 2 ^ (b % 32).toNat)
  rw [sx_emod64, low32]; exact sx_congr (mul_mod_congr (sx_mod a))
theorem w21 (a b : Int) : sx (opV 7 (a % 4294967296) (b % 32)) = opV 21 a b := by
  show sx (a % 4294967296 / 2 ^ (b % 32 % 64).toNat) = sx (a % 4294967296 / 2 ^ (b % 32).toNat)
  rw [low32]
theorem w22 (a b : Int) : sx (opV 8 (sx a) (b % 32)) = opV 22 a b := by
  show sx (wrap64 (sx a) / 2 ^ (b % 32 % 64).toNat % 18446744073709551616) = sx (wrap32 a / 2 ^ (b % 32).toNat)
  rw [sx_emod64, low32, wrap64_sx]
theorem w23 (a b : Int) : sx (opV 11 (sx a) (sx b)) = opV 23 a b := by
  show sx (sx a * sx b % 18446744073709551616) = sx (a * b); rw [sx_emod64]
  exact sx_congr (by rw [Int.mul_emod, sx_mod, sx_mod, ← Int.mul_emod])
theorem w24 (a b : Int) : sx (opV 14 (sx a) (sx b)) = opV 24 a b := by
  show sx (if sx b = 0 then 18446744073709551615 else (wrap64 (sx a)).tdiv (wrap64 (sx b)) % 18446744073709551616) = if b % 4294967296 = 0 then 18446744073709551615 else sx ((wrap32 a).tdiv (wrap32 b))
  by_cases h : b % 4294967296 = 0
  · rw [if_pos (sx_zero.2 h), if_pos h, sx_m1]
  · rw [if_neg (fun e => h (sx_zero.1 e)), if_neg h, sx_emod64, wrap64_sx, wrap64_sx]
theorem w25 (a b : Int) : sx (opV 15 (a % 4294967296) (b % 4294967296)) = opV 25 a b := by
  show sx (if b % 4294967296 = 0 then 18446744073709551615 else a % 4294967296 / (b % 4294967296)) = if b % 4294967296 = 0 then 18446744073709551615 else sx (a % 4294967296 / (b % 4294967296))
  by_cases h : b % 4294967296 = 0
  · rw [if_pos h, if_pos h, sx_m1]
  · rw [if_neg h, if_neg h]
theorem w26 (a b : Int) : sx (opV 16 (sx a) (sx b)) = opV 26 a b := by
  show sx (if sx b = 0 then sx a else (wrap64 (sx a)).tmod (wrap64 (sx b)) % 18446744073709551616) = if b % 4294967296 = 0 then sx a else sx ((wrap32 a).tmod (wrap32 b))
  by_cases h : b % 4294967296 = 0
  · rw [if_pos (sx_zero.2 h), if_pos h, sx_sx]
  · rw [if_neg (fun e => h (sx_zero.1 e)), if_neg h, sx_emod64, wrap64_sx, wrap64_sx]
theorem w27 (a b : Int) : sx (opV 17 (a % 4294967296) (b % 4294967296)) = opV 27 a b := by
  show sx (if b % 4294967296 = 0 then a % 4294967296 else a % 4294967296 % (b % 4294967296)) = if b % 4294967296 = 0 then sx a else sx (a % 4294967296 % (b % 4294967296))
  by_cases h : b % 4294967296 = 0
  · rw [if_pos h, if_pos h]; exact sx_congr (by omega)
  · rw [if_neg h, if_neg h]
theorem lowr (a : Int) : 0 ≤ a % 4294967296 ∧ a % 4294967296 < 18446744073709551616 := by omega
theorem low5 (a : Int) : 0 ≤ a % 32 ∧ a % 32 < 18446744073709551616 := by omega
end Pl
theorem refBaseC (op : Int) (h : op = 1 ∨ op = 2 ∨ op = 3 ∨ op = 7 ∨ op = 8 ∨ op = 11 ∨ op = 14 ∨ op = 15 ∨ op = 16 ∨ op = 17) (a b : Int) (w : World) (ha : 0 ≤ a) (ha' : a < 18446744073709551616) (hb : 0 ≤ b) (hb' : b < 18446744073709551616) :
    Calls Tryd.prog 49 #[.int .i64 op, .int .u64 a, .int .u64 b] w fun e w' => e = .returned (.tuple #[.int .u64 (opV op a b), .bool true]) ∧ Gb w w' := refBase op h a b w ha ha' hb hb'
theorem grownT {a b c : World} (h1 : Gb a b) (h2 : Gb b c) : Gb a c := Below.trans h1 (Below.mono h2 h1.size)
theorem narrowS (a : Int) (w : World) (ha : 0 ≤ a) (ha' : a < 18446744073709551616) :
    Calls Tryd.prog 50 #[.int .u64 a, .int .i64 32, .bool true] w fun e w' => e = .returned (.tuple #[.int .u64 (sx a), .bool true]) ∧ w = w' := by
  rw [← nrV_32]; exact refNarrow_any true a 32 w ha ha' (by decide) (by decide)
theorem narrowU (a : Int) (w : World) (ha : 0 ≤ a) (ha' : a < 18446744073709551616) :
    Calls Tryd.prog 50 #[.int .u64 a, .int .i64 32, .bool false] w fun e w' => e = .returned (.tuple #[.int .u64 (a % 4294967296), .bool true]) ∧ w = w' := by
  rw [← nrV_32u]; exact refNarrow_any false a 32 w ha ha' (by decide) (by decide)
namespace Pl
def Ok (r : Int) : Prop := 0 ≤ r ∧ r < 18446744073709551616
theorem ite_ok {c : Prop} [Decidable c] {x y : Int} (h : c → Ok x) (h' : ¬ c → Ok y) : Ok (if c then x else y) := by
  by_cases e : c
  · rw [if_pos e]; exact h e
  · rw [if_neg e]; exact h' e
theorem ok_mod (x : Int) : Ok (x % 18446744073709551616) := by unfold Ok; omega
theorem ok_nat {n : Nat} (h : n < 2 ^ 64) : Ok (n : Int) := by unfold Ok; omega
theorem ok_le {a x : Int} (h : 0 ≤ x ∧ x ≤ a) (h' : a < 18446744073709551616) : Ok x := by unfold Ok; omega
theorem ok_high {a b : Int} (ha : 0 ≤ a) (ha' : a < 18446744073709551616) (hb : 0 ≤ b) (hb' : b < 18446744073709551616) : Ok (a * b / 18446744073709551616) := by
  refine ⟨Int.ediv_nonneg (Int.mul_nonneg ha hb) (by decide), ?_⟩
  apply Int.ediv_lt_of_lt_mul (by decide)
  have h1 := Int.mul_le_mul (by omega : a ≤ 18446744073709551615) (by omega : b ≤ 18446744073709551615) hb (by decide)
  omega
theorem ok_rem {a b : Int} (ha : 0 ≤ a) (ha' : a < 18446744073709551616) (hb : 0 ≤ b) (h : ¬ b = 0) : Ok (a % b) :=
  by
  have h1 := Int.emod_nonneg a h
  have h2 := Int.mul_ediv_add_emod a b
  unfold Ok
  refine ⟨h1, Int.lt_of_le_of_lt ?_ ha'⟩
  have h3 : 0 ≤ b * (a / b) := Int.mul_nonneg hb (Int.ediv_nonneg ha hb)
  omega
/-- The values of the operations are of 64 bits. -/
theorem opV_range (op a b : Int) (ha : 0 ≤ a) (ha' : a < 18446744073709551616) (hb : 0 ≤ b) (hb' : b < 18446744073709551616) : 0 ≤ opV op a b ∧ opV op a b < 18446744073709551616 := by
  show Ok (opV op a b)
  unfold opV
  repeat' (refine ite_ok ?_ ?_ <;> intro hcase)
  all_goals first
    | exact ok_mod _
    | exact sx_range _
    | (unfold Ok; omega)
    | exact ok_nat (Nat.xor_lt_two_pow (by omega) (by omega))
    | exact ok_nat (Nat.or_lt_two_pow (by omega) (by omega))
    | exact ok_nat (Nat.and_lt_two_pow _ (by omega))
    | exact ok_high ha ha' hb hb'
    | exact ok_rem ha ha' hb hcase
    | exact ok_le (quo_range ha (Int.le_of_lt (two_pow_pos _))) ha'
    | exact ok_le (quo_range ha hb) ha'
end Pl

set_option maxHeartbeats 1000000 in
theorem ref18 (a b : Int) (w : World) (ha : 0 ≤ a) (ha' : a < 18446744073709551616) (hb : 0 ≤ b) (hb' : b < 18446744073709551616) :
    Calls Tryd.prog 49 #[.int .i64 18, .int .u64 a, .int .u64 b] w fun e w' => e = .returned (.tuple #[.int .u64 (opV 18 a b), .bool true]) ∧ Gb w w' := by
  have Ha := Lib.hid ha'; clear ha'
  have Hb := Lib.hid hb'; clear hb'
  generalize hV : opV 18 a b = V
  have HV := Lib.hid hV; clear hV
  have HX := Lib.hid (sx_range a); have HY := Lib.hid (sx_range b)
  have HZ := Lib.hid (opV_range 1 (sx a) (sx b) HX.out.1 HX.out.2 HY.out.1 HY.out.2)
  go_enter Tryd.func49, Tryd.ntmps49
  go_wp2_with (first | (go_at_call 50; (with_reducible refine (narrowS _ _ (by first | with_reducible exact ha | with_reducible exact hb) (by first | with_reducible exact Ha.out | with_reducible exact Hb.out)).mono ?_); rintro e w' ⟨rfl, rfl⟩) | (go_at_call 50; (with_reducible refine (narrowS _ _ HZ.out.1 HZ.out.2).mono ?_); rintro e w' ⟨rfl, rfl⟩) | (go_at_call 49; (with_reducible refine (refBaseC 1 (by decide) _ _ _ HX.out.1 HX.out.2 HY.out.1 HY.out.2).mono ?_); rintro e w' ⟨rfl, hg⟩) | (go_at_call 69; go_in))
  go_ret2
  refine ⟨ret2b ?_, grownT ((Gb.refl _).alloc _ _) hg⟩
  rw [← HV.out]
  exact w18 a b

set_option maxHeartbeats 1000000 in
theorem ref19 (a b : Int) (w : World) (ha : 0 ≤ a) (ha' : a < 18446744073709551616) (hb : 0 ≤ b) (hb' : b < 18446744073709551616) :
    Calls Tryd.prog 49 #[.int .i64 19, .int .u64 a, .int .u64 b] w fun e w' => e = .returned (.tuple #[.int .u64 (opV 19 a b), .bool true]) ∧ Gb w w' := by
  have Ha := Lib.hid ha'; clear ha'
  have Hb := Lib.hid hb'; clear hb'
  generalize hV : opV 19 a b = V
  have HV := Lib.hid hV; clear hV
  have HX := Lib.hid (sx_range a); have HY := Lib.hid (sx_range b)
  have HZ := Lib.hid (opV_range 2 (sx a) (sx b) HX.out.1 HX.out.2 HY.out.1 HY.out.2)
  go_enter Tryd.func49, Tryd.ntmps49
  go_wp2_with (first | (go_at_call 50; (with_reducible refine (narrowS _ _ (by first | with_reducible exact ha | with_reducible exact hb) (by first | with_reducible exact Ha.out | with_reducible exact Hb.out)).mono ?_); rintro e w' ⟨rfl, rfl⟩) | (go_at_call 50; (with_reducible refine (narrowS _ _ HZ.out.1 HZ.out.2).mono ?_); rintro e w' ⟨rfl, rfl⟩) | (go_at_call 49; (with_reducible refine (refBaseC 2 (by decide) _ _ _ HX.out.1 HX.out.2 HY.out.1 HY.out.2).mono ?_); rintro e w' ⟨rfl, hg⟩) | (go_at_call 69; go_in))
  go_ret2
  refine ⟨ret2b ?_, grownT ((Gb.refl _).alloc _ _) hg⟩
  rw [← HV.out]
  exact w19 a b

set_option maxHeartbeats 1000000 in
theorem ref20 (a b : Int) (w : World) (ha : 0 ≤ a) (ha' : a < 18446744073709551616) (hb : 0 ≤ b) (hb' : b < 18446744073709551616) :
    Calls Tryd.prog 49 #[.int .i64 20, .int .u64 a, .int .u64 b] w fun e w' => e = .returned (.tuple #[.int .u64 (opV 20 a b), .bool true]) ∧ Gb w w' := by
  have Ha := Lib.hid ha'; clear ha'
  have Hb := Lib.hid hb'; clear hb'
  generalize hV : opV 20 a b = V
  have HV := Lib.hid hV; clear hV
  have HX := Lib.hid (sx_range a); have HY := Lib.hid (low5 b)
  have HZ := Lib.hid (opV_range 3 (sx a) ((b % 32)) HX.out.1 HX.out.2 HY.out.1 HY.out.2)
  go_enter Tryd.func49, Tryd.ntmps49
  go_wp2_with (first | (go_at_call 50; (with_reducible refine (narrowS _ _ (by first | with_reducible exact ha | with_reducible exact hb) (by first | with_reducible exact Ha.out | with_reducible exact Hb.out)).mono ?_); rintro e w' ⟨rfl, rfl⟩) | (go_at_call 50; (with_reducible refine (narrowS _ _ HZ.out.1 HZ.out.2).mono ?_); rintro e w' ⟨rfl, rfl⟩) | (go_at_call 49; (with_reducible refine (refBaseC 3 (by decide) _ _ _ HX.out.1 HX.out.2 HY.out.1 HY.out.2).mono ?_); rintro e w' ⟨rfl, hg⟩) | (go_at_call 69; go_in))
  go_ret2
  refine ⟨ret2b ?_, grownT ((Gb.refl _).alloc _ _) hg⟩
  rw [← HV.out]
  exact w20 a b

set_option maxHeartbeats 1000000 in
theorem ref21 (a b : Int) (w : World) (ha : 0 ≤ a) (ha' : a < 18446744073709551616) (hb : 0 ≤ b) (hb' : b < 18446744073709551616) :
    Calls Tryd.prog 49 #[.int .i64 21, .int .u64 a, .int .u64 b] w fun e w' => e = .returned (.tuple #[.int .u64 (opV 21 a b), .bool true]) ∧ Gb w w' := by
  have Ha := Lib.hid ha'; clear ha'
  have Hb := Lib.hid hb'; clear hb'
  generalize hV : opV 21 a b = V
  have HV := Lib.hid hV; clear hV
  have HX := Lib.hid (lowr a); have HY := Lib.hid (low5 b)
  have HZ := Lib.hid (opV_range 7 ((a % 4294967296)) ((b % 32)) HX.out.1 HX.out.2 HY.out.1 HY.out.2)
  go_enter Tryd.func49, Tryd.ntmps49
  go_wp2_with (first | (go_at_call 50; (with_reducible refine (narrowU _ _ (by first | with_reducible exact ha | with_reducible exact hb) (by first | with_reducible exact Ha.out | with_reducible exact Hb.out)).mono ?_); rintro e w' ⟨rfl, rfl⟩) | (go_at_call 50; (with_reducible refine (narrowS _ _ HZ.out.1 HZ.out.2).mono ?_); rintro e w' ⟨rfl, rfl⟩) | (go_at_call 49; (with_reducible refine (refBaseC 7 (by decide) _ _ _ HX.out.1 HX.out.2 HY.out.1 HY.out.2).mono ?_); rintro e w' ⟨rfl, hg⟩) | (go_at_call 69; go_in))
  go_ret2
  refine ⟨ret2b ?_, grownT ((Gb.refl _).alloc _ _) hg⟩
  rw [← HV.out]
  exact w21 a b

set_option maxHeartbeats 1000000 in
theorem ref22 (a b : Int) (w : World) (ha : 0 ≤ a) (ha' : a < 18446744073709551616) (hb : 0 ≤ b) (hb' : b < 18446744073709551616) :
    Calls Tryd.prog 49 #[.int .i64 22, .int .u64 a, .int .u64 b] w fun e w' => e = .returned (.tuple #[.int .u64 (opV 22 a b), .bool true]) ∧ Gb w w' := by
  have Ha := Lib.hid ha'; clear ha'
  have Hb := Lib.hid hb'; clear hb'
  generalize hV : opV 22 a b = V
  have HV := Lib.hid hV; clear hV
  have HX := Lib.hid (sx_range a); have HY := Lib.hid (low5 b)
  have HZ := Lib.hid (opV_range 8 (sx a) ((b % 32)) HX.out.1 HX.out.2 HY.out.1 HY.out.2)
  go_enter Tryd.func49, Tryd.ntmps49
  go_wp2_with (first | (go_at_call 50; (with_reducible refine (narrowS _ _ (by first | with_reducible exact ha | with_reducible exact hb) (by first | with_reducible exact Ha.out | with_reducible exact Hb.out)).mono ?_); rintro e w' ⟨rfl, rfl⟩) | (go_at_call 50; (with_reducible refine (narrowS _ _ HZ.out.1 HZ.out.2).mono ?_); rintro e w' ⟨rfl, rfl⟩) | (go_at_call 49; (with_reducible refine (refBaseC 8 (by decide) _ _ _ HX.out.1 HX.out.2 HY.out.1 HY.out.2).mono ?_); rintro e w' ⟨rfl, hg⟩) | (go_at_call 69; go_in))
  go_ret2
  refine ⟨ret2b ?_, grownT ((Gb.refl _).alloc _ _) hg⟩
  rw [← HV.out]
  exact w22 a b

set_option maxHeartbeats 1000000 in
theorem ref23 (a b : Int) (w : World) (ha : 0 ≤ a) (ha' : a < 18446744073709551616) (hb : 0 ≤ b) (hb' : b < 18446744073709551616) :
    Calls Tryd.prog 49 #[.int .i64 23, .int .u64 a, .int .u64 b] w fun e w' => e = .returned (.tuple #[.int .u64 (opV 23 a b), .bool true]) ∧ Gb w w' := by
  have Ha := Lib.hid ha'; clear ha'
  have Hb := Lib.hid hb'; clear hb'
  generalize hV : opV 23 a b = V
  have HV := Lib.hid hV; clear hV
  have HX := Lib.hid (sx_range a); have HY := Lib.hid (sx_range b)
  have HZ := Lib.hid (opV_range 11 (sx a) (sx b) HX.out.1 HX.out.2 HY.out.1 HY.out.2)
  go_enter Tryd.func49, Tryd.ntmps49
  go_wp2_with (first | (go_at_call 50; (with_reducible refine (narrowS _ _ (by first | with_reducible exact ha | with_reducible exact hb) (by first | with_reducible exact Ha.out | with_reducible exact Hb.out)).mono ?_); rintro e w' ⟨rfl, rfl⟩) | (go_at_call 50; (with_reducible refine (narrowS _ _ HZ.out.1 HZ.out.2).mono ?_); rintro e w' ⟨rfl, rfl⟩) | (go_at_call 49; (with_reducible refine (refBaseC 11 (by decide) _ _ _ HX.out.1 HX.out.2 HY.out.1 HY.out.2).mono ?_); rintro e w' ⟨rfl, hg⟩) | (go_at_call 69; go_in))
  go_ret2
  refine ⟨ret2b ?_, grownT ((Gb.refl _).alloc _ _) hg⟩
  rw [← HV.out]
  exact w23 a b

set_option maxHeartbeats 1000000 in
theorem ref24 (a b : Int) (w : World) (ha : 0 ≤ a) (ha' : a < 18446744073709551616) (hb : 0 ≤ b) (hb' : b < 18446744073709551616) :
    Calls Tryd.prog 49 #[.int .i64 24, .int .u64 a, .int .u64 b] w fun e w' => e = .returned (.tuple #[.int .u64 (opV 24 a b), .bool true]) ∧ Gb w w' := by
  have Ha := Lib.hid ha'; clear ha'
  have Hb := Lib.hid hb'; clear hb'
  generalize hV : opV 24 a b = V
  have HV := Lib.hid hV; clear hV
  have HX := Lib.hid (sx_range a); have HY := Lib.hid (sx_range b)
  have HZ := Lib.hid (opV_range 14 (sx a) (sx b) HX.out.1 HX.out.2 HY.out.1 HY.out.2)
  go_enter Tryd.func49, Tryd.ntmps49
  go_wp2_with (first | (go_at_call 50; (with_reducible refine (narrowS _ _ (by first | with_reducible exact ha | with_reducible exact hb) (by first | with_reducible exact Ha.out | with_reducible exact Hb.out)).mono ?_); rintro e w' ⟨rfl, rfl⟩) | (go_at_call 50; (with_reducible refine (narrowS _ _ HZ.out.1 HZ.out.2).mono ?_); rintro e w' ⟨rfl, rfl⟩) | (go_at_call 49; (with_reducible refine (refBaseC 14 (by decide) _ _ _ HX.out.1 HX.out.2 HY.out.1 HY.out.2).mono ?_); rintro e w' ⟨rfl, hg⟩) | (go_at_call 69; go_in))
  go_ret2
  refine ⟨ret2b ?_, grownT ((Gb.refl _).alloc _ _) hg⟩
  rw [← HV.out]
  exact w24 a b

set_option maxHeartbeats 1000000 in
theorem ref25 (a b : Int) (w : World) (ha : 0 ≤ a) (ha' : a < 18446744073709551616) (hb : 0 ≤ b) (hb' : b < 18446744073709551616) :
    Calls Tryd.prog 49 #[.int .i64 25, .int .u64 a, .int .u64 b] w fun e w' => e = .returned (.tuple #[.int .u64 (opV 25 a b), .bool true]) ∧ Gb w w' := by
  have Ha := Lib.hid ha'; clear ha'
  have Hb := Lib.hid hb'; clear hb'
  generalize hV : opV 25 a b = V
  have HV := Lib.hid hV; clear hV
  have HX := Lib.hid (lowr a); have HY := Lib.hid (lowr b)
  have HZ := Lib.hid (opV_range 15 ((a % 4294967296)) ((b % 4294967296)) HX.out.1 HX.out.2 HY.out.1 HY.out.2)
  go_enter Tryd.func49, Tryd.ntmps49
  go_wp2_with (first | (go_at_call 50; (with_reducible refine (narrowU _ _ (by first | with_reducible exact ha | with_reducible exact hb) (by first | with_reducible exact Ha.out | with_reducible exact Hb.out)).mono ?_); rintro e w' ⟨rfl, rfl⟩) | (go_at_call 50; (with_reducible refine (narrowS _ _ HZ.out.1 HZ.out.2).mono ?_); rintro e w' ⟨rfl, rfl⟩) | (go_at_call 49; (with_reducible refine (refBaseC 15 (by decide) _ _ _ HX.out.1 HX.out.2 HY.out.1 HY.out.2).mono ?_); rintro e w' ⟨rfl, hg⟩) | (go_at_call 69; go_in))
  go_ret2
  refine ⟨ret2b ?_, grownT ((Gb.refl _).alloc _ _) hg⟩
  rw [← HV.out]
  exact w25 a b

set_option maxHeartbeats 1000000 in
theorem ref26 (a b : Int) (w : World) (ha : 0 ≤ a) (ha' : a < 18446744073709551616) (hb : 0 ≤ b) (hb' : b < 18446744073709551616) :
    Calls Tryd.prog 49 #[.int .i64 26, .int .u64 a, .int .u64 b] w fun e w' => e = .returned (.tuple #[.int .u64 (opV 26 a b), .bool true]) ∧ Gb w w' := by
  have Ha := Lib.hid ha'; clear ha'
  have Hb := Lib.hid hb'; clear hb'
  generalize hV : opV 26 a b = V
  have HV := Lib.hid hV; clear hV
  have HX := Lib.hid (sx_range a); have HY := Lib.hid (sx_range b)
  have HZ := Lib.hid (opV_range 16 (sx a) (sx b) HX.out.1 HX.out.2 HY.out.1 HY.out.2)
  go_enter Tryd.func49, Tryd.ntmps49
  go_wp2_with (first | (go_at_call 50; (with_reducible refine (narrowS _ _ (by first | with_reducible exact ha | with_reducible exact hb) (by first | with_reducible exact Ha.out | with_reducible exact Hb.out)).mono ?_); rintro e w' ⟨rfl, rfl⟩) | (go_at_call 50; (with_reducible refine (narrowS _ _ HZ.out.1 HZ.out.2).mono ?_); rintro e w' ⟨rfl, rfl⟩) | (go_at_call 49; (with_reducible refine (refBaseC 16 (by decide) _ _ _ HX.out.1 HX.out.2 HY.out.1 HY.out.2).mono ?_); rintro e w' ⟨rfl, hg⟩) | (go_at_call 69; go_in))
  go_ret2
  refine ⟨ret2b ?_, grownT ((Gb.refl _).alloc _ _) hg⟩
  rw [← HV.out]
  exact w26 a b

set_option maxHeartbeats 1000000 in
theorem ref27 (a b : Int) (w : World) (ha : 0 ≤ a) (ha' : a < 18446744073709551616) (hb : 0 ≤ b) (hb' : b < 18446744073709551616) :
    Calls Tryd.prog 49 #[.int .i64 27, .int .u64 a, .int .u64 b] w fun e w' => e = .returned (.tuple #[.int .u64 (opV 27 a b), .bool true]) ∧ Gb w w' := by
  have Ha := Lib.hid ha'; clear ha'
  have Hb := Lib.hid hb'; clear hb'
  generalize hV : opV 27 a b = V
  have HV := Lib.hid hV; clear hV
  have HX := Lib.hid (lowr a); have HY := Lib.hid (lowr b)
  have HZ := Lib.hid (opV_range 17 ((a % 4294967296)) ((b % 4294967296)) HX.out.1 HX.out.2 HY.out.1 HY.out.2)
  go_enter Tryd.func49, Tryd.ntmps49
  go_wp2_with (first | (go_at_call 50; (with_reducible refine (narrowU _ _ (by first | with_reducible exact ha | with_reducible exact hb) (by first | with_reducible exact Ha.out | with_reducible exact Hb.out)).mono ?_); rintro e w' ⟨rfl, rfl⟩) | (go_at_call 50; (with_reducible refine (narrowS _ _ HZ.out.1 HZ.out.2).mono ?_); rintro e w' ⟨rfl, rfl⟩) | (go_at_call 49; (with_reducible refine (refBaseC 17 (by decide) _ _ _ HX.out.1 HX.out.2 HY.out.1 HY.out.2).mono ?_); rintro e w' ⟨rfl, hg⟩) | (go_at_call 69; go_in))
  go_ret2
  refine ⟨ret2b ?_, grownT ((Gb.refl _).alloc _ _) hg⟩
  rw [← HV.out]
  exact w27 a b

end Go.Proofs.YtppcbommaddkgaaDoor
namespace Go.Proofs.YtppcbommaddkgaaDoor
open Go.RowKit
set_option linter.unusedVariables false
open Pl

/-- The document's Do at any operation's number. -/
theorem ref_any (op a b : Int) (w : World) (h1 : 1 ≤ op) (h2 : op ≤ 27) (ha : 0 ≤ a) (ha' : a < 18446744073709551616) (hb : 0 ≤ b) (hb' : b < 18446744073709551616) :
    Calls Tryd.prog 49 #[.int .i64 op, .int .u64 a, .int .u64 b] w fun e w' => e = .returned (.tuple #[.int .u64 (opV op a b), .bool true]) ∧ Gb w w' := by
  have : op = 1 ∨ op = 2 ∨ op = 3 ∨ op = 4 ∨ op = 5 ∨ op = 6 ∨ op = 7 ∨ op = 8 ∨ op = 9 ∨ op = 10 ∨ op = 11 ∨ op = 12 ∨ op = 13 ∨ op = 14 ∨ op = 15 ∨ op = 16 ∨ op = 17 ∨ op = 18 ∨ op = 19 ∨ op = 20 ∨ op = 21 ∨ op = 22 ∨ op = 23 ∨ op = 24 ∨ op = 25 ∨ op = 26 ∨ op = 27 := by omega
  rcases this with rfl | rfl | rfl | rfl | rfl | rfl | rfl | rfl | rfl | rfl | rfl | rfl | rfl | rfl | rfl | rfl | rfl | rfl | rfl | rfl | rfl | rfl | rfl | rfl | rfl | rfl | rfl
  · exact ref1 a b w ha ha' hb hb'
  · exact ref2 a b w ha ha' hb hb'
  · exact ref3 a b w ha ha' hb hb'
  · exact ref4 a b w ha ha' hb hb'
  · exact ref5 a b w ha ha' hb hb'
  · exact ref6 a b w ha ha' hb hb'
  · exact ref7 a b w ha ha' hb hb'
  · exact ref8 a b w ha ha' hb hb'
  · exact ref9 a b w ha ha' hb hb'
  · exact ref10 a b w ha ha' hb hb'
  · exact ref11 a b w ha ha' hb hb'
  · exact ref12 a b w ha ha' hb hb'
  · exact ref13 a b w ha ha' hb hb'
  · exact ref14 a b w ha ha' hb hb'
  · exact ref15 a b w ha ha' hb hb'
  · exact ref16 a b w ha ha' hb hb'
  · exact ref17 a b w ha ha' hb hb'
  · exact ref18 a b w ha ha' hb hb'
  · exact ref19 a b w ha ha' hb hb'
  · exact ref20 a b w ha ha' hb hb'
  · exact ref21 a b w ha ha' hb hb'
  · exact ref22 a b w ha ha' hb hb'
  · exact ref23 a b w ha ha' hb hb'
  · exact ref24 a b w ha ha' hb hb'
  · exact ref25 a b w ha ha' hb hb'
  · exact ref26 a b w ha ha' hb hb'
  · exact ref27 a b w ha ha' hb hb'

/-! num.Narrow -/
namespace Pl
theorem shl_mod (a : Int) (n : Nat) (h : n ≤ 64) : a * 2 ^ (64 - n) % 18446744073709551616 = a % 2 ^ n * 2 ^ (64 - n) := by
  rw [← pow_split n h]
  rw [Int.mul_comm a, Int.mul_comm (2 ^ n), Int.mul_emod_mul_of_pos _ _ (two_pow_pos _), Int.mul_comm]
theorem nar_s (a n : Int) (h1 : 1 ≤ n) (h2 : n ≤ 64) : IntKind.u64.wrap (wrap64 (IntKind.u64.wrap (a * 2 ^ (64 - n).toNat)) / 2 ^ (64 - n).toNat) = nrV true a n := by
  obtain ⟨k, hk⟩ : ∃ k : Nat, n = (k : Int) + 1 := ⟨(n - 1).toNat, by omega⟩
  have e1 : (64 - n).toNat = 64 - (k + 1) := by omega
  have e2 : n.toNat = k + 1 := by omega
  have e3 : (n - 1).toNat = k := by omega
  unfold nrV
  rw [e1, e2, e3, IntKind.wrap_u64, IntKind.wrap_u64, shl_mod a (k + 1) (by omega)]
  have h3 := pow_split (k + 1) (by omega)
  have h4 := two_pow_pos (64 - (k + 1))
  have h5 := Int.emod_lt_of_pos a (two_pow_pos (k + 1))
  have h6 := Int.emod_nonneg a (Int.ne_of_gt (two_pow_pos (k + 1)))
  have h7 : (2 : Int) ^ (k + 1) = 2 * 2 ^ k := by rw [Int.pow_succ]; omega
  have h8 := two_pow_pos k
  have h9 : (2 : Int) ^ (k + 1) ≤ 18446744073709551616 := by
    have : (2 : Int) ^ (k + 1) * 1 ≤ 2 ^ (k + 1) * 2 ^ (64 - (k + 1)) := Int.mul_le_mul_of_nonneg_left (by omega) (Int.le_of_lt (two_pow_pos _))
    omega
  rw [h7] at h3 h5 h6 h9 ⊢
  generalize hr : a % (2 * 2 ^ k) = r at *
  generalize (2 : Int) ^ (64 - (k + 1)) = q at *
  generalize (2 : Int) ^ k = p at *
  have hpq : p * q = 9223372036854775808 := by rw [Int.mul_assoc] at h3; omega
  have hpos : 0 ≤ r * q := Int.mul_nonneg h6 (Int.le_of_lt h4)
  have hq0 : q ≠ 0 := by omega
  by_cases hc : p ≤ r
  · rw [if_pos ⟨rfl, hc⟩]
    have g1 : p * q ≤ r * q := Int.mul_le_mul_of_nonneg_right hc (Int.le_of_lt h4)
    have g2 : r * q < 2 * p * q := Int.mul_lt_mul_of_pos_right h5 h4
    have g3 : wrap64 (r * q) = (r - 2 * p) * q := by rw [Int.sub_mul, h3]; unfold wrap64; omega
    rw [g3, Int.mul_ediv_cancel _ hq0]; omega
  · rw [if_neg (fun x => hc x.2)]
    have g1 : r * q < p * q := Int.mul_lt_mul_of_pos_right (by omega) h4
    have g3 : wrap64 (r * q) = r * q := by unfold wrap64; omega
    rw [g3, Int.mul_ediv_cancel _ hq0]; omega
theorem nar_u (a n : Int) (h1 : 1 ≤ n) (h2 : n ≤ 64) : IntKind.u64.wrap (a * 2 ^ (64 - n).toNat) / 2 ^ (64 - n).toNat = nrV false a n := by
  obtain ⟨k, hk⟩ : ∃ k : Nat, n = (k : Int) + 1 := ⟨(n - 1).toNat, by omega⟩
  have e1 : (64 - n).toNat = 64 - (k + 1) := by omega
  have e2 : n.toNat = k + 1 := by omega
  unfold nrV
  rw [e1, e2, IntKind.wrap_u64, shl_mod a (k + 1) (by omega), if_neg (by simp)]
  have h4 := two_pow_pos (64 - (k + 1))
  exact Int.mul_ediv_cancel _ (by omega)
end Pl
set_option maxHeartbeats 400000 in
theorem narrow_any (s : Bool) (a n : Int) (w : World) (ha : 0 ≤ a) (h1 : 1 ≤ n) (h2 : n ≤ 64) :
    Calls Tryd.prog 58 #[.int .u64 a, .int .i64 n, .bool s] w fun e w' => e = .returned (.tuple #[.int .u64 (nrV s a n), .int .i64 0]) ∧ w = w' := by
  cases s
  · generalize hV : nrV false a n = V
    have HV := Lib.hid hV; clear hV
    go_enter Tryd.func58, Tryd.ntmps58
    go_wp2
    go_ret2
    refine ⟨ret2 ?_, rfl⟩
    rw [← HV.out]; exact nar_u a n h1 h2
  · generalize hV : nrV true a n = V
    have HV := Lib.hid hV; clear hV
    go_enter Tryd.func58, Tryd.ntmps58
    go_wp2
    go_ret2
    refine ⟨ret2 ?_, rfl⟩
    rw [← HV.out]; exact nar_s a n h1 h2
theorem doAnyC (op a b : Int) (w : World) (h1 : 1 ≤ op) (h2 : op ≤ 27) (ha : 0 ≤ a) (ha' : a < 18446744073709551616) (hb : 0 ≤ b) (hb' : b < 18446744073709551616) :
    Calls Tryd.prog 55 #[.int .i64 op, .int .u64 a, .int .u64 b] w fun e w' => e = .returned (.tuple #[.int .u64 (opV op a b), .int .i64 0]) ∧ w = w' := do_any op h1 h2 a b w ha ha' hb hb'
end Go.Proofs.YtppcbommaddkgaaDoor
