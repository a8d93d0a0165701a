/- The document's Do of each operation's number and of any two numbers answers opV and true; of any other number 0 and false; at most new blocks in memory. Conditions: the numbers are of 64 bits. -/
import Derived.Test.YtoehfncgkkfdeaaDoorRows
import Derived.WalkKit
import Derived.ProofKit
import Derived.OpenShut
import Derived.WalkSpells
import Derived.Lib.Hide
import Derived.Handy
import Derived.Deep.QuietTactic
import Derived.BigQuiet
import Derived.Test.YtoehfncgkkfdeaaDoorNumRefB
namespace Go.Proofs.YtoehfncgkkfdeaaDoor
open Go.RowKit
set_option linter.unusedVariables false
open Pl

/-- What is said of the document's Do at an operation's number. -/
def RefAt (op : Int) : Prop := ∀ (a b : Int) (w : World), 0 ≤ a → a < 18446744073709551616 → 0 ≤ b → b < 18446744073709551616 →
    Calls Tryd.prog 49 #[.int .i64 op, .int .u64 a, .int .u64 b] w fun e w' => e = .returned (.tuple #[.int .u64 (opV op a b), .bool true]) ∧ Gb w w'

namespace Pl
theorem mod64 (b : Int) : 0 ≤ b % 64 ∧ b % 64 ≤ 63 := by omega
theorem r3 (a b : Int) : IntKind.u64.wrap (a * pw (b % 64).toNat) = a * 2 ^ (b % 64).toNat % 18446744073709551616 := by
  rw [IntKind.wrap_u64, pw_lt _ (by omega)]
theorem r7 (a b : Int) (ha : 0 ≤ a) (ha' : a < 18446744073709551616) : IntKind.u64.wrap (a.tdiv (pw (b % 64).toNat)) = a / 2 ^ (b % 64).toNat := by
  have h := two_pow_pos (b % 64).toNat
  rw [IntKind.wrap_u64, pw_lt _ (by omega), Int.tdiv_eq_ediv_of_nonneg ha]
  have h1 := Int.ediv_le_self (2 ^ (b % 64).toNat) ha
  have h2 := Int.ediv_nonneg ha (Int.le_of_lt h)
  omega
theorem ceil_floor (A P : Int) (hP : 0 < P) : -((A + P - 1) / P) = (-A) / P := by
  have h1 : (A + P - 1) / P * P ≤ A + P - 1 := Int.ediv_mul_le _ (by omega)
  have h2 : A + P - 1 < ((A + P - 1) / P + 1) * P := Int.lt_ediv_add_one_mul_self _ hP
  generalize (A + P - 1) / P = q at *
  symm
  rw [Int.add_mul] at h2
  apply Int.le_antisymm
  · apply Int.le_of_lt_add_one
    apply Int.ediv_lt_of_lt_mul hP
    rw [Int.add_mul, Int.neg_mul]; omega
  · apply Int.le_ediv_of_mul_le hP
    rw [Int.neg_mul]; omega
/-- An arithmetic move of a negative number, by the document's way. -/
theorem r8n (a b : Int) (ha : 9223372036854775808 ≤ a) (ha' : a < 18446744073709551616) :
    IntKind.u64.wrap (-IntKind.u64.wrap ((IntKind.u64.wrap (IntKind.u64.wrap (IntKind.u64.wrap (-a) + pw (b % 64).toNat) - 1)).tdiv (pw (b % 64).toNat))) = wrap64 a / 2 ^ (b % 64).toNat % 18446744073709551616 := by
  have h := two_pow_pos (b % 64).toNat
  have hr := pw_range (b % 64).toNat
  have hu : (2 : Int) ^ (b % 64).toNat ≤ 9223372036854775808 := by
    have := pow_split (b % 64).toNat (by omega)
    have h3 := two_pow_pos (63 - (b % 64).toNat)
    have h2 : (2 : Int) ^ (64 - (b % 64).toNat) = 2 * 2 ^ (63 - (b % 64).toNat) := by rw [show 64 - (b % 64).toNat = 63 - (b % 64).toNat + 1 by omega, Int.pow_succ]; omega
    rw [h2] at this
    have h5 : (2 : Int) ^ (b % 64).toNat * 2 ≤ 2 ^ (b % 64).toNat * (2 * 2 ^ (63 - (b % 64).toNat)) := Int.mul_le_mul_of_nonneg_left (by omega) (by omega)
    omega
  rw [pw_lt _ (by omega)]
  have e : wrap64 a = -(18446744073709551616 - a) := by unfold wrap64; omega
  rw [e, ← ceil_floor _ _ h]
  generalize (2 : Int) ^ (b % 64).toNat = p at *
  have e1 : IntKind.u64.wrap (-a) = 18446744073709551616 - a := by rw [IntKind.wrap_u64]; omega
  have e3 : IntKind.u64.wrap (IntKind.u64.wrap (18446744073709551616 - a + p) - 1) = 18446744073709551616 - a + p - 1 := by rw [IntKind.wrap_u64, IntKind.wrap_u64]; omega
  rw [e1, e3, Int.tdiv_eq_ediv_of_nonneg (by omega), IntKind.wrap_u64, IntKind.wrap_u64]
  generalize (18446744073709551616 - a + p - 1) / p = q
  omega
theorem wrap64_hi {a : Int} (ha : 9223372036854775808 ≤ a) (ha' : a < 18446744073709551616) : wrap64 a = a - 18446744073709551616 := by unfold wrap64; omega
theorem wrap64_lo {a : Int} (h0 : 0 ≤ a) (ha : a < 9223372036854775808) : wrap64 a = a := by unfold wrap64; omega
theorem r8p (a b : Int) (ha : 0 ≤ a) (ha' : a < 9223372036854775808) : a / 2 ^ (b % 64).toNat = wrap64 a / 2 ^ (b % 64).toNat % 18446744073709551616 := by
  rw [wrap64_lo ha ha']
  have h := two_pow_pos (b % 64).toNat
  have h1 := Int.ediv_le_self (2 ^ (b % 64).toNat) ha
  have h2 := Int.ediv_nonneg ha (Int.le_of_lt h)
  omega
/-- The sizes' product is the signed product but for its sign. -/
theorem abs_mul (a b : Int) (ha : 0 ≤ a) (ha' : a < 18446744073709551616) (hb : 0 ≤ b) (hb' : b < 18446744073709551616) :
    wrap64 a * wrap64 b = if (9223372036854775808 ≤ a) = (9223372036854775808 ≤ b) then absV a * absV b else -(absV a * absV b) := by
  by_cases h1 : 9223372036854775808 ≤ a <;> by_cases h2 : 9223372036854775808 ≤ b
  · rw [wrap64_hi h1 ha', wrap64_hi h2 hb', if_pos (by simp [h1, h2])]; unfold absV; rw [if_pos h1, if_pos h2]; grind
  · rw [wrap64_hi h1 ha', wrap64_lo hb (by omega), if_neg (by simp [h1, h2])]; unfold absV; rw [if_pos h1, if_neg h2]; grind
  · rw [wrap64_lo ha (by omega), wrap64_hi h2 hb', if_neg (by simp [h1, h2])]; unfold absV; rw [if_neg h1, if_pos h2]; grind
  · rw [wrap64_lo ha (by omega), wrap64_lo hb (by omega), if_pos (by simp [h1, h2])]; unfold absV; rw [if_neg h1, if_neg h2]
theorem abs_bound (a b : Int) (ha : 0 ≤ a) (ha' : a < 18446744073709551616) (hb : 0 ≤ b) (hb' : b < 18446744073709551616) : 0 ≤ absV a * absV b := 
  Int.mul_nonneg (absV_range ha ha').1 (absV_range hb hb').1
theorem abs_bound2 (a b : Int) (ha : 0 ≤ a) (ha' : a < 18446744073709551616) (hb : 0 ≤ b) (hb' : b < 18446744073709551616) : absV a * absV b ≤ 85070591730234615865843651857942052864 := by
  have := Int.mul_le_mul (absV_range ha ha').2 (absV_range hb hb').2 (absV_range hb hb').1 (by decide)
  simpa using this
/-- MULH by the document: signs the same; apart, with and without a rest. -/
theorem r12s (a b : Int) (ha : 0 ≤ a) (ha' : a < 18446744073709551616) (hb : 0 ≤ b) (hb' : b < 18446744073709551616) (h : (9223372036854775808 ≤ a) = (9223372036854775808 ≤ b)) :
    absV a * absV b / 18446744073709551616 = wrap64 a * wrap64 b / 18446744073709551616 % 18446744073709551616 := by
  rw [abs_mul a b ha ha' hb hb', if_pos h]
  have h0 := abs_bound a b ha ha' hb hb'
  have h1 := abs_bound2 a b ha ha' hb hb'
  generalize absV a * absV b = p at *
  omega
theorem r12n (a b : Int) (ha : 0 ≤ a) (ha' : a < 18446744073709551616) (hb : 0 ≤ b) (hb' : b < 18446744073709551616) (h : ¬ (9223372036854775808 ≤ a) = (9223372036854775808 ≤ b))
    (hz : ¬ IntKind.u64.wrap (absV a * absV b) = 0) :
    IntKind.u64.wrap (IntKind.u64.wrap (-(absV a * absV b / 18446744073709551616)) - 1) = wrap64 a * wrap64 b / 18446744073709551616 % 18446744073709551616 := by
  rw [abs_mul a b ha ha' hb hb', if_neg h]
  have h0 := abs_bound a b ha ha' hb hb'
  have h1 := abs_bound2 a b ha ha' hb hb'
  simp only [IntKind.wrap_u64] at *
  generalize absV a * absV b = p at *
  omega
theorem r12z (a b : Int) (ha : 0 ≤ a) (ha' : a < 18446744073709551616) (hb : 0 ≤ b) (hb' : b < 18446744073709551616) (h : ¬ (9223372036854775808 ≤ a) = (9223372036854775808 ≤ b))
    (hz : IntKind.u64.wrap (absV a * absV b) = 0) :
    IntKind.u64.wrap (-(absV a * absV b / 18446744073709551616)) = wrap64 a * wrap64 b / 18446744073709551616 % 18446744073709551616 := by
  rw [abs_mul a b ha ha' hb hb', if_neg h]
  have h0 := abs_bound a b ha ha' hb hb'
  have h1 := abs_bound2 a b ha ha' hb hb'
  simp only [IntKind.wrap_u64] at *
  generalize absV a * absV b = p at *
  omega
theorem absV_zero {b : Int} (hb : 0 ≤ b) (hb' : b < 18446744073709551616) : absV b = 0 ↔ b = 0 := by unfold absV; split <;> omega
theorem wrap64_abs {a : Int} (ha : 0 ≤ a) (ha' : a < 18446744073709551616) : wrap64 a = if 9223372036854775808 ≤ a then -absV a else absV a := by
  unfold wrap64 absV; split <;> omega
theorem quo_range {x y : Int} (hx : 0 ≤ x) (hy : 0 ≤ y) : 0 ≤ x / y ∧ x / y ≤ x := ⟨Int.ediv_nonneg hx hy, Int.ediv_le_self _ hx⟩
end Pl

set_option maxHeartbeats 1000000 in
theorem ref1 (a b : Int) (w : World) (ha : 0 ≤ a) (ha' : a < 18446744073709551616) (hb : 0 ≤ b) (hb' : b < 18446744073709551616) :
    Calls Tryd.prog 49 #[.int .i64 1, .int .u64 a, .int .u64 b] w fun e w' => e = .returned (.tuple #[.int .u64 (opV 1 a b), .bool true]) ∧ Gb w w' := by
  have Ha := Lib.hid ha'; clear ha'
  have Hb := Lib.hid hb'; clear hb'
  generalize hV : opV 1 a b = V
  have HV := Lib.hid hV; clear hV
  go_enter Tryd.func49, Tryd.ntmps49
  go_wp2
  go_ret2
  refine ⟨ret2b ?_, Gb.refl _⟩
  rw [← HV.out]
  clear HV
  have ha' := Ha.out; have hb' := Hb.out
  rw [IntKind.wrap_u64]; rfl

set_option maxHeartbeats 1000000 in
theorem ref2 (a b : Int) (w : World) (ha : 0 ≤ a) (ha' : a < 18446744073709551616) (hb : 0 ≤ b) (hb' : b < 18446744073709551616) :
    Calls Tryd.prog 49 #[.int .i64 2, .int .u64 a, .int .u64 b] w fun e w' => e = .returned (.tuple #[.int .u64 (opV 2 a b), .bool true]) ∧ Gb w w' := by
  have Ha := Lib.hid ha'; clear ha'
  have Hb := Lib.hid hb'; clear hb'
  generalize hV : opV 2 a b = V
  have HV := Lib.hid hV; clear hV
  go_enter Tryd.func49, Tryd.ntmps49
  go_wp2
  go_ret2
  refine ⟨ret2b ?_, Gb.refl _⟩
  rw [← HV.out]
  clear HV
  have ha' := Ha.out; have hb' := Hb.out
  rw [IntKind.wrap_u64]; rfl

set_option maxHeartbeats 1000000 in
theorem ref3 (a b : Int) (w : World) (ha : 0 ≤ a) (ha' : a < 18446744073709551616) (hb : 0 ≤ b) (hb' : b < 18446744073709551616) :
    Calls Tryd.prog 49 #[.int .i64 3, .int .u64 a, .int .u64 b] w fun e w' => e = .returned (.tuple #[.int .u64 (opV 3 a b), .bool true]) ∧ Gb w w' := by
  have hm := mod64 b
  have Ha := Lib.hid ha'; clear ha'
  have Hb := Lib.hid hb'; clear hb'
  generalize hV : opV 3 a b = V
  have HV := Lib.hid hV; clear hV
  go_enter Tryd.func49, Tryd.ntmps49
  go_wp2_with (first | (go_at_call 70; refine (power_any _ _ (by omega) (by omega)).mono ?_; rintro e w' ⟨rfl, rfl⟩) | go_in)
  go_ret2
  refine ⟨ret2b ?_, Gb.refl _⟩
  rw [← HV.out]
  clear HV
  have ha' := Ha.out; have hb' := Hb.out
  rw [r3]; rfl

set_option maxHeartbeats 1000000 in
theorem ref4ay (a b : Int) (w : World) (ha : 0 ≤ a) (ha' : a < 18446744073709551616) (hb : 0 ≤ b) (hb' : b < 18446744073709551616) (h1 : 9223372036854775808 ≤ a) (h2 : 9223372036854775808 ≤ b) (h : a < b) :
    Calls Tryd.prog 49 #[.int .i64 4, .int .u64 a, .int .u64 b] w fun e w' => e = .returned (.tuple #[.int .u64 (opV 4 a b), .bool true]) ∧ Gb w w' := by
  have D1 : decide (9223372036854775808 ≤ a) = true := by simpa using h1
  have D2 : decide (9223372036854775808 ≤ b) = true := by simpa using h2
  have H1 := Lib.hid h1; have H2 := Lib.hid h2; clear h1 h2
  have hd : decide (a < b) = true := by simpa using h
  have H := Lib.hid h; clear h
  have Ha := Lib.hid ha'; clear ha'
  have Hb := Lib.hid hb'; clear hb'
  generalize hV : opV 4 a b = V
  have HV := Lib.hid hV; clear hV
  go_enter Tryd.func49, Tryd.ntmps49
  go_wp2
  go_ret2
  refine ⟨ret2b ?_, Gb.refl _⟩
  rw [← HV.out]
  clear HV
  have ha' := Ha.out; have hb' := Hb.out
  have h := H.out; have h1 := H1.out; have h2 := H2.out; show _ = if wrap64 a < wrap64 b then (1 : Int) else 0; rw [if_pos (by unfold wrap64; omega)]

set_option maxHeartbeats 1000000 in
theorem ref4an (a b : Int) (w : World) (ha : 0 ≤ a) (ha' : a < 18446744073709551616) (hb : 0 ≤ b) (hb' : b < 18446744073709551616) (h1 : 9223372036854775808 ≤ a) (h2 : 9223372036854775808 ≤ b) (h : ¬ a < b) :
    Calls Tryd.prog 49 #[.int .i64 4, .int .u64 a, .int .u64 b] w fun e w' => e = .returned (.tuple #[.int .u64 (opV 4 a b), .bool true]) ∧ Gb w w' := by
  have D1 : decide (9223372036854775808 ≤ a) = true := by simpa using h1
  have D2 : decide (9223372036854775808 ≤ b) = true := by simpa using h2
  have H1 := Lib.hid h1; have H2 := Lib.hid h2; clear h1 h2
  have hd : decide (a < b) = false := by simpa using h
  have H := Lib.hid h; clear h
  have Ha := Lib.hid ha'; clear ha'
  have Hb := Lib.hid hb'; clear hb'
  generalize hV : opV 4 a b = V
  have HV := Lib.hid hV; clear hV
  go_enter Tryd.func49, Tryd.ntmps49
  go_wp2
  go_ret2
  refine ⟨ret2b ?_, Gb.refl _⟩
  rw [← HV.out]
  clear HV
  have ha' := Ha.out; have hb' := Hb.out
  have h := H.out; have h1 := H1.out; have h2 := H2.out; show _ = if wrap64 a < wrap64 b then (1 : Int) else 0; rw [if_neg (by unfold wrap64; omega)]

set_option maxHeartbeats 1000000 in
theorem ref4b (a b : Int) (w : World) (ha : 0 ≤ a) (ha' : a < 18446744073709551616) (hb : 0 ≤ b) (hb' : b < 18446744073709551616) (h1 : 9223372036854775808 ≤ a) (h2 : b < 9223372036854775808) :
    Calls Tryd.prog 49 #[.int .i64 4, .int .u64 a, .int .u64 b] w fun e w' => e = .returned (.tuple #[.int .u64 (opV 4 a b), .bool true]) ∧ Gb w w' := by
  have D1 : decide (9223372036854775808 ≤ a) = true := by simpa using h1
  have D2 : decide (9223372036854775808 ≤ b) = false := by simpa using h2
  have H1 := Lib.hid h1; have H2 := Lib.hid h2; clear h1 h2
  have Ha := Lib.hid ha'; clear ha'
  have Hb := Lib.hid hb'; clear hb'
  generalize hV : opV 4 a b = V
  have HV := Lib.hid hV; clear hV
  go_enter Tryd.func49, Tryd.ntmps49
  go_wp2
  go_ret2
  refine ⟨ret2b ?_, Gb.refl _⟩
  rw [← HV.out]
  clear HV
  have ha' := Ha.out; have hb' := Hb.out
  have h1 := H1.out; have h2 := H2.out; show _ = if wrap64 a < wrap64 b then (1 : Int) else 0; rw [if_pos (by unfold wrap64; omega)]

set_option maxHeartbeats 1000000 in
theorem ref4c (a b : Int) (w : World) (ha : 0 ≤ a) (ha' : a < 18446744073709551616) (hb : 0 ≤ b) (hb' : b < 18446744073709551616) (h1 : a < 9223372036854775808) (h2 : 9223372036854775808 ≤ b) :
    Calls Tryd.prog 49 #[.int .i64 4, .int .u64 a, .int .u64 b] w fun e w' => e = .returned (.tuple #[.int .u64 (opV 4 a b), .bool true]) ∧ Gb w w' := by
  have D1 : decide (9223372036854775808 ≤ a) = false := by simpa using h1
  have D2 : decide (9223372036854775808 ≤ b) = true := by simpa using h2
  have H1 := Lib.hid h1; have H2 := Lib.hid h2; clear h1 h2
  have Ha := Lib.hid ha'; clear ha'
  have Hb := Lib.hid hb'; clear hb'
  generalize hV : opV 4 a b = V
  have HV := Lib.hid hV; clear hV
  go_enter Tryd.func49, Tryd.ntmps49
  go_wp2
  go_ret2
  refine ⟨ret2b ?_, Gb.refl _⟩
  rw [← HV.out]
  clear HV
  have ha' := Ha.out; have hb' := Hb.out
  have h1 := H1.out; have h2 := H2.out; show _ = if wrap64 a < wrap64 b then (1 : Int) else 0; rw [if_neg (by unfold wrap64; omega)]

set_option maxHeartbeats 1000000 in
theorem ref4dy (a b : Int) (w : World) (ha : 0 ≤ a) (ha' : a < 18446744073709551616) (hb : 0 ≤ b) (hb' : b < 18446744073709551616) (h1 : a < 9223372036854775808) (h2 : b < 9223372036854775808) (h : a < b) :
    Calls Tryd.prog 49 #[.int .i64 4, .int .u64 a, .int .u64 b] w fun e w' => e = .returned (.tuple #[.int .u64 (opV 4 a b), .bool true]) ∧ Gb w w' := by
  have D1 : decide (9223372036854775808 ≤ a) = false := by simpa using h1
  have D2 : decide (9223372036854775808 ≤ b) = false := by simpa using h2
  have H1 := Lib.hid h1; have H2 := Lib.hid h2; clear h1 h2
  have hd : decide (a < b) = true := by simpa using h
  have H := Lib.hid h; clear h
  have Ha := Lib.hid ha'; clear ha'
  have Hb := Lib.hid hb'; clear hb'
  generalize hV : opV 4 a b = V
  have HV := Lib.hid hV; clear hV
  go_enter Tryd.func49, Tryd.ntmps49
  go_wp2
  go_ret2
  refine ⟨ret2b ?_, Gb.refl _⟩
  rw [← HV.out]
  clear HV
  have ha' := Ha.out; have hb' := Hb.out
  have h := H.out; have h1 := H1.out; have h2 := H2.out; show _ = if wrap64 a < wrap64 b then (1 : Int) else 0; rw [if_pos (by unfold wrap64; omega)]

set_option maxHeartbeats 1000000 in
theorem ref4dn (a b : Int) (w : World) (ha : 0 ≤ a) (ha' : a < 18446744073709551616) (hb : 0 ≤ b) (hb' : b < 18446744073709551616) (h1 : a < 9223372036854775808) (h2 : b < 9223372036854775808) (h : ¬ a < b) :
    Calls Tryd.prog 49 #[.int .i64 4, .int .u64 a, .int .u64 b] w fun e w' => e = .returned (.tuple #[.int .u64 (opV 4 a b), .bool true]) ∧ Gb w w' := by
  have D1 : decide (9223372036854775808 ≤ a) = false := by simpa using h1
  have D2 : decide (9223372036854775808 ≤ b) = false := by simpa using h2
  have H1 := Lib.hid h1; have H2 := Lib.hid h2; clear h1 h2
  have hd : decide (a < b) = false := by simpa using h
  have H := Lib.hid h; clear h
  have Ha := Lib.hid ha'; clear ha'
  have Hb := Lib.hid hb'; clear hb'
  generalize hV : opV 4 a b = V
  have HV := Lib.hid hV; clear hV
  go_enter Tryd.func49, Tryd.ntmps49
  go_wp2
  go_ret2
  refine ⟨ret2b ?_, Gb.refl _⟩
  rw [← HV.out]
  clear HV
  have ha' := Ha.out; have hb' := Hb.out
  have h := H.out; have h1 := H1.out; have h2 := H2.out; show _ = if wrap64 a < wrap64 b then (1 : Int) else 0; rw [if_neg (by unfold wrap64; omega)]

theorem ref4 : RefAt 4 := fun a b w ha ha' hb hb' =>
  if h1 : 9223372036854775808 ≤ a then (if h2 : 9223372036854775808 ≤ b then (if h : a < b then ref4ay a b w ha ha' hb hb' h1 h2 h else ref4an a b w ha ha' hb hb' h1 h2 h) else ref4b a b w ha ha' hb hb' h1 (Int.not_le.1 h2))
  else (if h2 : 9223372036854775808 ≤ b then ref4c a b w ha ha' hb hb' (Int.not_le.1 h1) h2 else (if h : a < b then ref4dy a b w ha ha' hb hb' (Int.not_le.1 h1) (Int.not_le.1 h2) h else ref4dn a b w ha ha' hb hb' (Int.not_le.1 h1) (Int.not_le.1 h2) h))

set_option maxHeartbeats 1000000 in
theorem ref5y (a b : Int) (w : World) (ha : 0 ≤ a) (ha' : a < 18446744073709551616) (hb : 0 ≤ b) (hb' : b < 18446744073709551616) (h : a < b) :
    Calls Tryd.prog 49 #[.int .i64 5, .int .u64 a, .int .u64 b] w fun e w' => e = .returned (.tuple #[.int .u64 (opV 5 a b), .bool true]) ∧ Gb w w' := by
  have hd : decide (a < b) = true := by simpa using h
  have H := Lib.hid h; clear h
  have Ha := Lib.hid ha'; clear ha'
  have Hb := Lib.hid hb'; clear hb'
  generalize hV : opV 5 a b = V
  have HV := Lib.hid hV; clear hV
  go_enter Tryd.func49, Tryd.ntmps49
  go_wp2
  go_ret2
  refine ⟨ret2b ?_, Gb.refl _⟩
  rw [← HV.out]
  clear HV
  have ha' := Ha.out; have hb' := Hb.out
  have h := H.out; show _ = if a < b then (1 : Int) else 0; rw [if_pos (by omega)]

set_option maxHeartbeats 1000000 in
theorem ref5n (a b : Int) (w : World) (ha : 0 ≤ a) (ha' : a < 18446744073709551616) (hb : 0 ≤ b) (hb' : b < 18446744073709551616) (h : ¬ a < b) :
    Calls Tryd.prog 49 #[.int .i64 5, .int .u64 a, .int .u64 b] w fun e w' => e = .returned (.tuple #[.int .u64 (opV 5 a b), .bool true]) ∧ Gb w w' := by
  have hd : decide (a < b) = false := by simpa using h
  have H := Lib.hid h; clear h
  have Ha := Lib.hid ha'; clear ha'
  have Hb := Lib.hid hb'; clear hb'
  generalize hV : opV 5 a b = V
  have HV := Lib.hid hV; clear hV
  go_enter Tryd.func49, Tryd.ntmps49
  go_wp2
  go_ret2
  refine ⟨ret2b ?_, Gb.refl _⟩
  rw [← HV.out]
  clear HV
  have ha' := Ha.out; have hb' := Hb.out
  have h := H.out; show _ = if a < b then (1 : Int) else 0; rw [if_neg (by omega)]

theorem ref5 : RefAt 5 := fun a b w ha ha' hb hb' => if h : a < b then ref5y a b w ha ha' hb hb' h else ref5n a b w ha ha' hb hb' h

set_option maxHeartbeats 1000000 in
theorem ref6 (a b : Int) (w : World) (ha : 0 ≤ a) (ha' : a < 18446744073709551616) (hb : 0 ≤ b) (hb' : b < 18446744073709551616) :
    Calls Tryd.prog 49 #[.int .i64 6, .int .u64 a, .int .u64 b] w fun e w' => e = .returned (.tuple #[.int .u64 (opV 6 a b), .bool true]) ∧ Gb w w' := by
  have Ha := Lib.hid ha'; clear ha'
  have Hb := Lib.hid hb'; clear hb'
  generalize hV : opV 6 a b = V
  have HV := Lib.hid hV; clear hV
  go_enter Tryd.func49, Tryd.ntmps49
  go_wp2_with (first | (go_at_call 64; refine (logic_1 a b _ ha Ha.out hb Hb.out).mono ?_; rintro e w' ⟨rfl, rfl⟩) | go_in)
  go_ret2
  refine ⟨ret2b ?_, Gb.refl _⟩
  rw [← HV.out]
  clear HV
  have ha' := Ha.out; have hb' := Hb.out
  rfl

set_option maxHeartbeats 1000000 in
theorem ref9 (a b : Int) (w : World) (ha : 0 ≤ a) (ha' : a < 18446744073709551616) (hb : 0 ≤ b) (hb' : b < 18446744073709551616) :
    Calls Tryd.prog 49 #[.int .i64 9, .int .u64 a, .int .u64 b] w fun e w' => e = .returned (.tuple #[.int .u64 (opV 9 a b), .bool true]) ∧ Gb w w' := by
  have Ha := Lib.hid ha'; clear ha'
  have Hb := Lib.hid hb'; clear hb'
  generalize hV : opV 9 a b = V
  have HV := Lib.hid hV; clear hV
  go_enter Tryd.func49, Tryd.ntmps49
  go_wp2_with (first | (go_at_call 64; refine (logic_2 a b _ ha Ha.out hb Hb.out).mono ?_; rintro e w' ⟨rfl, rfl⟩) | go_in)
  go_ret2
  refine ⟨ret2b ?_, Gb.refl _⟩
  rw [← HV.out]
  clear HV
  have ha' := Ha.out; have hb' := Hb.out
  rfl

set_option maxHeartbeats 1000000 in
theorem ref10 (a b : Int) (w : World) (ha : 0 ≤ a) (ha' : a < 18446744073709551616) (hb : 0 ≤ b) (hb' : b < 18446744073709551616) :
    Calls Tryd.prog 49 #[.int .i64 10, .int .u64 a, .int .u64 b] w fun e w' => e = .returned (.tuple #[.int .u64 (opV 10 a b), .bool true]) ∧ Gb w w' := by
  have Ha := Lib.hid ha'; clear ha'
  have Hb := Lib.hid hb'; clear hb'
  generalize hV : opV 10 a b = V
  have HV := Lib.hid hV; clear hV
  go_enter Tryd.func49, Tryd.ntmps49
  go_wp2_with (first | (go_at_call 64; refine (logic_3 a b _ ha Ha.out hb Hb.out).mono ?_; rintro e w' ⟨rfl, rfl⟩) | go_in)
  go_ret2
  refine ⟨ret2b ?_, Gb.refl _⟩
  rw [← HV.out]
  clear HV
  have ha' := Ha.out; have hb' := Hb.out
  rfl

set_option maxHeartbeats 1000000 in
theorem ref7z (a b : Int) (w : World) (ha : 0 ≤ a) (ha' : a < 18446744073709551616) (hb : 0 ≤ b) (hb' : b < 18446744073709551616) (h : b % 64 = 0) :
    Calls Tryd.prog 49 #[.int .i64 7, .int .u64 a, .int .u64 b] w fun e w' => e = .returned (.tuple #[.int .u64 (opV 7 a b), .bool true]) ∧ Gb w w' := by
  have hm := mod64 b
  have h0 : (b % 64 == 0) = true := by simpa using h
  have H := Lib.hid h; clear h
  have Ha := Lib.hid ha'; clear ha'
  have Hb := Lib.hid hb'; clear hb'
  generalize hV : opV 7 a b = V
  have HV := Lib.hid hV; clear hV
  go_enter Tryd.func49, Tryd.ntmps49
  go_wp2_with (first | (go_at_call 70; refine (power_any _ _ (by omega) (by omega)).mono ?_; rintro e w' ⟨rfl, rfl⟩) | go_in)
  go_ret2
  refine ⟨ret2b ?_, Gb.refl _⟩
  rw [← HV.out]
  clear HV
  have ha' := Ha.out; have hb' := Hb.out
  have h := H.out; show _ = a / 2 ^ (b % 64).toNat; rw [h]; simp

set_option maxHeartbeats 1000000 in
theorem ref7n (a b : Int) (w : World) (ha : 0 ≤ a) (ha' : a < 18446744073709551616) (hb : 0 ≤ b) (hb' : b < 18446744073709551616) (h : ¬ b % 64 = 0) :
    Calls Tryd.prog 49 #[.int .i64 7, .int .u64 a, .int .u64 b] w fun e w' => e = .returned (.tuple #[.int .u64 (opV 7 a b), .bool true]) ∧ Gb w w' := by
  have hm := mod64 b
  have h0 : (b % 64 == 0) = false := by simpa using h
  have H := Lib.hid h; clear h
  have hp : ¬ pw (b % 64).toNat = 0 := by rw [pw_lt _ (by omega)]; have := two_pow_pos (b % 64).toNat; omega
  have Ha := Lib.hid ha'; clear ha'
  have Hb := Lib.hid hb'; clear hb'
  generalize hV : opV 7 a b = V
  have HV := Lib.hid hV; clear hV
  go_enter Tryd.func49, Tryd.ntmps49
  go_wp2_with (first | (go_at_call 70; refine (power_any _ _ (by omega) (by omega)).mono ?_; rintro e w' ⟨rfl, rfl⟩) | go_in)
  go_ret2
  refine ⟨ret2b ?_, Gb.refl _⟩
  rw [← HV.out]
  clear HV
  have ha' := Ha.out; have hb' := Hb.out
  rw [r7 a b ha ha']; rfl

theorem ref7 : RefAt 7 := fun a b w ha ha' hb hb' => if h : b % 64 = 0 then ref7z a b w ha ha' hb hb' h else ref7n a b w ha ha' hb hb' h

set_option maxHeartbeats 1000000 in
theorem ref8m (a b : Int) (w : World) (ha : 0 ≤ a) (ha' : a < 18446744073709551616) (hb : 0 ≤ b) (hb' : b < 18446744073709551616) (h1 : 9223372036854775808 ≤ a) :
    Calls Tryd.prog 49 #[.int .i64 8, .int .u64 a, .int .u64 b] w fun e w' => e = .returned (.tuple #[.int .u64 (opV 8 a b), .bool true]) ∧ Gb w w' := by
  have hm := mod64 b
  have H1 := Lib.hid h1
  have hp : ¬ pw (b % 64).toNat = 0 := by rw [pw_lt _ (by omega)]; have := two_pow_pos (b % 64).toNat; omega
  have Ha := Lib.hid ha'; clear ha'
  have Hb := Lib.hid hb'; clear hb'
  generalize hV : opV 8 a b = V
  have HV := Lib.hid hV; clear hV
  go_enter Tryd.func49, Tryd.ntmps49
  go_wp2_with (first | (go_at_call 70; refine (power_any _ _ (by omega) (by omega)).mono ?_; rintro e w' ⟨rfl, rfl⟩) | go_in)
  go_ret2
  refine ⟨ret2b ?_, Gb.refl _⟩
  rw [← HV.out]
  clear HV
  have ha' := Ha.out; have hb' := Hb.out
  have h1 := H1.out; rw [r8n a b h1 ha']; rfl

set_option maxHeartbeats 1000000 in
theorem ref8z (a b : Int) (w : World) (ha : 0 ≤ a) (ha' : a < 18446744073709551616) (hb : 0 ≤ b) (hb' : b < 18446744073709551616) (h1 : a < 9223372036854775808) (h : b % 64 = 0) :
    Calls Tryd.prog 49 #[.int .i64 8, .int .u64 a, .int .u64 b] w fun e w' => e = .returned (.tuple #[.int .u64 (opV 8 a b), .bool true]) ∧ Gb w w' := by
  have hm := mod64 b
  have H1 := Lib.hid h1
  have h0 : (b % 64 == 0) = true := by simpa using h
  have H := Lib.hid h; clear h
  have Ha := Lib.hid ha'; clear ha'
  have Hb := Lib.hid hb'; clear hb'
  generalize hV : opV 8 a b = V
  have HV := Lib.hid hV; clear hV
  go_enter Tryd.func49, Tryd.ntmps49
  go_wp2_with (first | (go_at_call 70; refine (power_any _ _ (by omega) (by omega)).mono ?_; rintro e w' ⟨rfl, rfl⟩) | go_in)
  go_ret2
  refine ⟨ret2b ?_, Gb.refl _⟩
  rw [← HV.out]
  clear HV
  have ha' := Ha.out; have hb' := Hb.out
  have h := H.out; have h1 := H1.out; show _ = wrap64 a / 2 ^ (b % 64).toNat % 18446744073709551616; rw [← r8p a b ha h1, h]; simp

set_option maxHeartbeats 1000000 in
theorem ref8n (a b : Int) (w : World) (ha : 0 ≤ a) (ha' : a < 18446744073709551616) (hb : 0 ≤ b) (hb' : b < 18446744073709551616) (h1 : a < 9223372036854775808) (h : ¬ b % 64 = 0) :
    Calls Tryd.prog 49 #[.int .i64 8, .int .u64 a, .int .u64 b] w fun e w' => e = .returned (.tuple #[.int .u64 (opV 8 a b), .bool true]) ∧ Gb w w' := by
  have hm := mod64 b
  have H1 := Lib.hid h1
  have h0 : (b % 64 == 0) = false := by simpa using h
  have H := Lib.hid h; clear h
  have hp : ¬ pw (b % 64).toNat = 0 := by rw [pw_lt _ (by omega)]; have := two_pow_pos (b % 64).toNat; omega
  have Ha := Lib.hid ha'; clear ha'
  have Hb := Lib.hid hb'; clear hb'
  generalize hV : opV 8 a b = V
  have HV := Lib.hid hV; clear hV
  go_enter Tryd.func49, Tryd.ntmps49
  go_wp2_with (first | (go_at_call 70; refine (power_any _ _ (by omega) (by omega)).mono ?_; rintro e w' ⟨rfl, rfl⟩) | go_in)
  go_ret2
  refine ⟨ret2b ?_, Gb.refl _⟩
  rw [← HV.out]
  clear HV
  have ha' := Ha.out; have hb' := Hb.out
  have h1 := H1.out; rw [r7 a b ha ha', r8p a b ha h1]; rfl

theorem ref8 : RefAt 8 := fun a b w ha ha' hb hb' => if h1 : 9223372036854775808 ≤ a then ref8m a b w ha ha' hb hb' h1 else (if h : b % 64 = 0 then ref8z a b w ha ha' hb hb' (Int.not_le.1 h1) h else ref8n a b w ha ha' hb hb' (Int.not_le.1 h1) h)

set_option maxHeartbeats 1000000 in
theorem ref11 (a b : Int) (w : World) (ha : 0 ≤ a) (ha' : a < 18446744073709551616) (hb : 0 ≤ b) (hb' : b < 18446744073709551616) :
    Calls Tryd.prog 49 #[.int .i64 11, .int .u64 a, .int .u64 b] w fun e w' => e = .returned (.tuple #[.int .u64 (opV 11 a b), .bool true]) ∧ Gb w w' := by
  have Ha := Lib.hid ha'; clear ha'
  have Hb := Lib.hid hb'; clear hb'
  generalize hV : opV 11 a b = V
  have HV := Lib.hid hV; clear hV
  go_enter Tryd.func49, Tryd.ntmps49
  go_wp2
  go_ret2
  refine ⟨ret2b ?_, Gb.refl _⟩
  rw [← HV.out]
  clear HV
  have ha' := Ha.out; have hb' := Hb.out
  rw [IntKind.wrap_u64]; rfl

set_option maxHeartbeats 1000000 in
theorem ref13 (a b : Int) (w : World) (ha : 0 ≤ a) (ha' : a < 18446744073709551616) (hb : 0 ≤ b) (hb' : b < 18446744073709551616) :
    Calls Tryd.prog 49 #[.int .i64 13, .int .u64 a, .int .u64 b] w fun e w' => e = .returned (.tuple #[.int .u64 (opV 13 a b), .bool true]) ∧ Gb w w' := by
  have Ha := Lib.hid ha'; clear ha'
  have Hb := Lib.hid hb'; clear hb'
  generalize hV : opV 13 a b = V
  have HV := Lib.hid hV; clear hV
  go_enter Tryd.func49, Tryd.ntmps49
  go_wp2_with (first | (go_at_call 66; refine (high_any _ _ _ (by first | with_reducible exact ha | with_reducible exact hb | exact (absV_range ha Ha.out).1 | exact (absV_range hb Hb.out).1) (by first | with_reducible exact Ha.out | with_reducible exact Hb.out | (have := (absV_range ha Ha.out).2; omega) | (have := (absV_range hb Hb.out).2; omega)) (by first | with_reducible exact ha | with_reducible exact hb | exact (absV_range ha Ha.out).1 | exact (absV_range hb Hb.out).1) (by first | with_reducible exact Ha.out | with_reducible exact Hb.out | (have := (absV_range ha Ha.out).2; omega) | (have := (absV_range hb Hb.out).2; omega))).mono ?_; rintro e w' ⟨rfl, hg⟩) | go_in)
  go_ret2
  refine ⟨ret2b ?_, hg⟩
  rw [← HV.out]
  clear HV
  have ha' := Ha.out; have hb' := Hb.out
  rfl

set_option maxHeartbeats 1000000 in
theorem ref12a (a b : Int) (w : World) (ha : 0 ≤ a) (ha' : a < 18446744073709551616) (hb : 0 ≤ b) (hb' : b < 18446744073709551616) (h1 : 9223372036854775808 ≤ a) (h2 : 9223372036854775808 ≤ b) :
    Calls Tryd.prog 49 #[.int .i64 12, .int .u64 a, .int .u64 b] w fun e w' => e = .returned (.tuple #[.int .u64 (opV 12 a b), .bool true]) ∧ Gb w w' := by
  have D1 : decide (9223372036854775808 ≤ a) = true := by simpa using h1
  have D2 : decide (9223372036854775808 ≤ b) = true := by simpa using h2
  have H1 := Lib.hid h1; have H2 := Lib.hid h2; clear h1 h2
  have Ha := Lib.hid ha'; clear ha'
  have Hb := Lib.hid hb'; clear hb'
  generalize hV : opV 12 a b = V
  have HV := Lib.hid hV; clear hV
  go_enter Tryd.func49, Tryd.ntmps49
  go_wp2_with (first | (go_at_call 65; refine (size_any _ _ (by first | with_reducible exact ha | with_reducible exact hb) (by first | with_reducible exact Ha.out | with_reducible exact Hb.out)).mono ?_; rintro e w' ⟨rfl, rfl⟩) | (go_at_call 66; refine (high_any _ _ _ (by first | with_reducible exact ha | with_reducible exact hb | exact (absV_range ha Ha.out).1 | exact (absV_range hb Hb.out).1) (by first | with_reducible exact Ha.out | with_reducible exact Hb.out | (have := (absV_range ha Ha.out).2; omega) | (have := (absV_range hb Hb.out).2; omega)) (by first | with_reducible exact ha | with_reducible exact hb | exact (absV_range ha Ha.out).1 | exact (absV_range hb Hb.out).1) (by first | with_reducible exact Ha.out | with_reducible exact Hb.out | (have := (absV_range ha Ha.out).2; omega) | (have := (absV_range hb Hb.out).2; omega))).mono ?_; rintro e w' ⟨rfl, hg⟩) | go_in)
  go_ret2
  refine ⟨ret2b ?_, hg⟩
  rw [← HV.out]
  clear HV
  have ha' := Ha.out; have hb' := Hb.out
  have h1 := H1.out; have h2 := H2.out; rw [r12s a b ha ha' hb hb' (by simp; omega)]; rfl

set_option maxHeartbeats 1000000 in
theorem ref12bz (a b : Int) (w : World) (ha : 0 ≤ a) (ha' : a < 18446744073709551616) (hb : 0 ≤ b) (hb' : b < 18446744073709551616) (h1 : 9223372036854775808 ≤ a) (h2 : b < 9223372036854775808) (h : IntKind.u64.wrap (absV a * absV b) = 0) :
    Calls Tryd.prog 49 #[.int .i64 12, .int .u64 a, .int .u64 b] w fun e w' => e = .returned (.tuple #[.int .u64 (opV 12 a b), .bool true]) ∧ Gb w w' := by
  have D1 : decide (9223372036854775808 ≤ a) = true := by simpa using h1
  have D2 : decide (9223372036854775808 ≤ b) = false := by simpa using h2
  have H1 := Lib.hid h1; have H2 := Lib.hid h2; clear h1 h2
  have hd : (IntKind.u64.wrap (absV a * absV b) == 0) = true := by simpa using h
  have hd2 : (IntKind.u64.wrap (absV a * absV b) != 0) = false := by simpa using h
  have H := Lib.hid h; clear h
  have Ha := Lib.hid ha'; clear ha'
  have Hb := Lib.hid hb'; clear hb'
  generalize hV : opV 12 a b = V
  have HV := Lib.hid hV; clear hV
  go_enter Tryd.func49, Tryd.ntmps49
  go_wp2_with (first | (go_at_call 65; refine (size_any _ _ (by first | with_reducible exact ha | with_reducible exact hb) (by first | with_reducible exact Ha.out | with_reducible exact Hb.out)).mono ?_; rintro e w' ⟨rfl, rfl⟩) | (go_at_call 66; refine (high_any _ _ _ (by first | with_reducible exact ha | with_reducible exact hb | exact (absV_range ha Ha.out).1 | exact (absV_range hb Hb.out).1) (by first | with_reducible exact Ha.out | with_reducible exact Hb.out | (have := (absV_range ha Ha.out).2; omega) | (have := (absV_range hb Hb.out).2; omega)) (by first | with_reducible exact ha | with_reducible exact hb | exact (absV_range ha Ha.out).1 | exact (absV_range hb Hb.out).1) (by first | with_reducible exact Ha.out | with_reducible exact Hb.out | (have := (absV_range ha Ha.out).2; omega) | (have := (absV_range hb Hb.out).2; omega))).mono ?_; rintro e w' ⟨rfl, hg⟩) | go_in)
  go_ret2
  refine ⟨ret2b ?_, hg⟩
  rw [← HV.out]
  clear HV
  have ha' := Ha.out; have hb' := Hb.out
  have h := H.out; have h1 := H1.out; have h2 := H2.out; rw [r12z a b ha ha' hb hb' (by simp; omega) h]; rfl

set_option maxHeartbeats 1000000 in
theorem ref12bn (a b : Int) (w : World) (ha : 0 ≤ a) (ha' : a < 18446744073709551616) (hb : 0 ≤ b) (hb' : b < 18446744073709551616) (h1 : 9223372036854775808 ≤ a) (h2 : b < 9223372036854775808) (h : ¬ IntKind.u64.wrap (absV a * absV b) = 0) :
    Calls Tryd.prog 49 #[.int .i64 12, .int .u64 a, .int .u64 b] w fun e w' => e = .returned (.tuple #[.int .u64 (opV 12 a b), .bool true]) ∧ Gb w w' := by
  have D1 : decide (9223372036854775808 ≤ a) = true := by simpa using h1
  have D2 : decide (9223372036854775808 ≤ b) = false := by simpa using h2
  have H1 := Lib.hid h1; have H2 := Lib.hid h2; clear h1 h2
  have hd : (IntKind.u64.wrap (absV a * absV b) == 0) = false := by simpa using h
  have hd2 : (IntKind.u64.wrap (absV a * absV b) != 0) = true := by simpa using h
  have H := Lib.hid h; clear h
  have Ha := Lib.hid ha'; clear ha'
  have Hb := Lib.hid hb'; clear hb'
  generalize hV : opV 12 a b = V
  have HV := Lib.hid hV; clear hV
  go_enter Tryd.func49, Tryd.ntmps49
  go_wp2_with (first | (go_at_call 65; refine (size_any _ _ (by first | with_reducible exact ha | with_reducible exact hb) (by first | with_reducible exact Ha.out | with_reducible exact Hb.out)).mono ?_; rintro e w' ⟨rfl, rfl⟩) | (go_at_call 66; refine (high_any _ _ _ (by first | with_reducible exact ha | with_reducible exact hb | exact (absV_range ha Ha.out).1 | exact (absV_range hb Hb.out).1) (by first | with_reducible exact Ha.out | with_reducible exact Hb.out | (have := (absV_range ha Ha.out).2; omega) | (have := (absV_range hb Hb.out).2; omega)) (by first | with_reducible exact ha | with_reducible exact hb | exact (absV_range ha Ha.out).1 | exact (absV_range hb Hb.out).1) (by first | with_reducible exact Ha.out | with_reducible exact Hb.out | (have := (absV_range ha Ha.out).2; omega) | (have := (absV_range hb Hb.out).2; omega))).mono ?_; rintro e w' ⟨rfl, hg⟩) | go_in)
  go_ret2
  refine ⟨ret2b ?_, hg⟩
  rw [← HV.out]
  clear HV
  have ha' := Ha.out; have hb' := Hb.out
  have h := H.out; have h1 := H1.out; have h2 := H2.out; rw [r12n a b ha ha' hb hb' (by simp; omega) h]; rfl

set_option maxHeartbeats 1000000 in
theorem ref12cz (a b : Int) (w : World) (ha : 0 ≤ a) (ha' : a < 18446744073709551616) (hb : 0 ≤ b) (hb' : b < 18446744073709551616) (h1 : a < 9223372036854775808) (h2 : 9223372036854775808 ≤ b) (h : IntKind.u64.wrap (absV a * absV b) = 0) :
    Calls Tryd.prog 49 #[.int .i64 12, .int .u64 a, .int .u64 b] w fun e w' => e = .returned (.tuple #[.int .u64 (opV 12 a b), .bool true]) ∧ Gb w w' := by
  have D1 : decide (9223372036854775808 ≤ a) = false := by simpa using h1
  have D2 : decide (9223372036854775808 ≤ b) = true := by simpa using h2
  have H1 := Lib.hid h1; have H2 := Lib.hid h2; clear h1 h2
  have hd : (IntKind.u64.wrap (absV a * absV b) == 0) = true := by simpa using h
  have hd2 : (IntKind.u64.wrap (absV a * absV b) != 0) = false := by simpa using h
  have H := Lib.hid h; clear h
  have Ha := Lib.hid ha'; clear ha'
  have Hb := Lib.hid hb'; clear hb'
  generalize hV : opV 12 a b = V
  have HV := Lib.hid hV; clear hV
  go_enter Tryd.func49, Tryd.ntmps49
  go_wp2_with (first | (go_at_call 65; refine (size_any _ _ (by first | with_reducible exact ha | with_reducible exact hb) (by first | with_reducible exact Ha.out | with_reducible exact Hb.out)).mono ?_; rintro e w' ⟨rfl, rfl⟩) | (go_at_call 66; refine (high_any _ _ _ (by first | with_reducible exact ha | with_reducible exact hb | exact (absV_range ha Ha.out).1 | exact (absV_range hb Hb.out).1) (by first | with_reducible exact Ha.out | with_reducible exact Hb.out | (have := (absV_range ha Ha.out).2; omega) | (have := (absV_range hb Hb.out).2; omega)) (by first | with_reducible exact ha | with_reducible exact hb | exact (absV_range ha Ha.out).1 | exact (absV_range hb Hb.out).1) (by first | with_reducible exact Ha.out | with_reducible exact Hb.out | (have := (absV_range ha Ha.out).2; omega) | (have := (absV_range hb Hb.out).2; omega))).mono ?_; rintro e w' ⟨rfl, hg⟩) | go_in)
  go_ret2
  refine ⟨ret2b ?_, hg⟩
  rw [← HV.out]
  clear HV
  have ha' := Ha.out; have hb' := Hb.out
  have h := H.out; have h1 := H1.out; have h2 := H2.out; rw [r12z a b ha ha' hb hb' (by simp; omega) h]; rfl

set_option maxHeartbeats 1000000 in
theorem ref12cn (a b : Int) (w : World) (ha : 0 ≤ a) (ha' : a < 18446744073709551616) (hb : 0 ≤ b) (hb' : b < 18446744073709551616) (h1 : a < 9223372036854775808) (h2 : 9223372036854775808 ≤ b) (h : ¬ IntKind.u64.wrap (absV a * absV b) = 0) :
    Calls Tryd.prog 49 #[.int .i64 12, .int .u64 a, .int .u64 b] w fun e w' => e = .returned (.tuple #[.int .u64 (opV 12 a b), .bool true]) ∧ Gb w w' := by
  have D1 : decide (9223372036854775808 ≤ a) = false := by simpa using h1
  have D2 : decide (9223372036854775808 ≤ b) = true := by simpa using h2
  have H1 := Lib.hid h1; have H2 := Lib.hid h2; clear h1 h2
  have hd : (IntKind.u64.wrap (absV a * absV b) == 0) = false := by simpa using h
  have hd2 : (IntKind.u64.wrap (absV a * absV b) != 0) = true := by simpa using h
  have H := Lib.hid h; clear h
  have Ha := Lib.hid ha'; clear ha'
  have Hb := Lib.hid hb'; clear hb'
  generalize hV : opV 12 a b = V
  have HV := Lib.hid hV; clear hV
  go_enter Tryd.func49, Tryd.ntmps49
  go_wp2_with (first | (go_at_call 65; refine (size_any _ _ (by first | with_reducible exact ha | with_reducible exact hb) (by first | with_reducible exact Ha.out | with_reducible exact Hb.out)).mono ?_; rintro e w' ⟨rfl, rfl⟩) | (go_at_call 66; refine (high_any _ _ _ (by first | with_reducible exact ha | with_reducible exact hb | exact (absV_range ha Ha.out).1 | exact (absV_range hb Hb.out).1) (by first | with_reducible exact Ha.out | with_reducible exact Hb.out | (have := (absV_range ha Ha.out).2; omega) | (have := (absV_range hb Hb.out).2; omega)) (by first | with_reducible exact ha | with_reducible exact hb | exact (absV_range ha Ha.out).1 | exact (absV_range hb Hb.out).1) (by first | with_reducible exact Ha.out | with_reducible exact Hb.out | (have := (absV_range ha Ha.out).2; omega) | (have := (absV_range hb Hb.out).2; omega))).mono ?_; rintro e w' ⟨rfl, hg⟩) | go_in)
  go_ret2
  refine ⟨ret2b ?_, hg⟩
  rw [← HV.out]
  clear HV
  have ha' := Ha.out; have hb' := Hb.out
  have h := H.out; have h1 := H1.out; have h2 := H2.out; rw [r12n a b ha ha' hb hb' (by simp; omega) h]; rfl

set_option maxHeartbeats 1000000 in
theorem ref12d (a b : Int) (w : World) (ha : 0 ≤ a) (ha' : a < 18446744073709551616) (hb : 0 ≤ b) (hb' : b < 18446744073709551616) (h1 : a < 9223372036854775808) (h2 : b < 9223372036854775808) :
    Calls Tryd.prog 49 #[.int .i64 12, .int .u64 a, .int .u64 b] w fun e w' => e = .returned (.tuple #[.int .u64 (opV 12 a b), .bool true]) ∧ Gb w w' := by
  have D1 : decide (9223372036854775808 ≤ a) = false := by simpa using h1
  have D2 : decide (9223372036854775808 ≤ b) = false := by simpa using h2
  have H1 := Lib.hid h1; have H2 := Lib.hid h2; clear h1 h2
  have Ha := Lib.hid ha'; clear ha'
  have Hb := Lib.hid hb'; clear hb'
  generalize hV : opV 12 a b = V
  have HV := Lib.hid hV; clear hV
  go_enter Tryd.func49, Tryd.ntmps49
  go_wp2_with (first | (go_at_call 65; refine (size_any _ _ (by first | with_reducible exact ha | with_reducible exact hb) (by first | with_reducible exact Ha.out | with_reducible exact Hb.out)).mono ?_; rintro e w' ⟨rfl, rfl⟩) | (go_at_call 66; refine (high_any _ _ _ (by first | with_reducible exact ha | with_reducible exact hb | exact (absV_range ha Ha.out).1 | exact (absV_range hb Hb.out).1) (by first | with_reducible exact Ha.out | with_reducible exact Hb.out | (have := (absV_range ha Ha.out).2; omega) | (have := (absV_range hb Hb.out).2; omega)) (by first | with_reducible exact ha | with_reducible exact hb | exact (absV_range ha Ha.out).1 | exact (absV_range hb Hb.out).1) (by first | with_reducible exact Ha.out | with_reducible exact Hb.out | (have := (absV_range ha Ha.out).2; omega) | (have := (absV_range hb Hb.out).2; omega))).mono ?_; rintro e w' ⟨rfl, hg⟩) | go_in)
  go_ret2
  refine ⟨ret2b ?_, hg⟩
  rw [← HV.out]
  clear HV
  have ha' := Ha.out; have hb' := Hb.out
  have h1 := H1.out; have h2 := H2.out; rw [r12s a b ha ha' hb hb' (by simp; omega)]; rfl

theorem ref12 : RefAt 12 := fun a b w ha ha' hb hb' =>
  if h1 : 9223372036854775808 ≤ a then (if h2 : 9223372036854775808 ≤ b then ref12a a b w ha ha' hb hb' h1 h2 else (if h : IntKind.u64.wrap (absV a * absV b) = 0 then ref12bz a b w ha ha' hb hb' h1 (Int.not_le.1 h2) h else ref12bn a b w ha ha' hb hb' h1 (Int.not_le.1 h2) h))
  else (if h2 : 9223372036854775808 ≤ b then (if h : IntKind.u64.wrap (absV a * absV b) = 0 then ref12cz a b w ha ha' hb hb' (Int.not_le.1 h1) h2 h else ref12cn a b w ha ha' hb hb' (Int.not_le.1 h1) h2 h) else ref12d a b w ha ha' hb hb' (Int.not_le.1 h1) (Int.not_le.1 h2))

namespace Pl
theorem r14 (a b : Int) (ha : 0 ≤ a) (ha' : a < 18446744073709551616) (hb : 0 ≤ b) (hb' : b < 18446744073709551616) :
    (wrap64 a).tdiv (wrap64 b) = if (9223372036854775808 ≤ a) = (9223372036854775808 ≤ b) then absV a / absV b else -(absV a / absV b) := by
  have h0 := (absV_range ha ha').1
  rw [wrap64_abs ha ha', wrap64_abs hb hb']
  by_cases h1 : 9223372036854775808 ≤ a <;> by_cases h2 : 9223372036854775808 ≤ b
  · rw [if_pos h1, if_pos h2, if_pos (by simp [h1, h2]), Int.neg_tdiv, Int.tdiv_neg, Int.neg_neg, Int.tdiv_eq_ediv_of_nonneg h0]
  · rw [if_pos h1, if_neg h2, if_neg (by simp [h1, h2]), Int.neg_tdiv, Int.tdiv_eq_ediv_of_nonneg h0]
  · rw [if_neg h1, if_pos h2, if_neg (by simp [h1, h2]), Int.tdiv_neg, Int.tdiv_eq_ediv_of_nonneg h0]
  · rw [if_neg h1, if_neg h2, if_pos (by simp [h1, h2]), Int.tdiv_eq_ediv_of_nonneg h0]
theorem r16 (a b : Int) (ha : 0 ≤ a) (ha' : a < 18446744073709551616) (hb : 0 ≤ b) (hb' : b < 18446744073709551616) :
    (wrap64 a).tmod (wrap64 b) = if 9223372036854775808 ≤ a then -(absV a % absV b) else absV a % absV b := by
  have h0 := (absV_range ha ha').1
  rw [wrap64_abs ha ha', wrap64_abs hb hb']
  by_cases h1 : 9223372036854775808 ≤ a <;> by_cases h2 : 9223372036854775808 ≤ b
  · rw [if_pos h1, if_pos h2, if_pos h1, Int.neg_tmod, Int.tmod_neg, Int.tmod_eq_emod_of_nonneg h0]
  · rw [if_pos h1, if_neg h2, if_pos h1, Int.neg_tmod, Int.tmod_eq_emod_of_nonneg h0]
  · rw [if_neg h1, if_pos h2, if_neg h1, Int.tmod_neg, Int.tmod_eq_emod_of_nonneg h0]
  · rw [if_neg h1, if_neg h2, if_neg h1, Int.tmod_eq_emod_of_nonneg h0]
theorem tdivU {x y : Int} (hx : 0 ≤ x) (hx' : x < 18446744073709551616) (hy : 0 ≤ y) : IntKind.u64.wrap (x.tdiv y) = x / y := by
  have := quo_range hx hy
  rw [IntKind.wrap_u64, Int.tdiv_eq_ediv_of_nonneg hx]; omega
/-- A number with its sign turned, or not. -/
def sgnV (t : Bool) (a : Int) : Int := if t then -a % 18446744073709551616 else a
theorem sgnV_no (a : Int) : sgnV false a = a := rfl
theorem absV_lt {a : Int} (ha : 0 ≤ a) (ha' : a < 18446744073709551616) : absV a < 18446744073709551616 := by have := absV_range ha ha'; omega
end Pl

theorem size_q (a : Int) (w : World) (ha : 0 ≤ a) (ha' : a < 18446744073709551616) :
    Calls Tryd.prog 65 #[.int .u64 a] w fun e w' => e = .returned (.int .u64 (absV a)) ∧ w' = w :=
  (size_any a w ha ha').mono fun _ _ ⟨h1, h2⟩ => ⟨h1, h2.symm⟩
theorem neg_q (a : Int) (w : World) :
    Calls Tryd.prog 67 #[.int .u64 a] w fun e w' => e = .returned (.bool (decide (9223372036854775808 ≤ a))) ∧ w' = w := by
  go_enter Tryd.func67, Tryd.ntmps67
  go_wp2
  go_ret
  exact ⟨rfl, rfl⟩
theorem sign_q (a : Int) (t : Bool) (w : World) :
    Calls Tryd.prog 68 #[.int .u64 a, .bool t] w fun e w' => e = .returned (.int .u64 (sgnV t a)) ∧ w' = w := by
  cases t
  · go_enter Tryd.func68, Tryd.ntmps68
    go_wp2
    go_ret
    exact ⟨rfl, rfl⟩
  · go_enter Tryd.func68, Tryd.ntmps68
    go_wp2
    go_ret
    exact ⟨ret1 (by rw [IntKind.wrap_u64]; rfl), rfl⟩

set_option maxHeartbeats 1000000 in
theorem ref14a (a b : Int) (w : World) (ha : 0 ≤ a) (ha' : a < 18446744073709551616) (hb : 0 ≤ b) (hb' : b < 18446744073709551616) (h1 : 9223372036854775808 ≤ a) (h2 : 9223372036854775808 ≤ b) (h : ¬ b = 0) :
    Calls Tryd.prog 49 #[.int .i64 14, .int .u64 a, .int .u64 b] w fun e w' => e = .returned (.tuple #[.int .u64 (opV 14 a b), .bool true]) ∧ Gb w w' := by
  have hz : (b == 0) = false := by simpa using h
  have hn : ¬ absV b = 0 := fun e => h ((absV_zero hb hb').1 e)
  have hnn : 0 ≤ absV b := (absV_range hb hb').1
  have hna : 0 ≤ absV a := (absV_range ha ha').1
  have H := Lib.hid h; clear h
  have D1 : decide (9223372036854775808 ≤ a) = true := by simpa using h1
  have D2 : decide (9223372036854775808 ≤ b) = true := by simpa using h2
  have H1 := Lib.hid h1; have H2 := Lib.hid h2; clear h1 h2
  have Ha := Lib.hid ha'; clear ha'
  have Hb := Lib.hid hb'; clear hb'
  generalize hV : opV 14 a b = V
  have HV := Lib.hid hV; clear hV
  go_enter Tryd.func49, Tryd.ntmps49
  go_wp2_with (first | (go_at_call 65; refine (size_any _ _ (by first | with_reducible exact ha | with_reducible exact hb) (by first | with_reducible exact Ha.out | with_reducible exact Hb.out)).mono ?_; rintro e w' ⟨rfl, rfl⟩) | go_in)
  go_wp2_with (fail)
  go_quiet ((first | (go_at_call 65; exact Calls.quiet_of_same (size_q _ _ (by first | with_reducible exact ha | with_reducible exact hb) (by first | with_reducible exact Ha.out | with_reducible exact Hb.out))) | (go_at_call 67; exact Calls.quiet_of_same (neg_q _ _)) | (go_at_call 68; exact Calls.quiet_of_same (sign_q _ _ _))))
  go_wp2_with (fail)
  go_ret2
  refine ⟨ret2b ?_, grownN (Gb.refl _)⟩
  rw [← HV.out]
  clear HV
  have ha' := Ha.out; have hb' := Hb.out
  have h := H.out; have h1 := H1.out; have h2 := H2.out; show _ = if b = 0 then _ else (wrap64 a).tdiv (wrap64 b) % 18446744073709551616; rw [if_neg h, r14 a b ha ha' hb hb', if_pos (by simp; omega), tdivU hna (absV_lt ha ha') hnn]; first | rfl | (rw [sgnV_no]; have := quo_range hna hnn; have := absV_lt ha ha'; omega)

set_option maxHeartbeats 1000000 in
theorem ref16a (a b : Int) (w : World) (ha : 0 ≤ a) (ha' : a < 18446744073709551616) (hb : 0 ≤ b) (hb' : b < 18446744073709551616) (h1 : 9223372036854775808 ≤ a) (h2 : 9223372036854775808 ≤ b) (h : ¬ b = 0) :
    Calls Tryd.prog 49 #[.int .i64 16, .int .u64 a, .int .u64 b] w fun e w' => e = .returned (.tuple #[.int .u64 (opV 16 a b), .bool true]) ∧ Gb w w' := by
  have hz : (b == 0) = false := by simpa using h
  have hn : ¬ absV b = 0 := fun e => h ((absV_zero hb hb').1 e)
  have hnn : 0 ≤ absV b := (absV_range hb hb').1
  have hna : 0 ≤ absV a := (absV_range ha ha').1
  have H := Lib.hid h; clear h
  have D1 : decide (9223372036854775808 ≤ a) = true := by simpa using h1
  have D2 : decide (9223372036854775808 ≤ b) = true := by simpa using h2
  have H1 := Lib.hid h1; have H2 := Lib.hid h2; clear h1 h2
  have Ha := Lib.hid ha'; clear ha'
  have Hb := Lib.hid hb'; clear hb'
  generalize hV : opV 16 a b = V
  have HV := Lib.hid hV; clear hV
  go_enter Tryd.func49, Tryd.ntmps49
  go_wp2_with (first | (go_at_call 65; refine (size_any _ _ (by first | with_reducible exact ha | with_reducible exact hb) (by first | with_reducible exact Ha.out | with_reducible exact Hb.out)).mono ?_; rintro e w' ⟨rfl, rfl⟩) | go_in)
  go_wp2_with (fail)
  go_quiet ((first | (go_at_call 65; exact Calls.quiet_of_same (size_q _ _ (by first | with_reducible exact ha | with_reducible exact hb) (by first | with_reducible exact Ha.out | with_reducible exact Hb.out))) | (go_at_call 67; exact Calls.quiet_of_same (neg_q _ _)) | (go_at_call 68; exact Calls.quiet_of_same (sign_q _ _ _))))
  go_wp2_with (fail)
  go_ret2
  refine ⟨ret2b ?_, grownN (Gb.refl _)⟩
  rw [← HV.out]
  clear HV
  have ha' := Ha.out; have hb' := Hb.out
  have h := H.out; have h1 := H1.out; have h2 := H2.out; show _ = if b = 0 then _ else (wrap64 a).tmod (wrap64 b) % 18446744073709551616; rw [if_neg h, r16 a b ha ha' hb hb', if_pos (by omega)]; first | rfl | (rw [sgnV_no]; have h5 := Int.emod_nonneg (absV a) hn; have h6 := Int.emod_lt_of_pos (absV a) (by omega : 0 < absV b); have := absV_range hb hb'; omega)

set_option maxHeartbeats 1000000 in
theorem ref14b (a b : Int) (w : World) (ha : 0 ≤ a) (ha' : a < 18446744073709551616) (hb : 0 ≤ b) (hb' : b < 18446744073709551616) (h1 : 9223372036854775808 ≤ a) (h2 : b < 9223372036854775808) (h : ¬ b = 0) :
    Calls Tryd.prog 49 #[.int .i64 14, .int .u64 a, .int .u64 b] w fun e w' => e = .returned (.tuple #[.int .u64 (opV 14 a b), .bool true]) ∧ Gb w w' := by
  have hz : (b == 0) = false := by simpa using h
  have hn : ¬ absV b = 0 := fun e => h ((absV_zero hb hb').1 e)
  have hnn : 0 ≤ absV b := (absV_range hb hb').1
  have hna : 0 ≤ absV a := (absV_range ha ha').1
  have H := Lib.hid h; clear h
  have D1 : decide (9223372036854775808 ≤ a) = true := by simpa using h1
  have D2 : decide (9223372036854775808 ≤ b) = false := by simpa using h2
  have H1 := Lib.hid h1; have H2 := Lib.hid h2; clear h1 h2
  have Ha := Lib.hid ha'; clear ha'
  have Hb := Lib.hid hb'; clear hb'
  generalize hV : opV 14 a b = V
  have HV := Lib.hid hV; clear hV
  go_enter Tryd.func49, Tryd.ntmps49
  go_wp2_with (first | (go_at_call 65; refine (size_any _ _ (by first | with_reducible exact ha | with_reducible exact hb) (by first | with_reducible exact Ha.out | with_reducible exact Hb.out)).mono ?_; rintro e w' ⟨rfl, rfl⟩) | go_in)
  go_wp2_with (fail)
  go_quiet ((first | (go_at_call 65; exact Calls.quiet_of_same (size_q _ _ (by first | with_reducible exact ha | with_reducible exact hb) (by first | with_reducible exact Ha.out | with_reducible exact Hb.out))) | (go_at_call 67; exact Calls.quiet_of_same (neg_q _ _)) | (go_at_call 68; exact Calls.quiet_of_same (sign_q _ _ _))))
  go_wp2_with (fail)
  go_ret2
  refine ⟨ret2b ?_, grownN (Gb.refl _)⟩
  rw [← HV.out]
  clear HV
  have ha' := Ha.out; have hb' := Hb.out
  have h := H.out; have h1 := H1.out; have h2 := H2.out; show _ = if b = 0 then _ else (wrap64 a).tdiv (wrap64 b) % 18446744073709551616; rw [if_neg h, r14 a b ha ha' hb hb', if_neg (by simp; omega), tdivU hna (absV_lt ha ha') hnn]; first | rfl | (rw [sgnV_no]; have := quo_range hna hnn; have := absV_lt ha ha'; omega)

set_option maxHeartbeats 1000000 in
theorem ref16b (a b : Int) (w : World) (ha : 0 ≤ a) (ha' : a < 18446744073709551616) (hb : 0 ≤ b) (hb' : b < 18446744073709551616) (h1 : 9223372036854775808 ≤ a) (h2 : b < 9223372036854775808) (h : ¬ b = 0) :
    Calls Tryd.prog 49 #[.int .i64 16, .int .u64 a, .int .u64 b] w fun e w' => e = .returned (.tuple #[.int .u64 (opV 16 a b), .bool true]) ∧ Gb w w' := by
  have hz : (b == 0) = false := by simpa using h
  have hn : ¬ absV b = 0 := fun e => h ((absV_zero hb hb').1 e)
  have hnn : 0 ≤ absV b := (absV_range hb hb').1
  have hna : 0 ≤ absV a := (absV_range ha ha').1
  have H := Lib.hid h; clear h
  have D1 : decide (9223372036854775808 ≤ a) = true := by simpa using h1
  have D2 : decide (9223372036854775808 ≤ b) = false := by simpa using h2
  have H1 := Lib.hid h1; have H2 := Lib.hid h2; clear h1 h2
  have Ha := Lib.hid ha'; clear ha'
  have Hb := Lib.hid hb'; clear hb'
  generalize hV : opV 16 a b = V
  have HV := Lib.hid hV; clear hV
  go_enter Tryd.func49, Tryd.ntmps49
  go_wp2_with (first | (go_at_call 65; refine (size_any _ _ (by first | with_reducible exact ha | with_reducible exact hb) (by first | with_reducible exact Ha.out | with_reducible exact Hb.out)).mono ?_; rintro e w' ⟨rfl, rfl⟩) | go_in)
  go_wp2_with (fail)
  go_quiet ((first | (go_at_call 65; exact Calls.quiet_of_same (size_q _ _ (by first | with_reducible exact ha | with_reducible exact hb) (by first | with_reducible exact Ha.out | with_reducible exact Hb.out))) | (go_at_call 67; exact Calls.quiet_of_same (neg_q _ _)) | (go_at_call 68; exact Calls.quiet_of_same (sign_q _ _ _))))
  go_wp2_with (fail)
  go_ret2
  refine ⟨ret2b ?_, grownN (Gb.refl _)⟩
  rw [← HV.out]
  clear HV
  have ha' := Ha.out; have hb' := Hb.out
  have h := H.out; have h1 := H1.out; have h2 := H2.out; show _ = if b = 0 then _ else (wrap64 a).tmod (wrap64 b) % 18446744073709551616; rw [if_neg h, r16 a b ha ha' hb hb', if_pos (by omega)]; first | rfl | (rw [sgnV_no]; have h5 := Int.emod_nonneg (absV a) hn; have h6 := Int.emod_lt_of_pos (absV a) (by omega : 0 < absV b); have := absV_range hb hb'; omega)

set_option maxHeartbeats 1000000 in
theorem ref14c (a b : Int) (w : World) (ha : 0 ≤ a) (ha' : a < 18446744073709551616) (hb : 0 ≤ b) (hb' : b < 18446744073709551616) (h1 : a < 9223372036854775808) (h2 : 9223372036854775808 ≤ b) (h : ¬ b = 0) :
    Calls Tryd.prog 49 #[.int .i64 14, .int .u64 a, .int .u64 b] w fun e w' => e = .returned (.tuple #[.int .u64 (opV 14 a b), .bool true]) ∧ Gb w w' := by
  have hz : (b == 0) = false := by simpa using h
  have hn : ¬ absV b = 0 := fun e => h ((absV_zero hb hb').1 e)
  have hnn : 0 ≤ absV b := (absV_range hb hb').1
  have hna : 0 ≤ absV a := (absV_range ha ha').1
  have H := Lib.hid h; clear h
  have D1 : decide (9223372036854775808 ≤ a) = false := by simpa using h1
  have D2 : decide (9223372036854775808 ≤ b) = true := by simpa using h2
  have H1 := Lib.hid h1; have H2 := Lib.hid h2; clear h1 h2
  have Ha := Lib.hid ha'; clear ha'
  have Hb := Lib.hid hb'; clear hb'
  generalize hV : opV 14 a b = V
  have HV := Lib.hid hV; clear hV
  go_enter Tryd.func49, Tryd.ntmps49
  go_wp2_with (first | (go_at_call 65; refine (size_any _ _ (by first | with_reducible exact ha | with_reducible exact hb) (by first | with_reducible exact Ha.out | with_reducible exact Hb.out)).mono ?_; rintro e w' ⟨rfl, rfl⟩) | go_in)
  go_wp2_with (fail)
  go_quiet ((first | (go_at_call 65; exact Calls.quiet_of_same (size_q _ _ (by first | with_reducible exact ha | with_reducible exact hb) (by first | with_reducible exact Ha.out | with_reducible exact Hb.out))) | (go_at_call 67; exact Calls.quiet_of_same (neg_q _ _)) | (go_at_call 68; exact Calls.quiet_of_same (sign_q _ _ _))))
  go_wp2_with (fail)
  go_ret2
  refine ⟨ret2b ?_, grownN (Gb.refl _)⟩
  rw [← HV.out]
  clear HV
  have ha' := Ha.out; have hb' := Hb.out
  have h := H.out; have h1 := H1.out; have h2 := H2.out; show _ = if b = 0 then _ else (wrap64 a).tdiv (wrap64 b) % 18446744073709551616; rw [if_neg h, r14 a b ha ha' hb hb', if_neg (by simp; omega), tdivU hna (absV_lt ha ha') hnn]; first | rfl | (rw [sgnV_no]; have := quo_range hna hnn; have := absV_lt ha ha'; omega)

set_option maxHeartbeats 1000000 in
theorem ref16c (a b : Int) (w : World) (ha : 0 ≤ a) (ha' : a < 18446744073709551616) (hb : 0 ≤ b) (hb' : b < 18446744073709551616) (h1 : a < 9223372036854775808) (h2 : 9223372036854775808 ≤ b) (h : ¬ b = 0) :
    Calls Tryd.prog 49 #[.int .i64 16, .int .u64 a, .int .u64 b] w fun e w' => e = .returned (.tuple #[.int .u64 (opV 16 a b), .bool true]) ∧ Gb w w' := by
  have hz : (b == 0) = false := by simpa using h
  have hn : ¬ absV b = 0 := fun e => h ((absV_zero hb hb').1 e)
  have hnn : 0 ≤ absV b := (absV_range hb hb').1
  have hna : 0 ≤ absV a := (absV_range ha ha').1
  have H := Lib.hid h; clear h
  have D1 : decide (9223372036854775808 ≤ a) = false := by simpa using h1
  have D2 : decide (9223372036854775808 ≤ b) = true := by simpa using h2
  have H1 := Lib.hid h1; have H2 := Lib.hid h2; clear h1 h2
  have Ha := Lib.hid ha'; clear ha'
  have Hb := Lib.hid hb'; clear hb'
  generalize hV : opV 16 a b = V
  have HV := Lib.hid hV; clear hV
  go_enter Tryd.func49, Tryd.ntmps49
  go_wp2_with (first | (go_at_call 65; refine (size_any _ _ (by first | with_reducible exact ha | with_reducible exact hb) (by first | with_reducible exact Ha.out | with_reducible exact Hb.out)).mono ?_; rintro e w' ⟨rfl, rfl⟩) | go_in)
  go_wp2_with (fail)
  go_quiet ((first | (go_at_call 65; exact Calls.quiet_of_same (size_q _ _ (by first | with_reducible exact ha | with_reducible exact hb) (by first | with_reducible exact Ha.out | with_reducible exact Hb.out))) | (go_at_call 67; exact Calls.quiet_of_same (neg_q _ _)) | (go_at_call 68; exact Calls.quiet_of_same (sign_q _ _ _))))
  go_wp2_with (fail)
  go_ret2
  refine ⟨ret2b ?_, grownN (Gb.refl _)⟩
  rw [← HV.out]
  clear HV
  have ha' := Ha.out; have hb' := Hb.out
  have h := H.out; have h1 := H1.out; have h2 := H2.out; show _ = if b = 0 then _ else (wrap64 a).tmod (wrap64 b) % 18446744073709551616; rw [if_neg h, r16 a b ha ha' hb hb', if_neg (by omega)]; first | rfl | (rw [sgnV_no]; have h5 := Int.emod_nonneg (absV a) hn; have h6 := Int.emod_lt_of_pos (absV a) (by omega : 0 < absV b); have := absV_range hb hb'; omega)

set_option maxHeartbeats 1000000 in
theorem ref14d (a b : Int) (w : World) (ha : 0 ≤ a) (ha' : a < 18446744073709551616) (hb : 0 ≤ b) (hb' : b < 18446744073709551616) (h1 : a < 9223372036854775808) (h2 : b < 9223372036854775808) (h : ¬ b = 0) :
    Calls Tryd.prog 49 #[.int .i64 14, .int .u64 a, .int .u64 b] w fun e w' => e = .returned (.tuple #[.int .u64 (opV 14 a b), .bool true]) ∧ Gb w w' := by
  have hz : (b == 0) = false := by simpa using h
  have hn : ¬ absV b = 0 := fun e => h ((absV_zero hb hb').1 e)
  have hnn : 0 ≤ absV b := (absV_range hb hb').1
  have hna : 0 ≤ absV a := (absV_range ha ha').1
  have H := Lib.hid h; clear h
  have D1 : decide (9223372036854775808 ≤ a) = false := by simpa using h1
  have D2 : decide (9223372036854775808 ≤ b) = false := by simpa using h2
  have H1 := Lib.hid h1; have H2 := Lib.hid h2; clear h1 h2
  have Ha := Lib.hid ha'; clear ha'
  have Hb := Lib.hid hb'; clear hb'
  generalize hV : opV 14 a b = V
  have HV := Lib.hid hV; clear hV
  go_enter Tryd.func49, Tryd.ntmps49
  go_wp2_with (first | (go_at_call 65; refine (size_any _ _ (by first | with_reducible exact ha | with_reducible exact hb) (by first | with_reducible exact Ha.out | with_reducible exact Hb.out)).mono ?_; rintro e w' ⟨rfl, rfl⟩) | go_in)
  go_wp2_with (fail)
  go_quiet ((first | (go_at_call 65; exact Calls.quiet_of_same (size_q _ _ (by first | with_reducible exact ha | with_reducible exact hb) (by first | with_reducible exact Ha.out | with_reducible exact Hb.out))) | (go_at_call 67; exact Calls.quiet_of_same (neg_q _ _)) | (go_at_call 68; exact Calls.quiet_of_same (sign_q _ _ _))))
  go_wp2_with (fail)
  go_ret2
  refine ⟨ret2b ?_, grownN (Gb.refl _)⟩
  rw [← HV.out]
  clear HV
  have ha' := Ha.out; have hb' := Hb.out
  have h := H.out; have h1 := H1.out; have h2 := H2.out; show _ = if b = 0 then _ else (wrap64 a).tdiv (wrap64 b) % 18446744073709551616; rw [if_neg h, r14 a b ha ha' hb hb', if_pos (by simp; omega), tdivU hna (absV_lt ha ha') hnn]; first | rfl | (rw [sgnV_no]; have := quo_range hna hnn; have := absV_lt ha ha'; omega)

set_option maxHeartbeats 1000000 in
theorem ref16d (a b : Int) (w : World) (ha : 0 ≤ a) (ha' : a < 18446744073709551616) (hb : 0 ≤ b) (hb' : b < 18446744073709551616) (h1 : a < 9223372036854775808) (h2 : b < 9223372036854775808) (h : ¬ b = 0) :
    Calls Tryd.prog 49 #[.int .i64 16, .int .u64 a, .int .u64 b] w fun e w' => e = .returned (.tuple #[.int .u64 (opV 16 a b), .bool true]) ∧ Gb w w' := by
  have hz : (b == 0) = false := by simpa using h
  have hn : ¬ absV b = 0 := fun e => h ((absV_zero hb hb').1 e)
  have hnn : 0 ≤ absV b := (absV_range hb hb').1
  have hna : 0 ≤ absV a := (absV_range ha ha').1
  have H := Lib.hid h; clear h
  have D1 : decide (9223372036854775808 ≤ a) = false := by simpa using h1
  have D2 : decide (9223372036854775808 ≤ b) = false := by simpa using h2
  have H1 := Lib.hid h1; have H2 := Lib.hid h2; clear h1 h2
  have Ha := Lib.hid ha'; clear ha'
  have Hb := Lib.hid hb'; clear hb'
  generalize hV : opV 16 a b = V
  have HV := Lib.hid hV; clear hV
  go_enter Tryd.func49, Tryd.ntmps49
  go_wp2_with (first | (go_at_call 65; refine (size_any _ _ (by first | with_reducible exact ha | with_reducible exact hb) (by first | with_reducible exact Ha.out | with_reducible exact Hb.out)).mono ?_; rintro e w' ⟨rfl, rfl⟩) | go_in)
  go_wp2_with (fail)
  go_quiet ((first | (go_at_call 65; exact Calls.quiet_of_same (size_q _ _ (by first | with_reducible exact ha | with_reducible exact hb) (by first | with_reducible exact Ha.out | with_reducible exact Hb.out))) | (go_at_call 67; exact Calls.quiet_of_same (neg_q _ _)) | (go_at_call 68; exact Calls.quiet_of_same (sign_q _ _ _))))
  go_wp2_with (fail)
  go_ret2
  refine ⟨ret2b ?_, grownN (Gb.refl _)⟩
  rw [← HV.out]
  clear HV
  have ha' := Ha.out; have hb' := Hb.out
  have h := H.out; have h1 := H1.out; have h2 := H2.out; show _ = if b = 0 then _ else (wrap64 a).tmod (wrap64 b) % 18446744073709551616; rw [if_neg h, r16 a b ha ha' hb hb', if_neg (by omega)]; first | rfl | (rw [sgnV_no]; have h5 := Int.emod_nonneg (absV a) hn; have h6 := Int.emod_lt_of_pos (absV a) (by omega : 0 < absV b); have := absV_range hb hb'; omega)

set_option maxHeartbeats 1000000 in
theorem ref14z (a b : Int) (w : World) (ha : 0 ≤ a) (ha' : a < 18446744073709551616) (hb : 0 ≤ b) (hb' : b < 18446744073709551616) (h : b = 0) :
    Calls Tryd.prog 49 #[.int .i64 14, .int .u64 a, .int .u64 b] w fun e w' => e = .returned (.tuple #[.int .u64 (opV 14 a b), .bool true]) ∧ Gb w w' := by
  have hz : (b == 0) = true := by simpa using h
  have H := Lib.hid h; clear h
  have Ha := Lib.hid ha'; clear ha'
  have Hb := Lib.hid hb'; clear hb'
  generalize hV : opV 14 a b = V
  have HV := Lib.hid hV; clear hV
  go_enter Tryd.func49, Tryd.ntmps49
  go_wp2_with (first | (go_at_call 65; refine (size_any _ _ (by first | with_reducible exact ha | with_reducible exact hb) (by first | with_reducible exact Ha.out | with_reducible exact Hb.out)).mono ?_; rintro e w' ⟨rfl, rfl⟩) | go_in)
  go_ret2
  refine ⟨ret2b ?_, Gb.refl _⟩
  rw [← HV.out]
  clear HV
  have ha' := Ha.out; have hb' := Hb.out
  have h := H.out; show _ = if b = 0 then 18446744073709551615 else _; rw [if_pos h, h]; rfl

theorem ref14 : RefAt 14 := fun a b w ha ha' hb hb' => if h : b = 0 then ref14z a b w ha ha' hb hb' h else
  if h1 : 9223372036854775808 ≤ a then (if h2 : 9223372036854775808 ≤ b then ref14a a b w ha ha' hb hb' h1 h2 h else ref14b a b w ha ha' hb hb' h1 (Int.not_le.1 h2) h)
  else (if h2 : 9223372036854775808 ≤ b then ref14c a b w ha ha' hb hb' (Int.not_le.1 h1) h2 h else ref14d a b w ha ha' hb hb' (Int.not_le.1 h1) (Int.not_le.1 h2) h)

set_option maxHeartbeats 1000000 in
theorem ref16z (a b : Int) (w : World) (ha : 0 ≤ a) (ha' : a < 18446744073709551616) (hb : 0 ≤ b) (hb' : b < 18446744073709551616) (h : b = 0) :
    Calls Tryd.prog 49 #[.int .i64 16, .int .u64 a, .int .u64 b] w fun e w' => e = .returned (.tuple #[.int .u64 (opV 16 a b), .bool true]) ∧ Gb w w' := by
  have hz : (b == 0) = true := by simpa using h
  have H := Lib.hid h; clear h
  have Ha := Lib.hid ha'; clear ha'
  have Hb := Lib.hid hb'; clear hb'
  generalize hV : opV 16 a b = V
  have HV := Lib.hid hV; clear hV
  go_enter Tryd.func49, Tryd.ntmps49
  go_wp2_with (first | (go_at_call 65; refine (size_any _ _ (by first | with_reducible exact ha | with_reducible exact hb) (by first | with_reducible exact Ha.out | with_reducible exact Hb.out)).mono ?_; rintro e w' ⟨rfl, rfl⟩) | go_in)
  go_ret2
  refine ⟨ret2b ?_, Gb.refl _⟩
  rw [← HV.out]
  clear HV
  have ha' := Ha.out; have hb' := Hb.out
  have h := H.out; show _ = if b = 0 then a else _; rw [if_pos h]

theorem ref16 : RefAt 16 := fun a b w ha ha' hb hb' => if h : b = 0 then ref16z a b w ha ha' hb hb' h else
  if h1 : 9223372036854775808 ≤ a then (if h2 : 9223372036854775808 ≤ b then ref16a a b w ha ha' hb hb' h1 h2 h else ref16b a b w ha ha' hb hb' h1 (Int.not_le.1 h2) h)
  else (if h2 : 9223372036854775808 ≤ b then ref16c a b w ha ha' hb hb' (Int.not_le.1 h1) h2 h else ref16d a b w ha ha' hb hb' (Int.not_le.1 h1) (Int.not_le.1 h2) h)

set_option maxHeartbeats 1000000 in
theorem ref15z (a b : Int) (w : World) (ha : 0 ≤ a) (ha' : a < 18446744073709551616) (hb : 0 ≤ b) (hb' : b < 18446744073709551616) (h : b = 0) :
    Calls Tryd.prog 49 #[.int .i64 15, .int .u64 a, .int .u64 b] w fun e w' => e = .returned (.tuple #[.int .u64 (opV 15 a b), .bool true]) ∧ Gb w w' := by
  have hz : (b == 0) = true := by simpa using h
  have H := Lib.hid h; clear h
  have Ha := Lib.hid ha'; clear ha'
  have Hb := Lib.hid hb'; clear hb'
  generalize hV : opV 15 a b = V
  have HV := Lib.hid hV; clear hV
  go_enter Tryd.func49, Tryd.ntmps49
  go_wp2
  go_ret2
  refine ⟨ret2b ?_, Gb.refl _⟩
  rw [← HV.out]
  clear HV
  have ha' := Ha.out; have hb' := Hb.out
  have h := H.out; show _ = if b = 0 then 18446744073709551615 else _; rw [if_pos h, h]; rfl

set_option maxHeartbeats 1000000 in
theorem ref15n (a b : Int) (w : World) (ha : 0 ≤ a) (ha' : a < 18446744073709551616) (hb : 0 ≤ b) (hb' : b < 18446744073709551616) (h : ¬ b = 0) :
    Calls Tryd.prog 49 #[.int .i64 15, .int .u64 a, .int .u64 b] w fun e w' => e = .returned (.tuple #[.int .u64 (opV 15 a b), .bool true]) ∧ Gb w w' := by
  have hz : (b == 0) = false := by simpa using h
  have hn := h
  have H := Lib.hid h; clear h
  have Ha := Lib.hid ha'; clear ha'
  have Hb := Lib.hid hb'; clear hb'
  generalize hV : opV 15 a b = V
  have HV := Lib.hid hV; clear hV
  go_enter Tryd.func49, Tryd.ntmps49
  go_wp2
  go_ret2
  refine ⟨ret2b ?_, Gb.refl _⟩
  rw [← HV.out]
  clear HV
  have ha' := Ha.out; have hb' := Hb.out
  have h := H.out; show _ = if b = 0 then _ else a / b; rw [if_neg h, tdivU ha ha' hb]

theorem ref15 : RefAt 15 := fun a b w ha ha' hb hb' => if h : b = 0 then ref15z a b w ha ha' hb hb' h else ref15n a b w ha ha' hb hb' h

set_option maxHeartbeats 1000000 in
theorem ref17z (a b : Int) (w : World) (ha : 0 ≤ a) (ha' : a < 18446744073709551616) (hb : 0 ≤ b) (hb' : b < 18446744073709551616) (h : b = 0) :
    Calls Tryd.prog 49 #[.int .i64 17, .int .u64 a, .int .u64 b] w fun e w' => e = .returned (.tuple #[.int .u64 (opV 17 a b), .bool true]) ∧ Gb w w' := by
  have hz : (b == 0) = true := by simpa using h
  have H := Lib.hid h; clear h
  have Ha := Lib.hid ha'; clear ha'
  have Hb := Lib.hid hb'; clear hb'
  generalize hV : opV 17 a b = V
  have HV := Lib.hid hV; clear hV
  go_enter Tryd.func49, Tryd.ntmps49
  go_wp2
  go_ret2
  refine ⟨ret2b ?_, Gb.refl _⟩
  rw [← HV.out]
  clear HV
  have ha' := Ha.out; have hb' := Hb.out
  have h := H.out; show _ = if b = 0 then a else _; rw [if_pos h]

set_option maxHeartbeats 1000000 in
theorem ref17n (a b : Int) (w : World) (ha : 0 ≤ a) (ha' : a < 18446744073709551616) (hb : 0 ≤ b) (hb' : b < 18446744073709551616) (h : ¬ b = 0) :
    Calls Tryd.prog 49 #[.int .i64 17, .int .u64 a, .int .u64 b] w fun e w' => e = .returned (.tuple #[.int .u64 (opV 17 a b), .bool true]) ∧ Gb w w' := by
  have hz : (b == 0) = false := by simpa using h
  have hn := h
  have H := Lib.hid h; clear h
  have Ha := Lib.hid ha'; clear ha'
  have Hb := Lib.hid hb'; clear hb'
  generalize hV : opV 17 a b = V
  have HV := Lib.hid hV; clear hV
  go_enter Tryd.func49, Tryd.ntmps49
  go_wp2
  go_ret2
  refine ⟨ret2b ?_, Gb.refl _⟩
  rw [← HV.out]
  clear HV
  have ha' := Ha.out; have hb' := Hb.out
  have h := H.out; show _ = if b = 0 then a else a % b; rw [if_neg h]

theorem ref17 : RefAt 17 := fun a b w ha ha' hb hb' => if h : b = 0 then ref17z a b w ha ha' hb hb' h else ref17n a b w ha ha' hb hb' h

end Go.Proofs.YtoehfncgkkfdeaaDoor
