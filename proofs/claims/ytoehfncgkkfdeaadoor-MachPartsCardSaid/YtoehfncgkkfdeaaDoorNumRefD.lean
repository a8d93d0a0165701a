/- The document's Do of the operations of 32 bits, and of all: opV and true. Conditions: the numbers are of 64 bits. -/
import Derived.Test.YtoehfncgkkfdeaaDoorRows
import Derived.WalkKit
import Derived.ProofKit
import Derived.OpenShut
import Derived.WalkSpells
import Derived.Lib.Hide
import Derived.Handy
import Derived.Deep.QuietTactic
import Derived.BigQuiet
import Derived.Test.YtoehfncgkkfdeaaDoorNumRefC
namespace Go.Proofs.YtoehfncgkkfdeaaDoor
open Go.RowKit
set_option linter.unusedVariables false
open Pl

/-- Of the operations that those of 32 bits come to. -/
theorem refBase (op : Int) (h : op = 1 ∨ op = 2 ∨ op = 3 ∨ op = 7 ∨ op = 8 ∨ op = 11 ∨ op = 14 ∨ op = 15 ∨ op = 16 ∨ op = 17) : RefAt op := by
  rcases h with rfl | rfl | rfl | rfl | rfl | rfl | rfl | rfl | rfl | rfl
  · exact fun a b w ha ha' hb hb' => ref1 a b w ha ha' hb hb'
  · exact fun a b w ha ha' hb hb' => ref2 a b w ha ha' hb hb'
  · exact fun a b w ha ha' hb hb' => ref3 a b w ha ha' hb hb'
  · exact ref7
  · exact ref8
  · exact fun a b w ha ha' hb hb' => ref11 a b w ha ha' hb hb'
  · exact ref14
  · exact ref15
  · exact ref16
  · exact ref17
namespace Pl
theorem nrV_range (s : Bool) (a n : Int) (h1 : 1 ≤ n) (h2 : n ≤ 64) : 0 ≤ nrV s a n ∧ nrV s a n < 18446744073709551616 := by
  have h4 := Int.emod_lt_of_pos a (two_pow_pos n.toNat)
  have h5 := Int.emod_nonneg a (Int.ne_of_gt (two_pow_pos n.toNat))
  have h6 : (2 : Int) ^ n.toNat ≤ 18446744073709551616 := by
    have h3 := pow_split n.toNat (by omega)
    have h8 := two_pow_pos (64 - n.toNat)
    have h7 : (2 : Int) ^ n.toNat * 1 ≤ 2 ^ n.toNat * 2 ^ (64 - n.toNat) := Int.mul_le_mul_of_nonneg_left (by omega) (Int.le_of_lt (two_pow_pos _))
    omega
  unfold nrV
  split <;> omega
theorem nrV_32 (a : Int) : nrV true a 32 = sx a := by
  unfold nrV sx wrap32
  have e : (2 : Int) ^ (32 : Int).toNat = 4294967296 := by decide
  have e2 : (2 : Int) ^ ((32 : Int) - 1).toNat = 2147483648 := by decide
  rw [e, e2]
  by_cases h : 2147483648 ≤ a % 4294967296
  · rw [if_pos ⟨rfl, h⟩]; omega
  · rw [if_neg (fun x => h x.2)]; omega
theorem nrV_32u (a : Int) : nrV false a 32 = a % 4294967296 := by
  unfold nrV
  have e : (2 : Int) ^ (32 : Int).toNat = 4294967296 := by decide
  rw [e, if_neg (by simp)]
theorem wrap32_emod64 (x : Int) : wrap32 (x % 18446744073709551616) = wrap32 x := wrap32_congr (by omega)
theorem sx_emod64 (x : Int) : sx (x % 18446744073709551616) = sx x := sx_congr (by omega)
theorem low32 (b : Int) : b % 32 % 64 = b % 32 := by omega
theorem sx_zero {b : Int} : sx b = 0 ↔ b % 4294967296 = 0 := by unfold sx wrap32; omega
theorem sx_m1 : sx 18446744073709551615 = 18446744073709551615 := by unfold sx wrap32; omega
theorem wrap64_low (a : Int) : wrap64 (a % 4294967296) = a % 4294967296 := by unfold wrap64; omega
/-- What the operations of 32 bits come to. -/
theorem w18 (a b : Int) : sx (opV 1 (sx a) (sx b)) = opV 18 a b := by
  show sx ((sx a + sx b) % 18446744073709551616) = sx (a + b); rw [sx_emod64]; have := sx_mod a; have := sx_mod b; exact sx_congr (by omega)
theorem w19 (a b : Int) : sx (opV 2 (sx a) (sx b)) = opV 19 a b := by
  show sx ((sx a - sx b) % 18446744073709551616) = sx (a - b); rw [sx_emod64]; have := sx_mod a; have := sx_mod b; exact sx_congr (by omega)
theorem w20 (a b : Int) : sx (opV 3 (sx a) (b % 32)) = opV 20 a b := by
  show sx (sx a * 2 ^ (b % 32 % 64).toNat % 18446744073709551616) = sx (a * 2 ^ (b % 32).toNat)
  rw [sx_emod64, low32]; exact sx_congr (mul_mod_congr (sx_mod a))
theorem w21 (a b : Int) : sx (opV 7 (a % 4294967296) (b % 32)) = opV 21 a b := by
  show sx (a % 4294967296 / 2 ^ (b % 32 % 64).toNat) = sx (a % 4294967296 / 2 ^ (b % 32).toNat)
  rw [low32]
theorem w22 (a b : Int) : sx (opV 8 (sx a) (b % 32)) = opV 22 a b := by
  show sx (wrap64 (sx a) / 2 ^ (b % 32 % 64).toNat % 18446744073709551616) = sx (wrap32 a / 2 ^ (b % 32).toNat)
  rw [sx_emod64, low32, wrap64_sx]
theorem w23 (a b : Int) : sx (opV 11 (sx a) (sx b)) = opV 23 a b := by
  show sx (sx a * sx b % 18446744073709551616) = sx (a * b); rw [sx_emod64]
  exact sx_congr (by rw [Int.mul_emod, sx_mod, sx_mod, ← Int.mul_emod])
theorem w24 (a b : Int) : sx (opV 14 (sx a) (sx b)) = opV 24 a b := by
  show sx (if sx b = 0 then 18446744073709551615 else (wrap64 (sx a)).tdiv (wrap64 (sx b)) % 18446744073709551616) = if b % 4294967296 = 0 then 18446744073709551615 else sx ((wrap32 a).tdiv (wrap32 b))
  by_cases h : b % 4294967296 = 0
  · rw [if_pos (sx_zero.2 h), if_pos h, sx_m1]
  · rw [if_neg (fun e => h (sx_zero.1 e)), if_neg h, sx_emod64, wrap64_sx, wrap64_sx]
theorem w25 (a b : Int) : sx (opV 15 (a % 4294967296) (b % 4294967296)) = opV 25 a b := by
  show sx (if b % 4294967296 = 0 then 18446744073709551615 else a % 4294967296 / (b % 4294967296)) = if b % 4294967296 = 0 then 18446744073709551615 else sx (a % 4294967296 / (b % 4294967296))
  by_cases h : b % 4294967296 = 0
  · rw [if_pos h, if_pos h, sx_m1]
  · rw [if_neg h, if_neg h]
theorem w26 (a b : Int) : sx (opV 16 (sx a) (sx b)) = opV 26 a b := by
  show sx (if sx b = 0 then sx a else (wrap64 (sx a)).tmod (wrap64 (sx b)) % 18446744073709551616) = if b % 4294967296 = 0 then sx a else sx ((wrap32 a).tmod (wrap32 b))
  by_cases h : b % 4294967296 = 0
  · rw [if_pos (sx_zero.2 h), if_pos h, sx_sx]
  · rw [if_neg (fun e => h (sx_zero.1 e)), if_neg h, sx_emod64, wrap64_sx, wrap64_sx]
theorem w27 (a b : Int) : sx (opV 17 (a % 4294967296) (b % 4294967296)) = opV 27 a b := by
  show sx (if b % 4294967296 = 0 then a % 4294967296 else a % 4294967296 % (b % 4294967296)) = if b % 4294967296 = 0 then sx a else sx (a % 4294967296 % (b % 4294967296))
  by_cases h : b % 4294967296 = 0
  · rw [if_pos h, if_pos h]; exact sx_congr (by omega)
  · rw [if_neg h, if_neg h]
theorem lowr (a : Int) : 0 ≤ a % 4294967296 ∧ a % 4294967296 < 18446744073709551616 := by omega
theorem low5 (a : Int) : 0 ≤ a % 32 ∧ a % 32 < 18446744073709551616 := by omega
end Pl
theorem refBaseC (op : Int) (h : op = 1 ∨ op = 2 ∨ op = 3 ∨ op = 7 ∨ op = 8 ∨ op = 11 ∨ op = 14 ∨ op = 15 ∨ op = 16 ∨ op = 17) (a b : Int) (w : World) (ha : 0 ≤ a) (ha' : a < 18446744073709551616) (hb : 0 ≤ b) (hb' : b < 18446744073709551616) :
    Calls Tryd.prog 49 #[.int .i64 op, .int .u64 a, .int .u64 b] w fun e w' => e = .returned (.tuple #[.int .u64 (opV op a b), .bool true]) ∧ Gb w w' := refBase op h a b w ha ha' hb hb'
theorem grownT {a b c : World} (h1 : Gb a b) (h2 : Gb b c) : Gb a c := Below.trans h1 (Below.mono h2 h1.size)
theorem narrowS (a : Int) (w : World) (ha : 0 ≤ a) (ha' : a < 18446744073709551616) :
    Calls Tryd.prog 50 #[.int .u64 a, .int .i64 32, .bool true] w fun e w' => e = .returned (.tuple #[.int .u64 (sx a), .bool true]) ∧ w = w' := by
  rw [← nrV_32]; exact refNarrow_any true a 32 w ha ha' (by decide) (by decide)
theorem narrowU (a : Int) (w : World) (ha : 0 ≤ a) (ha' : a < 18446744073709551616) :
    Calls Tryd.prog 50 #[.int .u64 a, .int .i64 32, .bool false] w fun e w' => e = .returned (.tuple #[.int .u64 (a % 4294967296), .bool true]) ∧ w = w' := by
  rw [← nrV_32u]; exact refNarrow_any false a 32 w ha ha' (by decide) (by decide)
namespace Pl
def Ok (r : Int) : Prop := 0 ≤ r ∧ r < 18446744073709551616
theorem ite_ok {c : Prop} [Decidable c] {x y : Int} (h : c → Ok x) (h' : ¬ c → Ok y) : Ok (if c then x else y) := by
  by_cases e : c
  · rw [if_pos e]; exact h e
  · rw [if_neg e]; exact h' e
theorem ok_mod (x : Int) : Ok (x % 18446744073709551616) := by unfold Ok; omega
theorem ok_nat {n : Nat} (h : n < 2 ^ 64) : Ok (n : Int) := by unfold Ok; omega
theorem ok_le {a x : Int} (h : 0 ≤ x ∧ x ≤ a) (h' : a < 18446744073709551616) : Ok x := by unfold Ok; omega
theorem ok_high {a b : Int} (ha : 0 ≤ a) (ha' : a < 18446744073709551616) (hb : 0 ≤ b) (hb' : b < 18446744073709551616) : Ok (a * b / 18446744073709551616) := by
  refine ⟨Int.ediv_nonneg (Int.mul_nonneg ha hb) (by decide), ?_⟩
  apply Int.ediv_lt_of_lt_mul (by decide)
  have h1 := Int.mul_le_mul (by omega : a ≤ 18446744073709551615) (by omega : b ≤ 18446744073709551615) hb (by decide)
  omega
theorem ok_rem {a b : Int} (ha : 0 ≤ a) (ha' : a < 18446744073709551616) (hb : 0 ≤ b) (h : ¬ b = 0) : Ok (a % b) :=
  by
  have h1 := Int.emod_nonneg a h
  have h2 := Int.mul_ediv_add_emod a b
  unfold Ok
  refine ⟨h1, Int.lt_of_le_of_lt ?_ ha'⟩
  have h3 : 0 ≤ b * (a / b) := Int.mul_nonneg hb (Int.ediv_nonneg ha hb)
  omega
/-- The values of the operations are of 64 bits. -/
theorem opV_range (op a b : Int) (ha : 0 ≤ a) (ha' : a < 18446744073709551616) (hb : 0 ≤ b) (hb' : b < 18446744073709551616) : 0 ≤ opV op a b ∧ opV op a b < 18446744073709551616 := by
  show Ok (opV op a b)
  unfold opV
  repeat' (refine ite_ok ?_ ?_ <;> intro hcase)
  all_goals first
    | exact ok_mod _
    | exact sx_range _
    | (unfold Ok; omega)
    | exact ok_nat (Nat.xor_lt_two_pow (by omega) (by omega))
    | exact ok_nat (Nat.or_lt_two_pow (by omega) (by omega))
    | exact ok_nat (Nat.and_lt_two_pow _ (by omega))
    | exact ok_high ha ha' hb hb'
    | exact ok_rem ha ha' hb hcase
    | exact ok_le (quo_range ha (Int.le_of_lt (two_pow_pos _))) ha'
    | exact ok_le (quo_range ha hb) ha'
end Pl

set_option maxHeartbeats 1000000 in
theorem ref18 (a b : Int) (w : World) (ha : 0 ≤ a) (ha' : a < 18446744073709551616) (hb : 0 ≤ b) (hb' : b < 18446744073709551616) :
    Calls Tryd.prog 49 #[.int .i64 18, .int .u64 a, .int .u64 b] w fun e w' => e = .returned (.tuple #[.int .u64 (opV 18 a b), .bool true]) ∧ Gb w w' := by
  have Ha := Lib.hid ha'; clear ha'
  have Hb := Lib.hid hb'; clear hb'
  generalize hV : opV 18 a b = V
  have HV := Lib.hid hV; clear hV
  have HX := Lib.hid (sx_range a); have HY := Lib.hid (sx_range b)
  have HZ := Lib.hid (opV_range 1 (sx a) (sx b) HX.out.1 HX.out.2 HY.out.1 HY.out.2)
  go_enter Tryd.func49, Tryd.ntmps49
  go_wp2_with (first | (go_at_call 50; (with_reducible refine (narrowS _ _ (by first | with_reducible exact ha | with_reducible exact hb) (by first | with_reducible exact Ha.out | with_reducible exact Hb.out)).mono ?_); rintro e w' ⟨rfl, rfl⟩) | (go_at_call 50; (with_reducible refine (narrowS _ _ HZ.out.1 HZ.out.2).mono ?_); rintro e w' ⟨rfl, rfl⟩) | (go_at_call 49; (with_reducible refine (refBaseC 1 (by decide) _ _ _ HX.out.1 HX.out.2 HY.out.1 HY.out.2).mono ?_); rintro e w' ⟨rfl, hg⟩) | (go_at_call 69; go_in))
  go_ret2
  refine ⟨ret2b ?_, grownT ((Gb.refl _).alloc _ _) hg⟩
  rw [← HV.out]
  exact w18 a b

set_option maxHeartbeats 1000000 in
theorem ref19 (a b : Int) (w : World) (ha : 0 ≤ a) (ha' : a < 18446744073709551616) (hb : 0 ≤ b) (hb' : b < 18446744073709551616) :
    Calls Tryd.prog 49 #[.int .i64 19, .int .u64 a, .int .u64 b] w fun e w' => e = .returned (.tuple #[.int .u64 (opV 19 a b), .bool true]) ∧ Gb w w' := by
  have Ha := Lib.hid ha'; clear ha'
  have Hb := Lib.hid hb'; clear hb'
  generalize hV : opV 19 a b = V
  have HV := Lib.hid hV; clear hV
  have HX := Lib.hid (sx_range a); have HY := Lib.hid (sx_range b)
  have HZ := Lib.hid (opV_range 2 (sx a) (sx b) HX.out.1 HX.out.2 HY.out.1 HY.out.2)
  go_enter Tryd.func49, Tryd.ntmps49
  go_wp2_with (first | (go_at_call 50; (with_reducible refine (narrowS _ _ (by first | with_reducible exact ha | with_reducible exact hb) (by first | with_reducible exact Ha.out | with_reducible exact Hb.out)).mono ?_); rintro e w' ⟨rfl, rfl⟩) | (go_at_call 50; (with_reducible refine (narrowS _ _ HZ.out.1 HZ.out.2).mono ?_); rintro e w' ⟨rfl, rfl⟩) | (go_at_call 49; (with_reducible refine (refBaseC 2 (by decide) _ _ _ HX.out.1 HX.out.2 HY.out.1 HY.out.2).mono ?_); rintro e w' ⟨rfl, hg⟩) | (go_at_call 69; go_in))
  go_ret2
  refine ⟨ret2b ?_, grownT ((Gb.refl _).alloc _ _) hg⟩
  rw [← HV.out]
  exact w19 a b

set_option maxHeartbeats 1000000 in
theorem ref20 (a b : Int) (w : World) (ha : 0 ≤ a) (ha' : a < 18446744073709551616) (hb : 0 ≤ b) (hb' : b < 18446744073709551616) :
    Calls Tryd.prog 49 #[.int .i64 20, .int .u64 a, .int .u64 b] w fun e w' => e = .returned (.tuple #[.int .u64 (opV 20 a b), .bool true]) ∧ Gb w w' := by
  have Ha := Lib.hid ha'; clear ha'
  have Hb := Lib.hid hb'; clear hb'
  generalize hV : opV 20 a b = V
  have HV := Lib.hid hV; clear hV
  have HX := Lib.hid (sx_range a); have HY := Lib.hid (low5 b)
  have HZ := Lib.hid (opV_range 3 (sx a) ((b % 32)) HX.out.1 HX.out.2 HY.out.1 HY.out.2)
  go_enter Tryd.func49, Tryd.ntmps49
  go_wp2_with (first | (go_at_call 50; (with_reducible refine (narrowS _ _ (by first | with_reducible exact ha | with_reducible exact hb) (by first | with_reducible exact Ha.out | with_reducible exact Hb.out)).mono ?_); rintro e w' ⟨rfl, rfl⟩) | (go_at_call 50; (with_reducible refine (narrowS _ _ HZ.out.1 HZ.out.2).mono ?_); rintro e w' ⟨rfl, rfl⟩) | (go_at_call 49; (with_reducible refine (refBaseC 3 (by decide) _ _ _ HX.out.1 HX.out.2 HY.out.1 HY.out.2).mono ?_); rintro e w' ⟨rfl, hg⟩) | (go_at_call 69; go_in))
  go_ret2
  refine ⟨ret2b ?_, grownT ((Gb.refl _).alloc _ _) hg⟩
  rw [← HV.out]
  exact w20 a b

set_option maxHeartbeats 1000000 in
theorem ref21 (a b : Int) (w : World) (ha : 0 ≤ a) (ha' : a < 18446744073709551616) (hb : 0 ≤ b) (hb' : b < 18446744073709551616) :
    Calls Tryd.prog 49 #[.int .i64 21, .int .u64 a, .int .u64 b] w fun e w' => e = .returned (.tuple #[.int .u64 (opV 21 a b), .bool true]) ∧ Gb w w' := by
  have Ha := Lib.hid ha'; clear ha'
  have Hb := Lib.hid hb'; clear hb'
  generalize hV : opV 21 a b = V
  have HV := Lib.hid hV; clear hV
  have HX := Lib.hid (lowr a); have HY := Lib.hid (low5 b)
  have HZ := Lib.hid (opV_range 7 ((a % 4294967296)) ((b % 32)) HX.out.1 HX.out.2 HY.out.1 HY.out.2)
  go_enter Tryd.func49, Tryd.ntmps49
  go_wp2_with (first | (go_at_call 50; (with_reducible refine (narrowU _ _ (by first | with_reducible exact ha | with_reducible exact hb) (by first | with_reducible exact Ha.out | with_reducible exact Hb.out)).mono ?_); rintro e w' ⟨rfl, rfl⟩) | (go_at_call 50; (with_reducible refine (narrowS _ _ HZ.out.1 HZ.out.2).mono ?_); rintro e w' ⟨rfl, rfl⟩) | (go_at_call 49; (with_reducible refine (refBaseC 7 (by decide) _ _ _ HX.out.1 HX.out.2 HY.out.1 HY.out.2).mono ?_); rintro e w' ⟨rfl, hg⟩) | (go_at_call 69; go_in))
  go_ret2
  refine ⟨ret2b ?_, grownT ((Gb.refl _).alloc _ _) hg⟩
  rw [← HV.out]
  exact w21 a b

set_option maxHeartbeats 1000000 in
theorem ref22 (a b : Int) (w : World) (ha : 0 ≤ a) (ha' : a < 18446744073709551616) (hb : 0 ≤ b) (hb' : b < 18446744073709551616) :
    Calls Tryd.prog 49 #[.int .i64 22, .int .u64 a, .int .u64 b] w fun e w' => e = .returned (.tuple #[.int .u64 (opV 22 a b), .bool true]) ∧ Gb w w' := by
  have Ha := Lib.hid ha'; clear ha'
  have Hb := Lib.hid hb'; clear hb'
  generalize hV : opV 22 a b = V
  have HV := Lib.hid hV; clear hV
  have HX := Lib.hid (sx_range a); have HY := Lib.hid (low5 b)
  have HZ := Lib.hid (opV_range 8 (sx a) ((b % 32)) HX.out.1 HX.out.2 HY.out.1 HY.out.2)
  go_enter Tryd.func49, Tryd.ntmps49
  go_wp2_with (first | (go_at_call 50; (with_reducible refine (narrowS _ _ (by first | with_reducible exact ha | with_reducible exact hb) (by first | with_reducible exact Ha.out | with_reducible exact Hb.out)).mono ?_); rintro e w' ⟨rfl, rfl⟩) | (go_at_call 50; (with_reducible refine (narrowS _ _ HZ.out.1 HZ.out.2).mono ?_); rintro e w' ⟨rfl, rfl⟩) | (go_at_call 49; (with_reducible refine (refBaseC 8 (by decide) _ _ _ HX.out.1 HX.out.2 HY.out.1 HY.out.2).mono ?_); rintro e w' ⟨rfl, hg⟩) | (go_at_call 69; go_in))
  go_ret2
  refine ⟨ret2b ?_, grownT ((Gb.refl _).alloc _ _) hg⟩
  rw [← HV.out]
  exact w22 a b

set_option maxHeartbeats 1000000 in
theorem ref23 (a b : Int) (w : World) (ha : 0 ≤ a) (ha' : a < 18446744073709551616) (hb : 0 ≤ b) (hb' : b < 18446744073709551616) :
    Calls Tryd.prog 49 #[.int .i64 23, .int .u64 a, .int .u64 b] w fun e w' => e = .returned (.tuple #[.int .u64 (opV 23 a b), .bool true]) ∧ Gb w w' := by
  have Ha := Lib.hid ha'; clear ha'
  have Hb := Lib.hid hb'; clear hb'
  generalize hV : opV 23 a b = V
  have HV := Lib.hid hV; clear hV
  have HX := Lib.hid (sx_range a); have HY := Lib.hid (sx_range b)
  have HZ := Lib.hid (opV_range 11 (sx a) (sx b) HX.out.1 HX.out.2 HY.out.1 HY.out.2)
  go_enter Tryd.func49, Tryd.ntmps49
  go_wp2_with (first | (go_at_call 50; (with_reducible refine (narrowS _ _ (by first | with_reducible exact ha | with_reducible exact hb) (by first | with_reducible exact Ha.out | with_reducible exact Hb.out)).mono ?_); rintro e w' ⟨rfl, rfl⟩) | (go_at_call 50; (with_reducible refine (narrowS _ _ HZ.out.1 HZ.out.2).mono ?_); rintro e w' ⟨rfl, rfl⟩) | (go_at_call 49; (with_reducible refine (refBaseC 11 (by decide) _ _ _ HX.out.1 HX.out.2 HY.out.1 HY.out.2).mono ?_); rintro e w' ⟨rfl, hg⟩) | (go_at_call 69; go_in))
  go_ret2
  refine ⟨ret2b ?_, grownT ((Gb.refl _).alloc _ _) hg⟩
  rw [← HV.out]
  exact w23 a b

set_option maxHeartbeats 1000000 in
theorem ref24 (a b : Int) (w : World) (ha : 0 ≤ a) (ha' : a < 18446744073709551616) (hb : 0 ≤ b) (hb' : b < 18446744073709551616) :
    Calls Tryd.prog 49 #[.int .i64 24, .int .u64 a, .int .u64 b] w fun e w' => e = .returned (.tuple #[.int .u64 (opV 24 a b), .bool true]) ∧ Gb w w' := by
  have Ha := Lib.hid ha'; clear ha'
  have Hb := Lib.hid hb'; clear hb'
  generalize hV : opV 24 a b = V
  have HV := Lib.hid hV; clear hV
  have HX := Lib.hid (sx_range a); have HY := Lib.hid (sx_range b)
  have HZ := Lib.hid (opV_range 14 (sx a) (sx b) HX.out.1 HX.out.2 HY.out.1 HY.out.2)
  go_enter Tryd.func49, Tryd.ntmps49
  go_wp2_with (first | (go_at_call 50; (with_reducible refine (narrowS _ _ (by first | with_reducible exact ha | with_reducible exact hb) (by first | with_reducible exact Ha.out | with_reducible exact Hb.out)).mono ?_); rintro e w' ⟨rfl, rfl⟩) | (go_at_call 50; (with_reducible refine (narrowS _ _ HZ.out.1 HZ.out.2).mono ?_); rintro e w' ⟨rfl, rfl⟩) | (go_at_call 49; (with_reducible refine (refBaseC 14 (by decide) _ _ _ HX.out.1 HX.out.2 HY.out.1 HY.out.2).mono ?_); rintro e w' ⟨rfl, hg⟩) | (go_at_call 69; go_in))
  go_ret2
  refine ⟨ret2b ?_, grownT ((Gb.refl _).alloc _ _) hg⟩
  rw [← HV.out]
  exact w24 a b

set_option maxHeartbeats 1000000 in
theorem ref25 (a b : Int) (w : World) (ha : 0 ≤ a) (ha' : a < 18446744073709551616) (hb : 0 ≤ b) (hb' : b < 18446744073709551616) :
    Calls Tryd.prog 49 #[.int .i64 25, .int .u64 a, .int .u64 b] w fun e w' => e = .returned (.tuple #[.int .u64 (opV 25 a b), .bool true]) ∧ Gb w w' := by
  have Ha := Lib.hid ha'; clear ha'
  have Hb := Lib.hid hb'; clear hb'
  generalize hV : opV 25 a b = V
  have HV := Lib.hid hV; clear hV
  have HX := Lib.hid (lowr a); have HY := Lib.hid (lowr b)
  have HZ := Lib.hid (opV_range 15 ((a % 4294967296)) ((b % 4294967296)) HX.out.1 HX.out.2 HY.out.1 HY.out.2)
  go_enter Tryd.func49, Tryd.ntmps49
  go_wp2_with (first | (go_at_call 50; (with_reducible refine (narrowU _ _ (by first | with_reducible exact ha | with_reducible exact hb) (by first | with_reducible exact Ha.out | with_reducible exact Hb.out)).mono ?_); rintro e w' ⟨rfl, rfl⟩) | (go_at_call 50; (with_reducible refine (narrowS _ _ HZ.out.1 HZ.out.2).mono ?_); rintro e w' ⟨rfl, rfl⟩) | (go_at_call 49; (with_reducible refine (refBaseC 15 (by decide) _ _ _ HX.out.1 HX.out.2 HY.out.1 HY.out.2).mono ?_); rintro e w' ⟨rfl, hg⟩) | (go_at_call 69; go_in))
  go_ret2
  refine ⟨ret2b ?_, grownT ((Gb.refl _).alloc _ _) hg⟩
  rw [← HV.out]
  exact w25 a b

set_option maxHeartbeats 1000000 in
theorem ref26 (a b : Int) (w : World) (ha : 0 ≤ a) (ha' : a < 18446744073709551616) (hb : 0 ≤ b) (hb' : b < 18446744073709551616) :
    Calls Tryd.prog 49 #[.int .i64 26, .int .u64 a, .int .u64 b] w fun e w' => e = .returned (.tuple #[.int .u64 (opV 26 a b), .bool true]) ∧ Gb w w' := by
  have Ha := Lib.hid ha'; clear ha'
  have Hb := Lib.hid hb'; clear hb'
  generalize hV : opV 26 a b = V
  have HV := Lib.hid hV; clear hV
  have HX := Lib.hid (sx_range a); have HY := Lib.hid (sx_range b)
  have HZ := Lib.hid (opV_range 16 (sx a) (sx b) HX.out.1 HX.out.2 HY.out.1 HY.out.2)
  go_enter Tryd.func49, Tryd.ntmps49
  go_wp2_with (first | (go_at_call 50; (with_reducible refine (narrowS _ _ (by first | with_reducible exact ha | with_reducible exact hb) (by first | with_reducible exact Ha.out | with_reducible exact Hb.out)).mono ?_); rintro e w' ⟨rfl, rfl⟩) | (go_at_call 50; (with_reducible refine (narrowS _ _ HZ.out.1 HZ.out.2).mono ?_); rintro e w' ⟨rfl, rfl⟩) | (go_at_call 49; (with_reducible refine (refBaseC 16 (by decide) _ _ _ HX.out.1 HX.out.2 HY.out.1 HY.out.2).mono ?_); rintro e w' ⟨rfl, hg⟩) | (go_at_call 69; go_in))
  go_ret2
  refine ⟨ret2b ?_, grownT ((Gb.refl _).alloc _ _) hg⟩
  rw [← HV.out]
  exact w26 a b

set_option maxHeartbeats 1000000 in
theorem ref27 (a b : Int) (w : World) (ha : 0 ≤ a) (ha' : a < 18446744073709551616) (hb : 0 ≤ b) (hb' : b < 18446744073709551616) :
    Calls Tryd.prog 49 #[.int .i64 27, .int .u64 a, .int .u64 b] w fun e w' => e = .returned (.tuple #[.int .u64 (opV 27 a b), .bool true]) ∧ Gb w w' := by
  have Ha := Lib.hid ha'; clear ha'
  have Hb := Lib.hid hb'; clear hb'
  generalize hV : opV 27 a b = V
  have HV := Lib.hid hV; clear hV
  have HX := Lib.hid (lowr a); have HY := Lib.hid (lowr b)
  have HZ := Lib.hid (opV_range 17 ((a % 4294967296)) ((b % 4294967296)) HX.out.1 HX.out.2 HY.out.1 HY.out.2)
  go_enter Tryd.func49, Tryd.ntmps49
  go_wp2_with (first | (go_at_call 50; (with_reducible refine (narrowU _ _ (by first | with_reducible exact ha | with_reducible exact hb) (by first | with_reducible exact Ha.out | with_reducible exact Hb.out)).mono ?_); rintro e w' ⟨rfl, rfl⟩) | (go_at_call 50; (with_reducible refine (narrowS _ _ HZ.out.1 HZ.out.2).mono ?_); rintro e w' ⟨rfl, rfl⟩) | (go_at_call 49; (with_reducible refine (refBaseC 17 (by decide) _ _ _ HX.out.1 HX.out.2 HY.out.1 HY.out.2).mono ?_); rintro e w' ⟨rfl, hg⟩) | (go_at_call 69; go_in))
  go_ret2
  refine ⟨ret2b ?_, grownT ((Gb.refl _).alloc _ _) hg⟩
  rw [← HV.out]
  exact w27 a b

end Go.Proofs.YtoehfncgkkfdeaaDoor
