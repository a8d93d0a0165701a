/- The document's leaves for chapter 1 (bits, powers, logic bit by bit, the upper half of a product, sizes and signs, low bits): what each answers. Conditions: the ranges that each theorem names. -/
import Derived.Test.YtoehfncgkkfdeaaDoorRows
import Derived.WalkKit
import Derived.ProofKit
import Derived.OpenShut
import Derived.WalkSpells
import Derived.Lib.Hide
import Derived.Test.YtoehfncgkkfdeaaDoorNumPlain
import Derived.Test.YtoehfncgkkfdeaaDoorNumDo
namespace Go.Proofs.YtoehfncgkkfdeaaDoor
open Go.RowKit
set_option linter.unusedVariables false
open Pl

namespace Pl
def pw (k : Nat) : Int := 2 ^ k % 18446744073709551616
def dv (a : Int) (k : Nat) : Int := a / 2 ^ k
def bt (a : Int) (k : Nat) : Int := a / 2 ^ k % 2
theorem pw_succ (k : Nat) : IntKind.u64.wrap (pw k * 2) = pw (k + 1) := by
  rw [IntKind.wrap_u64]; unfold pw; rw [Int.pow_succ]; omega
theorem pw_lt (k : Nat) (h : k < 64) : pw k = 2 ^ k := by
  unfold pw
  apply Int.emod_eq_of_lt (Int.le_of_lt (two_pow_pos k))
  have := pow_split k (by omega)
  have h2 : (2 : Int) ^ (64 - k) = 2 * 2 ^ (63 - k) := by rw [show 64 - k = 63 - k + 1 by omega, Int.pow_succ]; omega
  have h3 := two_pow_pos (63 - k)
  have h4 := two_pow_pos k
  rw [h2] at this
  have h5 : (2 : Int) ^ k * 2 ≤ 2 ^ k * (2 * 2 ^ (63 - k)) := Int.mul_le_mul_of_nonneg_left (by omega) (by omega)
  omega
theorem pw_64 : pw 64 = 0 := by decide
theorem pw_range (k : Nat) : 0 ≤ pw k ∧ pw k < 18446744073709551616 := by unfold pw; omega
theorem dv_nonneg {a : Int} (h : 0 ≤ a) (k : Nat) : 0 ≤ dv a k := Int.ediv_nonneg h (Int.le_of_lt (two_pow_pos k))
theorem dv_succ (a : Int) (k : Nat) : dv a k / 2 = dv a (k + 1) := by
  unfold dv; rw [Int.ediv_ediv_of_nonneg (Int.le_of_lt (two_pow_pos k)), Int.pow_succ]
theorem dv_le {a : Int} (h : 0 ≤ a) (k : Nat) : dv a k ≤ a := Int.ediv_le_self _ h
theorem dv_step {a : Int} (h : 0 ≤ a) (h' : a < 18446744073709551616) (k : Nat) : IntKind.u64.wrap ((dv a k).tdiv 2) = dv a (k + 1) := by
  have h0 := dv_nonneg h k
  have h1 := dv_le h k
  rw [IntKind.wrap_u64, Int.tdiv_eq_ediv_of_nonneg h0, ← dv_succ]; omega
end Pl

set_option maxHeartbeats 400000 in
theorem power_any (n : Int) (w : World) (h0 : 0 ≤ n) (h1 : n ≤ 64) :
    Calls Tryd.prog 70 #[.int .i64 n] w fun e w' => e = .returned (.int .u64 (pw n.toNat)) ∧ w = w' := by
  go_enter Tryd.func70, Tryd.ntmps70
  go_wp2
  go_loop [3, 0] (fun v3 v0 => ∃ k : Nat, (k : Int) ≤ n ∧ v0 = .int .i64 (n - k) ∧ v3 = .int .u64 (pw k)) (fun _ v0 => (intOf v0).toNat)
  case atStart => exact ⟨0, by omega, by simp, rfl⟩
  case round =>
    obtain ⟨k, hk, rfl, rfl⟩ := hrel
    by_cases hlt : (k : Int) < n
    · go_wp2
      go_round
      case rel => exact ⟨k + 1, by omega, by rw [show n - (k : Int) - 1 = n - ((k + 1 : Nat) : Int) by omega], by rw [pw_succ]⟩
      case measure => simp [intOf]; omega
    · go_wp2
      go_ret
      exact ⟨ret1 (by rw [show n.toNat = k by omega]), rfl⟩

set_option maxHeartbeats 400000 in
theorem bit_any (a i : Int) (w : World) (ha : 0 ≤ a) (ha' : a < 18446744073709551616) (h0 : 0 ≤ i) (h1 : i ≤ 64) :
    Calls Tryd.prog 77 #[.int .u64 a, .int .i64 i] w fun e w' => e = .returned (.int .u64 (bt a i.toNat)) ∧ w = w' := by
  have Ha := Lib.hid ha'; clear ha'
  go_enter Tryd.func77, Tryd.ntmps77
  go_wp2
  go_loop [0, 1] (fun v0 v1 => ∃ k : Nat, (k : Int) ≤ i ∧ v1 = .int .i64 (i - k) ∧ v0 = .int .u64 (dv a k)) (fun _ v1 => (intOf v1).toNat)
  case atStart => exact ⟨0, by omega, by simp, by simp [dv]⟩
  case round =>
    obtain ⟨k, hk, rfl, rfl⟩ := hrel
    have hd := dv_nonneg ha k
    by_cases hlt : (k : Int) < i
    · go_wp2
      go_round
      case rel => exact ⟨k + 1, by omega, by rw [show i - (k : Int) - 1 = i - ((k + 1 : Nat) : Int) by omega], by rw [dv_step ha Ha.out]⟩
      case measure => simp [intOf]; omega
    · go_wp2
      go_ret
      exact ⟨ret1 (by rw [show i.toNat = k by omega]; rfl), rfl⟩

namespace Pl
def lo (how a b : Int) : Nat := if how = 1 then a.toNat ^^^ b.toNat else if how = 2 then a.toNat ||| b.toNat else a.toNat &&& b.toNat
def lr (how a b : Int) (k : Nat) : Int := ((lo how a b % 2 ^ k : Nat) : Int)
theorem bt_eq {a : Int} (h : 0 ≤ a) (k : Nat) : bt a k = if a.toNat.testBit k then 1 else 0 := by
  obtain ⟨x, rfl⟩ := Int.eq_ofNat_of_zero_le h
  unfold bt
  rw [Nat.testBit_eq_decide_div_mod_eq, Int.toNat_natCast]
  have : ((x : Int) / 2 ^ k % 2) = ((x / 2 ^ k % 2 : Nat) : Int) := by simp
  rw [this]
  by_cases h : x / 2 ^ k % 2 = 1
  · simp [h]
  · have : x / 2 ^ k % 2 = 0 := by omega
    simp [this]
theorem bt_or {a : Int} (k : Nat) : bt a k = 0 ∨ bt a k = 1 := by unfold bt; omega
theorem lr_zero (how a b : Int) : lr how a b 0 = 0 := by simp [lr, Nat.mod_one]
theorem lr_succ (how a b : Int) (k : Nat) : lr how a b (k + 1) = lr how a b k + if (lo how a b).testBit k then 2 ^ k else 0 := by
  unfold lr
  rw [Nat.mod_pow_succ, Nat.testBit_eq_decide_div_mod_eq]
  by_cases h : lo how a b / 2 ^ k % 2 = 1
  · simp [h]
  · have : lo how a b / 2 ^ k % 2 = 0 := by omega
    simp [this]
theorem lr_lt (how a b : Int) (k : Nat) : 0 ≤ lr how a b k ∧ lr how a b k < 2 ^ k := by
  unfold lr
  have := Nat.mod_lt (lo how a b) (Nat.two_pow_pos k)
  refine ⟨Int.natCast_nonneg _, ?_⟩
  have h2 : ((2 ^ k : Nat) : Int) = 2 ^ k := by simp
  rw [← h2]; omega
theorem lr_yes {how a b : Int} {k : Nat} (hk : k < 64) (h : (lo how a b).testBit k = true) : IntKind.u64.wrap (lr how a b k + pw k) = lr how a b (k + 1) := by
  rw [lr_succ, h, if_pos rfl, pw_lt k hk, IntKind.wrap_u64]
  have h1 := lr_lt how a b k
  have h2 := two_pow_pos k
  apply Int.emod_eq_of_lt (by omega)
  have h3 := pow_split (k + 1) (by omega)
  have h4 := two_pow_pos (64 - (k + 1))
  have h5 : (2 : Int) ^ (k + 1) * 1 ≤ 2 ^ (k + 1) * 2 ^ (64 - (k + 1)) := Int.mul_le_mul_of_nonneg_left (by omega) (Int.le_of_lt (two_pow_pos _))
  rw [Int.pow_succ] at h5 h3
  omega
theorem lr_no {how a b : Int} {k : Nat} (h : (lo how a b).testBit k = false) : lr how a b k = lr how a b (k + 1) := by
  rw [lr_succ, h]; simp
theorem lo_lt {how a b : Int} (ha : 0 ≤ a) (ha' : a < 18446744073709551616) (hb : 0 ≤ b) (hb' : b < 18446744073709551616) : lo how a b < 2 ^ 64 := by
  unfold lo
  split
  · exact Nat.xor_lt_two_pow (by omega) (by omega)
  · split
    · exact Nat.or_lt_two_pow (by omega) (by omega)
    · exact Nat.and_lt_two_pow _ (by omega)
theorem lr_all {how a b : Int} (ha : 0 ≤ a) (ha' : a < 18446744073709551616) (hb : 0 ≤ b) (hb' : b < 18446744073709551616) : lr how a b 64 = (lo how a b : Int) := by
  unfold lr; rw [Nat.mod_eq_of_lt (lo_lt ha ha' hb hb')]
theorem lo_bit1 (a b : Int) (k : Nat) (ha : 0 ≤ a) (hb : 0 ≤ b) : (lo 1 a b).testBit k = (bt a k != bt b k) := by
  rw [bt_eq ha, bt_eq hb]; show (a.toNat ^^^ b.toNat).testBit k = _; rw [Nat.testBit_xor]
  cases a.toNat.testBit k <;> cases b.toNat.testBit k <;> rfl
theorem lo_bit2 (a b : Int) (k : Nat) (ha : 0 ≤ a) (hb : 0 ≤ b) : (lo 2 a b).testBit k = (bt a k == 1 || bt b k == 1) := by
  rw [bt_eq ha, bt_eq hb]; show (a.toNat ||| b.toNat).testBit k = _; rw [Nat.testBit_or]
  cases a.toNat.testBit k <;> cases b.toNat.testBit k <;> rfl
theorem lo_bit3 (a b : Int) (k : Nat) (ha : 0 ≤ a) (hb : 0 ≤ b) : (lo 3 a b).testBit k = (bt a k == 1 && bt b k == 1) := by
  rw [bt_eq ha, bt_eq hb]; show (a.toNat &&& b.toNat).testBit k = _; rw [Nat.testBit_and]
  cases a.toNat.testBit k <;> cases b.toNat.testBit k <;> rfl
end Pl

set_option maxHeartbeats 1000000 in
theorem logic_1 (a b : Int) (w : World) (ha : 0 ≤ a) (ha' : a < 18446744073709551616) (hb : 0 ≤ b) (hb' : b < 18446744073709551616) :
    Calls Tryd.prog 64 #[.int .i64 1, .int .u64 a, .int .u64 b] w fun e w' => e = .returned (.int .u64 (lo 1 a b : Int)) ∧ w = w' := by
  rw [← lr_all ha ha' hb hb']
  have Ha := Lib.hid ha'; clear ha'
  have Hb := Lib.hid hb'; clear hb'
  go_enter Tryd.func64, Tryd.ntmps64
  go_wp2
  go_loop [7, 8] (fun v7 v8 => ∃ k : Nat, k ≤ 64 ∧ v8 = .int .i64 k ∧ v7 = .int .u64 (lr 1 a b k)) (fun _ v8 => 64 - (intOf v8).toNat)
  case atStart => exact ⟨0, by omega, rfl, by rw [lr_zero]⟩
  case round =>
    obtain ⟨k, hk, rfl, rfl⟩ := hrel
    by_cases hlt : k < 64
    · have HL := Lib.hid (lo_bit1 a b k ha hb)
      have hpa : bt a k = 0 ∨ bt a k = 1 := bt_or k
      have hpb : bt b k = 0 ∨ bt b k = 1 := bt_or k
      rcases hpa with hpa | hpa <;> rcases hpb with hpb | hpb
      all_goals
        go_wp2_with (first | (go_at_call 77; refine (bit_any _ _ _ (by first | with_reducible exact ha | with_reducible exact hb) (by first | with_reducible exact Ha.out | with_reducible exact Hb.out) (by omega) (by omega)).mono ?_; rintro e w' ⟨rfl, rfl⟩; rw [Int.toNat_natCast]) | (go_at_call 70; refine (power_any k _ (by omega) (by omega)).mono ?_; rintro e w' ⟨rfl, rfl⟩; rw [Int.toNat_natCast]))
        have HL := HL.out
        rw [hpa, hpb] at HL
        go_round
        case rel => exact ⟨k + 1, by omega, by go_num, by first | rw [lr_yes hlt HL] | rw [← lr_no HL]⟩
        case measure => simp [intOf]; omega
    · go_wp2
      go_ret
      exact ⟨ret1 (by rw [show k = 64 by omega]), rfl⟩

set_option maxHeartbeats 1000000 in
theorem logic_2 (a b : Int) (w : World) (ha : 0 ≤ a) (ha' : a < 18446744073709551616) (hb : 0 ≤ b) (hb' : b < 18446744073709551616) :
    Calls Tryd.prog 64 #[.int .i64 2, .int .u64 a, .int .u64 b] w fun e w' => e = .returned (.int .u64 (lo 2 a b : Int)) ∧ w = w' := by
  rw [← lr_all ha ha' hb hb']
  have Ha := Lib.hid ha'; clear ha'
  have Hb := Lib.hid hb'; clear hb'
  go_enter Tryd.func64, Tryd.ntmps64
  go_wp2
  go_loop [7, 8] (fun v7 v8 => ∃ k : Nat, k ≤ 64 ∧ v8 = .int .i64 k ∧ v7 = .int .u64 (lr 2 a b k)) (fun _ v8 => 64 - (intOf v8).toNat)
  case atStart => exact ⟨0, by omega, rfl, by rw [lr_zero]⟩
  case round =>
    obtain ⟨k, hk, rfl, rfl⟩ := hrel
    by_cases hlt : k < 64
    · have HL := Lib.hid (lo_bit2 a b k ha hb)
      have hpa : bt a k = 0 ∨ bt a k = 1 := bt_or k
      have hpb : bt b k = 0 ∨ bt b k = 1 := bt_or k
      rcases hpa with hpa | hpa <;> rcases hpb with hpb | hpb
      all_goals
        go_wp2_with (first | (go_at_call 77; refine (bit_any _ _ _ (by first | with_reducible exact ha | with_reducible exact hb) (by first | with_reducible exact Ha.out | with_reducible exact Hb.out) (by omega) (by omega)).mono ?_; rintro e w' ⟨rfl, rfl⟩; rw [Int.toNat_natCast]) | (go_at_call 70; refine (power_any k _ (by omega) (by omega)).mono ?_; rintro e w' ⟨rfl, rfl⟩; rw [Int.toNat_natCast]))
        have HL := HL.out
        rw [hpa, hpb] at HL
        go_round
        case rel => exact ⟨k + 1, by omega, by go_num, by first | rw [lr_yes hlt HL] | rw [← lr_no HL]⟩
        case measure => simp [intOf]; omega
    · go_wp2
      go_ret
      exact ⟨ret1 (by rw [show k = 64 by omega]), rfl⟩

set_option maxHeartbeats 1000000 in
theorem logic_3 (a b : Int) (w : World) (ha : 0 ≤ a) (ha' : a < 18446744073709551616) (hb : 0 ≤ b) (hb' : b < 18446744073709551616) :
    Calls Tryd.prog 64 #[.int .i64 3, .int .u64 a, .int .u64 b] w fun e w' => e = .returned (.int .u64 (lo 3 a b : Int)) ∧ w = w' := by
  rw [← lr_all ha ha' hb hb']
  have Ha := Lib.hid ha'; clear ha'
  have Hb := Lib.hid hb'; clear hb'
  go_enter Tryd.func64, Tryd.ntmps64
  go_wp2
  go_loop [7, 8] (fun v7 v8 => ∃ k : Nat, k ≤ 64 ∧ v8 = .int .i64 k ∧ v7 = .int .u64 (lr 3 a b k)) (fun _ v8 => 64 - (intOf v8).toNat)
  case atStart => exact ⟨0, by omega, rfl, by rw [lr_zero]⟩
  case round =>
    obtain ⟨k, hk, rfl, rfl⟩ := hrel
    by_cases hlt : k < 64
    · have HL := Lib.hid (lo_bit3 a b k ha hb)
      have hpa : bt a k = 0 ∨ bt a k = 1 := bt_or k
      have hpb : bt b k = 0 ∨ bt b k = 1 := bt_or k
      rcases hpa with hpa | hpa <;> rcases hpb with hpb | hpb
      all_goals
        go_wp2_with (first | (go_at_call 77; refine (bit_any _ _ _ (by first | with_reducible exact ha | with_reducible exact hb) (by first | with_reducible exact Ha.out | with_reducible exact Hb.out) (by omega) (by omega)).mono ?_; rintro e w' ⟨rfl, rfl⟩; rw [Int.toNat_natCast]) | (go_at_call 70; refine (power_any k _ (by omega) (by omega)).mono ?_; rintro e w' ⟨rfl, rfl⟩; rw [Int.toNat_natCast]))
        have HL := HL.out
        rw [hpa, hpb] at HL
        go_round
        case rel => exact ⟨k + 1, by omega, by go_num, by first | rw [lr_yes hlt HL] | rw [← lr_no HL]⟩
        case measure => simp [intOf]; omega
    · go_wp2
      go_ret
      exact ⟨ret1 (by rw [show k = 64 by omega]), rfl⟩

end Go.Proofs.YtoehfncgkkfdeaaDoor
