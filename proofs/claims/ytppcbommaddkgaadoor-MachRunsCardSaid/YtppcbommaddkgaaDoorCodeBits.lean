/- The document's Room, bits and signed. Memory does not change. Conditions: the ranges that each theorem names. -/
import Derived.Test.YtppcbommaddkgaaDoorCodeUnpackH
namespace Go.Proofs.YtppcbommaddkgaaDoor
open Go.RowKit
set_option linter.unusedVariables false
set_option linter.unusedSimpArgs false
set_option maxRecDepth 10000
open Pc
theorem room_R (w : World) : Calls Tryd.prog 38 #[.int .u8 82] w fun e w' => e = .returned (.tuple #[.int .i64 (1), .int .i64 0]) ∧ w = w' := by
  go_enter Tryd.func38, Tryd.ntmps38
  go_wp2
  go_ret2
  exact ⟨rfl, rfl⟩
theorem room_I (w : World) : Calls Tryd.prog 38 #[.int .u8 73] w fun e w' => e = .returned (.tuple #[.int .i64 (-2048), .int .i64 2047]) ∧ w = w' := by
  go_enter Tryd.func38, Tryd.ntmps38
  go_wp2
  go_ret2
  exact ⟨rfl, rfl⟩
theorem room_S (w : World) : Calls Tryd.prog 38 #[.int .u8 83] w fun e w' => e = .returned (.tuple #[.int .i64 (-2048), .int .i64 2047]) ∧ w = w' := by
  go_enter Tryd.func38, Tryd.ntmps38
  go_wp2
  go_ret2
  exact ⟨rfl, rfl⟩
theorem room_T (w : World) : Calls Tryd.prog 38 #[.int .u8 84] w fun e w' => e = .returned (.tuple #[.int .i64 (0), .int .i64 63]) ∧ w = w' := by
  go_enter Tryd.func38, Tryd.ntmps38
  go_wp2
  go_ret2
  exact ⟨rfl, rfl⟩
theorem room_B (w : World) : Calls Tryd.prog 38 #[.int .u8 66] w fun e w' => e = .returned (.tuple #[.int .i64 (-4096), .int .i64 4094]) ∧ w = w' := by
  go_enter Tryd.func38, Tryd.ntmps38
  go_wp2
  go_ret2
  exact ⟨rfl, rfl⟩
theorem room_U (w : World) : Calls Tryd.prog 38 #[.int .u8 85] w fun e w' => e = .returned (.tuple #[.int .i64 (-524288), .int .i64 524287]) ∧ w = w' := by
  go_enter Tryd.func38, Tryd.ntmps38
  go_wp2
  go_ret2
  exact ⟨rfl, rfl⟩
theorem room_J (w : World) : Calls Tryd.prog 38 #[.int .u8 74] w fun e w' => e = .returned (.tuple #[.int .i64 (-1048576), .int .i64 1048574]) ∧ w = w' := by
  go_enter Tryd.func38, Tryd.ntmps38
  go_wp2
  go_ret2
  exact ⟨rfl, rfl⟩
theorem room_N (w : World) : Calls Tryd.prog 38 #[.int .u8 78] w fun e w' => e = .returned (.tuple #[.int .i64 (1), .int .i64 0]) ∧ w = w' := by
  go_enter Tryd.func38, Tryd.ntmps38
  go_wp2
  go_ret2
  exact ⟨rfl, rfl⟩
theorem room_0 (w : World) : Calls Tryd.prog 38 #[.int .u8 0] w fun e w' => e = .returned (.tuple #[.int .i64 (1), .int .i64 0]) ∧ w = w' := by
  go_enter Tryd.func38, Tryd.ntmps38
  go_wp2
  go_ret2
  exact ⟨rfl, rfl⟩
/-- what bits reads of -/
def lift (x : Int) : Int := if x < 0 then x + 2097152 else x
theorem signed_lo (x n : Int) (w : World) (h0 : 0 ≤ x) (hn : x < n) (hn' : n ≤ 2097152) (h : decide (x ≥ n / 2) = false) : Calls Tryd.prog 48 #[.int .i64 x, .int .i64 n] w fun e w' => e = .returned (.int .i64 x) ∧ w = w' := by
  have h' : decide (n / 2 ≤ x) = false := h
  go_enter Tryd.func48, Tryd.ntmps48
  go_wp2
  go_ret
  exact ⟨rfl, rfl⟩
theorem signed_hi (x n : Int) (w : World) (h0 : 0 ≤ x) (hn : x < n) (hn' : n ≤ 2097152) (h : decide (x ≥ n / 2) = true) : Calls Tryd.prog 48 #[.int .i64 x, .int .i64 n] w fun e w' => e = .returned (.int .i64 (x - n)) ∧ w = w' := by
  have h' : decide (n / 2 ≤ x) = true := h
  go_enter Tryd.func48, Tryd.ntmps48
  go_wp2
  go_ret
  exact ⟨rfl, rfl⟩
theorem bits_pos (x : Int) (m n : Nat) (w : World) (hx : 0 ≤ x ∧ x < 1048576) (hm : m ≤ 20) (hn : n ≤ 20) :
    Calls Tryd.prog 39 #[.int .i64 x, .int .i64 (m : Int), .int .i64 (n : Int)] w fun e w' => e = .returned (.int .i64 (x / 2 ^ m % 2 ^ n)) ∧ w = w' := by
  have hlt : decide (x < 0) = false := by simp; omega
  go_enter Tryd.func39, Tryd.ntmps39
  go_wp2
  go_loop [0, 7] (fun s i => ∃ (k : Nat) (v : Int), k ≤ m ∧ i = .int .i64 k ∧ s = .int .i64 v ∧ 0 ≤ v ∧ v < 2097152 ∧ Hid (x / 2 ^ m = v / 2 ^ (m - k))) (fun _ i => m - (intOf i).toNat)
  case atStart => exact ⟨0, x, Nat.zero_le _, rfl, rfl, hx.1, by omega, Lib.hid (by simp)⟩
  case round =>
    obtain ⟨k, v, hk, rfl, rfl, hv0, hv1, hv⟩ := hrel
    by_cases hkm : k < m
    · have hkm' : decide ((k : Int) < (m : Int)) = true := by simp; omega
      have hst : x / 2 ^ m = v / 2 / 2 ^ (m - (k + 1)) := by
        rw [hv.out, show m - k = (m - (k + 1)) + 1 by omega, Int.pow_succ, Int.mul_comm, Int.ediv_ediv_of_nonneg (by decide)]
      have Hst := Lib.hid hst
      clear hst
      go_wp2
      go_round
      case rel => exact ⟨k + 1, v / 2, by omega, by go_num, by go_num, by omega, by omega, Hst⟩
      case measure => simp [intOf]; omega
    · have hkm' : decide ((k : Int) < (m : Int)) = false := by simp; omega
      obtain rfl : k = m := by omega
      have hX : v = x / 2 ^ k := by rw [hv.out]; simp
      go_wp2
      go_loop [8, 9] (fun s i => ∃ (j : Nat) (p : Int), j ≤ n ∧ i = .int .i64 j ∧ s = .int .i64 p ∧ 0 < p ∧ p ≤ 1048576 ∧ Hid (p = 2 ^ j)) (fun _ i => n - (intOf i).toNat)
      case atStart => exact ⟨0, 1, Nat.zero_le _, rfl, rfl, by decide, by decide, Lib.hid (by simp)⟩
      case round =>
        obtain ⟨j, p, hj, rfl, rfl, hp0, hp1, hp⟩ := hrel
        by_cases hjn : j < n
        · have hjn' : decide ((j : Int) < (n : Int)) = true := by simp; omega
          have hb : p * 2 ≤ 1048576 := by
            have : (2 : Nat) ^ (j + 1) ≤ 2 ^ 20 := Nat.pow_le_pow_right (by decide) (by omega)
            have e : p * 2 = ((2 ^ (j + 1) : Nat) : Int) := by rw [hp.out]; simp [Int.pow_succ]
            omega
          go_wp2
          go_round
          case rel => exact ⟨j + 1, p * 2, by omega, by go_num, by go_num, by omega, hb, Lib.hid (by rw [hp.out, Int.pow_succ])⟩
          case measure => simp [intOf]; omega
        · have hjn' : decide ((j : Int) < (n : Int)) = false := by simp; omega
          obtain rfl : j = n := by omega
          go_wp2
          go_ret
          rw [← hX, ← hp.out]
          exact ⟨rfl, rfl⟩
theorem bits_neg (x : Int) (m n : Nat) (w : World) (hx : -1048576 ≤ x ∧ x < 0) (hm : m ≤ 20) (hn : n ≤ 20) :
    Calls Tryd.prog 39 #[.int .i64 x, .int .i64 (m : Int), .int .i64 (n : Int)] w fun e w' => e = .returned (.int .i64 ((x + 2097152) / 2 ^ m % 2 ^ n)) ∧ w = w' := by
  have hlt : decide (x < 0) = true := by simp; omega
  go_enter Tryd.func39, Tryd.ntmps39
  go_wp2
  go_loop [0, 7] (fun s i => ∃ (k : Nat) (v : Int), k ≤ m ∧ i = .int .i64 k ∧ s = .int .i64 v ∧ 0 ≤ v ∧ v < 2097152 ∧ Hid ((x + 2097152) / 2 ^ m = v / 2 ^ (m - k))) (fun _ i => m - (intOf i).toNat)
  case atStart => exact ⟨0, x + 2097152, Nat.zero_le _, rfl, by go_num, by omega, by omega, Lib.hid (by simp)⟩
  case round =>
    obtain ⟨k, v, hk, rfl, rfl, hv0, hv1, hv⟩ := hrel
    by_cases hkm : k < m
    · have hkm' : decide ((k : Int) < (m : Int)) = true := by simp; omega
      have hst : (x + 2097152) / 2 ^ m = v / 2 / 2 ^ (m - (k + 1)) := by
        rw [hv.out, show m - k = (m - (k + 1)) + 1 by omega, Int.pow_succ, Int.mul_comm, Int.ediv_ediv_of_nonneg (by decide)]
      have Hst := Lib.hid hst
      clear hst
      go_wp2
      go_round
      case rel => exact ⟨k + 1, v / 2, by omega, by go_num, by go_num, by omega, by omega, Hst⟩
      case measure => simp [intOf]; omega
    · have hkm' : decide ((k : Int) < (m : Int)) = false := by simp; omega
      obtain rfl : k = m := by omega
      have hX : v = (x + 2097152) / 2 ^ k := by rw [hv.out]; simp
      go_wp2
      go_loop [8, 9] (fun s i => ∃ (j : Nat) (p : Int), j ≤ n ∧ i = .int .i64 j ∧ s = .int .i64 p ∧ 0 < p ∧ p ≤ 1048576 ∧ Hid (p = 2 ^ j)) (fun _ i => n - (intOf i).toNat)
      case atStart => exact ⟨0, 1, Nat.zero_le _, rfl, rfl, by decide, by decide, Lib.hid (by simp)⟩
      case round =>
        obtain ⟨j, p, hj, rfl, rfl, hp0, hp1, hp⟩ := hrel
        by_cases hjn : j < n
        · have hjn' : decide ((j : Int) < (n : Int)) = true := by simp; omega
          have hb : p * 2 ≤ 1048576 := by
            have : (2 : Nat) ^ (j + 1) ≤ 2 ^ 20 := Nat.pow_le_pow_right (by decide) (by omega)
            have e : p * 2 = ((2 ^ (j + 1) : Nat) : Int) := by rw [hp.out]; simp [Int.pow_succ]
            omega
          go_wp2
          go_round
          case rel => exact ⟨j + 1, p * 2, by omega, by go_num, by go_num, by omega, hb, Lib.hid (by rw [hp.out, Int.pow_succ])⟩
          case measure => simp [intOf]; omega
        · have hjn' : decide ((j : Int) < (n : Int)) = false := by simp; omega
          obtain rfl : j = n := by omega
          go_wp2
          go_ret
          rw [← hX, ← hp.out]
          exact ⟨rfl, rfl⟩
theorem bits_any (x : Int) (m n : Nat) (w : World) (hx : -1048576 ≤ x ∧ x < 1048576) (hm : m ≤ 20) (hn : n ≤ 20) :
    Calls Tryd.prog 39 #[.int .i64 x, .int .i64 (m : Int), .int .i64 (n : Int)] w fun e w' => e = .returned (.int .i64 (lift x / 2 ^ m % 2 ^ n)) ∧ w = w' := by
  by_cases h : x < 0
  · rw [show lift x = x + 2097152 by simp [lift, h]]; exact bits_neg x m n w ⟨hx.1, h⟩ hm hn
  · rw [show lift x = x by simp [lift, h]]; exact bits_pos x m n w ⟨by omega, hx.2⟩ hm hn
end Go.Proofs.YtppcbommaddkgaaDoor
