/- The document's Do at any number, num.Narrow, num.Do: what they answer. At most new blocks in memory. Conditions: each theorem's. -/
import Derived.Test.YtoehfncgkkfdeaaDoorRows
import Derived.WalkKit
import Derived.ProofKit
import Derived.OpenShut
import Derived.WalkSpells
import Derived.Lib.Hide
import Derived.Handy
import Derived.Test.YtoehfncgkkfdeaaDoorNumRefD
namespace Go.Proofs.YtoehfncgkkfdeaaDoor
open Go.RowKit
set_option linter.unusedVariables false
open Pl

/-- The document's Do at any operation's number. -/
theorem ref_any (op a b : Int) (w : World) (h1 : 1 ≤ op) (h2 : op ≤ 27) (ha : 0 ≤ a) (ha' : a < 18446744073709551616) (hb : 0 ≤ b) (hb' : b < 18446744073709551616) :
    Calls Tryd.prog 49 #[.int .i64 op, .int .u64 a, .int .u64 b] w fun e w' => e = .returned (.tuple #[.int .u64 (opV op a b), .bool true]) ∧ Gb w w' := by
  have : op = 1 ∨ op = 2 ∨ op = 3 ∨ op = 4 ∨ op = 5 ∨ op = 6 ∨ op = 7 ∨ op = 8 ∨ op = 9 ∨ op = 10 ∨ op = 11 ∨ op = 12 ∨ op = 13 ∨ op = 14 ∨ op = 15 ∨ op = 16 ∨ op = 17 ∨ op = 18 ∨ op = 19 ∨ op = 20 ∨ op = 21 ∨ op = 22 ∨ op = 23 ∨ op = 24 ∨ op = 25 ∨ op = 26 ∨ op = 27 := by omega
  rcases this with rfl | rfl | rfl | rfl | rfl | rfl | rfl | rfl | rfl | rfl | rfl | rfl | rfl | rfl | rfl | rfl | rfl | rfl | rfl | rfl | rfl | rfl | rfl | rfl | rfl | rfl | rfl
  · exact ref1 a b w ha ha' hb hb'
  · exact ref2 a b w ha ha' hb hb'
  · exact ref3 a b w ha ha' hb hb'
  · exact ref4 a b w ha ha' hb hb'
  · exact ref5 a b w ha ha' hb hb'
  · exact ref6 a b w ha ha' hb hb'
  · exact ref7 a b w ha ha' hb hb'
  · exact ref8 a b w ha ha' hb hb'
  · exact ref9 a b w ha ha' hb hb'
  · exact ref10 a b w ha ha' hb hb'
  · exact ref11 a b w ha ha' hb hb'
  · exact ref12 a b w ha ha' hb hb'
  · exact ref13 a b w ha ha' hb hb'
  · exact ref14 a b w ha ha' hb hb'
  · exact ref15 a b w ha ha' hb hb'
  · exact ref16 a b w ha ha' hb hb'
  · exact ref17 a b w ha ha' hb hb'
  · exact ref18 a b w ha ha' hb hb'
  · exact ref19 a b w ha ha' hb hb'
  · exact ref20 a b w ha ha' hb hb'
  · exact ref21 a b w ha ha' hb hb'
  · exact ref22 a b w ha ha' hb hb'
  · exact ref23 a b w ha ha' hb hb'
  · exact ref24 a b w ha ha' hb hb'
  · exact ref25 a b w ha ha' hb hb'
  · exact ref26 a b w ha ha' hb hb'
  · exact ref27 a b w ha ha' hb hb'

set_option maxRecDepth 100000 in
/-- At any other number. -/
theorem ref_none (op a b : Int) (w : World) (h : op < 1 ∨ 27 < op) :
    Calls Tryd.prog 49 #[.int .i64 op, .int .u64 a, .int .u64 b] w fun e w' => e = .returned (.tuple #[.int .u64 0, .bool false]) ∧ Gb w w' := by
  rcases h with h | h
  all_goals
    go_enter Tryd.func49, Tryd.ntmps49
    go_wp2_with (go_at_call 69; go_in)
    go_ret2
    exact ⟨rfl, by repeat' (first | (with_reducible exact Gb.refl _) | (with_reducible refine grownN ?_) | (with_reducible refine Gb.alloc ?_ _ _))⟩

/-! num.Narrow -/
namespace Pl
theorem shl_mod (a : Int) (n : Nat) (h : n ≤ 64) : a * 2 ^ (64 - n) % 18446744073709551616 = a % 2 ^ n * 2 ^ (64 - n) := by
  rw [← pow_split n h]
  rw [Int.mul_comm a, Int.mul_comm (2 ^ n), Int.mul_emod_mul_of_pos _ _ (two_pow_pos _), Int.mul_comm]
theorem nar_s (a n : Int) (h1 : 1 ≤ n) (h2 : n ≤ 64) : IntKind.u64.wrap (wrap64 (IntKind.u64.wrap (a * 2 ^ (64 - n).toNat)) / 2 ^ (64 - n).toNat) = nrV true a n := by
  obtain ⟨k, hk⟩ : ∃ k : Nat, n = (k : Int) + 1 := ⟨(n - 1).toNat, by omega⟩
  have e1 : (64 - n).toNat = 64 - (k + 1) := by omega
  have e2 : n.toNat = k + 1 := by omega
  have e3 : (n - 1).toNat = k := by omega
  unfold nrV
  rw [e1, e2, e3, IntKind.wrap_u64, IntKind.wrap_u64, shl_mod a (k + 1) (by omega)]
  have h3 := pow_split (k + 1) (by omega)
  have h4 := two_pow_pos (64 - (k + 1))
  have h5 := Int.emod_lt_of_pos a (two_pow_pos (k + 1))
  have h6 := Int.emod_nonneg a (Int.ne_of_gt (two_pow_pos (k + 1)))
  have h7 : (2 : Int) ^ (k + 1) = 2 * 2 ^ k := by rw [Int.pow_succ]; omega
  have h8 := two_pow_pos k
  have h9 : (2 : Int) ^ (k + 1) ≤ 18446744073709551616 := by
    have : (2 : Int) ^ (k + 1) * 1 ≤ 2 ^ (k + 1) * 2 ^ (64 - (k + 1)) := Int.mul_le_mul_of_nonneg_left (by omega) (Int.le_of_lt (two_pow_pos _))
    omega
  rw [h7] at h3 h5 h6 h9 ⊢
  generalize hr : a % (2 * 2 ^ k) = r at *
  generalize (2 : Int) ^ (64 - (k + 1)) = q at *
  generalize (2 : Int) ^ k = p at *
  have hpq : p * q = 9223372036854775808 := by rw [Int.mul_assoc] at h3; omega
  have hpos : 0 ≤ r * q := Int.mul_nonneg h6 (Int.le_of_lt h4)
  have hq0 : q ≠ 0 := by omega
  by_cases hc : p ≤ r
  · rw [if_pos ⟨rfl, hc⟩]
    have g1 : p * q ≤ r * q := Int.mul_le_mul_of_nonneg_right hc (Int.le_of_lt h4)
    have g2 : r * q < 2 * p * q := Int.mul_lt_mul_of_pos_right h5 h4
    have g3 : wrap64 (r * q) = (r - 2 * p) * q := by rw [Int.sub_mul, h3]; unfold wrap64; omega
    rw [g3, Int.mul_ediv_cancel _ hq0]; omega
  · rw [if_neg (fun x => hc x.2)]
    have g1 : r * q < p * q := Int.mul_lt_mul_of_pos_right (by omega) h4
    have g3 : wrap64 (r * q) = r * q := by unfold wrap64; omega
    rw [g3, Int.mul_ediv_cancel _ hq0]; omega
theorem nar_u (a n : Int) (h1 : 1 ≤ n) (h2 : n ≤ 64) : IntKind.u64.wrap (a * 2 ^ (64 - n).toNat) / 2 ^ (64 - n).toNat = nrV false a n := by
  obtain ⟨k, hk⟩ : ∃ k : Nat, n = (k : Int) + 1 := ⟨(n - 1).toNat, by omega⟩
  have e1 : (64 - n).toNat = 64 - (k + 1) := by omega
  have e2 : n.toNat = k + 1 := by omega
  unfold nrV
  rw [e1, e2, IntKind.wrap_u64, shl_mod a (k + 1) (by omega), if_neg (by simp)]
  have h4 := two_pow_pos (64 - (k + 1))
  exact Int.mul_ediv_cancel _ (by omega)
end Pl
set_option maxHeartbeats 400000 in
theorem narrow_any (s : Bool) (a n : Int) (w : World) (ha : 0 ≤ a) (h1 : 1 ≤ n) (h2 : n ≤ 64) :
    Calls Tryd.prog 58 #[.int .u64 a, .int .i64 n, .bool s] w fun e w' => e = .returned (.tuple #[.int .u64 (nrV s a n), .int .i64 0]) ∧ w = w' := by
  cases s
  · generalize hV : nrV false a n = V
    have HV := Lib.hid hV; clear hV
    go_enter Tryd.func58, Tryd.ntmps58
    go_wp2
    go_ret2
    refine ⟨ret2 ?_, rfl⟩
    rw [← HV.out]; exact nar_u a n h1 h2
  · generalize hV : nrV true a n = V
    have HV := Lib.hid hV; clear hV
    go_enter Tryd.func58, Tryd.ntmps58
    go_wp2
    go_ret2
    refine ⟨ret2 ?_, rfl⟩
    rw [← HV.out]; exact nar_s a n h1 h2
theorem narrow_none (s : Bool) (a n : Int) (w : World) (h : n < 1 ∨ 64 < n) :
    Calls Tryd.prog 58 #[.int .u64 a, .int .i64 n, .bool s] w fun e w' => e = .returned (.tuple #[.int .u64 0, .int .i64 1]) ∧ w = w' := by
  rcases h with h | h
  · go_enter Tryd.func58, Tryd.ntmps58
    go_wp2
    go_ret2
    exact ⟨rfl, rfl⟩
  · have h' : 1 ≤ n := by omega
    go_enter Tryd.func58, Tryd.ntmps58
    go_wp2
    go_ret2
    exact ⟨rfl, rfl⟩

theorem doAnyC (op a b : Int) (w : World) (h1 : 1 ≤ op) (h2 : op ≤ 27) (ha : 0 ≤ a) (ha' : a < 18446744073709551616) (hb : 0 ≤ b) (hb' : b < 18446744073709551616) :
    Calls Tryd.prog 55 #[.int .i64 op, .int .u64 a, .int .u64 b] w fun e w' => e = .returned (.tuple #[.int .u64 (opV op a b), .int .i64 0]) ∧ w = w' := do_any op h1 h2 a b w ha ha' hb hb'
end Go.Proofs.YtoehfncgkkfdeaaDoor
