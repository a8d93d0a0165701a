/- The document's leaves, continued: the upper half of a product, sizes, low bits. Conditions: the ranges that each theorem names. -/
import Derived.Test.YtoehfncgkkfdeaaDoorRows
import Derived.WalkKit
import Derived.ProofKit
import Derived.OpenShut
import Derived.WalkSpells
import Derived.Lib.Hide
import Derived.Handy
import Derived.Below
import Derived.RegionTactic
import Derived.Deep.QuietTactic
import Derived.BigQuiet
import Derived.ChangeAlike
import Derived.Test.YtoehfncgkkfdeaaDoorNumRefA
namespace Go.Proofs.YtoehfncgkkfdeaaDoor
open Go.RowKit
set_option linter.unusedVariables false
open Pl

namespace Pl
theorem tdivh {x : Int} (h : 0 ≤ x) (h' : x < 18446744073709551616) : IntKind.u64.wrap (x.tdiv 4294967296) = x / 4294967296 := by
  rw [IntKind.wrap_u64, Int.tdiv_eq_ediv_of_nonneg h]; omega
theorem wrapR (x : Int) : 0 ≤ IntKind.u64.wrap x ∧ IntKind.u64.wrap x < 18446744073709551616 := by rw [IntKind.wrap_u64]; omega
theorem high_arith (x y : Int) (hx0 : 0 ≤ x) (hx : x < 18446744073709551616) (hy0 : 0 ≤ y) (hy : y < 18446744073709551616) :
    IntKind.u64.wrap (IntKind.u64.wrap (IntKind.u64.wrap (x / 4294967296 * (y / 4294967296)) +
      (IntKind.u64.wrap (IntKind.u64.wrap (x / 4294967296 * (y % 4294967296)) + IntKind.u64.wrap (x % 4294967296 * (y % 4294967296)) / 4294967296)) / 4294967296) +
      (IntKind.u64.wrap (IntKind.u64.wrap (x % 4294967296 * (y / 4294967296)) +
        (IntKind.u64.wrap (IntKind.u64.wrap (x / 4294967296 * (y % 4294967296)) + IntKind.u64.wrap (x % 4294967296 * (y % 4294967296)) / 4294967296)) % 4294967296)) / 4294967296) = x * y / 18446744073709551616 := by
  simp only [IntKind.wrap_u64]
  have ex : x = x / 4294967296 * 4294967296 + x % 4294967296 := by omega
  have ey : y = y / 4294967296 * 4294967296 + y % 4294967296 := by omega
  have b1 : 0 ≤ x / 4294967296 ∧ x / 4294967296 ≤ 4294967295 := by omega
  have b2 : 0 ≤ x % 4294967296 ∧ x % 4294967296 ≤ 4294967295 := by omega
  have b3 : 0 ≤ y / 4294967296 ∧ y / 4294967296 ≤ 4294967295 := by omega
  have b4 : 0 ≤ y % 4294967296 ∧ y % 4294967296 ≤ 4294967295 := by omega
  generalize x / 4294967296 = x1 at *
  generalize x % 4294967296 = x0 at *
  generalize y / 4294967296 = y1 at *
  generalize y % 4294967296 = y0 at *
  have pA := prod_bound x1 y1 b1.1 b1.2 b3.1 b3.2
  have pB := prod_bound x1 y0 b1.1 b1.2 b4.1 b4.2
  have pC := prod_bound x0 y0 b2.1 b2.2 b4.1 b4.2
  have pD := prod_bound x0 y1 b2.1 b2.2 b3.1 b3.2
  have hxy : x * y = x1 * y1 * 18446744073709551616 + (x1 * y0 + x0 * y1) * 4294967296 + x0 * y0 := by rw [ex, ey]; exact split_mul x1 x0 y1 y0
  rw [hxy]
  generalize x1 * y1 = A at *
  generalize x1 * y0 = B at *
  generalize x0 * y0 = C at *
  generalize x0 * y1 = D at *
  omega
def absV (a : Int) : Int := if 9223372036854775808 ≤ a then 18446744073709551616 - a else a
theorem absV_range {a : Int} (ha : 0 ≤ a) (ha' : a < 18446744073709551616) : 0 ≤ absV a ∧ absV a ≤ 9223372036854775808 := by unfold absV; split <;> omega
end Pl

/-- Nothing that was has changed. -/
def Gb (w w' : World) : Prop := Below w.heap.size w w'
theorem Gb.refl (w : World) : Gb w w := Below.refl _ _
theorem Gb.drew {w w' : World} (h : Gb w w') : Gb w w'.drew := ⟨h.os, h.tape, h.output, h.size, h.block⟩
theorem Gb.alloc {w w' : World} (h : Gb w w') (c : Array Value) (t : TypeId) : Gb w (w'.alloc (.cells c t)) := Below.alloc h h.size _

theorem grownN {w w' : World} {n : Nat} (h : Gb w w') : Gb w (w'.drewN n) := ⟨h.os, h.tape, h.output, h.size, h.block⟩

set_option maxHeartbeats 400000 in
theorem high_any (a b : Int) (w : World) (ha : 0 ≤ a) (ha' : a < 18446744073709551616) (hb : 0 ≤ b) (hb' : b < 18446744073709551616) :
    Calls Tryd.prog 66 #[.int .u64 a, .int .u64 b] w fun e w' => e = .returned (.int .u64 (a * b / 18446744073709551616)) ∧ Gb w w' := by
  have Ha := Lib.hid ha'; clear ha'
  have Hb := Lib.hid hb'; clear hb'
  generalize hV : a * b / 18446744073709551616 = V
  have HV := Lib.hid hV; clear hV
  go_enter Tryd.func66, Tryd.ntmps66
  go_wp2
  go_quiet (fail)
  go_wp2
  go_quiet (fail)
  go_wp2
  all_goals go_ret
  refine ⟨ret1 ?_, grownN (grownN (Gb.refl _))⟩
  rw [← HV.out]
  have ha' := Ha.out; have hb' := Hb.out
  rw [tdivh ha ha', tdivh hb hb', tdivh (wrapR _).1 (wrapR _).2, tdivh (wrapR _).1 (wrapR _).2, tdivh (wrapR _).1 (wrapR _).2]
  rw [Int.tmod_eq_emod_of_nonneg (wrapR _).1]
  exact high_arith a b ha ha' hb hb'

theorem size_any (a : Int) (w : World) (ha : 0 ≤ a) (ha' : a < 18446744073709551616) :
    Calls Tryd.prog 65 #[.int .u64 a] w fun e w' => e = .returned (.int .u64 (absV a)) ∧ w = w' := by
  have Ha := Lib.hid ha'; clear ha'
  generalize hV : absV a = V
  have HV := Lib.hid hV; clear hV
  by_cases h : 9223372036854775808 ≤ a
  · have Hh := Lib.hid h
    go_enter Tryd.func65, Tryd.ntmps65
    go_wp2
    go_ret
    refine ⟨ret1 ?_, rfl⟩
    rw [← HV.out, IntKind.wrap_u64]
    have ha' := Ha.out; have h := Hh.out
    unfold absV; rw [if_pos h]; omega
  · have Hh := Lib.hid h
    go_enter Tryd.func65, Tryd.ntmps65
    go_wp2
    go_ret
    refine ⟨ret1 ?_, rfl⟩
    rw [← HV.out]
    have ha' := Ha.out; have h := Hh.out
    unfold absV; rw [if_neg (by omega)]

/-- Low bits: of n bits, where there are so many. -/
theorem refNarrow_none (a n : Int) (s : Bool) (w : World) (h : n < 1 ∨ 64 < n) :
    Calls Tryd.prog 50 #[.int .u64 a, .int .i64 n, .bool s] w fun e w' => e = .returned (.tuple #[.int .u64 0, .bool false]) ∧ w = w' := by
  rcases h with h | h
  · go_enter Tryd.func50, Tryd.ntmps50
    go_wp2
    go_ret2
    exact ⟨rfl, rfl⟩
  · have h' : 1 ≤ n := by omega
    go_enter Tryd.func50, Tryd.ntmps50
    go_wp2
    go_ret2
    exact ⟨rfl, rfl⟩

namespace Pl
/-- The low n bits of a, signed or not, as a number of 64 bits. -/
def nrV (s : Bool) (a n : Int) : Int :=
  if s = true ∧ 2 ^ (n - 1).toNat ≤ a % 2 ^ n.toNat then a % 2 ^ n.toNat - 2 ^ n.toNat + 18446744073709551616 else a % 2 ^ n.toNat
theorem nrV_64 (s : Bool) {a : Int} (ha : 0 ≤ a) (ha' : a < 18446744073709551616) : nrV s a 64 = a := by
  unfold nrV
  have e : (2 : Int) ^ (64 : Int).toNat = 18446744073709551616 := by decide
  rw [e]; split <;> omega
theorem nr_u (a n : Int) (h1 : 1 ≤ n) (h2 : n ≤ 63) : a % pw n.toNat = nrV false a n := by
  unfold nrV; rw [if_neg (by simp), pw_lt _ (by omega)]
theorem nr_y (a n : Int) (h1 : 1 ≤ n) (h2 : n ≤ 63) (h : pw (n.toNat - 1) ≤ a % pw n.toNat) : IntKind.u64.wrap (a % pw n.toNat - pw n.toNat) = nrV true a n := by
  have h3 := pw_range n.toNat
  have e : n.toNat - 1 = (n - 1).toNat := by omega
  rw [e, pw_lt n.toNat (by omega), pw_lt (n - 1).toNat (by omega)] at h
  rw [pw_lt n.toNat (by omega)] at h3 ⊢
  have h4 := Int.emod_lt_of_pos a (two_pow_pos n.toNat)
  have h5 := Int.emod_nonneg a (Int.ne_of_gt (two_pow_pos n.toNat))
  unfold nrV; rw [if_pos ⟨rfl, h⟩, IntKind.wrap_u64]
  omega
theorem nr_n (a n : Int) (h1 : 1 ≤ n) (h2 : n ≤ 63) (h : a % pw n.toNat < pw (n.toNat - 1)) : a % pw n.toNat = nrV true a n := by
  have e : n.toNat - 1 = (n - 1).toNat := by omega
  rw [e, pw_lt n.toNat (by omega), pw_lt (n - 1).toNat (by omega)] at h
  unfold nrV; rw [if_neg (fun x => Int.not_le.2 h x.2), pw_lt _ (by omega)]
end Pl
theorem ret2b {x y : Int} (h : x = y) : Ending.returned (.tuple #[.int .u64 x, .bool true]) = .returned (.tuple #[.int .u64 y, .bool true]) := by rw [h]

theorem refNarrow_64 (a : Int) (s : Bool) (w : World) :
    Calls Tryd.prog 50 #[.int .u64 a, .int .i64 64, .bool s] w fun e w' => e = .returned (.tuple #[.int .u64 a, .bool true]) ∧ w = w' := by
  go_enter Tryd.func50, Tryd.ntmps50
  go_wp2
  go_ret2
  exact ⟨rfl, rfl⟩

set_option maxHeartbeats 400000 in
theorem refNarrow_u (a n : Int) (w : World) (ha : 0 ≤ a) (h1 : 1 ≤ n) (h2 : n ≤ 63) :
    Calls Tryd.prog 50 #[.int .u64 a, .int .i64 n, .bool false] w fun e w' => e = .returned (.tuple #[.int .u64 (nrV false a n), .bool true]) ∧ w = w' := by
  have hp : ¬ pw n.toNat = 0 := by rw [pw_lt _ (by omega)]; have := two_pow_pos n.toNat; omega
  have hq : 0 ≤ pw n.toNat := (pw_range _).1
  generalize hV : nrV false a n = V
  have HV := Lib.hid hV; clear hV
  go_enter Tryd.func50, Tryd.ntmps50
  go_wp2_with (first | (go_at_call 70; refine (power_any _ _ (by omega) (by omega)).mono ?_; rintro e w' ⟨rfl, rfl⟩) | go_in)
  go_ret2
  refine ⟨ret2b ?_, rfl⟩
  rw [← HV.out]
  exact nr_u a n (by omega) (by omega)
set_option maxHeartbeats 400000 in
theorem refNarrow_s (a n : Int) (w : World) (ha : 0 ≤ a) (h1 : 1 ≤ n) (h2 : n ≤ 63) :
    Calls Tryd.prog 50 #[.int .u64 a, .int .i64 n, .bool true] w fun e w' => e = .returned (.tuple #[.int .u64 (nrV true a n), .bool true]) ∧ w = w' := by
  have hp : ¬ pw n.toNat = 0 := by rw [pw_lt _ (by omega)]; have := two_pow_pos n.toNat; omega
  have hq : 0 ≤ pw n.toNat := (pw_range _).1
  generalize hV : nrV true a n = V
  have HV := Lib.hid hV; clear hV
  by_cases hc : pw (n.toNat - 1) ≤ a % pw n.toNat
  · have hd : decide (pw (n.toNat - 1) ≤ a % pw n.toNat) = true := by simpa using hc
    have Hc := Lib.hid hc
    go_enter Tryd.func50, Tryd.ntmps50
    go_wp2_with (first | (go_at_call 70; refine (power_any _ _ (by omega) (by omega)).mono ?_; rintro e w' ⟨rfl, rfl⟩) | go_in)
    go_ret2
    refine ⟨ret2b ?_, rfl⟩
    rw [← HV.out]
    exact nr_y a n (by omega) (by omega) Hc.out
  · have hd : decide (pw (n.toNat - 1) ≤ a % pw n.toNat) = false := by simpa using hc
    have Hc := Lib.hid (Int.not_le.1 hc)
    go_enter Tryd.func50, Tryd.ntmps50
    go_wp2_with (first | (go_at_call 70; refine (power_any _ _ (by omega) (by omega)).mono ?_; rintro e w' ⟨rfl, rfl⟩) | go_in)
    go_ret2
    refine ⟨ret2b ?_, rfl⟩
    rw [← HV.out]
    exact nr_n a n (by omega) (by omega) Hc.out
theorem refNarrow_any (s : Bool) (a n : Int) (w : World) (ha : 0 ≤ a) (ha' : a < 18446744073709551616) (h1 : 1 ≤ n) (h2 : n ≤ 64) :
    Calls Tryd.prog 50 #[.int .u64 a, .int .i64 n, .bool s] w fun e w' => e = .returned (.tuple #[.int .u64 (nrV s a n), .bool true]) ∧ w = w' := by
  by_cases h : n = 64
  · subst h; rw [nrV_64 s ha ha']; exact refNarrow_64 a s w
  · cases s
    · exact refNarrow_u a n w ha h1 (by omega)
    · exact refNarrow_s a n w ha h1 (by omega)
end Go.Proofs.YtoehfncgkkfdeaaDoor
