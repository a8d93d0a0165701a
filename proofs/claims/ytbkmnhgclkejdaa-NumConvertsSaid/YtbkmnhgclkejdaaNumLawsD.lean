/- The laws of layer 1 without the document's operations: NumWhole, NumShifts, NumConverts: each answers true, of any arguments; at most new blocks in memory. No condition but that the arguments are of their Go types. -/
import Derived.Test.YtbkmnhgclkejdaaRows
import Derived.WalkKit
import Derived.ProofKit
import Derived.OpenShut
import Derived.WalkSpells
import Derived.Lib.Hide
import Derived.Handy
import Derived.Outline
import Derived.Deep.QuietTactic
import Derived.BigQuiet
import Derived.Test.YtbkmnhgclkejdaaNumLawsC
namespace Go.Proofs.Ytbkmnhgclkejdaa
open Go.RowKit
set_option linter.unusedVariables false
open Pl

namespace Pl
theorem two_pow_add {x y : Int} (hx : 0 ≤ x) (hy : 0 ≤ y) : (2 : Int) ^ (x + y).toNat = 2 ^ x.toNat * 2 ^ y.toNat := by
  rw [← Int.pow_add, show (x + y).toNat = x.toNat + y.toNat by omega]
theorem quo_signed {s p : Int} (h : -9223372036854775808 ≤ s ∧ s ≤ 9223372036854775807) (hp : 0 < p) : -9223372036854775808 ≤ s / p ∧ s / p ≤ 9223372036854775807 ∧ (s / p < 0 ↔ s < 0) := by
  by_cases h0 : 0 ≤ s
  · have h1 := quo_range h0 (Int.le_of_lt hp)
    omega
  · have h1 : s / p < 0 := Int.ediv_neg_of_neg_of_pos (by omega) hp
    have h2 : s ≤ s / p := by
      have h3 := Int.le_ediv_of_mul_le (a := s) (b := s) hp (by
        have := Int.mul_le_mul_of_nonpos_left (a := s) (b := p) (c := 1) (by omega) (by omega)
        omega)
      exact h3
    omega
theorem wrap64_R (a : Int) : -9223372036854775808 ≤ wrap64 a ∧ wrap64 a ≤ 9223372036854775807 := by unfold wrap64; omega
theorem wrap64_back {z : Int} (h : -9223372036854775808 ≤ z ∧ z ≤ 9223372036854775807) : wrap64 (z % 18446744073709551616) = z := by unfold wrap64; omega
theorem s1 {a x y : Int} (hx : 0 ≤ x ∧ x < 64) (hy : 0 ≤ y ∧ y < 64) (h : x + y < 64) : opV 3 (opV 3 a x) y = opV 3 a (x + y) := by
  show a * 2 ^ (x % 64).toNat % 18446744073709551616 * 2 ^ (y % 64).toNat % 18446744073709551616 = a * 2 ^ ((x + y) % 64).toNat % 18446744073709551616
  rw [Int.emod_eq_of_lt hx.1 hx.2, Int.emod_eq_of_lt hy.1 hy.2, Int.emod_eq_of_lt (by omega) h, two_pow_add hx.1 hy.1, ← Int.mul_assoc]
  exact mul_mod_congr (by omega)
theorem s2 {a x y : Int} (hx : 0 ≤ x ∧ x < 64) (hy : 0 ≤ y ∧ y < 64) (h : x + y < 64) : opV 7 (opV 7 a x) y = opV 7 a (x + y) := by
  show a / 2 ^ (x % 64).toNat / 2 ^ (y % 64).toNat = a / 2 ^ ((x + y) % 64).toNat
  rw [Int.emod_eq_of_lt hx.1 hx.2, Int.emod_eq_of_lt hy.1 hy.2, Int.emod_eq_of_lt (by omega) h, two_pow_add hx.1 hy.1, Int.ediv_ediv_of_nonneg (Int.le_of_lt (two_pow_pos _))]
theorem s3 {a x y : Int} (hx : 0 ≤ x ∧ x < 64) (hy : 0 ≤ y ∧ y < 64) (h : x + y < 64) : opV 8 (opV 8 a x) y = opV 8 a (x + y) := by
  show wrap64 (wrap64 a / 2 ^ (x % 64).toNat % 18446744073709551616) / 2 ^ (y % 64).toNat % 18446744073709551616 = wrap64 a / 2 ^ ((x + y) % 64).toNat % 18446744073709551616
  rw [Int.emod_eq_of_lt hx.1 hx.2, Int.emod_eq_of_lt hy.1 hy.2, Int.emod_eq_of_lt (by omega) h, two_pow_add hx.1 hy.1, ← Int.ediv_ediv_of_nonneg (Int.le_of_lt (two_pow_pos _))]
  have h1 := quo_signed (wrap64_R a) (two_pow_pos x.toNat)
  rw [wrap64_back ⟨h1.1, h1.2.1⟩]
theorem s4 {a x : Int} (hx : 0 ≤ x ∧ x < 64) : opV 7 (opV 3 a x) x = nrV false a (64 - x) := by
  rw [← nar_u a (64 - x) (by omega) (by omega)]
  show a * 2 ^ (x % 64).toNat % 18446744073709551616 / 2 ^ (x % 64).toNat = _
  rw [Int.emod_eq_of_lt hx.1 hx.2, show 64 - (64 - x) = x by omega, IntKind.wrap_u64]
theorem s5 {a x : Int} (hx : 0 ≤ x ∧ x < 64) : opV 8 (opV 3 a x) x = nrV true a (64 - x) := by
  rw [← nar_s a (64 - x) (by omega) (by omega)]
  show wrap64 (a * 2 ^ (x % 64).toNat % 18446744073709551616) / 2 ^ (x % 64).toNat % 18446744073709551616 = _
  rw [Int.emod_eq_of_lt hx.1 hx.2, show 64 - (64 - x) = x by omega, IntKind.wrap_u64, IntKind.wrap_u64]
theorem s6 {a x : Int} : wrap64 (opV 8 a x) < 0 ↔ wrap64 a < 0 := by
  show wrap64 (wrap64 a / 2 ^ (x % 64).toNat % 18446744073709551616) < 0 ↔ _
  have h1 := quo_signed (wrap64_R a) (two_pow_pos (x % 64).toNat)
  rw [wrap64_back ⟨h1.1, h1.2.1⟩]; exact h1.2.2
theorem s7 {a x : Int} : opV 3 a (x + 64) = opV 3 a x := by
  show a * 2 ^ ((x + 64) % 64).toNat % 18446744073709551616 = a * 2 ^ (x % 64).toNat % 18446744073709551616
  rw [show (x + 64) % 64 = x % 64 by omega]
theorem s8 {a x : Int} : opV 20 a (x + 32) = opV 20 a x := by
  show sx (a * 2 ^ ((x + 32) % 32).toNat) = sx (a * 2 ^ (x % 32).toNat)
  rw [show (x + 32) % 32 = x % 32 by omega]
theorem s9 {a y : Int} : opV 20 a (y % 32) = nrV true (opV 3 a (y % 32)) 32 := by
  rw [nrV_32]
  show sx (a * 2 ^ (y % 32 % 32).toNat) = sx (a * 2 ^ (y % 32 % 64).toNat % 18446744073709551616)
  rw [sx_emod64, show y % 32 % 32 = y % 32 by omega, show y % 32 % 64 = y % 32 by omega]

/-! Narrowing -/
theorem nrV_congr {s : Bool} {a b n : Int} (h : a % 2 ^ n.toNat = b % 2 ^ n.toNat) : nrV s a n = nrV s b n := by unfold nrV; rw [h]
theorem dvd64 {n : Nat} (h : n ≤ 64) : (2 : Int) ^ n ∣ 18446744073709551616 := ⟨2 ^ (64 - n), (pow_split n h).symm⟩
theorem mod64_mod (a : Int) {n : Nat} (h : n ≤ 64) : a % 18446744073709551616 % 2 ^ n = a % 2 ^ n := Int.emod_emod_of_dvd a (dvd64 h)
theorem nrV_mod {s : Bool} {a n : Int} (h2 : n ≤ 64) : nrV s a n % 2 ^ n.toNat = a % 2 ^ n.toNat := by
  unfold nrV
  split
  · obtain ⟨q, hq⟩ := dvd64 (n := n.toNat) (by omega)
    rw [hq, show a % 2 ^ n.toNat - 2 ^ n.toNat + 2 ^ n.toNat * q = a % 2 ^ n.toNat + 2 ^ n.toNat * (q - 1) by rw [Int.mul_sub]; omega, Int.add_mul_emod_self_left, Int.emod_emod_of_dvd _ (Int.dvd_refl _)]
  · rw [Int.emod_emod_of_dvd _ (Int.dvd_refl _)]
theorem two_pow_le {i j : Nat} (h : i ≤ j) : (2 : Int) ^ i ≤ 2 ^ j := by
  rw [show j = i + (j - i) by omega, Int.pow_add]
  have h1 := two_pow_pos (j - i)
  have : (2 : Int) ^ i * 1 ≤ 2 ^ i * 2 ^ (j - i) := Int.mul_le_mul_of_nonneg_left (by omega) (Int.le_of_lt (two_pow_pos _))
  omega
theorem two_pow_pred {n : Int} (h : 1 ≤ n) : (2 : Int) ^ n.toNat = 2 * 2 ^ (n - 1).toNat := by
  rw [show n.toNat = (n - 1).toNat + 1 by omega, Int.pow_succ]; omega
theorem nrV_yes {a n : Int} (h : 2 ^ (n - 1).toNat ≤ a % 2 ^ n.toNat) : nrV true a n = a % 2 ^ n.toNat - 2 ^ n.toNat + 18446744073709551616 := if_pos ⟨rfl, h⟩
theorem nrV_not {a n : Int} (h : ¬ 2 ^ (n - 1).toNat ≤ a % 2 ^ n.toNat) : nrV true a n = a % 2 ^ n.toNat := if_neg (fun x => h x.2)
/-- Narrowed again to as many bits or more: the same. -/
theorem nrV_up {a n k : Int} (h1 : 1 ≤ n) (h : n ≤ k) (h2 : k ≤ 64) : nrV true (nrV true a n) k = nrV true a n := by
  have p1 := two_pow_pred h1
  have p2 := two_pow_pred (show 1 ≤ k by omega)
  have p3 := two_pow_le (show (n - 1).toNat ≤ (k - 1).toNat by omega)
  have h5 := Int.emod_lt_of_pos a (two_pow_pos n.toNat)
  have h6 := Int.emod_nonneg a (Int.ne_of_gt (two_pow_pos n.toNat))
  have h7 := two_pow_pos (n - 1).toNat
  obtain ⟨q, hq⟩ := dvd64 (n := k.toNat) (by omega)
  by_cases hc : 2 ^ (n - 1).toNat ≤ a % 2 ^ n.toNat
  · rw [nrV_yes hc]
    have e : (a % 2 ^ n.toNat - 2 ^ n.toNat + 18446744073709551616) % 2 ^ k.toNat = a % 2 ^ n.toNat - 2 ^ n.toNat + 2 ^ k.toNat := by
      rw [hq, show a % 2 ^ n.toNat - 2 ^ n.toNat + 2 ^ k.toNat * q = (a % 2 ^ n.toNat - 2 ^ n.toNat + 2 ^ k.toNat) + 2 ^ k.toNat * (q - 1) by rw [Int.mul_sub]; omega, Int.add_mul_emod_self_left]
      exact Int.emod_eq_of_lt (by omega) (by omega)
    rw [nrV_yes (by rw [e]; omega), e]; omega
  · rw [nrV_not hc]
    have e : a % 2 ^ n.toNat % 2 ^ k.toNat = a % 2 ^ n.toNat := Int.emod_eq_of_lt h6 (by omega)
    rw [nrV_not (by rw [e]; omega), e]
theorem nrV_down {a n k : Int} (h1 : 1 ≤ n) (h : n ≤ k) (h2 : k ≤ 64) : nrV true (nrV true a k) n = nrV true a n := by
  apply nrV_congr
  have d : (2 : Int) ^ n.toNat ∣ 2 ^ k.toNat := ⟨2 ^ (k.toNat - n.toNat), by rw [← Int.pow_add]; congr 1; omega⟩
  rw [← Int.emod_emod_of_dvd (nrV true a k) d, nrV_mod h2, Int.emod_emod_of_dvd _ d]
theorem nrV_low {a n : Int} (h2 : n ≤ 64) : nrV true (nrV false a n) n = nrV true a n := nrV_congr (nrV_mod h2)
theorem g1 {a b n : Int} (h2 : n ≤ 64) : nrV true (opV 1 (nrV true a n) (nrV true b n)) n = nrV true (opV 1 a b) n := by
  apply nrV_congr
  show (_ + _) % 18446744073709551616 % _ = (_ + _) % 18446744073709551616 % _
  rw [mod64_mod _ (by omega), mod64_mod _ (by omega), Int.add_emod, nrV_mod h2, nrV_mod h2, ← Int.add_emod]
theorem g2 {a b n : Int} (h2 : n ≤ 64) : nrV true (opV 2 (nrV true a n) (nrV true b n)) n = nrV true (opV 2 a b) n := by
  apply nrV_congr
  show (_ - _) % 18446744073709551616 % _ = (_ - _) % 18446744073709551616 % _
  rw [mod64_mod _ (by omega), mod64_mod _ (by omega), Int.sub_emod, nrV_mod h2, nrV_mod h2, ← Int.sub_emod]
theorem g11 {a b n : Int} (h2 : n ≤ 64) : nrV true (opV 11 (nrV true a n) (nrV true b n)) n = nrV true (opV 11 a b) n := by
  apply nrV_congr
  show (_ * _) % 18446744073709551616 % _ = (_ * _) % 18446744073709551616 % _
  rw [mod64_mod _ (by omega), mod64_mod _ (by omega), Int.mul_emod, nrV_mod h2, nrV_mod h2, ← Int.mul_emod]
theorem toNat_mod {x : Int} (h : 0 ≤ x) (k : Nat) : (x.toNat % 2 ^ k) = (x % 2 ^ k).toNat := by
  obtain ⟨y, rfl⟩ := Int.eq_ofNat_of_zero_le h
  have : ((y : Int) % 2 ^ k) = ((y % 2 ^ k : Nat) : Int) := by simp
  rw [this, Int.toNat_natCast, Int.toNat_natCast]
theorem nat_mod (x k : Nat) : ((x : Nat) : Int) % 2 ^ k = ((x % 2 ^ k : Nat) : Int) := by simp
theorem g_nat (f : Nat → Nat → Nat) (hf : ∀ x y k, f x y % 2 ^ k = f (x % 2 ^ k) (y % 2 ^ k)) {a b c d : Int} {k : Nat} (ha : 0 ≤ a) (hb : 0 ≤ b) (hc : 0 ≤ c) (hd : 0 ≤ d) (h1 : c % 2 ^ k = a % 2 ^ k) (h2 : d % 2 ^ k = b % 2 ^ k) :
    ((f c.toNat d.toNat : Nat) : Int) % 2 ^ k = ((f a.toNat b.toNat : Nat) : Int) % 2 ^ k := by
  rw [nat_mod, nat_mod, hf, hf a.toNat, toNat_mod hc, toNat_mod hd, toNat_mod ha, toNat_mod hb, h1, h2]
theorem nrV_nonneg (s : Bool) (a n : Int) (h2 : n ≤ 64) : 0 ≤ nrV s a n := by
  have h6 := Int.emod_nonneg a (Int.ne_of_gt (two_pow_pos n.toNat))
  have h7 : (2 : Int) ^ n.toNat ≤ 2 ^ 64 := two_pow_le (by omega)
  have h8 : (2 : Int) ^ 64 = 18446744073709551616 := by decide
  unfold nrV; split <;> omega
theorem g10 {a b n : Int} (ha : 0 ≤ a) (hb : 0 ≤ b) (h2 : n ≤ 64) : nrV true (opV 10 (nrV true a n) (nrV true b n)) n = nrV true (opV 10 a b) n :=
  nrV_congr (g_nat (fun x y => x &&& y) (fun x y k => Nat.and_mod_two_pow) ha hb (nrV_nonneg _ _ _ h2) (nrV_nonneg _ _ _ h2) (nrV_mod h2) (nrV_mod h2))
theorem g9 {a b n : Int} (ha : 0 ≤ a) (hb : 0 ≤ b) (h2 : n ≤ 64) : nrV true (opV 9 (nrV true a n) (nrV true b n)) n = nrV true (opV 9 a b) n :=
  nrV_congr (g_nat (fun x y => x ||| y) (fun x y k => Nat.or_mod_two_pow) ha hb (nrV_nonneg _ _ _ h2) (nrV_nonneg _ _ _ h2) (nrV_mod h2) (nrV_mod h2))
theorem g6 {a b n : Int} (ha : 0 ≤ a) (hb : 0 ≤ b) (h2 : n ≤ 64) : nrV true (opV 6 (nrV true a n) (nrV true b n)) n = nrV true (opV 6 a b) n :=
  nrV_congr (g_nat (fun x y => x ^^^ y) (fun x y k => Nat.xor_mod_two_pow) ha hb (nrV_nonneg _ _ _ h2) (nrV_nonneg _ _ _ h2) (nrV_mod h2) (nrV_mod h2))
theorem g18 (a b : Int) : opV 18 a b = nrV true (opV 1 a b) 32 := by
  rw [nrV_32]; show sx (a + b) = sx ((a + b) % 18446744073709551616); rw [sx_emod64]
theorem g23 (a b : Int) : opV 23 a b = nrV true (opV 11 a b) 32 := by
  rw [nrV_32]; show sx (a * b) = sx ((a * b) % 18446744073709551616); rw [sx_emod64]

/-! The whole product -/
theorem whole_lo {x y : Int} :
    IntKind.u64.wrap (IntKind.u64.wrap (x % 4294967296 * (y % 4294967296)) % 4294967296 + IntKind.u64.wrap (IntKind.u64.wrap (IntKind.u64.wrap (IntKind.u64.wrap (x % 4294967296 * (y % 4294967296)) / 4294967296 +
      IntKind.u64.wrap (x % 4294967296 * (y / 4294967296)) % 4294967296) + IntKind.u64.wrap (x / 4294967296 * (y % 4294967296)) % 4294967296) * 4294967296)) = opV 11 x y := by
  show _ = x * y % 18446744073709551616
  simp only [IntKind.wrap_u64]
  have ex : x = x / 4294967296 * 4294967296 + x % 4294967296 := by omega
  have ey : y = y / 4294967296 * 4294967296 + y % 4294967296 := by omega
  have b2 : 0 ≤ x % 4294967296 ∧ x % 4294967296 ≤ 4294967295 := by omega
  have b4 : 0 ≤ y % 4294967296 ∧ y % 4294967296 ≤ 4294967295 := by omega
  generalize x / 4294967296 = x1 at *
  generalize x % 4294967296 = x0 at *
  generalize y / 4294967296 = y1 at *
  generalize y % 4294967296 = y0 at *
  have hxy : x * y = x1 * y1 * 18446744073709551616 + (x1 * y0 + x0 * y1) * 4294967296 + x0 * y0 := by rw [ex, ey]; exact split_mul x1 x0 y1 y0
  have pC := prod_bound x0 y0 b2.1 b2.2 b4.1 b4.2
  rw [hxy]
  generalize x1 * y1 = A at *
  generalize x1 * y0 = B at *
  generalize x0 * y0 = C at *
  generalize x0 * y1 = D at *
  omega
theorem whole_hi {x y : Int} (hx0 : 0 ≤ x) (hx : x < 18446744073709551616) (hy0 : 0 ≤ y) (hy : y < 18446744073709551616) :
    IntKind.u64.wrap (IntKind.u64.wrap (IntKind.u64.wrap (IntKind.u64.wrap (x / 4294967296 * (y / 4294967296)) + IntKind.u64.wrap (x % 4294967296 * (y / 4294967296)) / 4294967296) + IntKind.u64.wrap (x / 4294967296 * (y % 4294967296)) / 4294967296) +
      IntKind.u64.wrap (IntKind.u64.wrap (IntKind.u64.wrap (x % 4294967296 * (y % 4294967296)) / 4294967296 + IntKind.u64.wrap (x % 4294967296 * (y / 4294967296)) % 4294967296) + IntKind.u64.wrap (x / 4294967296 * (y % 4294967296)) % 4294967296) / 4294967296) = opV 13 x y := by
  show _ = x * y / 18446744073709551616
  simp only [IntKind.wrap_u64]
  have ex : x = x / 4294967296 * 4294967296 + x % 4294967296 := by omega
  have ey : y = y / 4294967296 * 4294967296 + y % 4294967296 := by omega
  have b1 : 0 ≤ x / 4294967296 ∧ x / 4294967296 ≤ 4294967295 := by omega
  have b2 : 0 ≤ x % 4294967296 ∧ x % 4294967296 ≤ 4294967295 := by omega
  have b3 : 0 ≤ y / 4294967296 ∧ y / 4294967296 ≤ 4294967295 := by omega
  have b4 : 0 ≤ y % 4294967296 ∧ y % 4294967296 ≤ 4294967295 := by omega
  generalize x / 4294967296 = x1 at *
  generalize x % 4294967296 = x0 at *
  generalize y / 4294967296 = y1 at *
  generalize y % 4294967296 = y0 at *
  have pA := prod_bound x1 y1 b1.1 b1.2 b3.1 b3.2
  have pB := prod_bound x1 y0 b1.1 b1.2 b4.1 b4.2
  have pC := prod_bound x0 y0 b2.1 b2.2 b4.1 b4.2
  have pD := prod_bound x0 y1 b2.1 b2.2 b3.1 b3.2
  have hxy : x * y = x1 * y1 * 18446744073709551616 + (x1 * y0 + x0 * y1) * 4294967296 + x0 * y0 := by rw [ex, ey]; exact split_mul x1 x0 y1 y0
  rw [hxy]
  generalize x1 * y1 = A at *
  generalize x1 * y0 = B at *
  generalize x0 * y0 = C at *
  generalize x0 * y1 = D at *
  omega
theorem wrap_id {x : Int} (h : 0 ≤ x ∧ x < 18446744073709551616) : IntKind.u64.wrap x = x := by rw [IntKind.wrap_u64]; omega
end Pl

set_option maxHeartbeats 400000 in
theorem numWhole_at (a b : Int) (w : World) (p q : Bool) (A : Hid (0 ≤ a ∧ a < 18446744073709551616)) (B : Hid (0 ≤ b ∧ b < 18446744073709551616)) (D1 : decide (9223372036854775808 ≤ a) = p) (D2 : decide (9223372036854775808 ≤ b) = q)
    (h : opV 12 a b = if p then (if q then IntKind.u64.wrap (IntKind.u64.wrap (opV 13 a b - b) - a) else IntKind.u64.wrap (opV 13 a b - b)) else (if q then IntKind.u64.wrap (opV 13 a b - a) else opV 13 a b)) :
    Calls Try.prog 8 #[.int .u64 a, .int .u64 b] w fun e w' => e = .returned (.bool true) ∧ Grown w w' := by
  have k1 := and_low32 a A.out.1 A.out.2
  have k2 := and_low32 b B.out.1 B.out.2
  have k3 : ∀ z, bits .and .u64 (IntKind.u64.wrap z) 4294967295 = IntKind.u64.wrap z % 4294967296 := fun z => and_low32 _ (wrapR z).1 (wrapR z).2
  have e1 := @whole_lo a b
  have e2 := whole_hi A.out.1 A.out.2 B.out.1 B.out.2
  cases p <;> cases q
  all_goals
    have h' := h.symm; clear h
    simp only [Bool.false_eq_true, if_false, if_true] at h'
    go_enter Try.func8, Try.ntmps8
    go_wp2_with (first | (go_at_call 11; (with_reducible refine (awake_any _).mono ?_); rintro e w' ⟨rfl, rfl⟩) | (go_at_call 20; (with_reducible refine (lawDo _ _ _ _ (by decide) (by decide) A.out.1 A.out.2 B.out.1 B.out.2).mono ?_); rintro e w' ⟨rfl, rfl⟩))
    go_ret
    exact ⟨rfl, Grown.refl _⟩

theorem numWhole_walk (a b : Int) (w : World) (wa : (Lit.int .u64 a).wf = true) (wb : (Lit.int .u64 b).wf = true) :
    Calls Try.prog 8 #[.int .u64 a, .int .u64 b] w fun e w' => e = .returned (.bool true) ∧ Grown w w' := by
  have A := bd_u64 wa; have B := bd_u64 wb
  refine numWhole_at a b w _ _ (Lib.hid A) (Lib.hid B) rfl rfl ?_
  have h := mulh_code A.1 A.2 B.1 B.2
  have h2 : opV 12 a b = wrap64 a * wrap64 b / 18446744073709551616 % 18446744073709551616 := rfl
  have h3 : opV 13 a b = a * b / 18446744073709551616 := rfl
  rw [h2, ← h, ← h3]
  have h4 := opV_R 13 A B
  by_cases h1 : 9223372036854775808 ≤ a <;> by_cases h2 : 9223372036854775808 ≤ b <;> simp only [h1, h2, decide_true, decide_false, if_true, if_false, Bool.false_eq_true, Int.sub_zero]
  · exact wrap_id (wrapR _)
  · rw [wrap_id h4]
  · rw [wrap_id h4, wrap_id h4]

theorem lawDoR (op a b : Int) (w : World) (h : 1 ≤ op ∧ op ≤ 27) (A : 0 ≤ a ∧ a < 18446744073709551616) (B : 0 ≤ b ∧ b < 18446744073709551616) :
    Calls Try.prog 20 #[.int .i64 op, .int .u64 a, .int .u64 b] w fun e w' => e = .returned (.int .u64 (opV op a b)) ∧ w = w' := lawDo op a b w h.1 h.2 A.1 A.2 B.1 B.2
set_option maxHeartbeats 1000000 in
theorem numShifts_walk (a n m : Int) (w : World) (wa : (Lit.int .u64 a).wf = true) (wn : (Lit.int .u8 n).wf = true) (wm : (Lit.int .u8 m).wf = true) :
    Calls Try.prog 9 #[.int .u64 a, .int .u8 n, .int .u8 m] w fun e w' => e = .returned (.bool true) ∧ Grown w w' := by
  have A := Lib.hid (bd_u64 wa); clear wa
  have hn := bounds_u8 wn; clear wn
  have hm := bounds_u8 wm; clear wm
  obtain ⟨hn0, hn1⟩ := hn
  obtain ⟨hm0, hm1⟩ := hm
  have X : 0 ≤ n % 64 ∧ n % 64 < 64 := by omega
  have Y : 0 ≤ m % 64 ∧ m % 64 < 64 := by omega
  have HX := Lib.hid (show 0 ≤ n % 64 ∧ n % 64 < 18446744073709551616 by omega)
  have HY := Lib.hid (show 0 ≤ m % 64 ∧ m % 64 < 18446744073709551616 by omega)
  have HXY := Lib.hid (show 0 ≤ n % 64 + m % 64 ∧ n % 64 + m % 64 < 18446744073709551616 by omega)
  have HX4 := Lib.hid (show 0 ≤ n % 64 + 64 ∧ n % 64 + 64 < 18446744073709551616 by omega)
  have HX2 := Lib.hid (show 0 ≤ n % 64 + 32 ∧ n % 64 + 32 < 18446744073709551616 by omega)
  have HY2 := Lib.hid (show 0 ≤ m % 32 ∧ m % 32 < 18446744073709551616 by omega)
  have f4 := s4 (a := a) X
  have f5 := s5 (a := a) X
  have f6 : decide (wrap64 (opV 8 a (n % 64)) < 0) = decide (wrap64 a < 0) := by rw [Bool.eq_iff_iff]; simp only [decide_eq_true_eq]; exact s6
  have f7 := @s7 a (n % 64)
  have f8 := @s8 a (n % 64)
  have f9 := @s9 a m
  by_cases h : n % 64 + m % 64 < 64
  · have f1 := s1 (a := a) X Y h
    have f2 := s2 (a := a) X Y h
    have f3 := s3 (a := a) X Y h
    obtain ⟨X1, X2⟩ := X
    obtain ⟨Y1, Y2⟩ := Y
    go_enter Try.func9, Try.ntmps9
    go_wp2_with (first | (go_at_call 11; (with_reducible refine (awake_any _).mono ?_); rintro e w' ⟨rfl, rfl⟩) | (go_at_call 20; (with_reducible refine (lawDoR _ _ _ _ (by decide) (by first | with_reducible exact A.out | with_reducible exact opV_R _ A.out HX.out) (by first | with_reducible exact HX.out | with_reducible exact HY.out | with_reducible exact HXY.out | with_reducible exact HX4.out | with_reducible exact HX2.out | with_reducible exact HY2.out)).mono ?_); rintro e w' ⟨rfl, rfl⟩) | (go_at_call 14; (with_reducible refine (narrow_any _ _ _ _ A.out.1 (by omega) (by omega)).mono ?_); rintro e w' ⟨rfl, rfl⟩) | (go_at_call 19; (with_reducible refine (lawNarrow _ _ _ (opV_R _ A.out HY2.out).1 (by decide) (by decide)).mono ?_); rintro e w' ⟨rfl, rfl⟩) | (go_at_call 17; go_in))
    go_ways
    all_goals trace_state
    all_goals go_ret
    all_goals exact ⟨rfl, Grown.refl _⟩
  · obtain ⟨X1, X2⟩ := X
    obtain ⟨Y1, Y2⟩ := Y
    go_enter Try.func9, Try.ntmps9
    go_wp2_with (first | (go_at_call 11; (with_reducible refine (awake_any _).mono ?_); rintro e w' ⟨rfl, rfl⟩) | (go_at_call 20; (with_reducible refine (lawDoR _ _ _ _ (by decide) (by first | with_reducible exact A.out | with_reducible exact opV_R _ A.out HX.out) (by first | with_reducible exact HX.out | with_reducible exact HY.out | with_reducible exact HXY.out | with_reducible exact HX4.out | with_reducible exact HX2.out | with_reducible exact HY2.out)).mono ?_); rintro e w' ⟨rfl, rfl⟩) | (go_at_call 14; (with_reducible refine (narrow_any _ _ _ _ A.out.1 (by omega) (by omega)).mono ?_); rintro e w' ⟨rfl, rfl⟩) | (go_at_call 19; (with_reducible refine (lawNarrow _ _ _ (opV_R _ A.out HY2.out).1 (by decide) (by decide)).mono ?_); rintro e w' ⟨rfl, rfl⟩) | (go_at_call 17; go_in))
    go_ret
    exact ⟨rfl, Grown.refl _⟩
end Go.Proofs.Ytbkmnhgclkejdaa
