/- The laws of layer 1 without the document's operations: NumParts answers true, of any arguments; at most new blocks in memory. No condition but that the arguments are of their Go types. -/
import Derived.Test.YtbkmnhgclkejdaaRows
import Derived.WalkKit
import Derived.ProofKit
import Derived.OpenShut
import Derived.WalkSpells
import Derived.Lib.Hide
import Derived.Handy
import Derived.Deep.QuietTactic
import Derived.BigQuiet
import Derived.Test.YtbkmnhgclkejdaaNumLawsB
namespace Go.Proofs.Ytbkmnhgclkejdaa
open Go.RowKit
set_option linter.unusedVariables false
open Pl

theorem lawDo (op a b : Int) (w : World) (h1 : 1 ≤ op) (h2 : op ≤ 27) (ha : 0 ≤ a) (ha' : a < 18446744073709551616) (hb : 0 ≤ b) (hb' : b < 18446744073709551616) :
    Calls Try.prog 20 #[.int .i64 op, .int .u64 a, .int .u64 b] w fun e w' => e = .returned (.int .u64 (opV op a b)) ∧ w = w' := by
  have HA := Lib.hid ha'; clear ha'
  have HB := Lib.hid hb'; clear hb'
  go_enter Try.func20, Try.ntmps20
  go_wp2_with (go_at_call 12; (with_reducible refine (doAnyC _ _ _ _ h1 h2 ha HA.out hb HB.out).mono ?_); rintro e w' ⟨rfl, rfl⟩)
  go_ret
  exact ⟨rfl, rfl⟩
theorem lawNarrow (a n : Int) (w : World) (ha : 0 ≤ a) (h1 : 1 ≤ n) (h2 : n ≤ 64) :
    Calls Try.prog 19 #[.int .u64 a, .int .i64 n] w fun e w' => e = .returned (.int .u64 (nrV true a n)) ∧ w = w' := by
  go_enter Try.func19, Try.ntmps19
  go_wp2_with (go_at_call 14; (with_reducible refine (narrow_any _ _ _ _ ha h1 h2).mono ?_); rintro e w' ⟨rfl, rfl⟩)
  go_ret
  exact ⟨rfl, rfl⟩

namespace Pl
theorem parts (x y a b M : Int) (hx : x % M = a) (hy : y % M = b) : (((x.tdiv y) % M) * b % M + (x.tmod y) % M) % M = a := by
  subst hx hy
  have h := Int.mul_tdiv_add_tmod x y
  rw [← Int.mul_emod, ← Int.add_emod]
  congr 1
  rw [Int.mul_comm]; exact h
theorem wrap64_emod {a : Int} (ha : 0 ≤ a) (ha' : a < 18446744073709551616) : wrap64 a % 18446744073709551616 = a := by unfold wrap64; omega
theorem parts1 {a b : Int} (ha : 0 ≤ a) (ha' : a < 18446744073709551616) (hb : 0 ≤ b) (hb' : b < 18446744073709551616) : opV 1 (opV 11 (opV 14 a b) b) (opV 16 a b) = a := by
  show ((if b = 0 then 18446744073709551615 else (wrap64 a).tdiv (wrap64 b) % 18446744073709551616) * b % 18446744073709551616 + (if b = 0 then a else (wrap64 a).tmod (wrap64 b) % 18446744073709551616)) % 18446744073709551616 = a
  by_cases h : b = 0
  · subst h; rw [if_pos rfl, if_pos rfl]; omega
  · rw [if_neg h, if_neg h]; exact parts _ _ _ _ _ (wrap64_emod ha ha') (wrap64_emod hb hb')
theorem parts2 {a b : Int} (ha : 0 ≤ a) (ha' : a < 18446744073709551616) (hb : 0 ≤ b) : opV 1 (opV 11 (opV 15 a b) b) (opV 17 a b) = a := by
  show ((if b = 0 then 18446744073709551615 else a / b) * b % 18446744073709551616 + (if b = 0 then a else a % b)) % 18446744073709551616 = a
  by_cases h : b = 0
  · subst h; rw [if_pos rfl, if_pos rfl]; omega
  · rw [if_neg h, if_neg h]
    have h1 := Int.mul_ediv_add_emod a b
    rw [Int.mul_comm (a / b)]
    have h2 : 0 ≤ b * (a / b) := Int.mul_nonneg hb (Int.ediv_nonneg ha hb)
    have h3 := Int.emod_nonneg a h
    generalize b * (a / b) = q at *
    omega
theorem partsW (q r b a x : Int) (h : sx (q * b + r) = sx a) (hx : x % 4294967296 = q * b % 4294967296) : sx (x + r) = sx a := by
  rw [← h]; exact sx_congr (by omega)
theorem parts3 (a b : Int) : opV 18 (opV 23 (opV 24 a b) b) (opV 26 a b) = sx a := by
  show sx (sx ((if b % 4294967296 = 0 then 18446744073709551615 else sx ((wrap32 a).tdiv (wrap32 b))) * b) + (if b % 4294967296 = 0 then sx a else sx ((wrap32 a).tmod (wrap32 b)))) = sx a
  by_cases h : b % 4294967296 = 0
  · rw [if_pos h, if_pos h]
    apply sx_congr
    have h1 := sx_mod (18446744073709551615 * b); have h2 := sx_mod a
    omega
  · rw [if_neg h, if_neg h]
    apply sx_congr
    have h1 := sx_mod (sx ((wrap32 a).tdiv (wrap32 b)) * b)
    have h2 := sx_mod ((wrap32 a).tmod (wrap32 b))
    have h3 : sx ((wrap32 a).tdiv (wrap32 b)) * b % 4294967296 = (wrap32 a).tdiv (wrap32 b) * wrap32 b % 4294967296 := by
      rw [Int.mul_emod, sx_mod, Int.mul_emod ((wrap32 a).tdiv (wrap32 b)) (wrap32 b)]
      congr 2
      unfold wrap32; omega
    have h4 := Int.mul_tdiv_add_tmod (wrap32 a) (wrap32 b)
    rw [Int.mul_comm] at h4
    have h5 : wrap32 a % 4294967296 = a % 4294967296 := by unfold wrap32; omega
    generalize (wrap32 a).tdiv (wrap32 b) * wrap32 b = p at *
    omega
theorem parts4 (a b : Int) : opV 18 (opV 23 (opV 25 a b) b) (opV 27 a b) = sx a := by
  show sx (sx ((if b % 4294967296 = 0 then 18446744073709551615 else sx (a % 4294967296 / (b % 4294967296))) * b) + (if b % 4294967296 = 0 then sx a else sx (a % 4294967296 % (b % 4294967296)))) = sx a
  by_cases h : b % 4294967296 = 0
  · rw [if_pos h, if_pos h]
    apply sx_congr
    have h1 := sx_mod (18446744073709551615 * b); have h2 := sx_mod a
    omega
  · rw [if_neg h, if_neg h]
    apply sx_congr
    have h1 := sx_mod (sx (a % 4294967296 / (b % 4294967296)) * b)
    have h2 := sx_mod (a % 4294967296 % (b % 4294967296))
    have h3 : sx (a % 4294967296 / (b % 4294967296)) * b % 4294967296 = a % 4294967296 / (b % 4294967296) * (b % 4294967296) % 4294967296 := by
      rw [Int.mul_emod, sx_mod, Int.mul_emod (a % 4294967296 / (b % 4294967296)) (b % 4294967296)]
      congr 2
      omega
    have h4 := Int.mul_ediv_add_emod (a % 4294967296) (b % 4294967296)
    rw [Int.mul_comm] at h4
    generalize a % 4294967296 / (b % 4294967296) * (b % 4294967296) = p at *
    omega
/-- Ranges of what an operation of numbers of 64 bits gives. -/
theorem opV_R (op : Int) {a b : Int} (A : 0 ≤ a ∧ a < 18446744073709551616) (B : 0 ≤ b ∧ b < 18446744073709551616) : 0 ≤ opV op a b ∧ opV op a b < 18446744073709551616 := opV_range op a b A.1 A.2 B.1 B.2
end Pl
theorem lawDo_q (op a b : Int) (w : World) (h : 1 ≤ op ∧ op ≤ 27) (A : 0 ≤ a ∧ a < 18446744073709551616) (B : 0 ≤ b ∧ b < 18446744073709551616) :
    Calls Try.prog 20 #[.int .i64 op, .int .u64 a, .int .u64 b] w fun e w' => e = .returned (.int .u64 (opV op a b)) ∧ w' = w :=
  (lawDo op a b w h.1 h.2 A.1 A.2 B.1 B.2).mono fun _ _ ⟨h1, h2⟩ => ⟨h1, h2.symm⟩

set_option maxHeartbeats 2000000 in
theorem numParts_walk (a b : Int) (w : World) (wa : (Lit.int .u64 a).wf = true) (wb : (Lit.int .u64 b).wf = true) :
    Calls Try.prog 7 #[.int .u64 a, .int .u64 b] w fun e w' => e = .returned (.bool true) ∧ Grown w w' := by
  have A := Lib.hid (bd_u64 wa); have B := Lib.hid (bd_u64 wb); clear wa wb
  have p1 := parts1 A.out.1 A.out.2 B.out.1 B.out.2
  have p2 := parts2 A.out.1 A.out.2 B.out.1
  have p3 := parts3 a b
  have p4 := parts4 a b
  have p5 := nrV_32 a
  have i0 : ∀ w, (Instr.index 38 (.agg #[.int .i64 14, .int .i64 16, .int .i64 11, .int .i64 1, .int .i64 15, .int .i64 17, .int .i64 11, .int .i64 1, .int .i64 24, .int .i64 26, .int .i64 23, .int .i64 18, .int .i64 25, .int .i64 27, .int .i64 23, .int .i64 18]) (.int .i64 0)).run Try.prog w = .ok (.agg #[.int .i64 14, .int .i64 16, .int .i64 11, .int .i64 1]) w := fun _ => by kernel_rfl
  have i1 : ∀ w, (Instr.index 38 (.agg #[.int .i64 14, .int .i64 16, .int .i64 11, .int .i64 1, .int .i64 15, .int .i64 17, .int .i64 11, .int .i64 1, .int .i64 24, .int .i64 26, .int .i64 23, .int .i64 18, .int .i64 25, .int .i64 27, .int .i64 23, .int .i64 18]) (.int .i64 1)).run Try.prog w = .ok (.agg #[.int .i64 15, .int .i64 17, .int .i64 11, .int .i64 1]) w := fun _ => by kernel_rfl
  have i2 : ∀ w, (Instr.index 38 (.agg #[.int .i64 14, .int .i64 16, .int .i64 11, .int .i64 1, .int .i64 15, .int .i64 17, .int .i64 11, .int .i64 1, .int .i64 24, .int .i64 26, .int .i64 23, .int .i64 18, .int .i64 25, .int .i64 27, .int .i64 23, .int .i64 18]) (.int .i64 2)).run Try.prog w = .ok (.agg #[.int .i64 24, .int .i64 26, .int .i64 23, .int .i64 18]) w := fun _ => by kernel_rfl
  have i3 : ∀ w, (Instr.index 38 (.agg #[.int .i64 14, .int .i64 16, .int .i64 11, .int .i64 1, .int .i64 15, .int .i64 17, .int .i64 11, .int .i64 1, .int .i64 24, .int .i64 26, .int .i64 23, .int .i64 18, .int .i64 25, .int .i64 27, .int .i64 23, .int .i64 18]) (.int .i64 3)).run Try.prog w = .ok (.agg #[.int .i64 25, .int .i64 27, .int .i64 23, .int .i64 18]) w := fun _ => by kernel_rfl
  go_enter Try.func7, Try.ntmps7
  go_wp2_with (first | (go_at_call 11; (with_reducible refine (awake_any _).mono ?_); rintro e w' ⟨rfl, rfl⟩))
  refine wp_loop_rounds 5 ?_
  iterate 4
    rw [rounds_succ]
    go_wp2_with (first | (go_at_call 19; (with_reducible refine (lawNarrow _ _ _ A.out.1 (by decide) (by decide)).mono ?_); rintro e w' ⟨rfl, rfl⟩))
    go_quiet ((go_at_call 20; exact Calls.quiet_of_same (lawDo_q _ _ _ _ (by decide) (by first | with_reducible exact A.out | exact opV_R _ A.out B.out | exact opV_R _ (opV_R _ A.out B.out) B.out) (by first | with_reducible exact B.out | exact opV_R _ A.out B.out))))
    go_wp2
  rw [rounds_succ]
  go_wp2
  go_ret
  refine ⟨rfl, ?_⟩
  repeat' (first | (with_reducible exact Grown.refl _) | (with_reducible refine grownN ?_) | (with_reducible refine Grown.alloc ?_ _ _) | (with_reducible refine Grown.setCell ?_ ?_ _) | go_size)

end Go.Proofs.Ytbkmnhgclkejdaa
