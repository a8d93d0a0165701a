/- The laws of layer 1 that compare num with the document: NumDoes, NumAll, NumNarrows, NumMeans: each answers true, of any arguments; at most new blocks in memory. No condition but that the arguments are of their Go types. -/
import Derived.Test.YtbkmnhgclkejdaaRows
import Derived.WalkKit
import Derived.ProofKit
import Derived.OpenShut
import Derived.WalkSpells
import Derived.Lib.Hide
import Derived.Handy
import Derived.Test.YtbkmnhgclkejdaaNumLawsA
namespace Go.Proofs.Ytbkmnhgclkejdaa
open Go.RowKit
set_option linter.unusedVariables false
open Pl

theorem Pl.bd_u64 {a : Int} (h : (Lit.int .u64 a).wf = true) : 0 ≤ a ∧ a < 18446744073709551616 := by
  simp [Lit.wf, IntKind.min, IntKind.max, IntKind.signed, IntKind.bits] at h; omega
theorem Pl.bd_i64 {a : Int} (h : (Lit.int .i64 a).wf = true) : -9223372036854775808 ≤ a ∧ a ≤ 9223372036854775807 := by
  simp [Lit.wf, IntKind.min, IntKind.max, IntKind.signed, IntKind.bits] at h; omega

set_option maxHeartbeats 400000 in
theorem numDoes_walk (op a b : Int) (w : World) (wa : (Lit.int .u64 a).wf = true) (wb : (Lit.int .u64 b).wf = true) :
    Calls Try.prog 3 #[.int .i64 op, .int .u64 a, .int .u64 b] w fun e w' => e = .returned (.bool true) ∧ Grown w w' := by
  have A := Lib.hid (bd_u64 wa); have B := Lib.hid (bd_u64 wb); clear wa wb
  by_cases h : op < 1 ∨ 27 < op
  · have H := Lib.hid h; clear h
    go_enter Try.func3, Try.ntmps3
    go_wp2_with (first | (go_at_call 11; (with_reducible refine (awake_any _).mono ?_); rintro e w' ⟨rfl, rfl⟩) | (go_at_call 12; (with_reducible refine (do_none _ _ _ _ H.out).mono ?_); rintro e w' ⟨rfl, rfl⟩) | (go_at_call 13; (with_reducible refine (ref_none _ _ _ _ H.out).mono ?_); rintro e w' ⟨rfl, hg⟩))
    go_ret
    exact ⟨rfl, hg⟩
  · have H := Lib.hid (show 1 ≤ op ∧ op ≤ 27 by omega); clear h
    go_enter Try.func3, Try.ntmps3
    go_wp2_with (first | (go_at_call 11; (with_reducible refine (awake_any _).mono ?_); rintro e w' ⟨rfl, rfl⟩) | (go_at_call 12; (with_reducible refine (doAnyC _ _ _ _ H.out.1 H.out.2 A.out.1 A.out.2 B.out.1 B.out.2).mono ?_); rintro e w' ⟨rfl, rfl⟩) | (go_at_call 13; (with_reducible refine (ref_any _ _ _ _ H.out.1 H.out.2 A.out.1 A.out.2 B.out.1 B.out.2).mono ?_); rintro e w' ⟨rfl, hg⟩))
    go_ret
    exact ⟨rfl, hg⟩

set_option maxHeartbeats 1000000 in
theorem numAll_walk (a b : Int) (w : World) (wa : (Lit.int .u64 a).wf = true) (wb : (Lit.int .u64 b).wf = true) :
    Calls Try.prog 4 #[.int .u64 a, .int .u64 b] w fun e w' => e = .returned (.bool true) ∧ Grown w w' := by
  have A := Lib.hid (bd_u64 wa); have B := Lib.hid (bd_u64 wb); clear wa wb
  go_enter Try.func4, Try.ntmps4
  go_wp2_with (go_at_call 11; (with_reducible refine (awake_any _).mono ?_); rintro e w' ⟨rfl, rfl⟩)
  go_loopw [5] (fun v5 wr => ∃ k : Nat, k ≤ 29 ∧ v5 = .int .i64 k ∧ Grown w wr) (fun v5 _ => 29 - (intOf v5).toNat)
  case atStart => exact ⟨0, by omega, rfl, Grown.refl _⟩
  case round =>
    obtain ⟨k, hk, rfl, hg0⟩ := hrel
    have HG := Lib.hid hg0; clear hg0
    by_cases hlt : k ≤ 28
    · by_cases h : (k : Int) < 1 ∨ 27 < (k : Int)
      · have H := Lib.hid h; have HV := Lib.hid (opV_none k a b h); clear h
        go_wp2_with (first | (go_at_call 12; (with_reducible refine (do_none _ _ _ _ H.out).mono ?_); rintro e w' ⟨rfl, rfl⟩) | (go_at_call 13; (with_reducible refine (ref_none _ _ _ _ H.out).mono ?_); rintro e w' ⟨rfl, hg⟩))
        go_roundw
        case rel => exact ⟨k + 1, by omega, by go_num, grownT HG.out hg⟩
        case measure => simp [intOf]; omega
      · have H := Lib.hid (show 1 ≤ (k : Int) ∧ (k : Int) ≤ 27 by omega); clear h
        go_wp2_with (first | (go_at_call 12; (with_reducible refine (doAnyC _ _ _ _ H.out.1 H.out.2 A.out.1 A.out.2 B.out.1 B.out.2).mono ?_); rintro e w' ⟨rfl, rfl⟩) | (go_at_call 13; (with_reducible refine (ref_any _ _ _ _ H.out.1 H.out.2 A.out.1 A.out.2 B.out.1 B.out.2).mono ?_); rintro e w' ⟨rfl, hg⟩))
        go_roundw
        case rel => exact ⟨k + 1, by omega, by go_num, grownT HG.out hg⟩
        case measure => simp [intOf]; omega
    · go_wp2
      go_ret
      exact ⟨rfl, HG.out⟩

set_option maxHeartbeats 400000 in
theorem numNarrows_walk (a n : Int) (s : Bool) (w : World) (wa : (Lit.int .u64 a).wf = true) :
    Calls Try.prog 5 #[.int .u64 a, .int .i64 n, .bool s] w fun e w' => e = .returned (.bool true) ∧ Grown w w' := by
  have A := Lib.hid (bd_u64 wa); clear wa
  by_cases h : n < 1 ∨ 64 < n
  · have H := Lib.hid h; clear h
    go_enter Try.func5, Try.ntmps5
    go_wp2_with (first | (go_at_call 11; (with_reducible refine (awake_any _).mono ?_); rintro e w' ⟨rfl, rfl⟩) | (go_at_call 14; (with_reducible refine (narrow_none _ _ _ _ H.out).mono ?_); rintro e w' ⟨rfl, rfl⟩) | (go_at_call 15; (with_reducible refine (refNarrow_none _ _ _ _ H.out).mono ?_); rintro e w' ⟨rfl, rfl⟩))
    go_ret
    exact ⟨rfl, Grown.refl _⟩
  · have H := Lib.hid (show 1 ≤ n ∧ n ≤ 64 by omega); clear h
    go_enter Try.func5, Try.ntmps5
    go_wp2_with (first | (go_at_call 11; (with_reducible refine (awake_any _).mono ?_); rintro e w' ⟨rfl, rfl⟩) | (go_at_call 14; (with_reducible refine (narrow_any _ _ _ _ A.out.1 H.out.1 H.out.2).mono ?_); rintro e w' ⟨rfl, rfl⟩) | (go_at_call 15; (with_reducible refine (refNarrow_any _ _ _ _ A.out.1 A.out.2 H.out.1 H.out.2).mono ?_); rintro e w' ⟨rfl, rfl⟩))
    go_ret
    exact ⟨rfl, Grown.refl _⟩

set_option maxHeartbeats 400000 in
theorem numMeans_at (a b n : Int) (p q l m : Bool) (w : World) (e1 : IntKind.u64.wrap (wrap64 a) = a) (e2 : wrap64 (IntKind.u64.wrap n) = n)
    (D1 : decide (9223372036854775808 ≤ a) = p) (D2 : decide (9223372036854775808 ≤ b) = q) (L : decide (wrap64 a < wrap64 b) = l) (M : decide (a < b) = m) (Z : decide (wrap64 a < 0) = p)
    (h : l = if p = q then m else p) :
    Calls Try.prog 6 #[.int .u64 a, .int .u64 b, .int .i64 n] w fun e w' => e = .returned (.bool true) ∧ Grown w w' := by
  cases p <;> cases q <;> cases m <;> (obtain rfl := h) <;> (go_enter Try.func6, Try.ntmps6) <;> (go_wp2_with (first | (go_at_call 11; (with_reducible refine (awake_any _).mono ?_); rintro e w' ⟨rfl, rfl⟩) | go_in))
  all_goals
    go_ret
    exact ⟨rfl, Grown.refl _⟩

theorem numMeans_walk (a b n : Int) (w : World) (wa : (Lit.int .u64 a).wf = true) (wb : (Lit.int .u64 b).wf = true) (wn : (Lit.int .i64 n).wf = true) :
    Calls Try.prog 6 #[.int .u64 a, .int .u64 b, .int .i64 n] w fun e w' => e = .returned (.bool true) ∧ Grown w w' := by
  have A := bd_u64 wa; have B := bd_u64 wb; have N := bd_i64 wn
  refine numMeans_at a b n _ _ _ _ w (u64_wrap64 A.1 A.2) (by rw [IntKind.wrap_u64]; unfold wrap64; omega) rfl rfl rfl rfl ?_ ?_
  · rw [Bool.eq_iff_iff]; simp only [decide_eq_true_eq]; unfold wrap64; omega
  · by_cases h1 : 9223372036854775808 ≤ a <;> by_cases h2 : 9223372036854775808 ≤ b <;> simp [h1, h2] <;> unfold wrap64 <;> omega
end Go.Proofs.Ytbkmnhgclkejdaa
