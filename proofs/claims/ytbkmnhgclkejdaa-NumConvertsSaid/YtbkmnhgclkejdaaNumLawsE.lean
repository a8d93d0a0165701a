/- The law of layer 1 on narrowing, NumConverts: it answers true, of any arguments; at most new blocks in memory. No condition but that the arguments are of their Go types. -/
import Derived.Test.YtbkmnhgclkejdaaRows
import Derived.WalkKit
import Derived.ProofKit
import Derived.OpenShut
import Derived.WalkSpells
import Derived.WalkLawsBesides
import Derived.Lib.Hide
import Derived.Handy
import Derived.Deep.QuietTactic
import Derived.BigQuiet
import Derived.Test.YtbkmnhgclkejdaaNumLawsD
namespace Go.Proofs.Ytbkmnhgclkejdaa
open Go.RowKit
open Pl
set_option linter.unusedVariables false

theorem lawNarrowR (a n : Int) (w : World) (A : 0 ≤ a ∧ a < 18446744073709551616) (h : 1 ≤ n ∧ n ≤ 64) :
    Calls Try.prog 19 #[.int .u64 a, .int .i64 n] w fun e w' => e = .returned (.int .u64 (nrV true a n)) ∧ w = w' := lawNarrow a n w A.1 h.1 h.2

set_option maxRecDepth 100000 in
set_option maxHeartbeats 4000000 in
theorem numConverts_le (a b c d : Int) (w : World) (wa : (Lit.int .u64 a).wf = true) (wb : (Lit.int .u64 b).wf = true) (wc : (Lit.int .u8 c).wf = true) (wd : (Lit.int .u8 d).wf = true) (h : c % 64 + 1 ≤ d % 64 + 1) :
    Calls Try.prog 10 #[.int .u64 a, .int .u64 b, .agg #[.int .u8 c, .int .u8 d]] w fun e w' => e = .returned (.bool true) ∧ Grown w w' := by
  have A := Lib.hid (bd_u64 wa); clear wa
  have B := Lib.hid (bd_u64 wb); clear wb
  obtain ⟨hc0, hc1⟩ := bounds_u8 wc
  obtain ⟨hd0, hd1⟩ := bounds_u8 wd
  clear wc wd
  have N := Lib.hid (show 1 ≤ c % 64 + 1 ∧ c % 64 + 1 ≤ 64 by omega)
  have M := Lib.hid (show 1 ≤ d % 64 + 1 ∧ d % 64 + 1 ≤ 64 by omega)
  have u0 := nrV_up (a := a) N.out.1 (Int.le_refl _) N.out.2
  have u1 := nrV_up (a := a) N.out.1 h M.out.2
  have u2 := nrV_down (a := a) N.out.1 h M.out.2
  have e1 := @g1 a b (c % 64 + 1) N.out.2
  have e2 := @g2 a b (c % 64 + 1) N.out.2
  have e11 := @g11 a b (c % 64 + 1) N.out.2
  have e10 := @g10 a b (c % 64 + 1) A.out.1 B.out.1 N.out.2
  have e9 := @g9 a b (c % 64 + 1) A.out.1 B.out.1 N.out.2
  have e6 := @g6 a b (c % 64 + 1) A.out.1 B.out.1 N.out.2
  have el := @nrV_low a (c % 64 + 1) N.out.2
  have e18 := g18 a b
  have e23 := g23 a b
  have i0 : ∀ w, (Instr.index 44 (.agg #[.int .i64 1, .int .i64 2, .int .i64 11, .int .i64 10, .int .i64 9, .int .i64 6]) (.int .i64 0)).run Try.prog w = .ok (.int .i64 1) w := fun _ => by kernel_rfl
  have i1 : ∀ w, (Instr.index 44 (.agg #[.int .i64 1, .int .i64 2, .int .i64 11, .int .i64 10, .int .i64 9, .int .i64 6]) (.int .i64 1)).run Try.prog w = .ok (.int .i64 2) w := fun _ => by kernel_rfl
  have i2 : ∀ w, (Instr.index 44 (.agg #[.int .i64 1, .int .i64 2, .int .i64 11, .int .i64 10, .int .i64 9, .int .i64 6]) (.int .i64 2)).run Try.prog w = .ok (.int .i64 11) w := fun _ => by kernel_rfl
  have i3 : ∀ w, (Instr.index 44 (.agg #[.int .i64 1, .int .i64 2, .int .i64 11, .int .i64 10, .int .i64 9, .int .i64 6]) (.int .i64 3)).run Try.prog w = .ok (.int .i64 10) w := fun _ => by kernel_rfl
  have i4 : ∀ w, (Instr.index 44 (.agg #[.int .i64 1, .int .i64 2, .int .i64 11, .int .i64 10, .int .i64 9, .int .i64 6]) (.int .i64 4)).run Try.prog w = .ok (.int .i64 9) w := fun _ => by kernel_rfl
  have i5 : ∀ w, (Instr.index 44 (.agg #[.int .i64 1, .int .i64 2, .int .i64 11, .int .i64 10, .int .i64 9, .int .i64 6]) (.int .i64 5)).run Try.prog w = .ok (.int .i64 6) w := fun _ => by kernel_rfl
  go_enter Try.func10, Try.ntmps10
  go_wp2_with (first | (go_at_call 11; (with_reducible refine (awake_any _).mono ?_); rintro e w' ⟨rfl, rfl⟩))
  go_quiet (fail)
  go_wp2_with (first | (go_at_call 19; (with_reducible refine (lawNarrowR _ _ _ (by first | with_reducible exact A.out | with_reducible exact B.out | with_reducible exact nrV_range _ _ _ N.out.1 N.out.2 | with_reducible exact nrV_range _ _ _ M.out.1 M.out.2 | exact opV_R _ A.out B.out | exact opV_R _ (nrV_range _ _ _ N.out.1 N.out.2) (nrV_range _ _ _ N.out.1 N.out.2)) (by first | with_reducible exact N.out | with_reducible exact M.out | decide)).mono ?_); rintro e w' ⟨rfl, rfl⟩) | (go_at_call 20; (with_reducible refine (lawDoR _ _ _ _ (by decide) (by first | with_reducible exact A.out | with_reducible exact B.out | with_reducible exact nrV_range _ _ _ N.out.1 N.out.2 | with_reducible exact nrV_range _ _ _ M.out.1 M.out.2 | exact opV_R _ A.out B.out | exact opV_R _ (nrV_range _ _ _ N.out.1 N.out.2) (nrV_range _ _ _ N.out.1 N.out.2)) (by first | with_reducible exact A.out | with_reducible exact B.out | with_reducible exact nrV_range _ _ _ N.out.1 N.out.2 | with_reducible exact nrV_range _ _ _ M.out.1 M.out.2 | exact opV_R _ A.out B.out | exact opV_R _ (nrV_range _ _ _ N.out.1 N.out.2) (nrV_range _ _ _ N.out.1 N.out.2))).mono ?_); rintro e w' ⟨rfl, rfl⟩) | (go_at_call 14; (with_reducible refine (narrow_any _ _ _ _ A.out.1 N.out.1 N.out.2).mono ?_); rintro e w' ⟨rfl, rfl⟩))
  all_goals
    refine wp_loop_rounds 7 ?_
    iterate 6
      rw [rounds_succ]
      go_wp2_with (first | (go_at_call 19; (with_reducible refine (lawNarrowR _ _ _ (by first | with_reducible exact A.out | with_reducible exact B.out | with_reducible exact nrV_range _ _ _ N.out.1 N.out.2 | with_reducible exact nrV_range _ _ _ M.out.1 M.out.2 | exact opV_R _ A.out B.out | exact opV_R _ (nrV_range _ _ _ N.out.1 N.out.2) (nrV_range _ _ _ N.out.1 N.out.2)) (by first | with_reducible exact N.out | with_reducible exact M.out | decide)).mono ?_); rintro e w' ⟨rfl, rfl⟩) | (go_at_call 20; (with_reducible refine (lawDoR _ _ _ _ (by decide) (by first | with_reducible exact A.out | with_reducible exact B.out | with_reducible exact nrV_range _ _ _ N.out.1 N.out.2 | with_reducible exact nrV_range _ _ _ M.out.1 M.out.2 | exact opV_R _ A.out B.out | exact opV_R _ (nrV_range _ _ _ N.out.1 N.out.2) (nrV_range _ _ _ N.out.1 N.out.2)) (by first | with_reducible exact A.out | with_reducible exact B.out | with_reducible exact nrV_range _ _ _ N.out.1 N.out.2 | with_reducible exact nrV_range _ _ _ M.out.1 M.out.2 | exact opV_R _ A.out B.out | exact opV_R _ (nrV_range _ _ _ N.out.1 N.out.2) (nrV_range _ _ _ N.out.1 N.out.2))).mono ?_); rintro e w' ⟨rfl, rfl⟩) | (go_at_call 14; (with_reducible refine (narrow_any _ _ _ _ A.out.1 N.out.1 N.out.2).mono ?_); rintro e w' ⟨rfl, rfl⟩))
    rw [rounds_succ]
    go_wp2_with (first | (go_at_call 19; (with_reducible refine (lawNarrowR _ _ _ (by first | with_reducible exact A.out | with_reducible exact B.out | with_reducible exact nrV_range _ _ _ N.out.1 N.out.2 | with_reducible exact nrV_range _ _ _ M.out.1 M.out.2 | exact opV_R _ A.out B.out | exact opV_R _ (nrV_range _ _ _ N.out.1 N.out.2) (nrV_range _ _ _ N.out.1 N.out.2)) (by first | with_reducible exact N.out | with_reducible exact M.out | decide)).mono ?_); rintro e w' ⟨rfl, rfl⟩) | (go_at_call 20; (with_reducible refine (lawDoR _ _ _ _ (by decide) (by first | with_reducible exact A.out | with_reducible exact B.out | with_reducible exact nrV_range _ _ _ N.out.1 N.out.2 | with_reducible exact nrV_range _ _ _ M.out.1 M.out.2 | exact opV_R _ A.out B.out | exact opV_R _ (nrV_range _ _ _ N.out.1 N.out.2) (nrV_range _ _ _ N.out.1 N.out.2)) (by first | with_reducible exact A.out | with_reducible exact B.out | with_reducible exact nrV_range _ _ _ N.out.1 N.out.2 | with_reducible exact nrV_range _ _ _ M.out.1 M.out.2 | exact opV_R _ A.out B.out | exact opV_R _ (nrV_range _ _ _ N.out.1 N.out.2) (nrV_range _ _ _ N.out.1 N.out.2))).mono ?_); rintro e w' ⟨rfl, rfl⟩) | (go_at_call 14; (with_reducible refine (narrow_any _ _ _ _ A.out.1 N.out.1 N.out.2).mono ?_); rintro e w' ⟨rfl, rfl⟩))
    go_ret
    refine ⟨rfl, ?_⟩
    repeat' (first | (with_reducible exact Grown.refl _) | (with_reducible refine grownN ?_) | (with_reducible refine Grown.alloc ?_ _ _) | (with_reducible refine Grown.setCell ?_ ?_ _) | go_size)

set_option maxRecDepth 100000 in
set_option maxHeartbeats 4000000 in
theorem numConverts_gt (a b c d : Int) (w : World) (wa : (Lit.int .u64 a).wf = true) (wb : (Lit.int .u64 b).wf = true) (wc : (Lit.int .u8 c).wf = true) (wd : (Lit.int .u8 d).wf = true) (h : d % 64 + 1 < c % 64 + 1) :
    Calls Try.prog 10 #[.int .u64 a, .int .u64 b, .agg #[.int .u8 c, .int .u8 d]] w fun e w' => e = .returned (.bool true) ∧ Grown w w' := by
  have A := Lib.hid (bd_u64 wa); clear wa
  have B := Lib.hid (bd_u64 wb); clear wb
  obtain ⟨hc0, hc1⟩ := bounds_u8 wc
  obtain ⟨hd0, hd1⟩ := bounds_u8 wd
  clear wc wd
  have N := Lib.hid (show 1 ≤ c % 64 + 1 ∧ c % 64 + 1 ≤ 64 by omega)
  have M := Lib.hid (show 1 ≤ d % 64 + 1 ∧ d % 64 + 1 ≤ 64 by omega)
  have u0 := nrV_up (a := a) N.out.1 (Int.le_refl _) N.out.2
  have e1 := @g1 a b (c % 64 + 1) N.out.2
  have e2 := @g2 a b (c % 64 + 1) N.out.2
  have e11 := @g11 a b (c % 64 + 1) N.out.2
  have e10 := @g10 a b (c % 64 + 1) A.out.1 B.out.1 N.out.2
  have e9 := @g9 a b (c % 64 + 1) A.out.1 B.out.1 N.out.2
  have e6 := @g6 a b (c % 64 + 1) A.out.1 B.out.1 N.out.2
  have el := @nrV_low a (c % 64 + 1) N.out.2
  have e18 := g18 a b
  have e23 := g23 a b
  have i0 : ∀ w, (Instr.index 44 (.agg #[.int .i64 1, .int .i64 2, .int .i64 11, .int .i64 10, .int .i64 9, .int .i64 6]) (.int .i64 0)).run Try.prog w = .ok (.int .i64 1) w := fun _ => by kernel_rfl
  have i1 : ∀ w, (Instr.index 44 (.agg #[.int .i64 1, .int .i64 2, .int .i64 11, .int .i64 10, .int .i64 9, .int .i64 6]) (.int .i64 1)).run Try.prog w = .ok (.int .i64 2) w := fun _ => by kernel_rfl
  have i2 : ∀ w, (Instr.index 44 (.agg #[.int .i64 1, .int .i64 2, .int .i64 11, .int .i64 10, .int .i64 9, .int .i64 6]) (.int .i64 2)).run Try.prog w = .ok (.int .i64 11) w := fun _ => by kernel_rfl
  have i3 : ∀ w, (Instr.index 44 (.agg #[.int .i64 1, .int .i64 2, .int .i64 11, .int .i64 10, .int .i64 9, .int .i64 6]) (.int .i64 3)).run Try.prog w = .ok (.int .i64 10) w := fun _ => by kernel_rfl
  have i4 : ∀ w, (Instr.index 44 (.agg #[.int .i64 1, .int .i64 2, .int .i64 11, .int .i64 10, .int .i64 9, .int .i64 6]) (.int .i64 4)).run Try.prog w = .ok (.int .i64 9) w := fun _ => by kernel_rfl
  have i5 : ∀ w, (Instr.index 44 (.agg #[.int .i64 1, .int .i64 2, .int .i64 11, .int .i64 10, .int .i64 9, .int .i64 6]) (.int .i64 5)).run Try.prog w = .ok (.int .i64 6) w := fun _ => by kernel_rfl
  go_enter Try.func10, Try.ntmps10
  go_wp2_with (first | (go_at_call 11; (with_reducible refine (awake_any _).mono ?_); rintro e w' ⟨rfl, rfl⟩))
  go_quiet (fail)
  go_wp2_with (first | (go_at_call 19; (with_reducible refine (lawNarrowR _ _ _ (by first | with_reducible exact A.out | with_reducible exact B.out | with_reducible exact nrV_range _ _ _ N.out.1 N.out.2 | with_reducible exact nrV_range _ _ _ M.out.1 M.out.2 | exact opV_R _ A.out B.out | exact opV_R _ (nrV_range _ _ _ N.out.1 N.out.2) (nrV_range _ _ _ N.out.1 N.out.2)) (by first | with_reducible exact N.out | with_reducible exact M.out | decide)).mono ?_); rintro e w' ⟨rfl, rfl⟩) | (go_at_call 20; (with_reducible refine (lawDoR _ _ _ _ (by decide) (by first | with_reducible exact A.out | with_reducible exact B.out | with_reducible exact nrV_range _ _ _ N.out.1 N.out.2 | with_reducible exact nrV_range _ _ _ M.out.1 M.out.2 | exact opV_R _ A.out B.out | exact opV_R _ (nrV_range _ _ _ N.out.1 N.out.2) (nrV_range _ _ _ N.out.1 N.out.2)) (by first | with_reducible exact A.out | with_reducible exact B.out | with_reducible exact nrV_range _ _ _ N.out.1 N.out.2 | with_reducible exact nrV_range _ _ _ M.out.1 M.out.2 | exact opV_R _ A.out B.out | exact opV_R _ (nrV_range _ _ _ N.out.1 N.out.2) (nrV_range _ _ _ N.out.1 N.out.2))).mono ?_); rintro e w' ⟨rfl, rfl⟩) | (go_at_call 14; (with_reducible refine (narrow_any _ _ _ _ A.out.1 N.out.1 N.out.2).mono ?_); rintro e w' ⟨rfl, rfl⟩))
  all_goals
    refine wp_loop_rounds 7 ?_
    iterate 6
      rw [rounds_succ]
      go_wp2_with (first | (go_at_call 19; (with_reducible refine (lawNarrowR _ _ _ (by first | with_reducible exact A.out | with_reducible exact B.out | with_reducible exact nrV_range _ _ _ N.out.1 N.out.2 | with_reducible exact nrV_range _ _ _ M.out.1 M.out.2 | exact opV_R _ A.out B.out | exact opV_R _ (nrV_range _ _ _ N.out.1 N.out.2) (nrV_range _ _ _ N.out.1 N.out.2)) (by first | with_reducible exact N.out | with_reducible exact M.out | decide)).mono ?_); rintro e w' ⟨rfl, rfl⟩) | (go_at_call 20; (with_reducible refine (lawDoR _ _ _ _ (by decide) (by first | with_reducible exact A.out | with_reducible exact B.out | with_reducible exact nrV_range _ _ _ N.out.1 N.out.2 | with_reducible exact nrV_range _ _ _ M.out.1 M.out.2 | exact opV_R _ A.out B.out | exact opV_R _ (nrV_range _ _ _ N.out.1 N.out.2) (nrV_range _ _ _ N.out.1 N.out.2)) (by first | with_reducible exact A.out | with_reducible exact B.out | with_reducible exact nrV_range _ _ _ N.out.1 N.out.2 | with_reducible exact nrV_range _ _ _ M.out.1 M.out.2 | exact opV_R _ A.out B.out | exact opV_R _ (nrV_range _ _ _ N.out.1 N.out.2) (nrV_range _ _ _ N.out.1 N.out.2))).mono ?_); rintro e w' ⟨rfl, rfl⟩) | (go_at_call 14; (with_reducible refine (narrow_any _ _ _ _ A.out.1 N.out.1 N.out.2).mono ?_); rintro e w' ⟨rfl, rfl⟩))
    rw [rounds_succ]
    go_wp2_with (first | (go_at_call 19; (with_reducible refine (lawNarrowR _ _ _ (by first | with_reducible exact A.out | with_reducible exact B.out | with_reducible exact nrV_range _ _ _ N.out.1 N.out.2 | with_reducible exact nrV_range _ _ _ M.out.1 M.out.2 | exact opV_R _ A.out B.out | exact opV_R _ (nrV_range _ _ _ N.out.1 N.out.2) (nrV_range _ _ _ N.out.1 N.out.2)) (by first | with_reducible exact N.out | with_reducible exact M.out | decide)).mono ?_); rintro e w' ⟨rfl, rfl⟩) | (go_at_call 20; (with_reducible refine (lawDoR _ _ _ _ (by decide) (by first | with_reducible exact A.out | with_reducible exact B.out | with_reducible exact nrV_range _ _ _ N.out.1 N.out.2 | with_reducible exact nrV_range _ _ _ M.out.1 M.out.2 | exact opV_R _ A.out B.out | exact opV_R _ (nrV_range _ _ _ N.out.1 N.out.2) (nrV_range _ _ _ N.out.1 N.out.2)) (by first | with_reducible exact A.out | with_reducible exact B.out | with_reducible exact nrV_range _ _ _ N.out.1 N.out.2 | with_reducible exact nrV_range _ _ _ M.out.1 M.out.2 | exact opV_R _ A.out B.out | exact opV_R _ (nrV_range _ _ _ N.out.1 N.out.2) (nrV_range _ _ _ N.out.1 N.out.2))).mono ?_); rintro e w' ⟨rfl, rfl⟩) | (go_at_call 14; (with_reducible refine (narrow_any _ _ _ _ A.out.1 N.out.1 N.out.2).mono ?_); rintro e w' ⟨rfl, rfl⟩))
    go_ret
    refine ⟨rfl, ?_⟩
    repeat' (first | (with_reducible exact Grown.refl _) | (with_reducible refine grownN ?_) | (with_reducible refine Grown.alloc ?_ _ _) | (with_reducible refine Grown.setCell ?_ ?_ _) | go_size)

theorem numConverts_walk (a b c d : Int) (w : World) (wa : (Lit.int .u64 a).wf = true) (wb : (Lit.int .u64 b).wf = true) (wc : (Lit.int .u8 c).wf = true) (wd : (Lit.int .u8 d).wf = true) :
    Calls Try.prog 10 #[.int .u64 a, .int .u64 b, .agg #[.int .u8 c, .int .u8 d]] w fun e w' => e = .returned (.bool true) ∧ Grown w w' := by
  by_cases h : c % 64 + 1 ≤ d % 64 + 1
  · exact numConverts_le a b c d w wa wb wc wd h
  · exact numConverts_gt a b c d w wa wb wc wd (by omega)
end Go.Proofs.Ytbkmnhgclkejdaa
