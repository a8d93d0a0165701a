/- The small functions of package code: what each answers; nothing in memory changes but new blocks. Conditions: the ranges that each theorem names. -/
import Derived.Test.YtpdflpkbamdbeaaDoorRows
import Derived.WalkKit
import Derived.ProofKit
import Derived.OpenShut
import Derived.WalkSpells
import Derived.Lib.Hide
import Derived.Handy
import Derived.Deep.QuietTactic
import Derived.BigQuiet
import Derived.Deep.MidRow
import Derived.Test.YtpdflpkbamdbeaaDoorCodeOr
namespace Go.Proofs.YtpdflpkbamdbeaaDoor
open Go.RowKit
set_option linter.unusedVariables false
open Pc

/-- A form, as a value. -/
abbrev frm (b1 b2 b3 : Bool) (fx lo hi st a0 w0 c0 a1 w1 c1 a2 w2 c2 a3 w3 c3 : Int) : Value :=
  .agg #[.bool b1, .bool b2, .bool b3, .int .u32 fx, .int .i64 lo, .int .i64 hi, .int .i64 st, .int .i64 a0, .int .i64 w0, .int .i64 c0, .int .i64 a1, .int .i64 w1, .int .i64 c1, .int .i64 a2, .int .i64 w2, .int .i64 c2, .int .i64 a3, .int .i64 w3, .int .i64 c3]
abbrev ins (op rd r1 r2 n : Int) : Value := .agg #[.int .i64 op, .int .i64 rd, .int .i64 r1, .int .i64 r2, .int .i64 n]

section
variable (b1 b2 b3 : Bool) (fx lo hi st a0 w0 c0 a1 w1 c1 a2 w2 c2 a3 w3 c3 op rd r1 r2 n : Int)

/-- The world behind a form that is handed over. -/
abbrev boxF (w : World) (b1 b2 b3 : Bool) (fx lo hi st a0 w0 c0 a1 w1 c1 a2 w2 c2 a3 w3 c3 : Int) : World :=
  w.alloc (.cells #[.bool b1, .bool b2, .bool b3, .int .u32 fx, .int .i64 lo, .int .i64 hi, .int .i64 st, .int .i64 a0, .int .i64 w0, .int .i64 c0, .int .i64 a1, .int .i64 w1, .int .i64 c1, .int .i64 a2, .int .i64 w2, .int .i64 c2, .int .i64 a3, .int .i64 w3, .int .i64 c3] 96)
set_option maxHeartbeats 1000000 in
theorem hasImm_any (w : World) :
    Calls Tryd.prog 49 #[frm b1 b2 b3 fx lo hi st a0 w0 c0 a1 w1 c1 a2 w2 c2 a3 w3 c3] w fun e w' => e = .returned (.bool (decide (lo ≤ hi))) ∧ boxF w b1 b2 b3 fx lo hi st a0 w0 c0 a1 w1 c1 a2 w2 c2 a3 w3 c3 = w' := by
  go_enter Tryd.func49, Tryd.ntmps49
  go_wp2
  go_ret
  exact ⟨rfl, rfl⟩

theorem isRegister_any (r : Int) (w : World) :
    Calls Tryd.prog 50 #[.int .i64 r] w fun e w' => e = .returned (.bool (regB r)) ∧ w = w' := by
  by_cases h1 : 0 ≤ r
  all_goals
    by_cases h2 : r < 32
    all_goals
      go_enter Tryd.func50, Tryd.ntmps50
      go_wp2
      go_ret
      exact ⟨by simp [regB]; omega, rfl⟩

set_option maxHeartbeats 1000000 in
theorem word_any (o f g : Int) (w : World) (ho : 0 ≤ o ∧ o < 128) (hf : 0 ≤ f ∧ f < 8) (hg : 0 ≤ g ∧ g < 128) :
    Calls Tryd.prog 38 #[.agg #[.int .u8 o, .int .u8 f, .int .u8 g]] w fun e w' => e = .returned (.int .u32 (keyV o f g)) ∧ Below w.heap.size w w' := by
  have e1 : bits .or .u32 o (f * 4096) = orI o (f * 4096) := or32 _ _ (by omega) (by omega) (by omega) (by omega)
  have e2 : bits .or .u32 (orI o (f * 4096)) (g * 33554432) = orI (orI o (f * 4096)) (g * 33554432) := or32 _ _ (orI_nonneg _ _) (orI_lt _ _ (by omega) (by omega)) (by omega) (by omega)
  go_enter Tryd.func38, Tryd.ntmps38
  go_wp2
  go_ret
  exact ⟨rfl, (Below.refl _ _).alloc (Nat.le_refl _) _⟩


/-- A whole struct read, guarded or not. -/
theorem wpList_load_g {P : Program} {ops : Array Oper} {rest : List Oper} {o : Oper} {a : Act} {w : World} {Q : Exit → Act → World → Prop} (hw : Region.wanted o (yielded ops a.tmps) = true) (ty : TypeId) (x : Operand) (ho : o.op = .load ty x)
    (g : Nat) (hx : a.eval x = .pointer (some ⟨g, 0, none⟩)) (t : TypeId) (cs : Array Value) (fr : Nat × Nat) (d : TypeDesc) (hg : w.heap[g]? = some (.cells cs t fr))
    (hu : P.underlying ty = some d) (hd : (match d with | .struct _ | .array _ _ => true | _ => false) = true) (hi : (P.info? ty).map (·.size) = some cs.size)
    (h : wpList P ops Q rest (a.put o.dst (.agg cs)) w) : wpList P ops Q (o :: rest) a w :=
  wpList_step fun K hK => by rw [if_pos hw]; exact wp_load_row ty x ho g hx t cs fr d hg hu hd hi (hK _ _ h)
theorem sizeForm : (Tryd.prog.info? 96).map (·.size) = some 19 := by kernel_rfl

theorem below2 (w : World) (A C : Obj) : Below w.heap.size w ((w.alloc A).alloc C) := ((Below.refl _ _).alloc (Nat.le_refl _) _).alloc (by simp) _
theorem below3 (w : World) (A C D : Obj) : Below w.heap.size w (((w.alloc A).alloc C).alloc D) := (below2 w A C).alloc (by simp; omega) _
theorem below4 (w : World) (A C D E : Obj) : Below w.heap.size w ((((w.alloc A).alloc C).alloc D).alloc E) := (below3 w A C D).alloc (by simp; omega) _

set_option maxHeartbeats 1000000 in
theorem lz_R_n (w : World) (hd : decide (lo ≤ hi) = false) (hn : (n == 0) = false) :
    Calls Tryd.prog 36 #[frm true true true fx lo hi st a0 w0 c0 a1 w1 c1 a2 w2 c2 a3 w3 c3, ins op rd r1 r2 n] w fun e w' =>
      e = .returned (.bool false) ∧ Below w.heap.size w w' := by
  go_enter Tryd.func36, Tryd.ntmps36
  go_wp2_with (first | (go_at_call 49; refine (hasImm_any _ _ _ _ _ _ _ _ _ _ _ _ _ _ _ _ _ _ _ _).mono ?_; rintro e w1 ⟨rfl, rfl⟩) | (refine wpList_load_g rfl 96 (.tmp 2) rfl w.heap.size rfl 96 _ (0, 0) _ (heap_alloc2_old _ _ _) Tryd.underlying96 rfl sizeForm ?_))
  go_ret
  exact ⟨rfl, below3 _ _ _ _⟩

set_option maxHeartbeats 1000000 in
theorem lz_R_ok (w : World) (hd : decide (lo ≤ hi) = false) (hn : (n == 0) = true) :
    Calls Tryd.prog 36 #[frm true true true fx lo hi st a0 w0 c0 a1 w1 c1 a2 w2 c2 a3 w3 c3, ins op rd r1 r2 n] w fun e w' =>
      e = .returned (.bool true) ∧ Below w.heap.size w w' := by
  go_enter Tryd.func36, Tryd.ntmps36
  go_wp2_with (first | (go_at_call 49; refine (hasImm_any _ _ _ _ _ _ _ _ _ _ _ _ _ _ _ _ _ _ _ _).mono ?_; rintro e w1 ⟨rfl, rfl⟩) | (refine wpList_load_g rfl 96 (.tmp 2) rfl w.heap.size rfl 96 _ (0, 0) _ (heap_alloc2_old _ _ _) Tryd.underlying96 rfl sizeForm ?_))
  go_ret
  exact ⟨rfl, below3 _ _ _ _⟩

theorem leavesZero_R (w : World) (hd : decide (lo ≤ hi) = false) :
    Calls Tryd.prog 36 #[frm true true true fx lo hi st a0 w0 c0 a1 w1 c1 a2 w2 c2 a3 w3 c3, ins op rd r1 r2 n] w fun e w' =>
      e = .returned (.bool ((n == 0))) ∧ Below w.heap.size w w' := by
  cases hn : (n == 0) with
  | false =>
    simpa [hn] using lz_R_n fx lo hi st a0 w0 c0 a1 w1 c1 a2 w2 c2 a3 w3 c3 op rd r1 r2 n w hd  hn
  | true =>
    simpa [hn] using lz_R_ok fx lo hi st a0 w0 c0 a1 w1 c1 a2 w2 c2 a3 w3 c3 op rd r1 r2 n w hd hn

set_option maxHeartbeats 1000000 in
theorem lz_I_r2 (w : World) (hd : decide (lo ≤ hi) = true) (hr2 : (r2 == 0) = false) :
    Calls Tryd.prog 36 #[frm true true false fx lo hi st a0 w0 c0 a1 w1 c1 a2 w2 c2 a3 w3 c3, ins op rd r1 r2 n] w fun e w' =>
      e = .returned (.bool false) ∧ Below w.heap.size w w' := by
  go_enter Tryd.func36, Tryd.ntmps36
  go_wp2_with (fail)
  go_ret
  exact ⟨rfl, below2 _ _ _⟩

set_option maxHeartbeats 1000000 in
theorem lz_I_ok (w : World) (hd : decide (lo ≤ hi) = true) (hr2 : (r2 == 0) = true) :
    Calls Tryd.prog 36 #[frm true true false fx lo hi st a0 w0 c0 a1 w1 c1 a2 w2 c2 a3 w3 c3, ins op rd r1 r2 n] w fun e w' =>
      e = .returned (.bool true) ∧ Below w.heap.size w w' := by
  go_enter Tryd.func36, Tryd.ntmps36
  go_wp2_with (first | (go_at_call 49; refine (hasImm_any _ _ _ _ _ _ _ _ _ _ _ _ _ _ _ _ _ _ _ _).mono ?_; rintro e w1 ⟨rfl, rfl⟩) | (refine wpList_load_g rfl 96 (.tmp 2) rfl w.heap.size rfl 96 _ (0, 0) _ (heap_alloc2_old _ _ _) Tryd.underlying96 rfl sizeForm ?_))
  go_ret
  exact ⟨rfl, below3 _ _ _ _⟩

theorem leavesZero_I (w : World) (hd : decide (lo ≤ hi) = true) :
    Calls Tryd.prog 36 #[frm true true false fx lo hi st a0 w0 c0 a1 w1 c1 a2 w2 c2 a3 w3 c3, ins op rd r1 r2 n] w fun e w' =>
      e = .returned (.bool ((r2 == 0))) ∧ Below w.heap.size w w' := by
  cases hr2 : (r2 == 0) with
  | false =>
    simpa [hr2] using lz_I_r2 fx lo hi st a0 w0 c0 a1 w1 c1 a2 w2 c2 a3 w3 c3 op rd r1 r2 n w hd  hr2
  | true =>
    simpa [hr2] using lz_I_ok fx lo hi st a0 w0 c0 a1 w1 c1 a2 w2 c2 a3 w3 c3 op rd r1 r2 n w hd hr2

set_option maxHeartbeats 1000000 in
theorem lz_S_rd (w : World) (hd : decide (lo ≤ hi) = true) (hrd : (rd == 0) = false) :
    Calls Tryd.prog 36 #[frm false true true fx lo hi st a0 w0 c0 a1 w1 c1 a2 w2 c2 a3 w3 c3, ins op rd r1 r2 n] w fun e w' =>
      e = .returned (.bool false) ∧ Below w.heap.size w w' := by
  go_enter Tryd.func36, Tryd.ntmps36
  go_wp2_with (fail)
  go_ret
  exact ⟨rfl, below2 _ _ _⟩

set_option maxHeartbeats 1000000 in
theorem lz_S_ok (w : World) (hd : decide (lo ≤ hi) = true) (hrd : (rd == 0) = true) :
    Calls Tryd.prog 36 #[frm false true true fx lo hi st a0 w0 c0 a1 w1 c1 a2 w2 c2 a3 w3 c3, ins op rd r1 r2 n] w fun e w' =>
      e = .returned (.bool true) ∧ Below w.heap.size w w' := by
  go_enter Tryd.func36, Tryd.ntmps36
  go_wp2_with (first | (go_at_call 49; refine (hasImm_any _ _ _ _ _ _ _ _ _ _ _ _ _ _ _ _ _ _ _ _).mono ?_; rintro e w1 ⟨rfl, rfl⟩) | (refine wpList_load_g rfl 96 (.tmp 2) rfl w.heap.size rfl 96 _ (0, 0) _ (heap_alloc2_old _ _ _) Tryd.underlying96 rfl sizeForm ?_))
  go_ret
  exact ⟨rfl, below3 _ _ _ _⟩

theorem leavesZero_S (w : World) (hd : decide (lo ≤ hi) = true) :
    Calls Tryd.prog 36 #[frm false true true fx lo hi st a0 w0 c0 a1 w1 c1 a2 w2 c2 a3 w3 c3, ins op rd r1 r2 n] w fun e w' =>
      e = .returned (.bool ((rd == 0))) ∧ Below w.heap.size w w' := by
  cases hrd : (rd == 0) with
  | false =>
    simpa [hrd] using lz_S_rd fx lo hi st a0 w0 c0 a1 w1 c1 a2 w2 c2 a3 w3 c3 op rd r1 r2 n w hd  hrd
  | true =>
    simpa [hrd] using lz_S_ok fx lo hi st a0 w0 c0 a1 w1 c1 a2 w2 c2 a3 w3 c3 op rd r1 r2 n w hd hrd

set_option maxHeartbeats 1000000 in
theorem lz_U_r1 (w : World) (hd : decide (lo ≤ hi) = true) (hr1 : (r1 == 0) = false) :
    Calls Tryd.prog 36 #[frm true false false fx lo hi st a0 w0 c0 a1 w1 c1 a2 w2 c2 a3 w3 c3, ins op rd r1 r2 n] w fun e w' =>
      e = .returned (.bool false) ∧ Below w.heap.size w w' := by
  go_enter Tryd.func36, Tryd.ntmps36
  go_wp2_with (fail)
  go_ret
  exact ⟨rfl, below2 _ _ _⟩

set_option maxHeartbeats 1000000 in
theorem lz_U_r2 (w : World) (hd : decide (lo ≤ hi) = true) (hr1 : (r1 == 0) = true) (hr2 : (r2 == 0) = false) :
    Calls Tryd.prog 36 #[frm true false false fx lo hi st a0 w0 c0 a1 w1 c1 a2 w2 c2 a3 w3 c3, ins op rd r1 r2 n] w fun e w' =>
      e = .returned (.bool false) ∧ Below w.heap.size w w' := by
  go_enter Tryd.func36, Tryd.ntmps36
  go_wp2_with (fail)
  go_ret
  exact ⟨rfl, below2 _ _ _⟩

set_option maxHeartbeats 1000000 in
theorem lz_U_ok (w : World) (hd : decide (lo ≤ hi) = true) (hr1 : (r1 == 0) = true) (hr2 : (r2 == 0) = true) :
    Calls Tryd.prog 36 #[frm true false false fx lo hi st a0 w0 c0 a1 w1 c1 a2 w2 c2 a3 w3 c3, ins op rd r1 r2 n] w fun e w' =>
      e = .returned (.bool true) ∧ Below w.heap.size w w' := by
  go_enter Tryd.func36, Tryd.ntmps36
  go_wp2_with (first | (go_at_call 49; refine (hasImm_any _ _ _ _ _ _ _ _ _ _ _ _ _ _ _ _ _ _ _ _).mono ?_; rintro e w1 ⟨rfl, rfl⟩) | (refine wpList_load_g rfl 96 (.tmp 2) rfl w.heap.size rfl 96 _ (0, 0) _ (heap_alloc2_old _ _ _) Tryd.underlying96 rfl sizeForm ?_))
  go_ret
  exact ⟨rfl, below3 _ _ _ _⟩

theorem leavesZero_U (w : World) (hd : decide (lo ≤ hi) = true) :
    Calls Tryd.prog 36 #[frm true false false fx lo hi st a0 w0 c0 a1 w1 c1 a2 w2 c2 a3 w3 c3, ins op rd r1 r2 n] w fun e w' =>
      e = .returned (.bool ((r1 == 0) && (r2 == 0))) ∧ Below w.heap.size w w' := by
  cases hr1 : (r1 == 0) with
  | false =>
    simpa [hr1] using lz_U_r1 fx lo hi st a0 w0 c0 a1 w1 c1 a2 w2 c2 a3 w3 c3 op rd r1 r2 n w hd  hr1
  | true =>
    cases hr2 : (r2 == 0) with
    | false =>
      simpa [hr1, hr2] using lz_U_r2 fx lo hi st a0 w0 c0 a1 w1 c1 a2 w2 c2 a3 w3 c3 op rd r1 r2 n w hd hr1 hr2
    | true =>
      simpa [hr1, hr2] using lz_U_ok fx lo hi st a0 w0 c0 a1 w1 c1 a2 w2 c2 a3 w3 c3 op rd r1 r2 n w hd hr1 hr2

set_option maxHeartbeats 1000000 in
theorem lz_N_rd (w : World) (hd : decide (lo ≤ hi) = false) (hrd : (rd == 0) = false) :
    Calls Tryd.prog 36 #[frm false false false fx lo hi st a0 w0 c0 a1 w1 c1 a2 w2 c2 a3 w3 c3, ins op rd r1 r2 n] w fun e w' =>
      e = .returned (.bool false) ∧ Below w.heap.size w w' := by
  go_enter Tryd.func36, Tryd.ntmps36
  go_wp2_with (fail)
  go_ret
  exact ⟨rfl, below2 _ _ _⟩

set_option maxHeartbeats 1000000 in
theorem lz_N_r1 (w : World) (hd : decide (lo ≤ hi) = false) (hrd : (rd == 0) = true) (hr1 : (r1 == 0) = false) :
    Calls Tryd.prog 36 #[frm false false false fx lo hi st a0 w0 c0 a1 w1 c1 a2 w2 c2 a3 w3 c3, ins op rd r1 r2 n] w fun e w' =>
      e = .returned (.bool false) ∧ Below w.heap.size w w' := by
  go_enter Tryd.func36, Tryd.ntmps36
  go_wp2_with (fail)
  go_ret
  exact ⟨rfl, below2 _ _ _⟩

set_option maxHeartbeats 1000000 in
theorem lz_N_r2 (w : World) (hd : decide (lo ≤ hi) = false) (hrd : (rd == 0) = true) (hr1 : (r1 == 0) = true) (hr2 : (r2 == 0) = false) :
    Calls Tryd.prog 36 #[frm false false false fx lo hi st a0 w0 c0 a1 w1 c1 a2 w2 c2 a3 w3 c3, ins op rd r1 r2 n] w fun e w' =>
      e = .returned (.bool false) ∧ Below w.heap.size w w' := by
  go_enter Tryd.func36, Tryd.ntmps36
  go_wp2_with (fail)
  go_ret
  exact ⟨rfl, below2 _ _ _⟩

set_option maxHeartbeats 1000000 in
theorem lz_N_n (w : World) (hd : decide (lo ≤ hi) = false) (hrd : (rd == 0) = true) (hr1 : (r1 == 0) = true) (hr2 : (r2 == 0) = true) (hn : (n == 0) = false) :
    Calls Tryd.prog 36 #[frm false false false fx lo hi st a0 w0 c0 a1 w1 c1 a2 w2 c2 a3 w3 c3, ins op rd r1 r2 n] w fun e w' =>
      e = .returned (.bool false) ∧ Below w.heap.size w w' := by
  go_enter Tryd.func36, Tryd.ntmps36
  go_wp2_with (first | (go_at_call 49; refine (hasImm_any _ _ _ _ _ _ _ _ _ _ _ _ _ _ _ _ _ _ _ _).mono ?_; rintro e w1 ⟨rfl, rfl⟩) | (refine wpList_load_g rfl 96 (.tmp 2) rfl w.heap.size rfl 96 _ (0, 0) _ (heap_alloc2_old _ _ _) Tryd.underlying96 rfl sizeForm ?_))
  go_ret
  exact ⟨rfl, below3 _ _ _ _⟩

set_option maxHeartbeats 1000000 in
theorem lz_N_ok (w : World) (hd : decide (lo ≤ hi) = false) (hrd : (rd == 0) = true) (hr1 : (r1 == 0) = true) (hr2 : (r2 == 0) = true) (hn : (n == 0) = true) :
    Calls Tryd.prog 36 #[frm false false false fx lo hi st a0 w0 c0 a1 w1 c1 a2 w2 c2 a3 w3 c3, ins op rd r1 r2 n] w fun e w' =>
      e = .returned (.bool true) ∧ Below w.heap.size w w' := by
  go_enter Tryd.func36, Tryd.ntmps36
  go_wp2_with (first | (go_at_call 49; refine (hasImm_any _ _ _ _ _ _ _ _ _ _ _ _ _ _ _ _ _ _ _ _).mono ?_; rintro e w1 ⟨rfl, rfl⟩) | (refine wpList_load_g rfl 96 (.tmp 2) rfl w.heap.size rfl 96 _ (0, 0) _ (heap_alloc2_old _ _ _) Tryd.underlying96 rfl sizeForm ?_))
  go_ret
  exact ⟨rfl, below3 _ _ _ _⟩

theorem leavesZero_N (w : World) (hd : decide (lo ≤ hi) = false) :
    Calls Tryd.prog 36 #[frm false false false fx lo hi st a0 w0 c0 a1 w1 c1 a2 w2 c2 a3 w3 c3, ins op rd r1 r2 n] w fun e w' =>
      e = .returned (.bool ((rd == 0) && (r1 == 0) && (r2 == 0) && (n == 0))) ∧ Below w.heap.size w w' := by
  cases hrd : (rd == 0) with
  | false =>
    simpa [hrd] using lz_N_rd fx lo hi st a0 w0 c0 a1 w1 c1 a2 w2 c2 a3 w3 c3 op rd r1 r2 n w hd  hrd
  | true =>
    cases hr1 : (r1 == 0) with
    | false =>
      simpa [hrd, hr1] using lz_N_r1 fx lo hi st a0 w0 c0 a1 w1 c1 a2 w2 c2 a3 w3 c3 op rd r1 r2 n w hd hrd hr1
    | true =>
      cases hr2 : (r2 == 0) with
      | false =>
        simpa [hrd, hr1, hr2] using lz_N_r2 fx lo hi st a0 w0 c0 a1 w1 c1 a2 w2 c2 a3 w3 c3 op rd r1 r2 n w hd hrd hr1 hr2
      | true =>
        cases hn : (n == 0) with
        | false =>
          simpa [hrd, hr1, hr2, hn] using lz_N_n fx lo hi st a0 w0 c0 a1 w1 c1 a2 w2 c2 a3 w3 c3 op rd r1 r2 n w hd hrd hr1 hr2 hn
        | true =>
          simpa [hrd, hr1, hr2, hn] using lz_N_ok fx lo hi st a0 w0 c0 a1 w1 c1 a2 w2 c2 a3 w3 c3 op rd r1 r2 n w hd hrd hr1 hr2 hn
end
end Go.Proofs.YtpdflpkbamdbeaaDoor
