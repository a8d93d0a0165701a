/- The middle functions of package code: whether registers and an Imm may be; a piece put into a word. At most new blocks in memory. Conditions: the ranges that each theorem names. -/
import Derived.Test.YtpdflpkbamdbeaaDoorCodeLeaf
namespace Go.Proofs.YtpdflpkbamdbeaaDoor
open Go.RowKit
set_option linter.unusedVariables false
set_option linter.unusedSimpArgs false
open Pc

section
variable (b1 b2 b3 : Bool) (fx lo hi st a0 w0 c0 a1 w1 c1 a2 w2 c2 a3 w3 c3 op rd r1 r2 n : Int)

theorem ai_low (w : World) (h1 : n < lo) :
    Calls Tryd.prog 51 #[frm b1 b2 b3 fx lo hi st a0 w0 c0 a1 w1 c1 a2 w2 c2 a3 w3 c3, .int .i64 n] w fun e w' => e = .returned (.bool false) ∧ boxF w b1 b2 b3 fx lo hi st a0 w0 c0 a1 w1 c1 a2 w2 c2 a3 w3 c3 = w' := by
  have h1' : decide (lo ≤ n) = false := by simp; omega
  go_enter Tryd.func51, Tryd.ntmps51
  go_wp2
  go_ret
  exact ⟨rfl, rfl⟩
theorem ai_high (w : World) (h1 : lo ≤ n) (h2 : hi < n) :
    Calls Tryd.prog 51 #[frm b1 b2 b3 fx lo hi st a0 w0 c0 a1 w1 c1 a2 w2 c2 a3 w3 c3, .int .i64 n] w fun e w' => e = .returned (.bool false) ∧ boxF w b1 b2 b3 fx lo hi st a0 w0 c0 a1 w1 c1 a2 w2 c2 a3 w3 c3 = w' := by
  have h1' : decide (lo ≤ n) = true := by simp; omega
  have h2' : decide (n ≤ hi) = false := by simp; omega
  go_enter Tryd.func51, Tryd.ntmps51
  go_wp2
  go_ret
  exact ⟨rfl, rfl⟩
theorem ai_one (w : World) (h1 : lo ≤ n) (h2 : n ≤ hi) :
    Calls Tryd.prog 51 #[frm b1 b2 b3 fx lo hi 1 a0 w0 c0 a1 w1 c1 a2 w2 c2 a3 w3 c3, .int .i64 n] w fun e w' => e = .returned (.bool true) ∧ boxF w b1 b2 b3 fx lo hi 1 a0 w0 c0 a1 w1 c1 a2 w2 c2 a3 w3 c3 = w' := by
  have h1' : decide (lo ≤ n) = true := by simp; omega
  have h2' : decide (n ≤ hi) = true := by simp; omega
  go_enter Tryd.func51, Tryd.ntmps51
  go_wp2
  go_ret
  exact ⟨by simp, rfl⟩
theorem ai_two (w : World) (h1 : lo ≤ n) (h2 : n ≤ hi) :
    Calls Tryd.prog 51 #[frm b1 b2 b3 fx lo hi 2 a0 w0 c0 a1 w1 c1 a2 w2 c2 a3 w3 c3, .int .i64 n] w fun e w' => e = .returned (.bool (n % 2 == 0)) ∧ boxF w b1 b2 b3 fx lo hi 2 a0 w0 c0 a1 w1 c1 a2 w2 c2 a3 w3 c3 = w' := by
  have h1' : decide (lo ≤ n) = true := by simp; omega
  have h2' : decide (n ≤ hi) = true := by simp; omega
  have h3 : (n.tmod 2 == 0) = (n % 2 == 0) := by
    rw [Bool.eq_iff_iff, beq_iff_eq, beq_iff_eq, ← Int.dvd_iff_tmod_eq_zero, Int.dvd_iff_emod_eq_zero]
  generalize hv : (n % 2 == 0) = v at *
  have Hv := Lib.hid hv
  clear hv
  go_enter Tryd.func51, Tryd.ntmps51
  go_wp2
  go_ret
  exact ⟨by simp [h3], rfl⟩

/-- What allowsImm answers: step 1, or 2. -/
theorem allowsImm_one (w : World) :
    Calls Tryd.prog 51 #[frm b1 b2 b3 fx lo hi 1 a0 w0 c0 a1 w1 c1 a2 w2 c2 a3 w3 c3, .int .i64 n] w fun e w' => e = .returned (.bool (decide (lo ≤ n) && decide (n ≤ hi))) ∧ boxF w b1 b2 b3 fx lo hi 1 a0 w0 c0 a1 w1 c1 a2 w2 c2 a3 w3 c3 = w' := by
  by_cases h1 : lo ≤ n
  · by_cases h2 : n ≤ hi
    · simpa [h1, h2] using ai_one b1 b2 b3 fx lo hi a0 w0 c0 a1 w1 c1 a2 w2 c2 a3 w3 c3 n w h1 h2
    · simpa [h1, h2] using ai_high b1 b2 b3 fx lo hi 1 a0 w0 c0 a1 w1 c1 a2 w2 c2 a3 w3 c3 n w h1 (by omega)
  · simpa [h1] using ai_low b1 b2 b3 fx lo hi 1 a0 w0 c0 a1 w1 c1 a2 w2 c2 a3 w3 c3 n w (by omega)
theorem allowsImm_two (w : World) :
    Calls Tryd.prog 51 #[frm b1 b2 b3 fx lo hi 2 a0 w0 c0 a1 w1 c1 a2 w2 c2 a3 w3 c3, .int .i64 n] w fun e w' => e = .returned (.bool (decide (lo ≤ n) && decide (n ≤ hi) && (n % 2 == 0))) ∧ boxF w b1 b2 b3 fx lo hi 2 a0 w0 c0 a1 w1 c1 a2 w2 c2 a3 w3 c3 = w' := by
  by_cases h1 : lo ≤ n
  · by_cases h2 : n ≤ hi
    · simpa [h1, h2] using ai_two b1 b2 b3 fx lo hi a0 w0 c0 a1 w1 c1 a2 w2 c2 a3 w3 c3 n w h1 h2
    · simpa [h1, h2] using ai_high b1 b2 b3 fx lo hi 2 a0 w0 c0 a1 w1 c1 a2 w2 c2 a3 w3 c3 n w h1 (by omega)
  · simpa [h1] using ai_low b1 b2 b3 fx lo hi 2 a0 w0 c0 a1 w1 c1 a2 w2 c2 a3 w3 c3 n w (by omega)

theorem heap_alloc3_old (w : World) (A C D : Obj) : (((w.alloc A).alloc C).alloc D).heap[w.heap.size]? = some A := by
  rw [Below.heap_alloc ((w.alloc A).alloc C) D w.heap.size (by simp; omega)]
  exact heap_alloc2_old w A C

set_option maxHeartbeats 1000000 in
theorem al_rd (w : World) (h1 : regB rd = false) :
    Calls Tryd.prog 37 #[frm b1 b2 b3 fx lo hi st a0 w0 c0 a1 w1 c1 a2 w2 c2 a3 w3 c3, ins op rd r1 r2 n] w fun e w' =>
      e = .returned (.bool (false)) ∧ Below w.heap.size w w' := by
  go_enter Tryd.func37, Tryd.ntmps37
  go_wp2_with (first | (go_at_call 50; refine (isRegister_any _ _).mono ?_; rintro e w1 ⟨rfl, rfl⟩))
  go_ret
  exact ⟨rfl, below2 _ _ _ ⟩

set_option maxHeartbeats 1000000 in
theorem al_r1 (w : World) (h1 : regB rd = true) (h2 : regB r1 = false) :
    Calls Tryd.prog 37 #[frm b1 b2 b3 fx lo hi st a0 w0 c0 a1 w1 c1 a2 w2 c2 a3 w3 c3, ins op rd r1 r2 n] w fun e w' =>
      e = .returned (.bool (false)) ∧ Below w.heap.size w w' := by
  go_enter Tryd.func37, Tryd.ntmps37
  go_wp2_with (first | (go_at_call 50; refine (isRegister_any _ _).mono ?_; rintro e w1 ⟨rfl, rfl⟩))
  go_ret
  exact ⟨rfl, below2 _ _ _ ⟩

set_option maxHeartbeats 1000000 in
theorem al_r2 (w : World) (h1 : regB rd = true) (h2 : regB r1 = true) (h3 : regB r2 = false) :
    Calls Tryd.prog 37 #[frm b1 b2 b3 fx lo hi st a0 w0 c0 a1 w1 c1 a2 w2 c2 a3 w3 c3, ins op rd r1 r2 n] w fun e w' =>
      e = .returned (.bool (false)) ∧ Below w.heap.size w w' := by
  go_enter Tryd.func37, Tryd.ntmps37
  go_wp2_with (first | (go_at_call 50; refine (isRegister_any _ _).mono ?_; rintro e w1 ⟨rfl, rfl⟩))
  go_ret
  exact ⟨rfl, below2 _ _ _ ⟩

set_option maxHeartbeats 1000000 in
theorem al_no (w : World) (h1 : regB rd = true) (h2 : regB r1 = true) (h3 : regB r2 = true) (hd : decide (lo ≤ hi) = false) :
    Calls Tryd.prog 37 #[frm b1 b2 b3 fx lo hi st a0 w0 c0 a1 w1 c1 a2 w2 c2 a3 w3 c3, ins op rd r1 r2 n] w fun e w' =>
      e = .returned (.bool (true)) ∧ Below w.heap.size w w' := by
  go_enter Tryd.func37, Tryd.ntmps37
  go_wp2_with (first | (go_at_call 50; refine (isRegister_any _ _).mono ?_; rintro e w1 ⟨rfl, rfl⟩) | (go_at_call 49; refine (hasImm_any _ _ _ _ _ _ _ _ _ _ _ _ _ _ _ _ _ _ _ _).mono ?_; rintro e w1 ⟨rfl, rfl⟩) | (refine wpList_load_g (o := ⟨some 19, _, _, _, _, _⟩) rfl 96 (.tmp 2) rfl w.heap.size rfl 96 _ (0, 0) _ (heap_alloc2_old w _ _) Tryd.underlying96 rfl sizeForm ?_))
  go_ret
  exact ⟨rfl, below3 _ _ _ _ ⟩

set_option maxHeartbeats 1000000 in
theorem al_one (w : World) (h1 : regB rd = true) (h2 : regB r1 = true) (h3 : regB r2 = true) (hd : decide (lo ≤ hi) = true) :
    Calls Tryd.prog 37 #[frm b1 b2 b3 fx lo hi 1 a0 w0 c0 a1 w1 c1 a2 w2 c2 a3 w3 c3, ins op rd r1 r2 n] w fun e w' =>
      e = .returned (.bool (decide (lo ≤ n) && decide (n ≤ hi))) ∧ Below w.heap.size w w' := by
  go_enter Tryd.func37, Tryd.ntmps37
  go_wp2_with (first | (go_at_call 50; refine (isRegister_any _ _).mono ?_; rintro e w1 ⟨rfl, rfl⟩) | (go_at_call 49; refine (hasImm_any _ _ _ _ _ _ _ _ _ _ _ _ _ _ _ _ _ _ _ _).mono ?_; rintro e w1 ⟨rfl, rfl⟩) | (go_at_call 51; refine (allowsImm_one _ _ _ _ _ _ _ _ _ _ _ _ _ _ _ _ _ _ _ _).mono ?_; rintro e w1 ⟨rfl, rfl⟩) | (refine wpList_load_g (o := ⟨some 19, _, _, _, _, _⟩) rfl 96 (.tmp 2) rfl w.heap.size rfl 96 _ (0, 0) _ (heap_alloc2_old w _ _) Tryd.underlying96 rfl sizeForm ?_) | (refine wpList_load_g (o := ⟨some 23, _, _, _, _, _⟩) rfl 96 (.tmp 2) rfl w.heap.size rfl 96 _ (0, 0) _ (heap_alloc3_old w _ _ _) Tryd.underlying96 rfl sizeForm ?_))
  go_ret
  exact ⟨rfl, below4 _ _ _ _ _ ⟩

set_option maxHeartbeats 1000000 in
theorem al_two (w : World) (h1 : regB rd = true) (h2 : regB r1 = true) (h3 : regB r2 = true) (hd : decide (lo ≤ hi) = true) :
    Calls Tryd.prog 37 #[frm b1 b2 b3 fx lo hi 2 a0 w0 c0 a1 w1 c1 a2 w2 c2 a3 w3 c3, ins op rd r1 r2 n] w fun e w' =>
      e = .returned (.bool (decide (lo ≤ n) && decide (n ≤ hi) && (n % 2 == 0))) ∧ Below w.heap.size w w' := by
  go_enter Tryd.func37, Tryd.ntmps37
  go_wp2_with (first | (go_at_call 50; refine (isRegister_any _ _).mono ?_; rintro e w1 ⟨rfl, rfl⟩) | (go_at_call 49; refine (hasImm_any _ _ _ _ _ _ _ _ _ _ _ _ _ _ _ _ _ _ _ _).mono ?_; rintro e w1 ⟨rfl, rfl⟩) | (go_at_call 51; refine (allowsImm_two _ _ _ _ _ _ _ _ _ _ _ _ _ _ _ _ _ _ _ _).mono ?_; rintro e w1 ⟨rfl, rfl⟩) | (refine wpList_load_g (o := ⟨some 19, _, _, _, _, _⟩) rfl 96 (.tmp 2) rfl w.heap.size rfl 96 _ (0, 0) _ (heap_alloc2_old w _ _) Tryd.underlying96 rfl sizeForm ?_) | (refine wpList_load_g (o := ⟨some 23, _, _, _, _, _⟩) rfl 96 (.tmp 2) rfl w.heap.size rfl 96 _ (0, 0) _ (heap_alloc3_old w _ _ _) Tryd.underlying96 rfl sizeForm ?_))
  go_ret
  exact ⟨rfl, below4 _ _ _ _ _ ⟩
end
end Go.Proofs.YtpdflpkbamdbeaaDoor
