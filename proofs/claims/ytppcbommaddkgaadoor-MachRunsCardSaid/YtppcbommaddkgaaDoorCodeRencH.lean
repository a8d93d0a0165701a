/- The document's Encode, form by form. At most new blocks in memory. Conditions: each theorem's form and outcome. -/
import Derived.Test.YtppcbommaddkgaaDoorCodeBits
import Derived.Test.YtppcbommaddkgaaDoorCodeEnc
import Derived.RegionTactic
import Derived.BigRegion
namespace Go.Proofs.YtppcbommaddkgaaDoor
open Go.RowKit
set_option linter.unusedVariables false
set_option linter.unusedSimpArgs false
set_option maxRecDepth 10000
open Pc
theorem box_after {op rd r1 r2 n : Int} {t : TypeId} {w w1 : World} (h : Below (w.alloc (.cells #[.int .i64 op, .int .i64 rd, .int .i64 r1, .int .i64 r2, .int .i64 n] t)).heap.size (w.alloc (.cells #[.int .i64 op, .int .i64 rd, .int .i64 r1, .int .i64 r2, .int .i64 n] t)) w1) :
    w.heap.size + 1 ≤ w1.heap.size ∧ w.heap.size < w1.heap.size ∧ ¬ w.heap.size = w1.heap.size ∧ w1.cell? ⟨w.heap.size, 0, none⟩ = some (.int .i64 op) ∧ w1.cell? ⟨w.heap.size, 1, none⟩ = some (.int .i64 rd) ∧ w1.cell? ⟨w.heap.size, 2, none⟩ = some (.int .i64 r1) ∧ w1.cell? ⟨w.heap.size, 3, none⟩ = some (.int .i64 r2) ∧ w1.cell? ⟨w.heap.size, 4, none⟩ = some (.int .i64 n) := by
  have hz := h.size
  simp only [szA] at hz
  have hc : ∀ i : Nat, w1.cell? ⟨w.heap.size, i, none⟩ = (#[Value.int .i64 op, .int .i64 rd, .int .i64 r1, .int .i64 r2, .int .i64 n] : Array Value)[i]? := fun i => (h.cell (p := ⟨w.heap.size, i, none⟩) (by simp only [szA]; omega)).trans (World.cell?_alloc_new ..)
  exact ⟨hz, by omega, by omega, hc 0, hc 1, hc 2, hc 3, hc 4⟩
theorem belowQ {B : Nat} {a w : World} (n : Nat) (h : Below B a w) : Below B a (w.drewN n) := ⟨h.os, h.tape, h.output, h.size, h.block⟩
theorem below_end {w w1 : World} {I R : Obj} (h : Below (w.alloc I).heap.size (w.alloc I) w1) : Below w.heap.size w (w1.alloc R) := by
  have hz := h.size
  simp only [szA] at hz
  exact ((((Below.refl _ _).alloc (Nat.le_refl _) I).trans (h.mono (by simp only [szA]; omega)))).alloc (by omega) R
theorem ret_2 {a b s : Int} (h : a = b) : Ending.returned (.tuple #[.int .u32 a, .int .i64 s]) = .returned (.tuple #[.int .u32 b, .int .i64 s]) := by rw [h]
theorem bits_0_5 (n : Int) (w : World) (hx : -1048576 ≤ n ∧ n < 1048576) : Calls Tryd.prog 39 #[.int .i64 n, .int .i64 0, .int .i64 5] w fun e w' => e = .returned (.int .i64 (n % 32)) ∧ w = w' := by
  refine (bits_any n 0 5 w hx (by decide) (by decide)).mono ?_
  rintro e w' ⟨rfl, h⟩
  refine ⟨?_, h⟩
  rw [show lift n / 2 ^ 0 % 2 ^ 5 = n % 32 by unfold lift; split <;> omega]
theorem bits_5_7 (n : Int) (w : World) (hx : -1048576 ≤ n ∧ n < 1048576) : Calls Tryd.prog 39 #[.int .i64 n, .int .i64 5, .int .i64 7] w fun e w' => e = .returned (.int .i64 (n / 32 % 128)) ∧ w = w' := by
  refine (bits_any n 5 7 w hx (by decide) (by decide)).mono ?_
  rintro e w' ⟨rfl, h⟩
  refine ⟨?_, h⟩
  rw [show lift n / 2 ^ 5 % 2 ^ 7 = n / 32 % 128 by unfold lift; split <;> omega]
theorem bits_11_1 (n : Int) (w : World) (hx : -1048576 ≤ n ∧ n < 1048576) : Calls Tryd.prog 39 #[.int .i64 n, .int .i64 11, .int .i64 1] w fun e w' => e = .returned (.int .i64 (n / 2048 % 2)) ∧ w = w' := by
  refine (bits_any n 11 1 w hx (by decide) (by decide)).mono ?_
  rintro e w' ⟨rfl, h⟩
  refine ⟨?_, h⟩
  rw [show lift n / 2 ^ 11 % 2 ^ 1 = n / 2048 % 2 by unfold lift; split <;> omega]
theorem bits_1_4 (n : Int) (w : World) (hx : -1048576 ≤ n ∧ n < 1048576) : Calls Tryd.prog 39 #[.int .i64 n, .int .i64 1, .int .i64 4] w fun e w' => e = .returned (.int .i64 (n / 2 % 16)) ∧ w = w' := by
  refine (bits_any n 1 4 w hx (by decide) (by decide)).mono ?_
  rintro e w' ⟨rfl, h⟩
  refine ⟨?_, h⟩
  rw [show lift n / 2 ^ 1 % 2 ^ 4 = n / 2 % 16 by unfold lift; split <;> omega]
theorem bits_5_6 (n : Int) (w : World) (hx : -1048576 ≤ n ∧ n < 1048576) : Calls Tryd.prog 39 #[.int .i64 n, .int .i64 5, .int .i64 6] w fun e w' => e = .returned (.int .i64 (n / 32 % 64)) ∧ w = w' := by
  refine (bits_any n 5 6 w hx (by decide) (by decide)).mono ?_
  rintro e w' ⟨rfl, h⟩
  refine ⟨?_, h⟩
  rw [show lift n / 2 ^ 5 % 2 ^ 6 = n / 32 % 64 by unfold lift; split <;> omega]
theorem bits_12_1 (n : Int) (w : World) (hx : -1048576 ≤ n ∧ n < 1048576) : Calls Tryd.prog 39 #[.int .i64 n, .int .i64 12, .int .i64 1] w fun e w' => e = .returned (.int .i64 (n / 4096 % 2)) ∧ w = w' := by
  refine (bits_any n 12 1 w hx (by decide) (by decide)).mono ?_
  rintro e w' ⟨rfl, h⟩
  refine ⟨?_, h⟩
  rw [show lift n / 2 ^ 12 % 2 ^ 1 = n / 4096 % 2 by unfold lift; split <;> omega]
theorem bits_0_20 (n : Int) (w : World) (hx : -1048576 ≤ n ∧ n < 1048576) : Calls Tryd.prog 39 #[.int .i64 n, .int .i64 0, .int .i64 20] w fun e w' => e = .returned (.int .i64 (n % 1048576)) ∧ w = w' := by
  refine (bits_any n 0 20 w hx (by decide) (by decide)).mono ?_
  rintro e w' ⟨rfl, h⟩
  refine ⟨?_, h⟩
  rw [show lift n / 2 ^ 0 % 2 ^ 20 = n % 1048576 by unfold lift; split <;> omega]
theorem bits_12_8 (n : Int) (w : World) (hx : -1048576 ≤ n ∧ n < 1048576) : Calls Tryd.prog 39 #[.int .i64 n, .int .i64 12, .int .i64 8] w fun e w' => e = .returned (.int .i64 (n / 4096 % 256)) ∧ w = w' := by
  refine (bits_any n 12 8 w hx (by decide) (by decide)).mono ?_
  rintro e w' ⟨rfl, h⟩
  refine ⟨?_, h⟩
  rw [show lift n / 2 ^ 12 % 2 ^ 8 = n / 4096 % 256 by unfold lift; split <;> omega]
theorem bits_1_10 (n : Int) (w : World) (hx : -1048576 ≤ n ∧ n < 1048576) : Calls Tryd.prog 39 #[.int .i64 n, .int .i64 1, .int .i64 10] w fun e w' => e = .returned (.int .i64 (n / 2 % 1024)) ∧ w = w' := by
  refine (bits_any n 1 10 w hx (by decide) (by decide)).mono ?_
  rintro e w' ⟨rfl, h⟩
  refine ⟨?_, h⟩
  rw [show lift n / 2 ^ 1 % 2 ^ 10 = n / 2 % 1024 by unfold lift; split <;> omega]
theorem bits_20_1 (n : Int) (w : World) (hx : -1048576 ≤ n ∧ n < 1048576) : Calls Tryd.prog 39 #[.int .i64 n, .int .i64 20, .int .i64 1] w fun e w' => e = .returned (.int .i64 (n / 1048576 % 2)) ∧ w = w' := by
  refine (bits_any n 20 1 w hx (by decide) (by decide)).mono ?_
  rintro e w' ⟨rfl, h⟩
  refine ⟨?_, h⟩
  rw [show lift n / 2 ^ 20 % 2 ^ 1 = n / 1048576 % 2 by unfold lift; split <;> omega]
theorem bq_0_20 (n : Int) (w : World) (hx : -1048576 ≤ n ∧ n < 1048576) : Calls Tryd.prog 39 #[.int .i64 n, .int .i64 0, .int .i64 20] w fun e w' => e = .returned (.int .i64 (n % 1048576)) ∧ w' = w :=
  (bits_0_20 n w hx).mono fun _ _ h => ⟨h.1, h.2.symm⟩
theorem bq_12_8 (n : Int) (w : World) (hx : -1048576 ≤ n ∧ n < 1048576) : Calls Tryd.prog 39 #[.int .i64 n, .int .i64 12, .int .i64 8] w fun e w' => e = .returned (.int .i64 (n / 4096 % 256)) ∧ w' = w :=
  (bits_12_8 n w hx).mono fun _ _ h => ⟨h.1, h.2.symm⟩
theorem bq_11_1 (n : Int) (w : World) (hx : -1048576 ≤ n ∧ n < 1048576) : Calls Tryd.prog 39 #[.int .i64 n, .int .i64 11, .int .i64 1] w fun e w' => e = .returned (.int .i64 (n / 2048 % 2)) ∧ w' = w :=
  (bits_11_1 n w hx).mono fun _ _ h => ⟨h.1, h.2.symm⟩
theorem bq_1_10 (n : Int) (w : World) (hx : -1048576 ≤ n ∧ n < 1048576) : Calls Tryd.prog 39 #[.int .i64 n, .int .i64 1, .int .i64 10] w fun e w' => e = .returned (.int .i64 (n / 2 % 1024)) ∧ w' = w :=
  (bits_1_10 n w hx).mono fun _ _ h => ⟨h.1, h.2.symm⟩
theorem bq_20_1 (n : Int) (w : World) (hx : -1048576 ≤ n ∧ n < 1048576) : Calls Tryd.prog 39 #[.int .i64 n, .int .i64 20, .int .i64 1] w fun e w' => e = .returned (.int .i64 (n / 1048576 % 2)) ∧ w' = w :=
  (bits_20_1 n w hx).mono fun _ _ h => ⟨h.1, h.2.symm⟩
end Go.Proofs.YtppcbommaddkgaaDoor
