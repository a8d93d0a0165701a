/- Texts nested deep: what the plain reader answers, one by one. Conditions: each theorem's. -/
import Derived.Test.YtgedikdcnhkmdaaParPu
namespace Go.Proofs.Ytgedikdcnhkmdaa
open Go.RowKit Go.Maps
set_option maxRecDepth 100000
open Lx Pa
namespace Pa
set_option maxHeartbeats 4000000
theorem d0_1 : dOk 0 1 = true := by kernel_rfl
theorem d0_2 : dOk 0 2 = true := by kernel_rfl
theorem d0_3 : dOk 0 3 = true := by kernel_rfl
theorem d0_4 : dOk 0 4 = true := by kernel_rfl
theorem d0_5 : dOk 0 5 = true := by kernel_rfl
theorem d0_6 : dOk 0 6 = true := by kernel_rfl
theorem d0_7 : dOk 0 7 = true := by kernel_rfl
theorem d0_8 : dOk 0 8 = true := by kernel_rfl
theorem d0_9 : dOk 0 9 = true := by kernel_rfl
theorem d0_10 : dOk 0 10 = true := by kernel_rfl
theorem d0_11 : dOk 0 11 = true := by kernel_rfl
theorem d0_12 : dOk 0 12 = true := by kernel_rfl
theorem d0_13 : dOk 0 13 = true := by kernel_rfl
theorem d0_14 : dOk 0 14 = true := by kernel_rfl
theorem d0_15 : dOk 0 15 = true := by kernel_rfl
theorem d0_16 : dOk 0 16 = true := by kernel_rfl
theorem d0_17 : dOk 0 17 = true := by kernel_rfl
theorem d0_18 : dOk 0 18 = true := by kernel_rfl
theorem d0_19 : dOk 0 19 = true := by kernel_rfl
theorem d0_20 : dOk 0 20 = true := by kernel_rfl
theorem d0_21 : dOk 0 21 = true := by kernel_rfl
theorem d0_22 : dOk 0 22 = true := by kernel_rfl
theorem d0_23 : dOk 0 23 = true := by kernel_rfl
theorem d0_24 : dOk 0 24 = true := by kernel_rfl
theorem d0_25 : dOk 0 25 = true := by kernel_rfl
theorem d0_26 : dOk 0 26 = true := by kernel_rfl
theorem d0_27 : dOk 0 27 = true := by kernel_rfl
theorem d0_28 : dOk 0 28 = true := by kernel_rfl
theorem d0_29 : dOk 0 29 = true := by kernel_rfl
theorem d0_30 : dOk 0 30 = true := by kernel_rfl
theorem d0_31 : dOk 0 31 = true := by kernel_rfl
theorem d0_32 : dOk 0 32 = true := by kernel_rfl
theorem d0_33 : dOk 0 33 = true := by kernel_rfl
theorem d0_34 : dOk 0 34 = true := by kernel_rfl
theorem d0_35 : dOk 0 35 = true := by kernel_rfl
theorem d0_36 : dOk 0 36 = true := by kernel_rfl
theorem d0_37 : dOk 0 37 = true := by kernel_rfl
theorem d0_38 : dOk 0 38 = true := by kernel_rfl
theorem d0_39 : dOk 0 39 = true := by kernel_rfl
theorem d0_40 : dOk 0 40 = true := by kernel_rfl
theorem d0_41 : dOk 0 41 = true := by kernel_rfl
theorem d0_42 : dOk 0 42 = true := by kernel_rfl
theorem d0_43 : dOk 0 43 = true := by kernel_rfl
theorem d0_44 : dOk 0 44 = true := by kernel_rfl
theorem d0_45 : dOk 0 45 = true := by kernel_rfl
theorem d0_46 : dOk 0 46 = true := by kernel_rfl
theorem d0_47 : dOk 0 47 = true := by kernel_rfl
theorem d0_48 : dOk 0 48 = true := by kernel_rfl
theorem d0_49 : dOk 0 49 = true := by kernel_rfl
theorem d0_50 : dOk 0 50 = true := by kernel_rfl
theorem allD_0 : ((List.range 50).all fun i => dOk 0 (i + 1)) = true := by
  rw [List.all_eq_true]
  intro i hi
  have hi : i < 50 := by simpa using hi
  match i, hi with
  | 0, _ => exact d0_1
  | 1, _ => exact d0_2
  | 2, _ => exact d0_3
  | 3, _ => exact d0_4
  | 4, _ => exact d0_5
  | 5, _ => exact d0_6
  | 6, _ => exact d0_7
  | 7, _ => exact d0_8
  | 8, _ => exact d0_9
  | 9, _ => exact d0_10
  | 10, _ => exact d0_11
  | 11, _ => exact d0_12
  | 12, _ => exact d0_13
  | 13, _ => exact d0_14
  | 14, _ => exact d0_15
  | 15, _ => exact d0_16
  | 16, _ => exact d0_17
  | 17, _ => exact d0_18
  | 18, _ => exact d0_19
  | 19, _ => exact d0_20
  | 20, _ => exact d0_21
  | 21, _ => exact d0_22
  | 22, _ => exact d0_23
  | 23, _ => exact d0_24
  | 24, _ => exact d0_25
  | 25, _ => exact d0_26
  | 26, _ => exact d0_27
  | 27, _ => exact d0_28
  | 28, _ => exact d0_29
  | 29, _ => exact d0_30
  | 30, _ => exact d0_31
  | 31, _ => exact d0_32
  | 32, _ => exact d0_33
  | 33, _ => exact d0_34
  | 34, _ => exact d0_35
  | 35, _ => exact d0_36
  | 36, _ => exact d0_37
  | 37, _ => exact d0_38
  | 38, _ => exact d0_39
  | 39, _ => exact d0_40
  | 40, _ => exact d0_41
  | 41, _ => exact d0_42
  | 42, _ => exact d0_43
  | 43, _ => exact d0_44
  | 44, _ => exact d0_45
  | 45, _ => exact d0_46
  | 46, _ => exact d0_47
  | 47, _ => exact d0_48
  | 48, _ => exact d0_49
  | 49, _ => exact d0_50
  | n + 50, h => exact absurd h (by omega)
end Pa
end Go.Proofs.Ytgedikdcnhkmdaa
