/- Texts nested deep: what the plain reader answers, one by one. Conditions: each theorem's. -/
import Derived.Test.YtgedikdcnhkmdaaParPu
namespace Go.Proofs.Ytgedikdcnhkmdaa
open Go.RowKit Go.Maps
set_option maxRecDepth 100000
open Lx Pa
namespace Pa
set_option maxHeartbeats 4000000
theorem d2_1 : dOk 2 1 = true := by kernel_rfl
theorem d2_2 : dOk 2 2 = true := by kernel_rfl
theorem d2_3 : dOk 2 3 = true := by kernel_rfl
theorem d2_4 : dOk 2 4 = true := by kernel_rfl
theorem d2_5 : dOk 2 5 = true := by kernel_rfl
theorem d2_6 : dOk 2 6 = true := by kernel_rfl
theorem d2_7 : dOk 2 7 = true := by kernel_rfl
theorem d2_8 : dOk 2 8 = true := by kernel_rfl
theorem d2_9 : dOk 2 9 = true := by kernel_rfl
theorem d2_10 : dOk 2 10 = true := by kernel_rfl
theorem d2_11 : dOk 2 11 = true := by kernel_rfl
theorem d2_12 : dOk 2 12 = true := by kernel_rfl
theorem d2_13 : dOk 2 13 = true := by kernel_rfl
theorem d2_14 : dOk 2 14 = true := by kernel_rfl
theorem d2_15 : dOk 2 15 = true := by kernel_rfl
theorem d2_16 : dOk 2 16 = true := by kernel_rfl
theorem d2_17 : dOk 2 17 = true := by kernel_rfl
theorem d2_18 : dOk 2 18 = true := by kernel_rfl
theorem d2_19 : dOk 2 19 = true := by kernel_rfl
theorem d2_20 : dOk 2 20 = true := by kernel_rfl
theorem d2_21 : dOk 2 21 = true := by kernel_rfl
theorem d2_22 : dOk 2 22 = true := by kernel_rfl
theorem d2_23 : dOk 2 23 = true := by kernel_rfl
theorem d2_24 : dOk 2 24 = true := by kernel_rfl
theorem d2_25 : dOk 2 25 = true := by kernel_rfl
theorem d2_26 : dOk 2 26 = true := by kernel_rfl
theorem d2_27 : dOk 2 27 = true := by kernel_rfl
theorem d2_28 : dOk 2 28 = true := by kernel_rfl
theorem d2_29 : dOk 2 29 = true := by kernel_rfl
theorem d2_30 : dOk 2 30 = true := by kernel_rfl
theorem d2_31 : dOk 2 31 = true := by kernel_rfl
theorem d2_32 : dOk 2 32 = true := by kernel_rfl
theorem d2_33 : dOk 2 33 = true := by kernel_rfl
theorem d2_34 : dOk 2 34 = true := by kernel_rfl
theorem d2_35 : dOk 2 35 = true := by kernel_rfl
theorem d2_36 : dOk 2 36 = true := by kernel_rfl
theorem d2_37 : dOk 2 37 = true := by kernel_rfl
theorem d2_38 : dOk 2 38 = true := by kernel_rfl
theorem d2_39 : dOk 2 39 = true := by kernel_rfl
theorem d2_40 : dOk 2 40 = true := by kernel_rfl
theorem d2_41 : dOk 2 41 = true := by kernel_rfl
theorem d2_42 : dOk 2 42 = true := by kernel_rfl
theorem d2_43 : dOk 2 43 = true := by kernel_rfl
theorem d2_44 : dOk 2 44 = true := by kernel_rfl
theorem d2_45 : dOk 2 45 = true := by kernel_rfl
theorem d2_46 : dOk 2 46 = true := by kernel_rfl
theorem d2_47 : dOk 2 47 = true := by kernel_rfl
theorem d2_48 : dOk 2 48 = true := by kernel_rfl
theorem d2_49 : dOk 2 49 = true := by kernel_rfl
theorem d2_50 : dOk 2 50 = true := by kernel_rfl
theorem allD_2 : ((List.range 50).all fun i => dOk 2 (i + 1)) = true := by
  rw [List.all_eq_true]
  intro i hi
  have hi : i < 50 := by simpa using hi
  match i, hi with
  | 0, _ => exact d2_1
  | 1, _ => exact d2_2
  | 2, _ => exact d2_3
  | 3, _ => exact d2_4
  | 4, _ => exact d2_5
  | 5, _ => exact d2_6
  | 6, _ => exact d2_7
  | 7, _ => exact d2_8
  | 8, _ => exact d2_9
  | 9, _ => exact d2_10
  | 10, _ => exact d2_11
  | 11, _ => exact d2_12
  | 12, _ => exact d2_13
  | 13, _ => exact d2_14
  | 14, _ => exact d2_15
  | 15, _ => exact d2_16
  | 16, _ => exact d2_17
  | 17, _ => exact d2_18
  | 18, _ => exact d2_19
  | 19, _ => exact d2_20
  | 20, _ => exact d2_21
  | 21, _ => exact d2_22
  | 22, _ => exact d2_23
  | 23, _ => exact d2_24
  | 24, _ => exact d2_25
  | 25, _ => exact d2_26
  | 26, _ => exact d2_27
  | 27, _ => exact d2_28
  | 28, _ => exact d2_29
  | 29, _ => exact d2_30
  | 30, _ => exact d2_31
  | 31, _ => exact d2_32
  | 32, _ => exact d2_33
  | 33, _ => exact d2_34
  | 34, _ => exact d2_35
  | 35, _ => exact d2_36
  | 36, _ => exact d2_37
  | 37, _ => exact d2_38
  | 38, _ => exact d2_39
  | 39, _ => exact d2_40
  | 40, _ => exact d2_41
  | 41, _ => exact d2_42
  | 42, _ => exact d2_43
  | 43, _ => exact d2_44
  | 44, _ => exact d2_45
  | 45, _ => exact d2_46
  | 46, _ => exact d2_47
  | 47, _ => exact d2_48
  | 48, _ => exact d2_49
  | 49, _ => exact d2_50
  | n + 50, h => exact absurd h (by omega)
end Pa
end Go.Proofs.Ytgedikdcnhkmdaa
