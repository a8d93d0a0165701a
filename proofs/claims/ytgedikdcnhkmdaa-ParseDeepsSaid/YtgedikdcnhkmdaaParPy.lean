/- Texts nested deep: what the plain reader answers, one by one. Conditions: each theorem's. -/
import Derived.Test.YtgedikdcnhkmdaaParPu
namespace Go.Proofs.Ytgedikdcnhkmdaa
open Go.RowKit Go.Maps
set_option maxRecDepth 100000
open Lx Pa
namespace Pa
set_option maxHeartbeats 4000000
theorem d1_1 : dOk 1 1 = true := by kernel_rfl
theorem d1_2 : dOk 1 2 = true := by kernel_rfl
theorem d1_3 : dOk 1 3 = true := by kernel_rfl
theorem d1_4 : dOk 1 4 = true := by kernel_rfl
theorem d1_5 : dOk 1 5 = true := by kernel_rfl
theorem d1_6 : dOk 1 6 = true := by kernel_rfl
theorem d1_7 : dOk 1 7 = true := by kernel_rfl
theorem d1_8 : dOk 1 8 = true := by kernel_rfl
theorem d1_9 : dOk 1 9 = true := by kernel_rfl
theorem d1_10 : dOk 1 10 = true := by kernel_rfl
theorem d1_11 : dOk 1 11 = true := by kernel_rfl
theorem d1_12 : dOk 1 12 = true := by kernel_rfl
theorem d1_13 : dOk 1 13 = true := by kernel_rfl
theorem d1_14 : dOk 1 14 = true := by kernel_rfl
theorem d1_15 : dOk 1 15 = true := by kernel_rfl
theorem d1_16 : dOk 1 16 = true := by kernel_rfl
theorem d1_17 : dOk 1 17 = true := by kernel_rfl
theorem d1_18 : dOk 1 18 = true := by kernel_rfl
theorem d1_19 : dOk 1 19 = true := by kernel_rfl
theorem d1_20 : dOk 1 20 = true := by kernel_rfl
theorem d1_21 : dOk 1 21 = true := by kernel_rfl
theorem d1_22 : dOk 1 22 = true := by kernel_rfl
theorem d1_23 : dOk 1 23 = true := by kernel_rfl
theorem d1_24 : dOk 1 24 = true := by kernel_rfl
theorem d1_25 : dOk 1 25 = true := by kernel_rfl
theorem d1_26 : dOk 1 26 = true := by kernel_rfl
theorem d1_27 : dOk 1 27 = true := by kernel_rfl
theorem d1_28 : dOk 1 28 = true := by kernel_rfl
theorem d1_29 : dOk 1 29 = true := by kernel_rfl
theorem d1_30 : dOk 1 30 = true := by kernel_rfl
theorem d1_31 : dOk 1 31 = true := by kernel_rfl
theorem d1_32 : dOk 1 32 = true := by kernel_rfl
theorem d1_33 : dOk 1 33 = true := by kernel_rfl
theorem d1_34 : dOk 1 34 = true := by kernel_rfl
theorem d1_35 : dOk 1 35 = true := by kernel_rfl
theorem d1_36 : dOk 1 36 = true := by kernel_rfl
theorem d1_37 : dOk 1 37 = true := by kernel_rfl
theorem d1_38 : dOk 1 38 = true := by kernel_rfl
theorem d1_39 : dOk 1 39 = true := by kernel_rfl
theorem d1_40 : dOk 1 40 = true := by kernel_rfl
theorem d1_41 : dOk 1 41 = true := by kernel_rfl
theorem d1_42 : dOk 1 42 = true := by kernel_rfl
theorem d1_43 : dOk 1 43 = true := by kernel_rfl
theorem d1_44 : dOk 1 44 = true := by kernel_rfl
theorem d1_45 : dOk 1 45 = true := by kernel_rfl
theorem d1_46 : dOk 1 46 = true := by kernel_rfl
theorem d1_47 : dOk 1 47 = true := by kernel_rfl
theorem d1_48 : dOk 1 48 = true := by kernel_rfl
theorem d1_49 : dOk 1 49 = true := by kernel_rfl
theorem d1_50 : dOk 1 50 = true := by kernel_rfl
theorem allD_1 : ((List.range 50).all fun i => dOk 1 (i + 1)) = true := by
  rw [List.all_eq_true]
  intro i hi
  have hi : i < 50 := by simpa using hi
  match i, hi with
  | 0, _ => exact d1_1
  | 1, _ => exact d1_2
  | 2, _ => exact d1_3
  | 3, _ => exact d1_4
  | 4, _ => exact d1_5
  | 5, _ => exact d1_6
  | 6, _ => exact d1_7
  | 7, _ => exact d1_8
  | 8, _ => exact d1_9
  | 9, _ => exact d1_10
  | 10, _ => exact d1_11
  | 11, _ => exact d1_12
  | 12, _ => exact d1_13
  | 13, _ => exact d1_14
  | 14, _ => exact d1_15
  | 15, _ => exact d1_16
  | 16, _ => exact d1_17
  | 17, _ => exact d1_18
  | 18, _ => exact d1_19
  | 19, _ => exact d1_20
  | 20, _ => exact d1_21
  | 21, _ => exact d1_22
  | 22, _ => exact d1_23
  | 23, _ => exact d1_24
  | 24, _ => exact d1_25
  | 25, _ => exact d1_26
  | 26, _ => exact d1_27
  | 27, _ => exact d1_28
  | 28, _ => exact d1_29
  | 29, _ => exact d1_30
  | 30, _ => exact d1_31
  | 31, _ => exact d1_32
  | 32, _ => exact d1_33
  | 33, _ => exact d1_34
  | 34, _ => exact d1_35
  | 35, _ => exact d1_36
  | 36, _ => exact d1_37
  | 37, _ => exact d1_38
  | 38, _ => exact d1_39
  | 39, _ => exact d1_40
  | 40, _ => exact d1_41
  | 41, _ => exact d1_42
  | 42, _ => exact d1_43
  | 43, _ => exact d1_44
  | 44, _ => exact d1_45
  | 45, _ => exact d1_46
  | 46, _ => exact d1_47
  | 47, _ => exact d1_48
  | 48, _ => exact d1_49
  | 49, _ => exact d1_50
  | n + 50, h => exact absurd h (by omega)
end Pa
end Go.Proofs.Ytgedikdcnhkmdaa
