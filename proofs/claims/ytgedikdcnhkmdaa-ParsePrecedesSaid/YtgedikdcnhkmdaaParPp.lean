/- Two operators, one behind the other: what the plain reader answers. Conditions: each theorem's. -/
import Derived.Test.YtgedikdcnhkmdaaParPu
namespace Go.Proofs.Ytgedikdcnhkmdaa
open Go.RowKit Go.Maps
set_option maxRecDepth 100000
open Lx Pa
namespace Pa
def opL : Nat → List UInt8
  | 0 => [124, 124]
  | 1 => [38, 38]
  | 2 => [124]
  | 3 => [94]
  | 4 => [38]
  | 5 => [61, 61]
  | 6 => [33, 61]
  | 7 => [60]
  | 8 => [60, 61]
  | 9 => [62]
  | 10 => [62, 61]
  | 11 => [60, 60]
  | 12 => [62, 62]
  | 13 => [43]
  | 14 => [45]
  | 15 => [42]
  | 16 => [47]
  | 17 => [37]
  | _ => []
def stP : Nat → Int
  | 0 => 0
  | 1 => 1
  | 2 => 2
  | 3 => 3
  | 4 => 4
  | 5 => 5
  | 6 => 5
  | 7 => 6
  | 8 => 6
  | 9 => 6
  | 10 => 6
  | 11 => 7
  | 12 => 7
  | 13 => 8
  | 14 => 8
  | 15 => 9
  | 16 => 9
  | 17 => 9
  | _ => 0
def opB (a : Nat) : ByteArray := ⟨(opL a).toArray⟩
def preL (a b : Nat) : List UInt8 := [105, 110, 116, 32, 102, 40, 41, 32, 123, 32, 118, 32, 61, 32, 119, 32, 61, 32, 49] ++ opL a ++ [50] ++ opL b ++ [51, 59, 32, 125]
def nuP (n : Int) (at_ : Nat) : PEx := .mk 1 eB eB n [] ty0 at_
def naP (c : UInt8) (at_ : Nat) : PEx := .mk 2 eB ⟨#[c]⟩ 0 [] ty0 at_
def biP (o : ByteArray) (x y : PEx) (at_ : Nat) : PEx := .mk 4 o eB 0 [x, y] ty0 at_
def asP (x y : PEx) (at_ : Nat) : PEx := .mk 5 eB eB 0 [x, y] ty0 at_
def hiT (a b : Nat) : PEx := biP (opB a) (nuP 1 18) (biP (opB b) (nuP 2 (19 + (opL a).length)) (nuP 3 (20 + (opL a).length + (opL b).length)) (19 + (opL a).length)) 18
def loT (a b : Nat) : PEx := biP (opB b) (biP (opB a) (nuP 1 18) (nuP 2 (19 + (opL a).length)) 18) (nuP 3 (20 + (opL a).length + (opL b).length)) 18
def fnP (t : PEx) : PFn := ⟨⟨#[102]⟩, ⟨2, 0, ⟨#[]⟩⟩, [], .mk 1 [] [.mk 7 [asP (naP 118 10) (asP (naP 119 14) t 14) 10] [] va0 10] va0 8, 0⟩
set_option maxHeartbeats 4000000
theorem pr_0_0 : parseV ⟨(preL 0 0).toArray⟩ = (⟨[], [], [fnP (loT 0 0)]⟩, 0, 0) := by kernel_rfl
theorem pr_0_1 : parseV ⟨(preL 0 1).toArray⟩ = (⟨[], [], [fnP (hiT 0 1)]⟩, 0, 0) := by kernel_rfl
theorem pr_0_2 : parseV ⟨(preL 0 2).toArray⟩ = (⟨[], [], [fnP (hiT 0 2)]⟩, 0, 0) := by kernel_rfl
theorem pr_0_3 : parseV ⟨(preL 0 3).toArray⟩ = (⟨[], [], [fnP (hiT 0 3)]⟩, 0, 0) := by kernel_rfl
theorem pr_0_4 : parseV ⟨(preL 0 4).toArray⟩ = (⟨[], [], [fnP (hiT 0 4)]⟩, 0, 0) := by kernel_rfl
theorem pr_0_5 : parseV ⟨(preL 0 5).toArray⟩ = (⟨[], [], [fnP (hiT 0 5)]⟩, 0, 0) := by kernel_rfl
theorem pr_0_6 : parseV ⟨(preL 0 6).toArray⟩ = (⟨[], [], [fnP (hiT 0 6)]⟩, 0, 0) := by kernel_rfl
theorem pr_0_7 : parseV ⟨(preL 0 7).toArray⟩ = (⟨[], [], [fnP (hiT 0 7)]⟩, 0, 0) := by kernel_rfl
theorem pr_0_8 : parseV ⟨(preL 0 8).toArray⟩ = (⟨[], [], [fnP (hiT 0 8)]⟩, 0, 0) := by kernel_rfl
theorem pr_0_9 : parseV ⟨(preL 0 9).toArray⟩ = (⟨[], [], [fnP (hiT 0 9)]⟩, 0, 0) := by kernel_rfl
theorem pr_0_10 : parseV ⟨(preL 0 10).toArray⟩ = (⟨[], [], [fnP (hiT 0 10)]⟩, 0, 0) := by kernel_rfl
theorem pr_0_11 : parseV ⟨(preL 0 11).toArray⟩ = (⟨[], [], [fnP (hiT 0 11)]⟩, 0, 0) := by kernel_rfl
theorem pr_0_12 : parseV ⟨(preL 0 12).toArray⟩ = (⟨[], [], [fnP (hiT 0 12)]⟩, 0, 0) := by kernel_rfl
theorem pr_0_13 : parseV ⟨(preL 0 13).toArray⟩ = (⟨[], [], [fnP (hiT 0 13)]⟩, 0, 0) := by kernel_rfl
theorem pr_0_14 : parseV ⟨(preL 0 14).toArray⟩ = (⟨[], [], [fnP (hiT 0 14)]⟩, 0, 0) := by kernel_rfl
theorem pr_0_15 : parseV ⟨(preL 0 15).toArray⟩ = (⟨[], [], [fnP (hiT 0 15)]⟩, 0, 0) := by kernel_rfl
theorem pr_0_16 : parseV ⟨(preL 0 16).toArray⟩ = (⟨[], [], [fnP (hiT 0 16)]⟩, 0, 0) := by kernel_rfl
theorem pr_0_17 : parseV ⟨(preL 0 17).toArray⟩ = (⟨[], [], [fnP (hiT 0 17)]⟩, 0, 0) := by kernel_rfl
theorem pr_1_0 : parseV ⟨(preL 1 0).toArray⟩ = (⟨[], [], [fnP (loT 1 0)]⟩, 0, 0) := by kernel_rfl
theorem pr_1_1 : parseV ⟨(preL 1 1).toArray⟩ = (⟨[], [], [fnP (loT 1 1)]⟩, 0, 0) := by kernel_rfl
theorem pr_1_2 : parseV ⟨(preL 1 2).toArray⟩ = (⟨[], [], [fnP (hiT 1 2)]⟩, 0, 0) := by kernel_rfl
theorem pr_1_3 : parseV ⟨(preL 1 3).toArray⟩ = (⟨[], [], [fnP (hiT 1 3)]⟩, 0, 0) := by kernel_rfl
theorem pr_1_4 : parseV ⟨(preL 1 4).toArray⟩ = (⟨[], [], [fnP (hiT 1 4)]⟩, 0, 0) := by kernel_rfl
theorem pr_1_5 : parseV ⟨(preL 1 5).toArray⟩ = (⟨[], [], [fnP (hiT 1 5)]⟩, 0, 0) := by kernel_rfl
theorem pr_1_6 : parseV ⟨(preL 1 6).toArray⟩ = (⟨[], [], [fnP (hiT 1 6)]⟩, 0, 0) := by kernel_rfl
theorem pr_1_7 : parseV ⟨(preL 1 7).toArray⟩ = (⟨[], [], [fnP (hiT 1 7)]⟩, 0, 0) := by kernel_rfl
theorem pr_1_8 : parseV ⟨(preL 1 8).toArray⟩ = (⟨[], [], [fnP (hiT 1 8)]⟩, 0, 0) := by kernel_rfl
theorem pr_1_9 : parseV ⟨(preL 1 9).toArray⟩ = (⟨[], [], [fnP (hiT 1 9)]⟩, 0, 0) := by kernel_rfl
theorem pr_1_10 : parseV ⟨(preL 1 10).toArray⟩ = (⟨[], [], [fnP (hiT 1 10)]⟩, 0, 0) := by kernel_rfl
theorem pr_1_11 : parseV ⟨(preL 1 11).toArray⟩ = (⟨[], [], [fnP (hiT 1 11)]⟩, 0, 0) := by kernel_rfl
theorem pr_1_12 : parseV ⟨(preL 1 12).toArray⟩ = (⟨[], [], [fnP (hiT 1 12)]⟩, 0, 0) := by kernel_rfl
theorem pr_1_13 : parseV ⟨(preL 1 13).toArray⟩ = (⟨[], [], [fnP (hiT 1 13)]⟩, 0, 0) := by kernel_rfl
theorem pr_1_14 : parseV ⟨(preL 1 14).toArray⟩ = (⟨[], [], [fnP (hiT 1 14)]⟩, 0, 0) := by kernel_rfl
theorem pr_1_15 : parseV ⟨(preL 1 15).toArray⟩ = (⟨[], [], [fnP (hiT 1 15)]⟩, 0, 0) := by kernel_rfl
theorem pr_1_16 : parseV ⟨(preL 1 16).toArray⟩ = (⟨[], [], [fnP (hiT 1 16)]⟩, 0, 0) := by kernel_rfl
theorem pr_1_17 : parseV ⟨(preL 1 17).toArray⟩ = (⟨[], [], [fnP (hiT 1 17)]⟩, 0, 0) := by kernel_rfl
theorem pr_2_0 : parseV ⟨(preL 2 0).toArray⟩ = (⟨[], [], [fnP (loT 2 0)]⟩, 0, 0) := by kernel_rfl
theorem pr_2_1 : parseV ⟨(preL 2 1).toArray⟩ = (⟨[], [], [fnP (loT 2 1)]⟩, 0, 0) := by kernel_rfl
theorem pr_2_2 : parseV ⟨(preL 2 2).toArray⟩ = (⟨[], [], [fnP (loT 2 2)]⟩, 0, 0) := by kernel_rfl
theorem pr_2_3 : parseV ⟨(preL 2 3).toArray⟩ = (⟨[], [], [fnP (hiT 2 3)]⟩, 0, 0) := by kernel_rfl
theorem pr_2_4 : parseV ⟨(preL 2 4).toArray⟩ = (⟨[], [], [fnP (hiT 2 4)]⟩, 0, 0) := by kernel_rfl
theorem pr_2_5 : parseV ⟨(preL 2 5).toArray⟩ = (⟨[], [], [fnP (hiT 2 5)]⟩, 0, 0) := by kernel_rfl
theorem pr_2_6 : parseV ⟨(preL 2 6).toArray⟩ = (⟨[], [], [fnP (hiT 2 6)]⟩, 0, 0) := by kernel_rfl
theorem pr_2_7 : parseV ⟨(preL 2 7).toArray⟩ = (⟨[], [], [fnP (hiT 2 7)]⟩, 0, 0) := by kernel_rfl
theorem pr_2_8 : parseV ⟨(preL 2 8).toArray⟩ = (⟨[], [], [fnP (hiT 2 8)]⟩, 0, 0) := by kernel_rfl
theorem pr_2_9 : parseV ⟨(preL 2 9).toArray⟩ = (⟨[], [], [fnP (hiT 2 9)]⟩, 0, 0) := by kernel_rfl
theorem pr_2_10 : parseV ⟨(preL 2 10).toArray⟩ = (⟨[], [], [fnP (hiT 2 10)]⟩, 0, 0) := by kernel_rfl
theorem pr_2_11 : parseV ⟨(preL 2 11).toArray⟩ = (⟨[], [], [fnP (hiT 2 11)]⟩, 0, 0) := by kernel_rfl
theorem pr_2_12 : parseV ⟨(preL 2 12).toArray⟩ = (⟨[], [], [fnP (hiT 2 12)]⟩, 0, 0) := by kernel_rfl
theorem pr_2_13 : parseV ⟨(preL 2 13).toArray⟩ = (⟨[], [], [fnP (hiT 2 13)]⟩, 0, 0) := by kernel_rfl
theorem pr_2_14 : parseV ⟨(preL 2 14).toArray⟩ = (⟨[], [], [fnP (hiT 2 14)]⟩, 0, 0) := by kernel_rfl
theorem pr_2_15 : parseV ⟨(preL 2 15).toArray⟩ = (⟨[], [], [fnP (hiT 2 15)]⟩, 0, 0) := by kernel_rfl
theorem pr_2_16 : parseV ⟨(preL 2 16).toArray⟩ = (⟨[], [], [fnP (hiT 2 16)]⟩, 0, 0) := by kernel_rfl
theorem pr_2_17 : parseV ⟨(preL 2 17).toArray⟩ = (⟨[], [], [fnP (hiT 2 17)]⟩, 0, 0) := by kernel_rfl
theorem pr_3_0 : parseV ⟨(preL 3 0).toArray⟩ = (⟨[], [], [fnP (loT 3 0)]⟩, 0, 0) := by kernel_rfl
theorem pr_3_1 : parseV ⟨(preL 3 1).toArray⟩ = (⟨[], [], [fnP (loT 3 1)]⟩, 0, 0) := by kernel_rfl
theorem pr_3_2 : parseV ⟨(preL 3 2).toArray⟩ = (⟨[], [], [fnP (loT 3 2)]⟩, 0, 0) := by kernel_rfl
theorem pr_3_3 : parseV ⟨(preL 3 3).toArray⟩ = (⟨[], [], [fnP (loT 3 3)]⟩, 0, 0) := by kernel_rfl
theorem pr_3_4 : parseV ⟨(preL 3 4).toArray⟩ = (⟨[], [], [fnP (hiT 3 4)]⟩, 0, 0) := by kernel_rfl
theorem pr_3_5 : parseV ⟨(preL 3 5).toArray⟩ = (⟨[], [], [fnP (hiT 3 5)]⟩, 0, 0) := by kernel_rfl
theorem pr_3_6 : parseV ⟨(preL 3 6).toArray⟩ = (⟨[], [], [fnP (hiT 3 6)]⟩, 0, 0) := by kernel_rfl
theorem pr_3_7 : parseV ⟨(preL 3 7).toArray⟩ = (⟨[], [], [fnP (hiT 3 7)]⟩, 0, 0) := by kernel_rfl
theorem pr_3_8 : parseV ⟨(preL 3 8).toArray⟩ = (⟨[], [], [fnP (hiT 3 8)]⟩, 0, 0) := by kernel_rfl
theorem pr_3_9 : parseV ⟨(preL 3 9).toArray⟩ = (⟨[], [], [fnP (hiT 3 9)]⟩, 0, 0) := by kernel_rfl
theorem pr_3_10 : parseV ⟨(preL 3 10).toArray⟩ = (⟨[], [], [fnP (hiT 3 10)]⟩, 0, 0) := by kernel_rfl
theorem pr_3_11 : parseV ⟨(preL 3 11).toArray⟩ = (⟨[], [], [fnP (hiT 3 11)]⟩, 0, 0) := by kernel_rfl
theorem pr_3_12 : parseV ⟨(preL 3 12).toArray⟩ = (⟨[], [], [fnP (hiT 3 12)]⟩, 0, 0) := by kernel_rfl
theorem pr_3_13 : parseV ⟨(preL 3 13).toArray⟩ = (⟨[], [], [fnP (hiT 3 13)]⟩, 0, 0) := by kernel_rfl
theorem pr_3_14 : parseV ⟨(preL 3 14).toArray⟩ = (⟨[], [], [fnP (hiT 3 14)]⟩, 0, 0) := by kernel_rfl
theorem pr_3_15 : parseV ⟨(preL 3 15).toArray⟩ = (⟨[], [], [fnP (hiT 3 15)]⟩, 0, 0) := by kernel_rfl
theorem pr_3_16 : parseV ⟨(preL 3 16).toArray⟩ = (⟨[], [], [fnP (hiT 3 16)]⟩, 0, 0) := by kernel_rfl
theorem pr_3_17 : parseV ⟨(preL 3 17).toArray⟩ = (⟨[], [], [fnP (hiT 3 17)]⟩, 0, 0) := by kernel_rfl
theorem pr_4_0 : parseV ⟨(preL 4 0).toArray⟩ = (⟨[], [], [fnP (loT 4 0)]⟩, 0, 0) := by kernel_rfl
theorem pr_4_1 : parseV ⟨(preL 4 1).toArray⟩ = (⟨[], [], [fnP (loT 4 1)]⟩, 0, 0) := by kernel_rfl
theorem pr_4_2 : parseV ⟨(preL 4 2).toArray⟩ = (⟨[], [], [fnP (loT 4 2)]⟩, 0, 0) := by kernel_rfl
theorem pr_4_3 : parseV ⟨(preL 4 3).toArray⟩ = (⟨[], [], [fnP (loT 4 3)]⟩, 0, 0) := by kernel_rfl
theorem pr_4_4 : parseV ⟨(preL 4 4).toArray⟩ = (⟨[], [], [fnP (loT 4 4)]⟩, 0, 0) := by kernel_rfl
theorem pr_4_5 : parseV ⟨(preL 4 5).toArray⟩ = (⟨[], [], [fnP (hiT 4 5)]⟩, 0, 0) := by kernel_rfl
theorem pr_4_6 : parseV ⟨(preL 4 6).toArray⟩ = (⟨[], [], [fnP (hiT 4 6)]⟩, 0, 0) := by kernel_rfl
theorem pr_4_7 : parseV ⟨(preL 4 7).toArray⟩ = (⟨[], [], [fnP (hiT 4 7)]⟩, 0, 0) := by kernel_rfl
theorem pr_4_8 : parseV ⟨(preL 4 8).toArray⟩ = (⟨[], [], [fnP (hiT 4 8)]⟩, 0, 0) := by kernel_rfl
theorem pr_4_9 : parseV ⟨(preL 4 9).toArray⟩ = (⟨[], [], [fnP (hiT 4 9)]⟩, 0, 0) := by kernel_rfl
theorem pr_4_10 : parseV ⟨(preL 4 10).toArray⟩ = (⟨[], [], [fnP (hiT 4 10)]⟩, 0, 0) := by kernel_rfl
theorem pr_4_11 : parseV ⟨(preL 4 11).toArray⟩ = (⟨[], [], [fnP (hiT 4 11)]⟩, 0, 0) := by kernel_rfl
theorem pr_4_12 : parseV ⟨(preL 4 12).toArray⟩ = (⟨[], [], [fnP (hiT 4 12)]⟩, 0, 0) := by kernel_rfl
theorem pr_4_13 : parseV ⟨(preL 4 13).toArray⟩ = (⟨[], [], [fnP (hiT 4 13)]⟩, 0, 0) := by kernel_rfl
theorem pr_4_14 : parseV ⟨(preL 4 14).toArray⟩ = (⟨[], [], [fnP (hiT 4 14)]⟩, 0, 0) := by kernel_rfl
theorem pr_4_15 : parseV ⟨(preL 4 15).toArray⟩ = (⟨[], [], [fnP (hiT 4 15)]⟩, 0, 0) := by kernel_rfl
theorem pr_4_16 : parseV ⟨(preL 4 16).toArray⟩ = (⟨[], [], [fnP (hiT 4 16)]⟩, 0, 0) := by kernel_rfl
theorem pr_4_17 : parseV ⟨(preL 4 17).toArray⟩ = (⟨[], [], [fnP (hiT 4 17)]⟩, 0, 0) := by kernel_rfl
theorem pr_5_0 : parseV ⟨(preL 5 0).toArray⟩ = (⟨[], [], [fnP (loT 5 0)]⟩, 0, 0) := by kernel_rfl
theorem pr_5_1 : parseV ⟨(preL 5 1).toArray⟩ = (⟨[], [], [fnP (loT 5 1)]⟩, 0, 0) := by kernel_rfl
theorem pr_5_2 : parseV ⟨(preL 5 2).toArray⟩ = (⟨[], [], [fnP (loT 5 2)]⟩, 0, 0) := by kernel_rfl
theorem pr_5_3 : parseV ⟨(preL 5 3).toArray⟩ = (⟨[], [], [fnP (loT 5 3)]⟩, 0, 0) := by kernel_rfl
theorem pr_5_4 : parseV ⟨(preL 5 4).toArray⟩ = (⟨[], [], [fnP (loT 5 4)]⟩, 0, 0) := by kernel_rfl
theorem pr_5_5 : parseV ⟨(preL 5 5).toArray⟩ = (⟨[], [], [fnP (loT 5 5)]⟩, 0, 0) := by kernel_rfl
theorem pr_5_6 : parseV ⟨(preL 5 6).toArray⟩ = (⟨[], [], [fnP (loT 5 6)]⟩, 0, 0) := by kernel_rfl
theorem pr_5_7 : parseV ⟨(preL 5 7).toArray⟩ = (⟨[], [], [fnP (hiT 5 7)]⟩, 0, 0) := by kernel_rfl
theorem pr_5_8 : parseV ⟨(preL 5 8).toArray⟩ = (⟨[], [], [fnP (hiT 5 8)]⟩, 0, 0) := by kernel_rfl
theorem pr_5_9 : parseV ⟨(preL 5 9).toArray⟩ = (⟨[], [], [fnP (hiT 5 9)]⟩, 0, 0) := by kernel_rfl
theorem pr_5_10 : parseV ⟨(preL 5 10).toArray⟩ = (⟨[], [], [fnP (hiT 5 10)]⟩, 0, 0) := by kernel_rfl
theorem pr_5_11 : parseV ⟨(preL 5 11).toArray⟩ = (⟨[], [], [fnP (hiT 5 11)]⟩, 0, 0) := by kernel_rfl
theorem pr_5_12 : parseV ⟨(preL 5 12).toArray⟩ = (⟨[], [], [fnP (hiT 5 12)]⟩, 0, 0) := by kernel_rfl
theorem pr_5_13 : parseV ⟨(preL 5 13).toArray⟩ = (⟨[], [], [fnP (hiT 5 13)]⟩, 0, 0) := by kernel_rfl
theorem pr_5_14 : parseV ⟨(preL 5 14).toArray⟩ = (⟨[], [], [fnP (hiT 5 14)]⟩, 0, 0) := by kernel_rfl
theorem pr_5_15 : parseV ⟨(preL 5 15).toArray⟩ = (⟨[], [], [fnP (hiT 5 15)]⟩, 0, 0) := by kernel_rfl
theorem pr_5_16 : parseV ⟨(preL 5 16).toArray⟩ = (⟨[], [], [fnP (hiT 5 16)]⟩, 0, 0) := by kernel_rfl
theorem pr_5_17 : parseV ⟨(preL 5 17).toArray⟩ = (⟨[], [], [fnP (hiT 5 17)]⟩, 0, 0) := by kernel_rfl
theorem pr_6_0 : parseV ⟨(preL 6 0).toArray⟩ = (⟨[], [], [fnP (loT 6 0)]⟩, 0, 0) := by kernel_rfl
theorem pr_6_1 : parseV ⟨(preL 6 1).toArray⟩ = (⟨[], [], [fnP (loT 6 1)]⟩, 0, 0) := by kernel_rfl
theorem pr_6_2 : parseV ⟨(preL 6 2).toArray⟩ = (⟨[], [], [fnP (loT 6 2)]⟩, 0, 0) := by kernel_rfl
theorem pr_6_3 : parseV ⟨(preL 6 3).toArray⟩ = (⟨[], [], [fnP (loT 6 3)]⟩, 0, 0) := by kernel_rfl
theorem pr_6_4 : parseV ⟨(preL 6 4).toArray⟩ = (⟨[], [], [fnP (loT 6 4)]⟩, 0, 0) := by kernel_rfl
theorem pr_6_5 : parseV ⟨(preL 6 5).toArray⟩ = (⟨[], [], [fnP (loT 6 5)]⟩, 0, 0) := by kernel_rfl
theorem pr_6_6 : parseV ⟨(preL 6 6).toArray⟩ = (⟨[], [], [fnP (loT 6 6)]⟩, 0, 0) := by kernel_rfl
theorem pr_6_7 : parseV ⟨(preL 6 7).toArray⟩ = (⟨[], [], [fnP (hiT 6 7)]⟩, 0, 0) := by kernel_rfl
theorem pr_6_8 : parseV ⟨(preL 6 8).toArray⟩ = (⟨[], [], [fnP (hiT 6 8)]⟩, 0, 0) := by kernel_rfl
theorem pr_6_9 : parseV ⟨(preL 6 9).toArray⟩ = (⟨[], [], [fnP (hiT 6 9)]⟩, 0, 0) := by kernel_rfl
theorem pr_6_10 : parseV ⟨(preL 6 10).toArray⟩ = (⟨[], [], [fnP (hiT 6 10)]⟩, 0, 0) := by kernel_rfl
theorem pr_6_11 : parseV ⟨(preL 6 11).toArray⟩ = (⟨[], [], [fnP (hiT 6 11)]⟩, 0, 0) := by kernel_rfl
theorem pr_6_12 : parseV ⟨(preL 6 12).toArray⟩ = (⟨[], [], [fnP (hiT 6 12)]⟩, 0, 0) := by kernel_rfl
theorem pr_6_13 : parseV ⟨(preL 6 13).toArray⟩ = (⟨[], [], [fnP (hiT 6 13)]⟩, 0, 0) := by kernel_rfl
theorem pr_6_14 : parseV ⟨(preL 6 14).toArray⟩ = (⟨[], [], [fnP (hiT 6 14)]⟩, 0, 0) := by kernel_rfl
theorem pr_6_15 : parseV ⟨(preL 6 15).toArray⟩ = (⟨[], [], [fnP (hiT 6 15)]⟩, 0, 0) := by kernel_rfl
theorem pr_6_16 : parseV ⟨(preL 6 16).toArray⟩ = (⟨[], [], [fnP (hiT 6 16)]⟩, 0, 0) := by kernel_rfl
theorem pr_6_17 : parseV ⟨(preL 6 17).toArray⟩ = (⟨[], [], [fnP (hiT 6 17)]⟩, 0, 0) := by kernel_rfl
theorem pr_7_0 : parseV ⟨(preL 7 0).toArray⟩ = (⟨[], [], [fnP (loT 7 0)]⟩, 0, 0) := by kernel_rfl
theorem pr_7_1 : parseV ⟨(preL 7 1).toArray⟩ = (⟨[], [], [fnP (loT 7 1)]⟩, 0, 0) := by kernel_rfl
theorem pr_7_2 : parseV ⟨(preL 7 2).toArray⟩ = (⟨[], [], [fnP (loT 7 2)]⟩, 0, 0) := by kernel_rfl
theorem pr_7_3 : parseV ⟨(preL 7 3).toArray⟩ = (⟨[], [], [fnP (loT 7 3)]⟩, 0, 0) := by kernel_rfl
theorem pr_7_4 : parseV ⟨(preL 7 4).toArray⟩ = (⟨[], [], [fnP (loT 7 4)]⟩, 0, 0) := by kernel_rfl
theorem pr_7_5 : parseV ⟨(preL 7 5).toArray⟩ = (⟨[], [], [fnP (loT 7 5)]⟩, 0, 0) := by kernel_rfl
theorem pr_7_6 : parseV ⟨(preL 7 6).toArray⟩ = (⟨[], [], [fnP (loT 7 6)]⟩, 0, 0) := by kernel_rfl
theorem pr_7_7 : parseV ⟨(preL 7 7).toArray⟩ = (⟨[], [], [fnP (loT 7 7)]⟩, 0, 0) := by kernel_rfl
theorem pr_7_8 : parseV ⟨(preL 7 8).toArray⟩ = (⟨[], [], [fnP (loT 7 8)]⟩, 0, 0) := by kernel_rfl
theorem pr_7_9 : parseV ⟨(preL 7 9).toArray⟩ = (⟨[], [], [fnP (loT 7 9)]⟩, 0, 0) := by kernel_rfl
theorem pr_7_10 : parseV ⟨(preL 7 10).toArray⟩ = (⟨[], [], [fnP (loT 7 10)]⟩, 0, 0) := by kernel_rfl
theorem pr_7_11 : parseV ⟨(preL 7 11).toArray⟩ = (⟨[], [], [fnP (hiT 7 11)]⟩, 0, 0) := by kernel_rfl
theorem pr_7_12 : parseV ⟨(preL 7 12).toArray⟩ = (⟨[], [], [fnP (hiT 7 12)]⟩, 0, 0) := by kernel_rfl
theorem pr_7_13 : parseV ⟨(preL 7 13).toArray⟩ = (⟨[], [], [fnP (hiT 7 13)]⟩, 0, 0) := by kernel_rfl
theorem pr_7_14 : parseV ⟨(preL 7 14).toArray⟩ = (⟨[], [], [fnP (hiT 7 14)]⟩, 0, 0) := by kernel_rfl
theorem pr_7_15 : parseV ⟨(preL 7 15).toArray⟩ = (⟨[], [], [fnP (hiT 7 15)]⟩, 0, 0) := by kernel_rfl
theorem pr_7_16 : parseV ⟨(preL 7 16).toArray⟩ = (⟨[], [], [fnP (hiT 7 16)]⟩, 0, 0) := by kernel_rfl
theorem pr_7_17 : parseV ⟨(preL 7 17).toArray⟩ = (⟨[], [], [fnP (hiT 7 17)]⟩, 0, 0) := by kernel_rfl
theorem pr_8_0 : parseV ⟨(preL 8 0).toArray⟩ = (⟨[], [], [fnP (loT 8 0)]⟩, 0, 0) := by kernel_rfl
theorem pr_8_1 : parseV ⟨(preL 8 1).toArray⟩ = (⟨[], [], [fnP (loT 8 1)]⟩, 0, 0) := by kernel_rfl
theorem pr_8_2 : parseV ⟨(preL 8 2).toArray⟩ = (⟨[], [], [fnP (loT 8 2)]⟩, 0, 0) := by kernel_rfl
theorem pr_8_3 : parseV ⟨(preL 8 3).toArray⟩ = (⟨[], [], [fnP (loT 8 3)]⟩, 0, 0) := by kernel_rfl
theorem pr_8_4 : parseV ⟨(preL 8 4).toArray⟩ = (⟨[], [], [fnP (loT 8 4)]⟩, 0, 0) := by kernel_rfl
theorem pr_8_5 : parseV ⟨(preL 8 5).toArray⟩ = (⟨[], [], [fnP (loT 8 5)]⟩, 0, 0) := by kernel_rfl
theorem pr_8_6 : parseV ⟨(preL 8 6).toArray⟩ = (⟨[], [], [fnP (loT 8 6)]⟩, 0, 0) := by kernel_rfl
theorem pr_8_7 : parseV ⟨(preL 8 7).toArray⟩ = (⟨[], [], [fnP (loT 8 7)]⟩, 0, 0) := by kernel_rfl
theorem pr_8_8 : parseV ⟨(preL 8 8).toArray⟩ = (⟨[], [], [fnP (loT 8 8)]⟩, 0, 0) := by kernel_rfl
theorem pr_8_9 : parseV ⟨(preL 8 9).toArray⟩ = (⟨[], [], [fnP (loT 8 9)]⟩, 0, 0) := by kernel_rfl
theorem pr_8_10 : parseV ⟨(preL 8 10).toArray⟩ = (⟨[], [], [fnP (loT 8 10)]⟩, 0, 0) := by kernel_rfl
theorem pr_8_11 : parseV ⟨(preL 8 11).toArray⟩ = (⟨[], [], [fnP (hiT 8 11)]⟩, 0, 0) := by kernel_rfl
theorem pr_8_12 : parseV ⟨(preL 8 12).toArray⟩ = (⟨[], [], [fnP (hiT 8 12)]⟩, 0, 0) := by kernel_rfl
theorem pr_8_13 : parseV ⟨(preL 8 13).toArray⟩ = (⟨[], [], [fnP (hiT 8 13)]⟩, 0, 0) := by kernel_rfl
theorem pr_8_14 : parseV ⟨(preL 8 14).toArray⟩ = (⟨[], [], [fnP (hiT 8 14)]⟩, 0, 0) := by kernel_rfl
theorem pr_8_15 : parseV ⟨(preL 8 15).toArray⟩ = (⟨[], [], [fnP (hiT 8 15)]⟩, 0, 0) := by kernel_rfl
theorem pr_8_16 : parseV ⟨(preL 8 16).toArray⟩ = (⟨[], [], [fnP (hiT 8 16)]⟩, 0, 0) := by kernel_rfl
theorem pr_8_17 : parseV ⟨(preL 8 17).toArray⟩ = (⟨[], [], [fnP (hiT 8 17)]⟩, 0, 0) := by kernel_rfl
theorem pr_9_0 : parseV ⟨(preL 9 0).toArray⟩ = (⟨[], [], [fnP (loT 9 0)]⟩, 0, 0) := by kernel_rfl
theorem pr_9_1 : parseV ⟨(preL 9 1).toArray⟩ = (⟨[], [], [fnP (loT 9 1)]⟩, 0, 0) := by kernel_rfl
theorem pr_9_2 : parseV ⟨(preL 9 2).toArray⟩ = (⟨[], [], [fnP (loT 9 2)]⟩, 0, 0) := by kernel_rfl
theorem pr_9_3 : parseV ⟨(preL 9 3).toArray⟩ = (⟨[], [], [fnP (loT 9 3)]⟩, 0, 0) := by kernel_rfl
theorem pr_9_4 : parseV ⟨(preL 9 4).toArray⟩ = (⟨[], [], [fnP (loT 9 4)]⟩, 0, 0) := by kernel_rfl
theorem pr_9_5 : parseV ⟨(preL 9 5).toArray⟩ = (⟨[], [], [fnP (loT 9 5)]⟩, 0, 0) := by kernel_rfl
theorem pr_9_6 : parseV ⟨(preL 9 6).toArray⟩ = (⟨[], [], [fnP (loT 9 6)]⟩, 0, 0) := by kernel_rfl
theorem pr_9_7 : parseV ⟨(preL 9 7).toArray⟩ = (⟨[], [], [fnP (loT 9 7)]⟩, 0, 0) := by kernel_rfl
theorem pr_9_8 : parseV ⟨(preL 9 8).toArray⟩ = (⟨[], [], [fnP (loT 9 8)]⟩, 0, 0) := by kernel_rfl
theorem pr_9_9 : parseV ⟨(preL 9 9).toArray⟩ = (⟨[], [], [fnP (loT 9 9)]⟩, 0, 0) := by kernel_rfl
theorem pr_9_10 : parseV ⟨(preL 9 10).toArray⟩ = (⟨[], [], [fnP (loT 9 10)]⟩, 0, 0) := by kernel_rfl
theorem pr_9_11 : parseV ⟨(preL 9 11).toArray⟩ = (⟨[], [], [fnP (hiT 9 11)]⟩, 0, 0) := by kernel_rfl
theorem pr_9_12 : parseV ⟨(preL 9 12).toArray⟩ = (⟨[], [], [fnP (hiT 9 12)]⟩, 0, 0) := by kernel_rfl
theorem pr_9_13 : parseV ⟨(preL 9 13).toArray⟩ = (⟨[], [], [fnP (hiT 9 13)]⟩, 0, 0) := by kernel_rfl
theorem pr_9_14 : parseV ⟨(preL 9 14).toArray⟩ = (⟨[], [], [fnP (hiT 9 14)]⟩, 0, 0) := by kernel_rfl
theorem pr_9_15 : parseV ⟨(preL 9 15).toArray⟩ = (⟨[], [], [fnP (hiT 9 15)]⟩, 0, 0) := by kernel_rfl
theorem pr_9_16 : parseV ⟨(preL 9 16).toArray⟩ = (⟨[], [], [fnP (hiT 9 16)]⟩, 0, 0) := by kernel_rfl
theorem pr_9_17 : parseV ⟨(preL 9 17).toArray⟩ = (⟨[], [], [fnP (hiT 9 17)]⟩, 0, 0) := by kernel_rfl
theorem pr_10_0 : parseV ⟨(preL 10 0).toArray⟩ = (⟨[], [], [fnP (loT 10 0)]⟩, 0, 0) := by kernel_rfl
theorem pr_10_1 : parseV ⟨(preL 10 1).toArray⟩ = (⟨[], [], [fnP (loT 10 1)]⟩, 0, 0) := by kernel_rfl
theorem pr_10_2 : parseV ⟨(preL 10 2).toArray⟩ = (⟨[], [], [fnP (loT 10 2)]⟩, 0, 0) := by kernel_rfl
theorem pr_10_3 : parseV ⟨(preL 10 3).toArray⟩ = (⟨[], [], [fnP (loT 10 3)]⟩, 0, 0) := by kernel_rfl
theorem pr_10_4 : parseV ⟨(preL 10 4).toArray⟩ = (⟨[], [], [fnP (loT 10 4)]⟩, 0, 0) := by kernel_rfl
theorem pr_10_5 : parseV ⟨(preL 10 5).toArray⟩ = (⟨[], [], [fnP (loT 10 5)]⟩, 0, 0) := by kernel_rfl
theorem pr_10_6 : parseV ⟨(preL 10 6).toArray⟩ = (⟨[], [], [fnP (loT 10 6)]⟩, 0, 0) := by kernel_rfl
theorem pr_10_7 : parseV ⟨(preL 10 7).toArray⟩ = (⟨[], [], [fnP (loT 10 7)]⟩, 0, 0) := by kernel_rfl
theorem pr_10_8 : parseV ⟨(preL 10 8).toArray⟩ = (⟨[], [], [fnP (loT 10 8)]⟩, 0, 0) := by kernel_rfl
theorem pr_10_9 : parseV ⟨(preL 10 9).toArray⟩ = (⟨[], [], [fnP (loT 10 9)]⟩, 0, 0) := by kernel_rfl
theorem pr_10_10 : parseV ⟨(preL 10 10).toArray⟩ = (⟨[], [], [fnP (loT 10 10)]⟩, 0, 0) := by kernel_rfl
theorem pr_10_11 : parseV ⟨(preL 10 11).toArray⟩ = (⟨[], [], [fnP (hiT 10 11)]⟩, 0, 0) := by kernel_rfl
theorem pr_10_12 : parseV ⟨(preL 10 12).toArray⟩ = (⟨[], [], [fnP (hiT 10 12)]⟩, 0, 0) := by kernel_rfl
theorem pr_10_13 : parseV ⟨(preL 10 13).toArray⟩ = (⟨[], [], [fnP (hiT 10 13)]⟩, 0, 0) := by kernel_rfl
theorem pr_10_14 : parseV ⟨(preL 10 14).toArray⟩ = (⟨[], [], [fnP (hiT 10 14)]⟩, 0, 0) := by kernel_rfl
theorem pr_10_15 : parseV ⟨(preL 10 15).toArray⟩ = (⟨[], [], [fnP (hiT 10 15)]⟩, 0, 0) := by kernel_rfl
theorem pr_10_16 : parseV ⟨(preL 10 16).toArray⟩ = (⟨[], [], [fnP (hiT 10 16)]⟩, 0, 0) := by kernel_rfl
theorem pr_10_17 : parseV ⟨(preL 10 17).toArray⟩ = (⟨[], [], [fnP (hiT 10 17)]⟩, 0, 0) := by kernel_rfl
theorem pr_11_0 : parseV ⟨(preL 11 0).toArray⟩ = (⟨[], [], [fnP (loT 11 0)]⟩, 0, 0) := by kernel_rfl
theorem pr_11_1 : parseV ⟨(preL 11 1).toArray⟩ = (⟨[], [], [fnP (loT 11 1)]⟩, 0, 0) := by kernel_rfl
theorem pr_11_2 : parseV ⟨(preL 11 2).toArray⟩ = (⟨[], [], [fnP (loT 11 2)]⟩, 0, 0) := by kernel_rfl
theorem pr_11_3 : parseV ⟨(preL 11 3).toArray⟩ = (⟨[], [], [fnP (loT 11 3)]⟩, 0, 0) := by kernel_rfl
theorem pr_11_4 : parseV ⟨(preL 11 4).toArray⟩ = (⟨[], [], [fnP (loT 11 4)]⟩, 0, 0) := by kernel_rfl
theorem pr_11_5 : parseV ⟨(preL 11 5).toArray⟩ = (⟨[], [], [fnP (loT 11 5)]⟩, 0, 0) := by kernel_rfl
theorem pr_11_6 : parseV ⟨(preL 11 6).toArray⟩ = (⟨[], [], [fnP (loT 11 6)]⟩, 0, 0) := by kernel_rfl
theorem pr_11_7 : parseV ⟨(preL 11 7).toArray⟩ = (⟨[], [], [fnP (loT 11 7)]⟩, 0, 0) := by kernel_rfl
theorem pr_11_8 : parseV ⟨(preL 11 8).toArray⟩ = (⟨[], [], [fnP (loT 11 8)]⟩, 0, 0) := by kernel_rfl
theorem pr_11_9 : parseV ⟨(preL 11 9).toArray⟩ = (⟨[], [], [fnP (loT 11 9)]⟩, 0, 0) := by kernel_rfl
theorem pr_11_10 : parseV ⟨(preL 11 10).toArray⟩ = (⟨[], [], [fnP (loT 11 10)]⟩, 0, 0) := by kernel_rfl
theorem pr_11_11 : parseV ⟨(preL 11 11).toArray⟩ = (⟨[], [], [fnP (loT 11 11)]⟩, 0, 0) := by kernel_rfl
theorem pr_11_12 : parseV ⟨(preL 11 12).toArray⟩ = (⟨[], [], [fnP (loT 11 12)]⟩, 0, 0) := by kernel_rfl
theorem pr_11_13 : parseV ⟨(preL 11 13).toArray⟩ = (⟨[], [], [fnP (hiT 11 13)]⟩, 0, 0) := by kernel_rfl
theorem pr_11_14 : parseV ⟨(preL 11 14).toArray⟩ = (⟨[], [], [fnP (hiT 11 14)]⟩, 0, 0) := by kernel_rfl
theorem pr_11_15 : parseV ⟨(preL 11 15).toArray⟩ = (⟨[], [], [fnP (hiT 11 15)]⟩, 0, 0) := by kernel_rfl
theorem pr_11_16 : parseV ⟨(preL 11 16).toArray⟩ = (⟨[], [], [fnP (hiT 11 16)]⟩, 0, 0) := by kernel_rfl
theorem pr_11_17 : parseV ⟨(preL 11 17).toArray⟩ = (⟨[], [], [fnP (hiT 11 17)]⟩, 0, 0) := by kernel_rfl
theorem pr_12_0 : parseV ⟨(preL 12 0).toArray⟩ = (⟨[], [], [fnP (loT 12 0)]⟩, 0, 0) := by kernel_rfl
theorem pr_12_1 : parseV ⟨(preL 12 1).toArray⟩ = (⟨[], [], [fnP (loT 12 1)]⟩, 0, 0) := by kernel_rfl
theorem pr_12_2 : parseV ⟨(preL 12 2).toArray⟩ = (⟨[], [], [fnP (loT 12 2)]⟩, 0, 0) := by kernel_rfl
theorem pr_12_3 : parseV ⟨(preL 12 3).toArray⟩ = (⟨[], [], [fnP (loT 12 3)]⟩, 0, 0) := by kernel_rfl
theorem pr_12_4 : parseV ⟨(preL 12 4).toArray⟩ = (⟨[], [], [fnP (loT 12 4)]⟩, 0, 0) := by kernel_rfl
theorem pr_12_5 : parseV ⟨(preL 12 5).toArray⟩ = (⟨[], [], [fnP (loT 12 5)]⟩, 0, 0) := by kernel_rfl
theorem pr_12_6 : parseV ⟨(preL 12 6).toArray⟩ = (⟨[], [], [fnP (loT 12 6)]⟩, 0, 0) := by kernel_rfl
theorem pr_12_7 : parseV ⟨(preL 12 7).toArray⟩ = (⟨[], [], [fnP (loT 12 7)]⟩, 0, 0) := by kernel_rfl
theorem pr_12_8 : parseV ⟨(preL 12 8).toArray⟩ = (⟨[], [], [fnP (loT 12 8)]⟩, 0, 0) := by kernel_rfl
theorem pr_12_9 : parseV ⟨(preL 12 9).toArray⟩ = (⟨[], [], [fnP (loT 12 9)]⟩, 0, 0) := by kernel_rfl
theorem pr_12_10 : parseV ⟨(preL 12 10).toArray⟩ = (⟨[], [], [fnP (loT 12 10)]⟩, 0, 0) := by kernel_rfl
theorem pr_12_11 : parseV ⟨(preL 12 11).toArray⟩ = (⟨[], [], [fnP (loT 12 11)]⟩, 0, 0) := by kernel_rfl
theorem pr_12_12 : parseV ⟨(preL 12 12).toArray⟩ = (⟨[], [], [fnP (loT 12 12)]⟩, 0, 0) := by kernel_rfl
theorem pr_12_13 : parseV ⟨(preL 12 13).toArray⟩ = (⟨[], [], [fnP (hiT 12 13)]⟩, 0, 0) := by kernel_rfl
theorem pr_12_14 : parseV ⟨(preL 12 14).toArray⟩ = (⟨[], [], [fnP (hiT 12 14)]⟩, 0, 0) := by kernel_rfl
theorem pr_12_15 : parseV ⟨(preL 12 15).toArray⟩ = (⟨[], [], [fnP (hiT 12 15)]⟩, 0, 0) := by kernel_rfl
theorem pr_12_16 : parseV ⟨(preL 12 16).toArray⟩ = (⟨[], [], [fnP (hiT 12 16)]⟩, 0, 0) := by kernel_rfl
theorem pr_12_17 : parseV ⟨(preL 12 17).toArray⟩ = (⟨[], [], [fnP (hiT 12 17)]⟩, 0, 0) := by kernel_rfl
theorem pr_13_0 : parseV ⟨(preL 13 0).toArray⟩ = (⟨[], [], [fnP (loT 13 0)]⟩, 0, 0) := by kernel_rfl
theorem pr_13_1 : parseV ⟨(preL 13 1).toArray⟩ = (⟨[], [], [fnP (loT 13 1)]⟩, 0, 0) := by kernel_rfl
theorem pr_13_2 : parseV ⟨(preL 13 2).toArray⟩ = (⟨[], [], [fnP (loT 13 2)]⟩, 0, 0) := by kernel_rfl
theorem pr_13_3 : parseV ⟨(preL 13 3).toArray⟩ = (⟨[], [], [fnP (loT 13 3)]⟩, 0, 0) := by kernel_rfl
theorem pr_13_4 : parseV ⟨(preL 13 4).toArray⟩ = (⟨[], [], [fnP (loT 13 4)]⟩, 0, 0) := by kernel_rfl
theorem pr_13_5 : parseV ⟨(preL 13 5).toArray⟩ = (⟨[], [], [fnP (loT 13 5)]⟩, 0, 0) := by kernel_rfl
theorem pr_13_6 : parseV ⟨(preL 13 6).toArray⟩ = (⟨[], [], [fnP (loT 13 6)]⟩, 0, 0) := by kernel_rfl
theorem pr_13_7 : parseV ⟨(preL 13 7).toArray⟩ = (⟨[], [], [fnP (loT 13 7)]⟩, 0, 0) := by kernel_rfl
theorem pr_13_8 : parseV ⟨(preL 13 8).toArray⟩ = (⟨[], [], [fnP (loT 13 8)]⟩, 0, 0) := by kernel_rfl
theorem pr_13_9 : parseV ⟨(preL 13 9).toArray⟩ = (⟨[], [], [fnP (loT 13 9)]⟩, 0, 0) := by kernel_rfl
theorem pr_13_10 : parseV ⟨(preL 13 10).toArray⟩ = (⟨[], [], [fnP (loT 13 10)]⟩, 0, 0) := by kernel_rfl
theorem pr_13_11 : parseV ⟨(preL 13 11).toArray⟩ = (⟨[], [], [fnP (loT 13 11)]⟩, 0, 0) := by kernel_rfl
theorem pr_13_12 : parseV ⟨(preL 13 12).toArray⟩ = (⟨[], [], [fnP (loT 13 12)]⟩, 0, 0) := by kernel_rfl
theorem pr_13_13 : parseV ⟨(preL 13 13).toArray⟩ = (⟨[], [], [fnP (loT 13 13)]⟩, 0, 0) := by kernel_rfl
theorem pr_13_14 : parseV ⟨(preL 13 14).toArray⟩ = (⟨[], [], [fnP (loT 13 14)]⟩, 0, 0) := by kernel_rfl
theorem pr_13_15 : parseV ⟨(preL 13 15).toArray⟩ = (⟨[], [], [fnP (hiT 13 15)]⟩, 0, 0) := by kernel_rfl
theorem pr_13_16 : parseV ⟨(preL 13 16).toArray⟩ = (⟨[], [], [fnP (hiT 13 16)]⟩, 0, 0) := by kernel_rfl
theorem pr_13_17 : parseV ⟨(preL 13 17).toArray⟩ = (⟨[], [], [fnP (hiT 13 17)]⟩, 0, 0) := by kernel_rfl
theorem pr_14_0 : parseV ⟨(preL 14 0).toArray⟩ = (⟨[], [], [fnP (loT 14 0)]⟩, 0, 0) := by kernel_rfl
theorem pr_14_1 : parseV ⟨(preL 14 1).toArray⟩ = (⟨[], [], [fnP (loT 14 1)]⟩, 0, 0) := by kernel_rfl
theorem pr_14_2 : parseV ⟨(preL 14 2).toArray⟩ = (⟨[], [], [fnP (loT 14 2)]⟩, 0, 0) := by kernel_rfl
theorem pr_14_3 : parseV ⟨(preL 14 3).toArray⟩ = (⟨[], [], [fnP (loT 14 3)]⟩, 0, 0) := by kernel_rfl
theorem pr_14_4 : parseV ⟨(preL 14 4).toArray⟩ = (⟨[], [], [fnP (loT 14 4)]⟩, 0, 0) := by kernel_rfl
theorem pr_14_5 : parseV ⟨(preL 14 5).toArray⟩ = (⟨[], [], [fnP (loT 14 5)]⟩, 0, 0) := by kernel_rfl
theorem pr_14_6 : parseV ⟨(preL 14 6).toArray⟩ = (⟨[], [], [fnP (loT 14 6)]⟩, 0, 0) := by kernel_rfl
theorem pr_14_7 : parseV ⟨(preL 14 7).toArray⟩ = (⟨[], [], [fnP (loT 14 7)]⟩, 0, 0) := by kernel_rfl
theorem pr_14_8 : parseV ⟨(preL 14 8).toArray⟩ = (⟨[], [], [fnP (loT 14 8)]⟩, 0, 0) := by kernel_rfl
theorem pr_14_9 : parseV ⟨(preL 14 9).toArray⟩ = (⟨[], [], [fnP (loT 14 9)]⟩, 0, 0) := by kernel_rfl
theorem pr_14_10 : parseV ⟨(preL 14 10).toArray⟩ = (⟨[], [], [fnP (loT 14 10)]⟩, 0, 0) := by kernel_rfl
theorem pr_14_11 : parseV ⟨(preL 14 11).toArray⟩ = (⟨[], [], [fnP (loT 14 11)]⟩, 0, 0) := by kernel_rfl
theorem pr_14_12 : parseV ⟨(preL 14 12).toArray⟩ = (⟨[], [], [fnP (loT 14 12)]⟩, 0, 0) := by kernel_rfl
theorem pr_14_13 : parseV ⟨(preL 14 13).toArray⟩ = (⟨[], [], [fnP (loT 14 13)]⟩, 0, 0) := by kernel_rfl
theorem pr_14_14 : parseV ⟨(preL 14 14).toArray⟩ = (⟨[], [], [fnP (loT 14 14)]⟩, 0, 0) := by kernel_rfl
theorem pr_14_15 : parseV ⟨(preL 14 15).toArray⟩ = (⟨[], [], [fnP (hiT 14 15)]⟩, 0, 0) := by kernel_rfl
theorem pr_14_16 : parseV ⟨(preL 14 16).toArray⟩ = (⟨[], [], [fnP (hiT 14 16)]⟩, 0, 0) := by kernel_rfl
theorem pr_14_17 : parseV ⟨(preL 14 17).toArray⟩ = (⟨[], [], [fnP (hiT 14 17)]⟩, 0, 0) := by kernel_rfl
theorem pr_15_0 : parseV ⟨(preL 15 0).toArray⟩ = (⟨[], [], [fnP (loT 15 0)]⟩, 0, 0) := by kernel_rfl
theorem pr_15_1 : parseV ⟨(preL 15 1).toArray⟩ = (⟨[], [], [fnP (loT 15 1)]⟩, 0, 0) := by kernel_rfl
theorem pr_15_2 : parseV ⟨(preL 15 2).toArray⟩ = (⟨[], [], [fnP (loT 15 2)]⟩, 0, 0) := by kernel_rfl
theorem pr_15_3 : parseV ⟨(preL 15 3).toArray⟩ = (⟨[], [], [fnP (loT 15 3)]⟩, 0, 0) := by kernel_rfl
theorem pr_15_4 : parseV ⟨(preL 15 4).toArray⟩ = (⟨[], [], [fnP (loT 15 4)]⟩, 0, 0) := by kernel_rfl
theorem pr_15_5 : parseV ⟨(preL 15 5).toArray⟩ = (⟨[], [], [fnP (loT 15 5)]⟩, 0, 0) := by kernel_rfl
theorem pr_15_6 : parseV ⟨(preL 15 6).toArray⟩ = (⟨[], [], [fnP (loT 15 6)]⟩, 0, 0) := by kernel_rfl
theorem pr_15_7 : parseV ⟨(preL 15 7).toArray⟩ = (⟨[], [], [fnP (loT 15 7)]⟩, 0, 0) := by kernel_rfl
theorem pr_15_8 : parseV ⟨(preL 15 8).toArray⟩ = (⟨[], [], [fnP (loT 15 8)]⟩, 0, 0) := by kernel_rfl
theorem pr_15_9 : parseV ⟨(preL 15 9).toArray⟩ = (⟨[], [], [fnP (loT 15 9)]⟩, 0, 0) := by kernel_rfl
theorem pr_15_10 : parseV ⟨(preL 15 10).toArray⟩ = (⟨[], [], [fnP (loT 15 10)]⟩, 0, 0) := by kernel_rfl
theorem pr_15_11 : parseV ⟨(preL 15 11).toArray⟩ = (⟨[], [], [fnP (loT 15 11)]⟩, 0, 0) := by kernel_rfl
theorem pr_15_12 : parseV ⟨(preL 15 12).toArray⟩ = (⟨[], [], [fnP (loT 15 12)]⟩, 0, 0) := by kernel_rfl
theorem pr_15_13 : parseV ⟨(preL 15 13).toArray⟩ = (⟨[], [], [fnP (loT 15 13)]⟩, 0, 0) := by kernel_rfl
theorem pr_15_14 : parseV ⟨(preL 15 14).toArray⟩ = (⟨[], [], [fnP (loT 15 14)]⟩, 0, 0) := by kernel_rfl
theorem pr_15_15 : parseV ⟨(preL 15 15).toArray⟩ = (⟨[], [], [fnP (loT 15 15)]⟩, 0, 0) := by kernel_rfl
theorem pr_15_16 : parseV ⟨(preL 15 16).toArray⟩ = (⟨[], [], [fnP (loT 15 16)]⟩, 0, 0) := by kernel_rfl
theorem pr_15_17 : parseV ⟨(preL 15 17).toArray⟩ = (⟨[], [], [fnP (loT 15 17)]⟩, 0, 0) := by kernel_rfl
theorem pr_16_0 : parseV ⟨(preL 16 0).toArray⟩ = (⟨[], [], [fnP (loT 16 0)]⟩, 0, 0) := by kernel_rfl
theorem pr_16_1 : parseV ⟨(preL 16 1).toArray⟩ = (⟨[], [], [fnP (loT 16 1)]⟩, 0, 0) := by kernel_rfl
theorem pr_16_2 : parseV ⟨(preL 16 2).toArray⟩ = (⟨[], [], [fnP (loT 16 2)]⟩, 0, 0) := by kernel_rfl
theorem pr_16_3 : parseV ⟨(preL 16 3).toArray⟩ = (⟨[], [], [fnP (loT 16 3)]⟩, 0, 0) := by kernel_rfl
theorem pr_16_4 : parseV ⟨(preL 16 4).toArray⟩ = (⟨[], [], [fnP (loT 16 4)]⟩, 0, 0) := by kernel_rfl
theorem pr_16_5 : parseV ⟨(preL 16 5).toArray⟩ = (⟨[], [], [fnP (loT 16 5)]⟩, 0, 0) := by kernel_rfl
theorem pr_16_6 : parseV ⟨(preL 16 6).toArray⟩ = (⟨[], [], [fnP (loT 16 6)]⟩, 0, 0) := by kernel_rfl
theorem pr_16_7 : parseV ⟨(preL 16 7).toArray⟩ = (⟨[], [], [fnP (loT 16 7)]⟩, 0, 0) := by kernel_rfl
theorem pr_16_8 : parseV ⟨(preL 16 8).toArray⟩ = (⟨[], [], [fnP (loT 16 8)]⟩, 0, 0) := by kernel_rfl
theorem pr_16_9 : parseV ⟨(preL 16 9).toArray⟩ = (⟨[], [], [fnP (loT 16 9)]⟩, 0, 0) := by kernel_rfl
theorem pr_16_10 : parseV ⟨(preL 16 10).toArray⟩ = (⟨[], [], [fnP (loT 16 10)]⟩, 0, 0) := by kernel_rfl
theorem pr_16_11 : parseV ⟨(preL 16 11).toArray⟩ = (⟨[], [], [fnP (loT 16 11)]⟩, 0, 0) := by kernel_rfl
theorem pr_16_12 : parseV ⟨(preL 16 12).toArray⟩ = (⟨[], [], [fnP (loT 16 12)]⟩, 0, 0) := by kernel_rfl
theorem pr_16_13 : parseV ⟨(preL 16 13).toArray⟩ = (⟨[], [], [fnP (loT 16 13)]⟩, 0, 0) := by kernel_rfl
theorem pr_16_14 : parseV ⟨(preL 16 14).toArray⟩ = (⟨[], [], [fnP (loT 16 14)]⟩, 0, 0) := by kernel_rfl
theorem pr_16_15 : parseV ⟨(preL 16 15).toArray⟩ = (⟨[], [], [fnP (loT 16 15)]⟩, 0, 0) := by kernel_rfl
theorem pr_16_16 : parseV ⟨(preL 16 16).toArray⟩ = (⟨[], [], [fnP (loT 16 16)]⟩, 0, 0) := by kernel_rfl
theorem pr_16_17 : parseV ⟨(preL 16 17).toArray⟩ = (⟨[], [], [fnP (loT 16 17)]⟩, 0, 0) := by kernel_rfl
theorem pr_17_0 : parseV ⟨(preL 17 0).toArray⟩ = (⟨[], [], [fnP (loT 17 0)]⟩, 0, 0) := by kernel_rfl
theorem pr_17_1 : parseV ⟨(preL 17 1).toArray⟩ = (⟨[], [], [fnP (loT 17 1)]⟩, 0, 0) := by kernel_rfl
theorem pr_17_2 : parseV ⟨(preL 17 2).toArray⟩ = (⟨[], [], [fnP (loT 17 2)]⟩, 0, 0) := by kernel_rfl
theorem pr_17_3 : parseV ⟨(preL 17 3).toArray⟩ = (⟨[], [], [fnP (loT 17 3)]⟩, 0, 0) := by kernel_rfl
theorem pr_17_4 : parseV ⟨(preL 17 4).toArray⟩ = (⟨[], [], [fnP (loT 17 4)]⟩, 0, 0) := by kernel_rfl
theorem pr_17_5 : parseV ⟨(preL 17 5).toArray⟩ = (⟨[], [], [fnP (loT 17 5)]⟩, 0, 0) := by kernel_rfl
theorem pr_17_6 : parseV ⟨(preL 17 6).toArray⟩ = (⟨[], [], [fnP (loT 17 6)]⟩, 0, 0) := by kernel_rfl
theorem pr_17_7 : parseV ⟨(preL 17 7).toArray⟩ = (⟨[], [], [fnP (loT 17 7)]⟩, 0, 0) := by kernel_rfl
theorem pr_17_8 : parseV ⟨(preL 17 8).toArray⟩ = (⟨[], [], [fnP (loT 17 8)]⟩, 0, 0) := by kernel_rfl
theorem pr_17_9 : parseV ⟨(preL 17 9).toArray⟩ = (⟨[], [], [fnP (loT 17 9)]⟩, 0, 0) := by kernel_rfl
theorem pr_17_10 : parseV ⟨(preL 17 10).toArray⟩ = (⟨[], [], [fnP (loT 17 10)]⟩, 0, 0) := by kernel_rfl
theorem pr_17_11 : parseV ⟨(preL 17 11).toArray⟩ = (⟨[], [], [fnP (loT 17 11)]⟩, 0, 0) := by kernel_rfl
theorem pr_17_12 : parseV ⟨(preL 17 12).toArray⟩ = (⟨[], [], [fnP (loT 17 12)]⟩, 0, 0) := by kernel_rfl
theorem pr_17_13 : parseV ⟨(preL 17 13).toArray⟩ = (⟨[], [], [fnP (loT 17 13)]⟩, 0, 0) := by kernel_rfl
theorem pr_17_14 : parseV ⟨(preL 17 14).toArray⟩ = (⟨[], [], [fnP (loT 17 14)]⟩, 0, 0) := by kernel_rfl
theorem pr_17_15 : parseV ⟨(preL 17 15).toArray⟩ = (⟨[], [], [fnP (loT 17 15)]⟩, 0, 0) := by kernel_rfl
theorem pr_17_16 : parseV ⟨(preL 17 16).toArray⟩ = (⟨[], [], [fnP (loT 17 16)]⟩, 0, 0) := by kernel_rfl
theorem pr_17_17 : parseV ⟨(preL 17 17).toArray⟩ = (⟨[], [], [fnP (loT 17 17)]⟩, 0, 0) := by kernel_rfl
theorem pr_0 (b : Nat) (hb : b < 18) : parseV ⟨(preL 0 b).toArray⟩ = (⟨[], [], [fnP (if stP 0 < stP b then hiT 0 b else loT 0 b)]⟩, 0, 0) := by
  match b, hb with
  | 0, _ => exact pr_0_0
  | 1, _ => exact pr_0_1
  | 2, _ => exact pr_0_2
  | 3, _ => exact pr_0_3
  | 4, _ => exact pr_0_4
  | 5, _ => exact pr_0_5
  | 6, _ => exact pr_0_6
  | 7, _ => exact pr_0_7
  | 8, _ => exact pr_0_8
  | 9, _ => exact pr_0_9
  | 10, _ => exact pr_0_10
  | 11, _ => exact pr_0_11
  | 12, _ => exact pr_0_12
  | 13, _ => exact pr_0_13
  | 14, _ => exact pr_0_14
  | 15, _ => exact pr_0_15
  | 16, _ => exact pr_0_16
  | 17, _ => exact pr_0_17
  | n + 18, h => exact absurd h (by omega)
theorem pr_1 (b : Nat) (hb : b < 18) : parseV ⟨(preL 1 b).toArray⟩ = (⟨[], [], [fnP (if stP 1 < stP b then hiT 1 b else loT 1 b)]⟩, 0, 0) := by
  match b, hb with
  | 0, _ => exact pr_1_0
  | 1, _ => exact pr_1_1
  | 2, _ => exact pr_1_2
  | 3, _ => exact pr_1_3
  | 4, _ => exact pr_1_4
  | 5, _ => exact pr_1_5
  | 6, _ => exact pr_1_6
  | 7, _ => exact pr_1_7
  | 8, _ => exact pr_1_8
  | 9, _ => exact pr_1_9
  | 10, _ => exact pr_1_10
  | 11, _ => exact pr_1_11
  | 12, _ => exact pr_1_12
  | 13, _ => exact pr_1_13
  | 14, _ => exact pr_1_14
  | 15, _ => exact pr_1_15
  | 16, _ => exact pr_1_16
  | 17, _ => exact pr_1_17
  | n + 18, h => exact absurd h (by omega)
theorem pr_2 (b : Nat) (hb : b < 18) : parseV ⟨(preL 2 b).toArray⟩ = (⟨[], [], [fnP (if stP 2 < stP b then hiT 2 b else loT 2 b)]⟩, 0, 0) := by
  match b, hb with
  | 0, _ => exact pr_2_0
  | 1, _ => exact pr_2_1
  | 2, _ => exact pr_2_2
  | 3, _ => exact pr_2_3
  | 4, _ => exact pr_2_4
  | 5, _ => exact pr_2_5
  | 6, _ => exact pr_2_6
  | 7, _ => exact pr_2_7
  | 8, _ => exact pr_2_8
  | 9, _ => exact pr_2_9
  | 10, _ => exact pr_2_10
  | 11, _ => exact pr_2_11
  | 12, _ => exact pr_2_12
  | 13, _ => exact pr_2_13
  | 14, _ => exact pr_2_14
  | 15, _ => exact pr_2_15
  | 16, _ => exact pr_2_16
  | 17, _ => exact pr_2_17
  | n + 18, h => exact absurd h (by omega)
theorem pr_3 (b : Nat) (hb : b < 18) : parseV ⟨(preL 3 b).toArray⟩ = (⟨[], [], [fnP (if stP 3 < stP b then hiT 3 b else loT 3 b)]⟩, 0, 0) := by
  match b, hb with
  | 0, _ => exact pr_3_0
  | 1, _ => exact pr_3_1
  | 2, _ => exact pr_3_2
  | 3, _ => exact pr_3_3
  | 4, _ => exact pr_3_4
  | 5, _ => exact pr_3_5
  | 6, _ => exact pr_3_6
  | 7, _ => exact pr_3_7
  | 8, _ => exact pr_3_8
  | 9, _ => exact pr_3_9
  | 10, _ => exact pr_3_10
  | 11, _ => exact pr_3_11
  | 12, _ => exact pr_3_12
  | 13, _ => exact pr_3_13
  | 14, _ => exact pr_3_14
  | 15, _ => exact pr_3_15
  | 16, _ => exact pr_3_16
  | 17, _ => exact pr_3_17
  | n + 18, h => exact absurd h (by omega)
theorem pr_4 (b : Nat) (hb : b < 18) : parseV ⟨(preL 4 b).toArray⟩ = (⟨[], [], [fnP (if stP 4 < stP b then hiT 4 b else loT 4 b)]⟩, 0, 0) := by
  match b, hb with
  | 0, _ => exact pr_4_0
  | 1, _ => exact pr_4_1
  | 2, _ => exact pr_4_2
  | 3, _ => exact pr_4_3
  | 4, _ => exact pr_4_4
  | 5, _ => exact pr_4_5
  | 6, _ => exact pr_4_6
  | 7, _ => exact pr_4_7
  | 8, _ => exact pr_4_8
  | 9, _ => exact pr_4_9
  | 10, _ => exact pr_4_10
  | 11, _ => exact pr_4_11
  | 12, _ => exact pr_4_12
  | 13, _ => exact pr_4_13
  | 14, _ => exact pr_4_14
  | 15, _ => exact pr_4_15
  | 16, _ => exact pr_4_16
  | 17, _ => exact pr_4_17
  | n + 18, h => exact absurd h (by omega)
theorem pr_5 (b : Nat) (hb : b < 18) : parseV ⟨(preL 5 b).toArray⟩ = (⟨[], [], [fnP (if stP 5 < stP b then hiT 5 b else loT 5 b)]⟩, 0, 0) := by
  match b, hb with
  | 0, _ => exact pr_5_0
  | 1, _ => exact pr_5_1
  | 2, _ => exact pr_5_2
  | 3, _ => exact pr_5_3
  | 4, _ => exact pr_5_4
  | 5, _ => exact pr_5_5
  | 6, _ => exact pr_5_6
  | 7, _ => exact pr_5_7
  | 8, _ => exact pr_5_8
  | 9, _ => exact pr_5_9
  | 10, _ => exact pr_5_10
  | 11, _ => exact pr_5_11
  | 12, _ => exact pr_5_12
  | 13, _ => exact pr_5_13
  | 14, _ => exact pr_5_14
  | 15, _ => exact pr_5_15
  | 16, _ => exact pr_5_16
  | 17, _ => exact pr_5_17
  | n + 18, h => exact absurd h (by omega)
theorem pr_6 (b : Nat) (hb : b < 18) : parseV ⟨(preL 6 b).toArray⟩ = (⟨[], [], [fnP (if stP 6 < stP b then hiT 6 b else loT 6 b)]⟩, 0, 0) := by
  match b, hb with
  | 0, _ => exact pr_6_0
  | 1, _ => exact pr_6_1
  | 2, _ => exact pr_6_2
  | 3, _ => exact pr_6_3
  | 4, _ => exact pr_6_4
  | 5, _ => exact pr_6_5
  | 6, _ => exact pr_6_6
  | 7, _ => exact pr_6_7
  | 8, _ => exact pr_6_8
  | 9, _ => exact pr_6_9
  | 10, _ => exact pr_6_10
  | 11, _ => exact pr_6_11
  | 12, _ => exact pr_6_12
  | 13, _ => exact pr_6_13
  | 14, _ => exact pr_6_14
  | 15, _ => exact pr_6_15
  | 16, _ => exact pr_6_16
  | 17, _ => exact pr_6_17
  | n + 18, h => exact absurd h (by omega)
theorem pr_7 (b : Nat) (hb : b < 18) : parseV ⟨(preL 7 b).toArray⟩ = (⟨[], [], [fnP (if stP 7 < stP b then hiT 7 b else loT 7 b)]⟩, 0, 0) := by
  match b, hb with
  | 0, _ => exact pr_7_0
  | 1, _ => exact pr_7_1
  | 2, _ => exact pr_7_2
  | 3, _ => exact pr_7_3
  | 4, _ => exact pr_7_4
  | 5, _ => exact pr_7_5
  | 6, _ => exact pr_7_6
  | 7, _ => exact pr_7_7
  | 8, _ => exact pr_7_8
  | 9, _ => exact pr_7_9
  | 10, _ => exact pr_7_10
  | 11, _ => exact pr_7_11
  | 12, _ => exact pr_7_12
  | 13, _ => exact pr_7_13
  | 14, _ => exact pr_7_14
  | 15, _ => exact pr_7_15
  | 16, _ => exact pr_7_16
  | 17, _ => exact pr_7_17
  | n + 18, h => exact absurd h (by omega)
theorem pr_8 (b : Nat) (hb : b < 18) : parseV ⟨(preL 8 b).toArray⟩ = (⟨[], [], [fnP (if stP 8 < stP b then hiT 8 b else loT 8 b)]⟩, 0, 0) := by
  match b, hb with
  | 0, _ => exact pr_8_0
  | 1, _ => exact pr_8_1
  | 2, _ => exact pr_8_2
  | 3, _ => exact pr_8_3
  | 4, _ => exact pr_8_4
  | 5, _ => exact pr_8_5
  | 6, _ => exact pr_8_6
  | 7, _ => exact pr_8_7
  | 8, _ => exact pr_8_8
  | 9, _ => exact pr_8_9
  | 10, _ => exact pr_8_10
  | 11, _ => exact pr_8_11
  | 12, _ => exact pr_8_12
  | 13, _ => exact pr_8_13
  | 14, _ => exact pr_8_14
  | 15, _ => exact pr_8_15
  | 16, _ => exact pr_8_16
  | 17, _ => exact pr_8_17
  | n + 18, h => exact absurd h (by omega)
theorem pr_9 (b : Nat) (hb : b < 18) : parseV ⟨(preL 9 b).toArray⟩ = (⟨[], [], [fnP (if stP 9 < stP b then hiT 9 b else loT 9 b)]⟩, 0, 0) := by
  match b, hb with
  | 0, _ => exact pr_9_0
  | 1, _ => exact pr_9_1
  | 2, _ => exact pr_9_2
  | 3, _ => exact pr_9_3
  | 4, _ => exact pr_9_4
  | 5, _ => exact pr_9_5
  | 6, _ => exact pr_9_6
  | 7, _ => exact pr_9_7
  | 8, _ => exact pr_9_8
  | 9, _ => exact pr_9_9
  | 10, _ => exact pr_9_10
  | 11, _ => exact pr_9_11
  | 12, _ => exact pr_9_12
  | 13, _ => exact pr_9_13
  | 14, _ => exact pr_9_14
  | 15, _ => exact pr_9_15
  | 16, _ => exact pr_9_16
  | 17, _ => exact pr_9_17
  | n + 18, h => exact absurd h (by omega)
theorem pr_10 (b : Nat) (hb : b < 18) : parseV ⟨(preL 10 b).toArray⟩ = (⟨[], [], [fnP (if stP 10 < stP b then hiT 10 b else loT 10 b)]⟩, 0, 0) := by
  match b, hb with
  | 0, _ => exact pr_10_0
  | 1, _ => exact pr_10_1
  | 2, _ => exact pr_10_2
  | 3, _ => exact pr_10_3
  | 4, _ => exact pr_10_4
  | 5, _ => exact pr_10_5
  | 6, _ => exact pr_10_6
  | 7, _ => exact pr_10_7
  | 8, _ => exact pr_10_8
  | 9, _ => exact pr_10_9
  | 10, _ => exact pr_10_10
  | 11, _ => exact pr_10_11
  | 12, _ => exact pr_10_12
  | 13, _ => exact pr_10_13
  | 14, _ => exact pr_10_14
  | 15, _ => exact pr_10_15
  | 16, _ => exact pr_10_16
  | 17, _ => exact pr_10_17
  | n + 18, h => exact absurd h (by omega)
theorem pr_11 (b : Nat) (hb : b < 18) : parseV ⟨(preL 11 b).toArray⟩ = (⟨[], [], [fnP (if stP 11 < stP b then hiT 11 b else loT 11 b)]⟩, 0, 0) := by
  match b, hb with
  | 0, _ => exact pr_11_0
  | 1, _ => exact pr_11_1
  | 2, _ => exact pr_11_2
  | 3, _ => exact pr_11_3
  | 4, _ => exact pr_11_4
  | 5, _ => exact pr_11_5
  | 6, _ => exact pr_11_6
  | 7, _ => exact pr_11_7
  | 8, _ => exact pr_11_8
  | 9, _ => exact pr_11_9
  | 10, _ => exact pr_11_10
  | 11, _ => exact pr_11_11
  | 12, _ => exact pr_11_12
  | 13, _ => exact pr_11_13
  | 14, _ => exact pr_11_14
  | 15, _ => exact pr_11_15
  | 16, _ => exact pr_11_16
  | 17, _ => exact pr_11_17
  | n + 18, h => exact absurd h (by omega)
theorem pr_12 (b : Nat) (hb : b < 18) : parseV ⟨(preL 12 b).toArray⟩ = (⟨[], [], [fnP (if stP 12 < stP b then hiT 12 b else loT 12 b)]⟩, 0, 0) := by
  match b, hb with
  | 0, _ => exact pr_12_0
  | 1, _ => exact pr_12_1
  | 2, _ => exact pr_12_2
  | 3, _ => exact pr_12_3
  | 4, _ => exact pr_12_4
  | 5, _ => exact pr_12_5
  | 6, _ => exact pr_12_6
  | 7, _ => exact pr_12_7
  | 8, _ => exact pr_12_8
  | 9, _ => exact pr_12_9
  | 10, _ => exact pr_12_10
  | 11, _ => exact pr_12_11
  | 12, _ => exact pr_12_12
  | 13, _ => exact pr_12_13
  | 14, _ => exact pr_12_14
  | 15, _ => exact pr_12_15
  | 16, _ => exact pr_12_16
  | 17, _ => exact pr_12_17
  | n + 18, h => exact absurd h (by omega)
theorem pr_13 (b : Nat) (hb : b < 18) : parseV ⟨(preL 13 b).toArray⟩ = (⟨[], [], [fnP (if stP 13 < stP b then hiT 13 b else loT 13 b)]⟩, 0, 0) := by
  match b, hb with
  | 0, _ => exact pr_13_0
  | 1, _ => exact pr_13_1
  | 2, _ => exact pr_13_2
  | 3, _ => exact pr_13_3
  | 4, _ => exact pr_13_4
  | 5, _ => exact pr_13_5
  | 6, _ => exact pr_13_6
  | 7, _ => exact pr_13_7
  | 8, _ => exact pr_13_8
  | 9, _ => exact pr_13_9
  | 10, _ => exact pr_13_10
  | 11, _ => exact pr_13_11
  | 12, _ => exact pr_13_12
  | 13, _ => exact pr_13_13
  | 14, _ => exact pr_13_14
  | 15, _ => exact pr_13_15
  | 16, _ => exact pr_13_16
  | 17, _ => exact pr_13_17
  | n + 18, h => exact absurd h (by omega)
theorem pr_14 (b : Nat) (hb : b < 18) : parseV ⟨(preL 14 b).toArray⟩ = (⟨[], [], [fnP (if stP 14 < stP b then hiT 14 b else loT 14 b)]⟩, 0, 0) := by
  match b, hb with
  | 0, _ => exact pr_14_0
  | 1, _ => exact pr_14_1
  | 2, _ => exact pr_14_2
  | 3, _ => exact pr_14_3
  | 4, _ => exact pr_14_4
  | 5, _ => exact pr_14_5
  | 6, _ => exact pr_14_6
  | 7, _ => exact pr_14_7
  | 8, _ => exact pr_14_8
  | 9, _ => exact pr_14_9
  | 10, _ => exact pr_14_10
  | 11, _ => exact pr_14_11
  | 12, _ => exact pr_14_12
  | 13, _ => exact pr_14_13
  | 14, _ => exact pr_14_14
  | 15, _ => exact pr_14_15
  | 16, _ => exact pr_14_16
  | 17, _ => exact pr_14_17
  | n + 18, h => exact absurd h (by omega)
theorem pr_15 (b : Nat) (hb : b < 18) : parseV ⟨(preL 15 b).toArray⟩ = (⟨[], [], [fnP (if stP 15 < stP b then hiT 15 b else loT 15 b)]⟩, 0, 0) := by
  match b, hb with
  | 0, _ => exact pr_15_0
  | 1, _ => exact pr_15_1
  | 2, _ => exact pr_15_2
  | 3, _ => exact pr_15_3
  | 4, _ => exact pr_15_4
  | 5, _ => exact pr_15_5
  | 6, _ => exact pr_15_6
  | 7, _ => exact pr_15_7
  | 8, _ => exact pr_15_8
  | 9, _ => exact pr_15_9
  | 10, _ => exact pr_15_10
  | 11, _ => exact pr_15_11
  | 12, _ => exact pr_15_12
  | 13, _ => exact pr_15_13
  | 14, _ => exact pr_15_14
  | 15, _ => exact pr_15_15
  | 16, _ => exact pr_15_16
  | 17, _ => exact pr_15_17
  | n + 18, h => exact absurd h (by omega)
theorem pr_16 (b : Nat) (hb : b < 18) : parseV ⟨(preL 16 b).toArray⟩ = (⟨[], [], [fnP (if stP 16 < stP b then hiT 16 b else loT 16 b)]⟩, 0, 0) := by
  match b, hb with
  | 0, _ => exact pr_16_0
  | 1, _ => exact pr_16_1
  | 2, _ => exact pr_16_2
  | 3, _ => exact pr_16_3
  | 4, _ => exact pr_16_4
  | 5, _ => exact pr_16_5
  | 6, _ => exact pr_16_6
  | 7, _ => exact pr_16_7
  | 8, _ => exact pr_16_8
  | 9, _ => exact pr_16_9
  | 10, _ => exact pr_16_10
  | 11, _ => exact pr_16_11
  | 12, _ => exact pr_16_12
  | 13, _ => exact pr_16_13
  | 14, _ => exact pr_16_14
  | 15, _ => exact pr_16_15
  | 16, _ => exact pr_16_16
  | 17, _ => exact pr_16_17
  | n + 18, h => exact absurd h (by omega)
theorem pr_17 (b : Nat) (hb : b < 18) : parseV ⟨(preL 17 b).toArray⟩ = (⟨[], [], [fnP (if stP 17 < stP b then hiT 17 b else loT 17 b)]⟩, 0, 0) := by
  match b, hb with
  | 0, _ => exact pr_17_0
  | 1, _ => exact pr_17_1
  | 2, _ => exact pr_17_2
  | 3, _ => exact pr_17_3
  | 4, _ => exact pr_17_4
  | 5, _ => exact pr_17_5
  | 6, _ => exact pr_17_6
  | 7, _ => exact pr_17_7
  | 8, _ => exact pr_17_8
  | 9, _ => exact pr_17_9
  | 10, _ => exact pr_17_10
  | 11, _ => exact pr_17_11
  | 12, _ => exact pr_17_12
  | 13, _ => exact pr_17_13
  | 14, _ => exact pr_17_14
  | 15, _ => exact pr_17_15
  | 16, _ => exact pr_17_16
  | 17, _ => exact pr_17_17
  | n + 18, h => exact absurd h (by omega)
theorem prec (a b : Nat) (ha : a < 18) (hb : b < 18) : parseV ⟨(preL a b).toArray⟩ = (⟨[], [], [fnP (if stP a < stP b then hiT a b else loT a b)]⟩, 0, 0) := by
  match a, ha with
  | 0, _ => exact pr_0 b hb
  | 1, _ => exact pr_1 b hb
  | 2, _ => exact pr_2 b hb
  | 3, _ => exact pr_3 b hb
  | 4, _ => exact pr_4 b hb
  | 5, _ => exact pr_5 b hb
  | 6, _ => exact pr_6 b hb
  | 7, _ => exact pr_7 b hb
  | 8, _ => exact pr_8 b hb
  | 9, _ => exact pr_9 b hb
  | 10, _ => exact pr_10 b hb
  | 11, _ => exact pr_11 b hb
  | 12, _ => exact pr_12 b hb
  | 13, _ => exact pr_13 b hb
  | 14, _ => exact pr_14 b hb
  | 15, _ => exact pr_15 b hb
  | 16, _ => exact pr_16 b hb
  | 17, _ => exact pr_17 b hb
  | n + 18, h => exact absurd h (by omega)
theorem opL_len (a : Nat) (h : a < 18) : 1 ≤ (opL a).length ∧ (opL a).length ≤ 2 := by
  have : ∀ a, a < 18 → 1 ≤ (opL a).length ∧ (opL a).length ≤ 2 := by decide
  exact this a h
end Pa
end Go.Proofs.Ytgedikdcnhkmdaa
