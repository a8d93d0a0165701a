/- Lists of so many params, arguments, stars, elements: what the plain reader answers. Conditions: each theorem's. -/
import Derived.Test.YtgedikdcnhkmdaaParPu
namespace Go.Proofs.Ytgedikdcnhkmdaa
open Go.RowKit Go.Maps
set_option maxRecDepth 100000
open Lx Pa
namespace Pa
def parL : Nat → List UInt8 | 0 => [] | j + 1 => parL j ++ (if j = 0 then [] else [44]) ++ [105, 110, 116, 32, 97]
def argL : Nat → List UInt8 | 0 => [] | j + 1 => argL j ++ (if j = 0 then [] else [44]) ++ [49]
def chD (n : Nat) : UInt8 := UInt8.ofNat (48 + n)
def digN (m : Nat) : List UInt8 := if m < 10 then [chD m] else if m < 100 then [chD (m / 10)] ++ [chD (m % 10)] else ([chD (m / 10 / 10)] ++ [chD (m / 10 % 10)]) ++ [chD (m % 10)]
def tpL (k : Nat) : List UInt8 := [105, 110, 116, 32, 102, 40] ++ parL k ++ [41, 32, 123, 125]
def taL (k : Nat) : List UInt8 := [105, 110, 116, 32, 102, 40, 41, 123, 103, 40] ++ argL k ++ [41, 59, 125]
def tsL (k : Nat) : List UInt8 := [105, 110, 116] ++ Lib.repeatL [42] k ++ [32, 112, 59]
def tmL (m : Nat) : List UInt8 := [105, 110, 116, 32, 112, 91] ++ digN m ++ [93, 59]
def okP (k : Nat) : Bool := decide ((parseV ⟨(tpL k).toArray⟩).2 = if 6 < k then (42, 3) else (0, 0))
def okA (k : Nat) : Bool := decide ((parseV ⟨(taL k).toArray⟩).2 = if 6 < k then (22, 3) else (0, 0))
def okS (k : Nat) : Bool := decide ((parseV ⟨(tsL k).toArray⟩).2 = if 4 < k then (7, 1) else (0, 0))
def okM (m : Nat) : Bool := decide ((parseV ⟨(tmL m).toArray⟩).2 = if 1 ≤ m ∧ m ≤ 500 then (0, 0) else (6, 1))
set_option maxHeartbeats 4000000
theorem allP : ((List.range 10).all okP) = true := by kernel_rfl
theorem allA : ((List.range 10).all okA) = true := by kernel_rfl
theorem allS' : ((List.range 10).all okS) = true := by kernel_rfl
theorem allM_0 : ((List.range 20).all fun i => okM (0 + i)) = true := by kernel_rfl
theorem allM_1 : ((List.range 20).all fun i => okM (20 + i)) = true := by kernel_rfl
theorem allM_2 : ((List.range 20).all fun i => okM (40 + i)) = true := by kernel_rfl
theorem allM_3 : ((List.range 20).all fun i => okM (60 + i)) = true := by kernel_rfl
theorem allM_4 : ((List.range 20).all fun i => okM (80 + i)) = true := by kernel_rfl
theorem allM_5 : ((List.range 20).all fun i => okM (100 + i)) = true := by kernel_rfl
theorem allM_6 : ((List.range 20).all fun i => okM (120 + i)) = true := by kernel_rfl
theorem allM_7 : ((List.range 20).all fun i => okM (140 + i)) = true := by kernel_rfl
theorem allM_8 : ((List.range 20).all fun i => okM (160 + i)) = true := by kernel_rfl
theorem allM_9 : ((List.range 20).all fun i => okM (180 + i)) = true := by kernel_rfl
theorem allM_10 : ((List.range 20).all fun i => okM (200 + i)) = true := by kernel_rfl
theorem allM_11 : ((List.range 20).all fun i => okM (220 + i)) = true := by kernel_rfl
theorem allM_12 : ((List.range 20).all fun i => okM (240 + i)) = true := by kernel_rfl
theorem allM_13 : ((List.range 20).all fun i => okM (260 + i)) = true := by kernel_rfl
theorem allM_14 : ((List.range 20).all fun i => okM (280 + i)) = true := by kernel_rfl
theorem allM_15 : ((List.range 20).all fun i => okM (300 + i)) = true := by kernel_rfl
theorem allM_16 : ((List.range 20).all fun i => okM (320 + i)) = true := by kernel_rfl
theorem allM_17 : ((List.range 20).all fun i => okM (340 + i)) = true := by kernel_rfl
theorem allM_18 : ((List.range 20).all fun i => okM (360 + i)) = true := by kernel_rfl
theorem allM_19 : ((List.range 20).all fun i => okM (380 + i)) = true := by kernel_rfl
theorem allM_20 : ((List.range 20).all fun i => okM (400 + i)) = true := by kernel_rfl
theorem allM_21 : ((List.range 20).all fun i => okM (420 + i)) = true := by kernel_rfl
theorem allM_22 : ((List.range 20).all fun i => okM (440 + i)) = true := by kernel_rfl
theorem allM_23 : ((List.range 20).all fun i => okM (460 + i)) = true := by kernel_rfl
theorem allM_24 : ((List.range 20).all fun i => okM (480 + i)) = true := by kernel_rfl
theorem allM_25 : ((List.range 20).all fun i => okM (500 + i)) = true := by kernel_rfl
theorem allM_26 : ((List.range 20).all fun i => okM (520 + i)) = true := by kernel_rfl
theorem allM_27 : ((List.range 20).all fun i => okM (540 + i)) = true := by kernel_rfl
theorem allM_28 : ((List.range 20).all fun i => okM (560 + i)) = true := by kernel_rfl
theorem allM_29 : ((List.range 20).all fun i => okM (580 + i)) = true := by kernel_rfl
theorem of_range {f : Nat → Bool} {n k : Nat} (h : ((List.range n).all f) = true) (hk : k < n) : f k = true := (List.all_eq_true.1 h) k (by simpa using hk)
theorem allM (m : Nat) (hm : m < 600) : okM m = true := by
  have key : ∀ c, ((List.range 20).all fun i => okM (20 * c + i)) = true → m / 20 = c → okM m = true := fun c h hc => by
    have := of_range (k := m - 20 * c) h (by omega)
    rwa [show 20 * c + (m - 20 * c) = m by omega] at this
  have hc : m / 20 < 30 := by omega
  generalize hcc : m / 20 = c at hc
  match c, hc, hcc with
  | 0, _, h => exact key 0 allM_0 h
  | 1, _, h => exact key 1 allM_1 h
  | 2, _, h => exact key 2 allM_2 h
  | 3, _, h => exact key 3 allM_3 h
  | 4, _, h => exact key 4 allM_4 h
  | 5, _, h => exact key 5 allM_5 h
  | 6, _, h => exact key 6 allM_6 h
  | 7, _, h => exact key 7 allM_7 h
  | 8, _, h => exact key 8 allM_8 h
  | 9, _, h => exact key 9 allM_9 h
  | 10, _, h => exact key 10 allM_10 h
  | 11, _, h => exact key 11 allM_11 h
  | 12, _, h => exact key 12 allM_12 h
  | 13, _, h => exact key 13 allM_13 h
  | 14, _, h => exact key 14 allM_14 h
  | 15, _, h => exact key 15 allM_15 h
  | 16, _, h => exact key 16 allM_16 h
  | 17, _, h => exact key 17 allM_17 h
  | 18, _, h => exact key 18 allM_18 h
  | 19, _, h => exact key 19 allM_19 h
  | 20, _, h => exact key 20 allM_20 h
  | 21, _, h => exact key 21 allM_21 h
  | 22, _, h => exact key 22 allM_22 h
  | 23, _, h => exact key 23 allM_23 h
  | 24, _, h => exact key 24 allM_24 h
  | 25, _, h => exact key 25 allM_25 h
  | 26, _, h => exact key 26 allM_26 h
  | 27, _, h => exact key 27 allM_27 h
  | 28, _, h => exact key 28 allM_28 h
  | 29, _, h => exact key 29 allM_29 h
  | n + 30, h, _ => exact absurd h (by omega)
end Pa
end Go.Proofs.Ytgedikdcnhkmdaa
