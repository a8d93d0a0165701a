/- What the plain reader answers of the texts of fixed facts, and of nested ones. Conditions: each theorem's. -/
import Derived.Test.YtgedikdcnhkmdaaParV
import Derived.Lib.Repeat
namespace Go.Proofs.Ytgedikdcnhkmdaa
open Go.RowKit Go.Maps
set_option linter.unusedVariables false
set_option linter.unusedSimpArgs false
set_option maxRecDepth 100000
open Lx Pa
namespace Pa
def txA : ByteArray := ⟨#[108, 111, 110, 103, 32, 102, 40, 108, 111, 110, 103, 32, 42, 112, 41, 32, 123, 32, 114, 101, 116, 117, 114, 110, 32, 112, 91, 49, 93, 32, 43, 32, 50, 59, 32, 125]⟩
def exA : PEx := .mk 4 ⟨#[43]⟩ eB 0 [.mk 7 eB eB 0 [.mk 2 eB ⟨#[112]⟩ 0 [] ty0 25, .mk 1 eB eB 1 [] ty0 27] ty0 25, .mk 1 eB eB 2 [] ty0 32] ty0 25
def fnA : PFn := ⟨⟨#[102]⟩, ⟨3, 0, ⟨#[]⟩⟩, [⟨⟨#[112]⟩, ⟨3, 1, ⟨#[]⟩⟩, 0, 7⟩], .mk 1 [] [.mk 4 [exA] [] va0 18] va0 16, 0⟩
theorem pv_A : parseV txA = (⟨[], [], [fnA]⟩, 0, 0) := by kernel_rfl
def txB : ByteArray := ⟨#[105, 110, 116, 32, 97, 91, 48, 93, 59]⟩
theorem pv_B : (parseV txB).2 = (6, 1) := by decide +kernel
def deepL (h n : Nat) : List UInt8 :=
  [105, 110, 116, 32, 102, 40, 41, 32, 123] ++ ((if h = 2 then Lib.repeatL [123] n ++ [49, 59] ++ Lib.repeatL [125] n else Lib.repeatL (if h = 1 then [40] else [126]) n ++ [49] ++ Lib.repeatL (if h = 1 then [41] else []) n ++ [59]) ++ [125])
def mostD (h : Nat) : Nat := if h = 1 then 18 else 37
def dOk (h n : Nat) : Bool :=
  let r := (parseV ⟨(deepL h n).toArray⟩).2
  if n ≤ mostD h then decide (r.2 = 0) else decide (r.2 = 12) && decide ((9 + mostD h : Int) ≤ r.1) && decide (r.1 ≤ 9 + (n : Int))
end Pa
end Go.Proofs.Ytgedikdcnhkmdaa
