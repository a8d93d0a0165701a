/- Numbers in decimal. Conditions: each theorem's. -/
import Derived.Test.YtgedikdcnhkmdaaParMv
import Derived.Laws.BytesArg
import Derived.Lib.Bytes
namespace Go.Proofs.Ytgedikdcnhkmdaa
open Go.RowKit Go.Maps
set_option linter.unusedVariables false
set_option linter.unusedSimpArgs false
set_option maxRecDepth 100000
open Lx Pa
def DigC (n : Nat) (L : List UInt8) : Prop := ∀ w : World, Calls Try.prog 11 #[.int .u64 n] w fun e w' => ∃ D : ByteArray, e = .returned (.string D) ∧ D.data.toList = L ∧ Below w.heap.size w w'
theorem strOne (x : Int) : (strOfNums [x]).data.toList = [UInt8.ofNat x.toNat] := by
  have := strOfNums_data [x]
  rw [this]
  rfl
set_option maxHeartbeats 2000000 in
theorem dig_one (n : Nat) (hn : n < 10) : DigC n [UInt8.ofNat (48 + n)] := by
  intro w
  have h1 : decide ((n : Int) < 10) = true := decide_eq_true (by omega)
  have hcv := run_convert_bytes_arg (P := Try.prog) (w.alloc (.cells #[.int .u8 (48 + (n : Int))] 5)) 76 5 Try.underlying76 Try.underlying5 w.heap.size 0 1 1 [48 + (n : Int)] rfl (fun i hi => by
    obtain rfl : i = 0 := by omega
    rw [World.cell?_alloc_new]
    rfl) 9 Try.underlying9
  have n0 : (0 : Int) ≤ n := by omega
  have n1 : (n : Int) < 10 := by omega
  go_enter Try.func11, Try.ntmps11
  go_wp2
  go_ret
  refine ⟨_, rfl, ?_, (belowA w _)⟩
  rw [strOne]
  congr 2
set_option maxHeartbeats 2000000 in
theorem dig_more (n : Nat) (hn : 10 ≤ n) (hn2 : n < 1000) {L1 L2 : List UInt8} (h1 : DigC (n / 10) L1) (h2 : DigC (n % 10) L2) (l1 : L1.length ≤ 10) (l2 : L2.length ≤ 10) : DigC n (L1 ++ L2) := by
  intro w
  have hd : decide ((n : Int) < 10) = false := decide_eq_false (by omega)
  have hq : (n : Int).tdiv 10 = ((n / 10 : Nat) : Int) := by rw [Int.tdiv_eq_ediv_of_nonneg (by omega)]; omega
  have hr : (n : Int).tmod 10 = ((n % 10 : Nat) : Int) := by rw [Int.tmod_eq_emod_of_nonneg (by omega)]; omega
  have hc1 := h1 w
  go_enter Try.func11, Try.ntmps11
  go_wp2_with fail
  try rw [hq]
  refine hc1.mono ?_
  rintro e w1 ⟨D1, rfl, d1, b1⟩
  have hc2 := h2 w1
  clear hc1
  have s1 : D1.size ≤ 10 := by rw [← sz, d1]; exact l1
  go_wp2_with fail
  try rw [hr]
  refine hc2.mono ?_
  rintro e w2 ⟨D2, rfl, d2, b2⟩
  have s2 : D2.size ≤ 10 := by rw [← sz, d2]; exact l2
  clear hc2
  go_wp2
  go_ret
  exact ⟨_, rfl, by simp [d1, d2], b1.trans (b2.mono b1.size)⟩
end Go.Proofs.Ytgedikdcnhkmdaa
