/- num.Do, of each operation's number and of any two numbers, answers opV and OK; of any other number 0 and ErrRange; nothing in memory changes. Conditions: the numbers are of 64 bits. -/
import Derived.Test.YtoehfncgkkfdeaaDoorRows
import Derived.WalkKit
import Derived.ProofKit
import Derived.OpenShut
import Derived.WalkSpells
import Derived.Lib.Hide
import Derived.Test.YtoehfncgkkfdeaaDoorNumPlain
namespace Go.Proofs.YtoehfncgkkfdeaaDoor
open Go.RowKit
set_option linter.unusedVariables false
open Pl

theorem ret2 {x y : Int} (h : x = y) : Ending.returned (.tuple #[.int .u64 x, .int .i64 0]) = .returned (.tuple #[.int .u64 y, .int .i64 0]) := by rw [h]
theorem ret22 {x y z v : Int} (h : x = y) (h2 : z = v) : Ending.returned (.tuple #[.int .u64 x, .int .u64 z]) = .returned (.tuple #[.int .u64 y, .int .u64 v]) := by rw [h, h2]
theorem ret1 {x y : Int} (h : x = y) : Ending.returned (.int .u64 x) = .returned (.int .u64 y) := by rw [h]

/-- What is said of num.Do at an operation's number. -/
def DoesAt (op : Int) : Prop := ∀ (a b : Int) (w : World), 0 ≤ a → a < 18446744073709551616 → 0 ≤ b → b < 18446744073709551616 →
    Calls Tryd.prog 55 #[.int .i64 op, .int .u64 a, .int .u64 b] w fun e w' => e = .returned (.tuple #[.int .u64 (opV op a b), .int .i64 0]) ∧ w = w'

set_option maxHeartbeats 400000 in
theorem doOp1 (a b : Int) (w : World) (ha : 0 ≤ a) (ha' : a < 18446744073709551616) (hb : 0 ≤ b) (hb' : b < 18446744073709551616) :
    Calls Tryd.prog 55 #[.int .i64 1, .int .u64 a, .int .u64 b] w fun e w' => e = .returned (.tuple #[.int .u64 (opV 1 a b), .int .i64 0]) ∧ w = w' := by
  have Ha := Lib.hid ha'; clear ha'
  have Hb := Lib.hid hb'; clear hb'
  generalize hV : opV 1 a b = V
  have HV := Lib.hid hV; clear hV
  go_enter Tryd.func55, Tryd.ntmps55
  go_wp2
  go_ret2
  refine ⟨ret2 ?_, rfl⟩
  rw [← HV.out]
  clear HV
  have ha' := Ha.out; have hb' := Hb.out
  rw [IntKind.wrap_u64]; rfl

set_option maxHeartbeats 400000 in
theorem doOp2 (a b : Int) (w : World) (ha : 0 ≤ a) (ha' : a < 18446744073709551616) (hb : 0 ≤ b) (hb' : b < 18446744073709551616) :
    Calls Tryd.prog 55 #[.int .i64 2, .int .u64 a, .int .u64 b] w fun e w' => e = .returned (.tuple #[.int .u64 (opV 2 a b), .int .i64 0]) ∧ w = w' := by
  have Ha := Lib.hid ha'; clear ha'
  have Hb := Lib.hid hb'; clear hb'
  generalize hV : opV 2 a b = V
  have HV := Lib.hid hV; clear hV
  go_enter Tryd.func55, Tryd.ntmps55
  go_wp2
  go_ret2
  refine ⟨ret2 ?_, rfl⟩
  rw [← HV.out]
  clear HV
  have ha' := Ha.out; have hb' := Hb.out
  rw [IntKind.wrap_u64]; rfl

set_option maxHeartbeats 400000 in
theorem doOp3 (a b : Int) (w : World) (ha : 0 ≤ a) (ha' : a < 18446744073709551616) (hb : 0 ≤ b) (hb' : b < 18446744073709551616) :
    Calls Tryd.prog 55 #[.int .i64 3, .int .u64 a, .int .u64 b] w fun e w' => e = .returned (.tuple #[.int .u64 (opV 3 a b), .int .i64 0]) ∧ w = w' := by
  have h63 := and_63 hb hb'
  have Ha := Lib.hid ha'; clear ha'
  have Hb := Lib.hid hb'; clear hb'
  generalize hV : opV 3 a b = V
  have HV := Lib.hid hV; clear hV
  go_enter Tryd.func55, Tryd.ntmps55
  go_wp2
  go_ret2
  refine ⟨ret2 ?_, rfl⟩
  rw [← HV.out]
  clear HV
  have ha' := Ha.out; have hb' := Hb.out
  rw [IntKind.wrap_u64]; rfl

set_option maxHeartbeats 400000 in
theorem doOp6 (a b : Int) (w : World) (ha : 0 ≤ a) (ha' : a < 18446744073709551616) (hb : 0 ≤ b) (hb' : b < 18446744073709551616) :
    Calls Tryd.prog 55 #[.int .i64 6, .int .u64 a, .int .u64 b] w fun e w' => e = .returned (.tuple #[.int .u64 (opV 6 a b), .int .i64 0]) ∧ w = w' := by
  have Ha := Lib.hid ha'; clear ha'
  have Hb := Lib.hid hb'; clear hb'
  generalize hV : opV 6 a b = V
  have HV := Lib.hid hV; clear hV
  go_enter Tryd.func55, Tryd.ntmps55
  go_wp2
  go_ret2
  refine ⟨ret2 ?_, rfl⟩
  rw [← HV.out]
  clear HV
  have ha' := Ha.out; have hb' := Hb.out
  rw [bits_xor ha ha' hb hb']; rfl

set_option maxHeartbeats 400000 in
theorem doOp7 (a b : Int) (w : World) (ha : 0 ≤ a) (ha' : a < 18446744073709551616) (hb : 0 ≤ b) (hb' : b < 18446744073709551616) :
    Calls Tryd.prog 55 #[.int .i64 7, .int .u64 a, .int .u64 b] w fun e w' => e = .returned (.tuple #[.int .u64 (opV 7 a b), .int .i64 0]) ∧ w = w' := by
  have h63 := and_63 hb hb'
  have Ha := Lib.hid ha'; clear ha'
  have Hb := Lib.hid hb'; clear hb'
  generalize hV : opV 7 a b = V
  have HV := Lib.hid hV; clear hV
  go_enter Tryd.func55, Tryd.ntmps55
  go_wp2
  go_ret2
  refine ⟨ret2 ?_, rfl⟩
  rw [← HV.out]
  clear HV
  have ha' := Ha.out; have hb' := Hb.out
  rfl

set_option maxHeartbeats 400000 in
theorem doOp8 (a b : Int) (w : World) (ha : 0 ≤ a) (ha' : a < 18446744073709551616) (hb : 0 ≤ b) (hb' : b < 18446744073709551616) :
    Calls Tryd.prog 55 #[.int .i64 8, .int .u64 a, .int .u64 b] w fun e w' => e = .returned (.tuple #[.int .u64 (opV 8 a b), .int .i64 0]) ∧ w = w' := by
  have h63 := and_63 hb hb'
  have Ha := Lib.hid ha'; clear ha'
  have Hb := Lib.hid hb'; clear hb'
  generalize hV : opV 8 a b = V
  have HV := Lib.hid hV; clear hV
  go_enter Tryd.func55, Tryd.ntmps55
  go_wp2
  go_ret2
  refine ⟨ret2 ?_, rfl⟩
  rw [← HV.out]
  clear HV
  have ha' := Ha.out; have hb' := Hb.out
  rw [IntKind.wrap_u64]; rfl

set_option maxHeartbeats 400000 in
theorem doOp9 (a b : Int) (w : World) (ha : 0 ≤ a) (ha' : a < 18446744073709551616) (hb : 0 ≤ b) (hb' : b < 18446744073709551616) :
    Calls Tryd.prog 55 #[.int .i64 9, .int .u64 a, .int .u64 b] w fun e w' => e = .returned (.tuple #[.int .u64 (opV 9 a b), .int .i64 0]) ∧ w = w' := by
  have Ha := Lib.hid ha'; clear ha'
  have Hb := Lib.hid hb'; clear hb'
  generalize hV : opV 9 a b = V
  have HV := Lib.hid hV; clear hV
  go_enter Tryd.func55, Tryd.ntmps55
  go_wp2
  go_ret2
  refine ⟨ret2 ?_, rfl⟩
  rw [← HV.out]
  clear HV
  have ha' := Ha.out; have hb' := Hb.out
  rw [bits_or ha ha' hb hb']; rfl

set_option maxHeartbeats 400000 in
theorem doOp10 (a b : Int) (w : World) (ha : 0 ≤ a) (ha' : a < 18446744073709551616) (hb : 0 ≤ b) (hb' : b < 18446744073709551616) :
    Calls Tryd.prog 55 #[.int .i64 10, .int .u64 a, .int .u64 b] w fun e w' => e = .returned (.tuple #[.int .u64 (opV 10 a b), .int .i64 0]) ∧ w = w' := by
  have Ha := Lib.hid ha'; clear ha'
  have Hb := Lib.hid hb'; clear hb'
  generalize hV : opV 10 a b = V
  have HV := Lib.hid hV; clear hV
  go_enter Tryd.func55, Tryd.ntmps55
  go_wp2
  go_ret2
  refine ⟨ret2 ?_, rfl⟩
  rw [← HV.out]
  clear HV
  have ha' := Ha.out; have hb' := Hb.out
  rw [bits_and ha ha' hb hb']; rfl

set_option maxHeartbeats 400000 in
theorem doOp11 (a b : Int) (w : World) (ha : 0 ≤ a) (ha' : a < 18446744073709551616) (hb : 0 ≤ b) (hb' : b < 18446744073709551616) :
    Calls Tryd.prog 55 #[.int .i64 11, .int .u64 a, .int .u64 b] w fun e w' => e = .returned (.tuple #[.int .u64 (opV 11 a b), .int .i64 0]) ∧ w = w' := by
  have Ha := Lib.hid ha'; clear ha'
  have Hb := Lib.hid hb'; clear hb'
  generalize hV : opV 11 a b = V
  have HV := Lib.hid hV; clear hV
  go_enter Tryd.func55, Tryd.ntmps55
  go_wp2
  go_ret2
  refine ⟨ret2 ?_, rfl⟩
  rw [← HV.out]
  clear HV
  have ha' := Ha.out; have hb' := Hb.out
  rw [IntKind.wrap_u64]; rfl

set_option maxHeartbeats 400000 in
theorem doOp4y (a b : Int) (w : World) (ha : 0 ≤ a) (ha' : a < 18446744073709551616) (hb : 0 ≤ b) (hb' : b < 18446744073709551616) (h : wrap64 a < wrap64 b) :
    Calls Tryd.prog 55 #[.int .i64 4, .int .u64 a, .int .u64 b] w fun e w' => e = .returned (.tuple #[.int .u64 (opV 4 a b), .int .i64 0]) ∧ w = w' := by
  have h1 : decide (wrap64 a < wrap64 b) = true := by simpa using h
  have H := Lib.hid h; clear h
  have Ha := Lib.hid ha'; clear ha'
  have Hb := Lib.hid hb'; clear hb'
  generalize hV : opV 4 a b = V
  have HV := Lib.hid hV; clear hV
  go_enter Tryd.func55, Tryd.ntmps55
  go_wp2
  go_ret2
  refine ⟨ret2 ?_, rfl⟩
  rw [← HV.out]
  clear HV
  have ha' := Ha.out; have hb' := Hb.out
  have h := H.out; show _ = if wrap64 a < wrap64 b then (1 : Int) else 0; first | rw [if_pos h] | rw [if_neg (Int.not_lt.mpr h)]

set_option maxHeartbeats 400000 in
theorem doOp4n (a b : Int) (w : World) (ha : 0 ≤ a) (ha' : a < 18446744073709551616) (hb : 0 ≤ b) (hb' : b < 18446744073709551616) (h : ¬ wrap64 a < wrap64 b) :
    Calls Tryd.prog 55 #[.int .i64 4, .int .u64 a, .int .u64 b] w fun e w' => e = .returned (.tuple #[.int .u64 (opV 4 a b), .int .i64 0]) ∧ w = w' := by
  have h1 : decide (wrap64 a < wrap64 b) = false := by simpa using h
  have H := Lib.hid h; clear h
  have Ha := Lib.hid ha'; clear ha'
  have Hb := Lib.hid hb'; clear hb'
  generalize hV : opV 4 a b = V
  have HV := Lib.hid hV; clear hV
  go_enter Tryd.func55, Tryd.ntmps55
  go_wp2
  go_ret2
  refine ⟨ret2 ?_, rfl⟩
  rw [← HV.out]
  clear HV
  have ha' := Ha.out; have hb' := Hb.out
  have h := H.out; show _ = if wrap64 a < wrap64 b then (1 : Int) else 0; first | rw [if_pos h] | rw [if_neg (Int.not_lt.mpr h)]

theorem doOp4 : DoesAt 4 := fun a b w ha ha' hb hb' => if h : wrap64 a < wrap64 b then doOp4y a b w ha ha' hb hb' h else doOp4n a b w ha ha' hb hb' h

set_option maxHeartbeats 400000 in
theorem doOp5y (a b : Int) (w : World) (ha : 0 ≤ a) (ha' : a < 18446744073709551616) (hb : 0 ≤ b) (hb' : b < 18446744073709551616) (h : a < b) :
    Calls Tryd.prog 55 #[.int .i64 5, .int .u64 a, .int .u64 b] w fun e w' => e = .returned (.tuple #[.int .u64 (opV 5 a b), .int .i64 0]) ∧ w = w' := by
  have h1 : decide (a < b) = true := by simpa using h
  have H := Lib.hid h; clear h
  have Ha := Lib.hid ha'; clear ha'
  have Hb := Lib.hid hb'; clear hb'
  generalize hV : opV 5 a b = V
  have HV := Lib.hid hV; clear hV
  go_enter Tryd.func55, Tryd.ntmps55
  go_wp2
  go_ret2
  refine ⟨ret2 ?_, rfl⟩
  rw [← HV.out]
  clear HV
  have ha' := Ha.out; have hb' := Hb.out
  have h := H.out; show _ = if a < b then (1 : Int) else 0; first | rw [if_pos h] | rw [if_neg (Int.not_lt.mpr h)]

set_option maxHeartbeats 400000 in
theorem doOp5n (a b : Int) (w : World) (ha : 0 ≤ a) (ha' : a < 18446744073709551616) (hb : 0 ≤ b) (hb' : b < 18446744073709551616) (h : ¬ a < b) :
    Calls Tryd.prog 55 #[.int .i64 5, .int .u64 a, .int .u64 b] w fun e w' => e = .returned (.tuple #[.int .u64 (opV 5 a b), .int .i64 0]) ∧ w = w' := by
  have h1 : decide (a < b) = false := by simpa using h
  have H := Lib.hid h; clear h
  have Ha := Lib.hid ha'; clear ha'
  have Hb := Lib.hid hb'; clear hb'
  generalize hV : opV 5 a b = V
  have HV := Lib.hid hV; clear hV
  go_enter Tryd.func55, Tryd.ntmps55
  go_wp2
  go_ret2
  refine ⟨ret2 ?_, rfl⟩
  rw [← HV.out]
  clear HV
  have ha' := Ha.out; have hb' := Hb.out
  have h := H.out; show _ = if a < b then (1 : Int) else 0; first | rw [if_pos h] | rw [if_neg (Int.not_lt.mpr h)]

theorem doOp5 : DoesAt 5 := fun a b w ha ha' hb hb' => if h : a < b then doOp5y a b w ha ha' hb hb' h else doOp5n a b w ha ha' hb hb' h

set_option maxHeartbeats 1000000 in
theorem mul64_any (a b : Int) (w : World) (ha : 0 ≤ a) (ha' : a < 18446744073709551616) (hb : 0 ≤ b) (hb' : b < 18446744073709551616) :
    Calls Tryd.prog 94 #[.int .u64 a, .int .u64 b] w fun e w' => e = .returned (.tuple #[.int .u64 (a * b / 18446744073709551616), .int .u64 (a * b % 18446744073709551616)]) ∧ w = w' := by
  have Ha := Lib.hid ha'; clear ha'
  have Hb := Lib.hid hb'; clear hb'
  generalize hV : a * b / 18446744073709551616 = V
  generalize hU : a * b % 18446744073709551616 = U
  have HV := Lib.hid hV; clear hV
  have HU := Lib.hid hU; clear hU
  go_enter Tryd.func94, Tryd.ntmps94
  go_wp2
  go_ret2
  refine ⟨ret22 ?_ ?_, rfl⟩
  · rw [← HV.out]; clear HV HU
    have ha' := Ha.out; have hb' := Hb.out
    rw [← mul64_arith a b ha ha' hb hb']
    simp only [IntKind.wrap_u64]
    rw [and_low32 a ha ha', and_low32 b hb hb', and_low32 _ (by omega) (by omega)]
  · rw [← HU.out]; rw [IntKind.wrap_u64]

theorem upper_any (a b : Int) (w : World) (ha : 0 ≤ a) (ha' : a < 18446744073709551616) (hb : 0 ≤ b) (hb' : b < 18446744073709551616) :
    Calls Tryd.prog 83 #[.int .u64 a, .int .u64 b] w fun e w' => e = .returned (.int .u64 (a * b / 18446744073709551616)) ∧ w = w' := by
  have Ha := Lib.hid ha'; clear ha'
  have Hb := Lib.hid hb'; clear hb'
  generalize hV : a * b / 18446744073709551616 = V
  have HV := Lib.hid hV; clear hV
  go_enter Tryd.func83, Tryd.ntmps83
  go_wp2_with (go_at_call 94; refine (mul64_any _ _ _ ha Ha.out hb Hb.out).mono ?_; rintro e w' ⟨rfl, rfl⟩; rw [HV.out])
  go_ret
  exact ⟨ret1 rfl, rfl⟩

set_option maxHeartbeats 400000 in
theorem doOp13 (a b : Int) (w : World) (ha : 0 ≤ a) (ha' : a < 18446744073709551616) (hb : 0 ≤ b) (hb' : b < 18446744073709551616) :
    Calls Tryd.prog 55 #[.int .i64 13, .int .u64 a, .int .u64 b] w fun e w' => e = .returned (.tuple #[.int .u64 (opV 13 a b), .int .i64 0]) ∧ w = w' := by
  have Ha := Lib.hid ha'; clear ha'
  have Hb := Lib.hid hb'; clear hb'
  generalize hU : a * b / 18446744073709551616 = U
  have HU := Lib.hid hU; clear hU
  generalize hV : opV 13 a b = V
  have HV := Lib.hid hV; clear hV
  go_enter Tryd.func55, Tryd.ntmps55
  go_wp2_with (first | (go_at_call 83; refine (upper_any _ _ _ ha Ha.out hb Hb.out).mono ?_; rintro e w' ⟨rfl, rfl⟩; rw [HU.out]) | go_in)
  go_ret2
  refine ⟨ret2 ?_, rfl⟩
  rw [← HV.out, ← HU.out]; rfl

set_option maxHeartbeats 400000 in
theorem doOp12 (a b : Int) (w : World) (ha : 0 ≤ a) (ha' : a < 18446744073709551616) (hb : 0 ≤ b) (hb' : b < 18446744073709551616) :
    Calls Tryd.prog 55 #[.int .i64 12, .int .u64 a, .int .u64 b] w fun e w' => e = .returned (.tuple #[.int .u64 (opV 12 a b), .int .i64 0]) ∧ w = w' := by
  have Ha := Lib.hid ha'; clear ha'
  have Hb := Lib.hid hb'; clear hb'
  generalize hU : a * b / 18446744073709551616 = U
  have HU := Lib.hid hU; clear hU
  generalize hV : opV 12 a b = V
  have HV := Lib.hid hV; clear hV
  go_enter Tryd.func55, Tryd.ntmps55
  go_wp2_with (first | (go_at_call 83; refine (upper_any _ _ _ ha Ha.out hb Hb.out).mono ?_; rintro e w' ⟨rfl, rfl⟩; rw [HU.out]) | go_in)
  go_ret2
  refine ⟨ret2 ?_, rfl⟩
  rw [← HV.out]; clear HV
  have ha' := Ha.out; have hb' := Hb.out
  rw [copies ha ha' hb hb', copies hb hb' ha ha', ← HU.out, mulh_code ha ha' hb hb']; rfl

set_option maxHeartbeats 400000 in
theorem doOp14y (a b : Int) (w : World) (ha : 0 ≤ a) (ha' : a < 18446744073709551616) (hb : 0 ≤ b) (hb' : b < 18446744073709551616) (h : b = 0) :
    Calls Tryd.prog 55 #[.int .i64 14, .int .u64 a, .int .u64 b] w fun e w' => e = .returned (.tuple #[.int .u64 (opV 14 a b), .int .i64 0]) ∧ w = w' := by
  have h0 : wrap64 b = 0 := (wrap64_zero hb hb').2 h
  have h1 : (wrap64 b == 0) = true := by rw [h0]; rfl
  have H := Lib.hid h; clear h
  clear h0
  have Ha := Lib.hid ha'; clear ha'
  have Hb := Lib.hid hb'; clear hb'
  generalize hV : opV 14 a b = V
  have HV := Lib.hid hV; clear hV
  go_enter Tryd.func55, Tryd.ntmps55
  go_wp2
  go_ret2
  refine ⟨ret2 ?_, rfl⟩
  rw [← HV.out]
  clear HV
  have ha' := Ha.out; have hb' := Hb.out
  have h := H.out; exact ones64'.trans (if_pos h).symm

set_option maxHeartbeats 400000 in
theorem doOp14n (a b : Int) (w : World) (ha : 0 ≤ a) (ha' : a < 18446744073709551616) (hb : 0 ≤ b) (hb' : b < 18446744073709551616) (h : ¬ b = 0) :
    Calls Tryd.prog 55 #[.int .i64 14, .int .u64 a, .int .u64 b] w fun e w' => e = .returned (.tuple #[.int .u64 (opV 14 a b), .int .i64 0]) ∧ w = w' := by
  have h0 : ¬ wrap64 b = 0 := fun e => h ((wrap64_zero hb hb').1 e)
  have h1 : (wrap64 b == 0) = false := by simpa using h0
  have H := Lib.hid h; clear h
  have Ha := Lib.hid ha'; clear ha'
  have Hb := Lib.hid hb'; clear hb'
  generalize hV : opV 14 a b = V
  have HV := Lib.hid hV; clear hV
  go_enter Tryd.func55, Tryd.ntmps55
  go_wp2
  go_ret2
  refine ⟨ret2 ?_, rfl⟩
  rw [← HV.out]
  clear HV
  have ha' := Ha.out; have hb' := Hb.out
  have h := H.out; show _ = if b = 0 then _ else (wrap64 a).tdiv (wrap64 b) % 18446744073709551616; rw [if_neg h, u64_wrap64']

theorem doOp14 : DoesAt 14 := fun a b w ha ha' hb hb' => if h : b = 0 then doOp14y a b w ha ha' hb hb' h else doOp14n a b w ha ha' hb hb' h

set_option maxHeartbeats 400000 in
theorem doOp15y (a b : Int) (w : World) (ha : 0 ≤ a) (ha' : a < 18446744073709551616) (hb : 0 ≤ b) (hb' : b < 18446744073709551616) (h : b = 0) :
    Calls Tryd.prog 55 #[.int .i64 15, .int .u64 a, .int .u64 b] w fun e w' => e = .returned (.tuple #[.int .u64 (opV 15 a b), .int .i64 0]) ∧ w = w' := by
  have h0 : b = 0 := h
  have h1 : (b == 0) = true := by rw [h0]; rfl
  have H := Lib.hid h; clear h
  clear h0
  have Ha := Lib.hid ha'; clear ha'
  have Hb := Lib.hid hb'; clear hb'
  generalize hV : opV 15 a b = V
  have HV := Lib.hid hV; clear hV
  go_enter Tryd.func55, Tryd.ntmps55
  go_wp2
  go_ret2
  refine ⟨ret2 ?_, rfl⟩
  rw [← HV.out]
  clear HV
  have ha' := Ha.out; have hb' := Hb.out
  have h := H.out; exact ones64.trans (if_pos h).symm

set_option maxHeartbeats 400000 in
theorem doOp15n (a b : Int) (w : World) (ha : 0 ≤ a) (ha' : a < 18446744073709551616) (hb : 0 ≤ b) (hb' : b < 18446744073709551616) (h : ¬ b = 0) :
    Calls Tryd.prog 55 #[.int .i64 15, .int .u64 a, .int .u64 b] w fun e w' => e = .returned (.tuple #[.int .u64 (opV 15 a b), .int .i64 0]) ∧ w = w' := by
  have h0 : ¬ b = 0 := h
  have h1 : (b == 0) = false := by simpa using h0
  have H := Lib.hid h; clear h
  have Ha := Lib.hid ha'; clear ha'
  have Hb := Lib.hid hb'; clear hb'
  generalize hV : opV 15 a b = V
  have HV := Lib.hid hV; clear hV
  go_enter Tryd.func55, Tryd.ntmps55
  go_wp2
  go_ret2
  refine ⟨ret2 ?_, rfl⟩
  rw [← HV.out]
  clear HV
  have ha' := Ha.out; have hb' := Hb.out
  have h := H.out; show _ = if b = 0 then _ else a / b; rw [if_neg h, IntKind.wrap_u64, Int.tdiv_eq_ediv_of_nonneg ha]; exact Int.emod_eq_of_lt (Int.ediv_nonneg ha hb) (Int.lt_of_le_of_lt (Int.ediv_le_self _ ha) ha')

theorem doOp15 : DoesAt 15 := fun a b w ha ha' hb hb' => if h : b = 0 then doOp15y a b w ha ha' hb hb' h else doOp15n a b w ha ha' hb hb' h

set_option maxHeartbeats 400000 in
theorem doOp16y (a b : Int) (w : World) (ha : 0 ≤ a) (ha' : a < 18446744073709551616) (hb : 0 ≤ b) (hb' : b < 18446744073709551616) (h : b = 0) :
    Calls Tryd.prog 55 #[.int .i64 16, .int .u64 a, .int .u64 b] w fun e w' => e = .returned (.tuple #[.int .u64 (opV 16 a b), .int .i64 0]) ∧ w = w' := by
  have h0 : wrap64 b = 0 := (wrap64_zero hb hb').2 h
  have h1 : (wrap64 b == 0) = true := by rw [h0]; rfl
  have H := Lib.hid h; clear h
  clear h0
  have Ha := Lib.hid ha'; clear ha'
  have Hb := Lib.hid hb'; clear hb'
  generalize hV : opV 16 a b = V
  have HV := Lib.hid hV; clear hV
  go_enter Tryd.func55, Tryd.ntmps55
  go_wp2
  go_ret2
  refine ⟨ret2 ?_, rfl⟩
  rw [← HV.out]
  clear HV
  have ha' := Ha.out; have hb' := Hb.out
  have h := H.out; exact (u64_wrap64 ha ha').trans (if_pos h).symm

set_option maxHeartbeats 400000 in
theorem doOp16n (a b : Int) (w : World) (ha : 0 ≤ a) (ha' : a < 18446744073709551616) (hb : 0 ≤ b) (hb' : b < 18446744073709551616) (h : ¬ b = 0) :
    Calls Tryd.prog 55 #[.int .i64 16, .int .u64 a, .int .u64 b] w fun e w' => e = .returned (.tuple #[.int .u64 (opV 16 a b), .int .i64 0]) ∧ w = w' := by
  have h0 : ¬ wrap64 b = 0 := fun e => h ((wrap64_zero hb hb').1 e)
  have h1 : (wrap64 b == 0) = false := by simpa using h0
  have H := Lib.hid h; clear h
  have Ha := Lib.hid ha'; clear ha'
  have Hb := Lib.hid hb'; clear hb'
  generalize hV : opV 16 a b = V
  have HV := Lib.hid hV; clear hV
  go_enter Tryd.func55, Tryd.ntmps55
  go_wp2
  go_ret2
  refine ⟨ret2 ?_, rfl⟩
  rw [← HV.out]
  clear HV
  have ha' := Ha.out; have hb' := Hb.out
  have h := H.out; show _ = if b = 0 then _ else (wrap64 a).tmod (wrap64 b) % 18446744073709551616; rw [if_neg h, IntKind.wrap_u64]

theorem doOp16 : DoesAt 16 := fun a b w ha ha' hb hb' => if h : b = 0 then doOp16y a b w ha ha' hb hb' h else doOp16n a b w ha ha' hb hb' h

set_option maxHeartbeats 400000 in
theorem doOp17y (a b : Int) (w : World) (ha : 0 ≤ a) (ha' : a < 18446744073709551616) (hb : 0 ≤ b) (hb' : b < 18446744073709551616) (h : b = 0) :
    Calls Tryd.prog 55 #[.int .i64 17, .int .u64 a, .int .u64 b] w fun e w' => e = .returned (.tuple #[.int .u64 (opV 17 a b), .int .i64 0]) ∧ w = w' := by
  have h0 : b = 0 := h
  have h1 : (b == 0) = true := by rw [h0]; rfl
  have H := Lib.hid h; clear h
  clear h0
  have Ha := Lib.hid ha'; clear ha'
  have Hb := Lib.hid hb'; clear hb'
  generalize hV : opV 17 a b = V
  have HV := Lib.hid hV; clear hV
  go_enter Tryd.func55, Tryd.ntmps55
  go_wp2
  go_ret2
  refine ⟨ret2 ?_, rfl⟩
  rw [← HV.out]
  clear HV
  have ha' := Ha.out; have hb' := Hb.out
  have h := H.out; exact (if_pos h).symm

set_option maxHeartbeats 400000 in
theorem doOp17n (a b : Int) (w : World) (ha : 0 ≤ a) (ha' : a < 18446744073709551616) (hb : 0 ≤ b) (hb' : b < 18446744073709551616) (h : ¬ b = 0) :
    Calls Tryd.prog 55 #[.int .i64 17, .int .u64 a, .int .u64 b] w fun e w' => e = .returned (.tuple #[.int .u64 (opV 17 a b), .int .i64 0]) ∧ w = w' := by
  have h0 : ¬ b = 0 := h
  have h1 : (b == 0) = false := by simpa using h0
  have H := Lib.hid h; clear h
  have Ha := Lib.hid ha'; clear ha'
  have Hb := Lib.hid hb'; clear hb'
  generalize hV : opV 17 a b = V
  have HV := Lib.hid hV; clear hV
  go_enter Tryd.func55, Tryd.ntmps55
  go_wp2
  go_ret2
  refine ⟨ret2 ?_, rfl⟩
  rw [← HV.out]
  clear HV
  have ha' := Ha.out; have hb' := Hb.out
  have h := H.out; exact (if_neg h).symm

theorem doOp17 : DoesAt 17 := fun a b w ha ha' hb hb' => if h : b = 0 then doOp17y a b w ha ha' hb hb' h else doOp17n a b w ha ha' hb hb' h

set_option maxHeartbeats 400000 in
theorem doOp24y (a b : Int) (w : World) (ha : 0 ≤ a) (ha' : a < 18446744073709551616) (hb : 0 ≤ b) (hb' : b < 18446744073709551616) (h : b % 4294967296 = 0) :
    Calls Tryd.prog 55 #[.int .i64 24, .int .u64 a, .int .u64 b] w fun e w' => e = .returned (.tuple #[.int .u64 (opV 24 a b), .int .i64 0]) ∧ w = w' := by
  have h0 : wrap32 (b % 4294967296) = 0 := by rw [wrap32_mod]; exact wrap32_zero.2 h
  have h1 : (wrap32 (b % 4294967296) == 0) = true := by rw [h0]; rfl
  have H := Lib.hid h; clear h
  clear h0
  have Ha := Lib.hid ha'; clear ha'
  have Hb := Lib.hid hb'; clear hb'
  generalize hV : opV 24 a b = V
  have HV := Lib.hid hV; clear hV
  go_enter Tryd.func55, Tryd.ntmps55
  go_wp2
  go_ret2
  refine ⟨ret2 ?_, rfl⟩
  rw [← HV.out]
  clear HV
  have ha' := Ha.out; have hb' := Hb.out
  have h := H.out; exact ones32'.trans (if_pos h).symm

set_option maxHeartbeats 400000 in
theorem doOp24n (a b : Int) (w : World) (ha : 0 ≤ a) (ha' : a < 18446744073709551616) (hb : 0 ≤ b) (hb' : b < 18446744073709551616) (h : ¬ b % 4294967296 = 0) :
    Calls Tryd.prog 55 #[.int .i64 24, .int .u64 a, .int .u64 b] w fun e w' => e = .returned (.tuple #[.int .u64 (opV 24 a b), .int .i64 0]) ∧ w = w' := by
  have h0 : ¬ wrap32 (b % 4294967296) = 0 := fun e => h (by rw [wrap32_mod] at e; exact wrap32_zero.1 e)
  have h1 : (wrap32 (b % 4294967296) == 0) = false := by simpa using h0
  have H := Lib.hid h; clear h
  have Ha := Lib.hid ha'; clear ha'
  have Hb := Lib.hid hb'; clear hb'
  generalize hV : opV 24 a b = V
  have HV := Lib.hid hV; clear hV
  go_enter Tryd.func55, Tryd.ntmps55
  go_wp2
  go_ret2
  refine ⟨ret2 ?_, rfl⟩
  rw [← HV.out]
  clear HV
  have ha' := Ha.out; have hb' := Hb.out
  have h := H.out; show _ = if b % 4294967296 = 0 then _ else sx ((wrap32 a).tdiv (wrap32 b)); rw [if_neg h, widen, wrap32_mod a, wrap32_mod b]; exact sx_congr (by unfold wrap32; omega)

theorem doOp24 : DoesAt 24 := fun a b w ha ha' hb hb' => if h : b % 4294967296 = 0 then doOp24y a b w ha ha' hb hb' h else doOp24n a b w ha ha' hb hb' h

set_option maxHeartbeats 400000 in
theorem doOp25y (a b : Int) (w : World) (ha : 0 ≤ a) (ha' : a < 18446744073709551616) (hb : 0 ≤ b) (hb' : b < 18446744073709551616) (h : b % 4294967296 = 0) :
    Calls Tryd.prog 55 #[.int .i64 25, .int .u64 a, .int .u64 b] w fun e w' => e = .returned (.tuple #[.int .u64 (opV 25 a b), .int .i64 0]) ∧ w = w' := by
  have h0 : b % 4294967296 = 0 := h
  have h1 : (b % 4294967296 == 0) = true := by rw [h0]; rfl
  have H := Lib.hid h; clear h
  clear h0
  have Ha := Lib.hid ha'; clear ha'
  have Hb := Lib.hid hb'; clear hb'
  generalize hV : opV 25 a b = V
  have HV := Lib.hid hV; clear hV
  go_enter Tryd.func55, Tryd.ntmps55
  go_wp2
  go_ret2
  refine ⟨ret2 ?_, rfl⟩
  rw [← HV.out]
  clear HV
  have ha' := Ha.out; have hb' := Hb.out
  have h := H.out; exact ones32.trans (if_pos h).symm

set_option maxHeartbeats 400000 in
theorem doOp25n (a b : Int) (w : World) (ha : 0 ≤ a) (ha' : a < 18446744073709551616) (hb : 0 ≤ b) (hb' : b < 18446744073709551616) (h : ¬ b % 4294967296 = 0) :
    Calls Tryd.prog 55 #[.int .i64 25, .int .u64 a, .int .u64 b] w fun e w' => e = .returned (.tuple #[.int .u64 (opV 25 a b), .int .i64 0]) ∧ w = w' := by
  have h0 : ¬ b % 4294967296 = 0 := h
  have h1 : (b % 4294967296 == 0) = false := by simpa using h0
  have H := Lib.hid h; clear h
  have Ha := Lib.hid ha'; clear ha'
  have Hb := Lib.hid hb'; clear hb'
  generalize hV : opV 25 a b = V
  have HV := Lib.hid hV; clear hV
  go_enter Tryd.func55, Tryd.ntmps55
  go_wp2
  go_ret2
  refine ⟨ret2 ?_, rfl⟩
  rw [← HV.out]
  clear HV
  have ha' := Ha.out; have hb' := Hb.out
  have h := H.out; show _ = if b % 4294967296 = 0 then _ else sx (a % 4294967296 / (b % 4294967296)); rw [if_neg h, widen]

theorem doOp25 : DoesAt 25 := fun a b w ha ha' hb hb' => if h : b % 4294967296 = 0 then doOp25y a b w ha ha' hb hb' h else doOp25n a b w ha ha' hb hb' h

set_option maxHeartbeats 400000 in
theorem doOp26y (a b : Int) (w : World) (ha : 0 ≤ a) (ha' : a < 18446744073709551616) (hb : 0 ≤ b) (hb' : b < 18446744073709551616) (h : b % 4294967296 = 0) :
    Calls Tryd.prog 55 #[.int .i64 26, .int .u64 a, .int .u64 b] w fun e w' => e = .returned (.tuple #[.int .u64 (opV 26 a b), .int .i64 0]) ∧ w = w' := by
  have h0 : wrap32 (b % 4294967296) = 0 := by rw [wrap32_mod]; exact wrap32_zero.2 h
  have h1 : (wrap32 (b % 4294967296) == 0) = true := by rw [h0]; rfl
  have H := Lib.hid h; clear h
  clear h0
  have Ha := Lib.hid ha'; clear ha'
  have Hb := Lib.hid hb'; clear hb'
  generalize hV : opV 26 a b = V
  have HV := Lib.hid hV; clear hV
  go_enter Tryd.func55, Tryd.ntmps55
  go_wp2
  go_ret2
  refine ⟨ret2 ?_, rfl⟩
  rw [← HV.out]
  clear HV
  have ha' := Ha.out; have hb' := Hb.out
  have h := H.out; show _ = if b % 4294967296 = 0 then sx a else _; rw [if_pos h, widen]; exact sx_congr (by unfold wrap32; omega)

set_option maxHeartbeats 400000 in
theorem doOp26n (a b : Int) (w : World) (ha : 0 ≤ a) (ha' : a < 18446744073709551616) (hb : 0 ≤ b) (hb' : b < 18446744073709551616) (h : ¬ b % 4294967296 = 0) :
    Calls Tryd.prog 55 #[.int .i64 26, .int .u64 a, .int .u64 b] w fun e w' => e = .returned (.tuple #[.int .u64 (opV 26 a b), .int .i64 0]) ∧ w = w' := by
  have h0 : ¬ wrap32 (b % 4294967296) = 0 := fun e => h (by rw [wrap32_mod] at e; exact wrap32_zero.1 e)
  have h1 : (wrap32 (b % 4294967296) == 0) = false := by simpa using h0
  have H := Lib.hid h; clear h
  have Ha := Lib.hid ha'; clear ha'
  have Hb := Lib.hid hb'; clear hb'
  generalize hV : opV 26 a b = V
  have HV := Lib.hid hV; clear hV
  go_enter Tryd.func55, Tryd.ntmps55
  go_wp2
  go_ret2
  refine ⟨ret2 ?_, rfl⟩
  rw [← HV.out]
  clear HV
  have ha' := Ha.out; have hb' := Hb.out
  have h := H.out; show _ = if b % 4294967296 = 0 then _ else sx ((wrap32 a).tmod (wrap32 b)); rw [if_neg h, widen, wrap32_mod a, wrap32_mod b]; exact sx_congr (by omega)

theorem doOp26 : DoesAt 26 := fun a b w ha ha' hb hb' => if h : b % 4294967296 = 0 then doOp26y a b w ha ha' hb hb' h else doOp26n a b w ha ha' hb hb' h

set_option maxHeartbeats 400000 in
theorem doOp27y (a b : Int) (w : World) (ha : 0 ≤ a) (ha' : a < 18446744073709551616) (hb : 0 ≤ b) (hb' : b < 18446744073709551616) (h : b % 4294967296 = 0) :
    Calls Tryd.prog 55 #[.int .i64 27, .int .u64 a, .int .u64 b] w fun e w' => e = .returned (.tuple #[.int .u64 (opV 27 a b), .int .i64 0]) ∧ w = w' := by
  have h0 : b % 4294967296 = 0 := h
  have h1 : (b % 4294967296 == 0) = true := by rw [h0]; rfl
  have H := Lib.hid h; clear h
  clear h0
  have Ha := Lib.hid ha'; clear ha'
  have Hb := Lib.hid hb'; clear hb'
  generalize hV : opV 27 a b = V
  have HV := Lib.hid hV; clear hV
  go_enter Tryd.func55, Tryd.ntmps55
  go_wp2
  go_ret2
  refine ⟨ret2 ?_, rfl⟩
  rw [← HV.out]
  clear HV
  have ha' := Ha.out; have hb' := Hb.out
  have h := H.out; show _ = if b % 4294967296 = 0 then sx a else _; rw [if_pos h, widen]; exact sx_congr (by omega)

set_option maxHeartbeats 400000 in
theorem doOp27n (a b : Int) (w : World) (ha : 0 ≤ a) (ha' : a < 18446744073709551616) (hb : 0 ≤ b) (hb' : b < 18446744073709551616) (h : ¬ b % 4294967296 = 0) :
    Calls Tryd.prog 55 #[.int .i64 27, .int .u64 a, .int .u64 b] w fun e w' => e = .returned (.tuple #[.int .u64 (opV 27 a b), .int .i64 0]) ∧ w = w' := by
  have h0 : ¬ b % 4294967296 = 0 := h
  have h1 : (b % 4294967296 == 0) = false := by simpa using h0
  have H := Lib.hid h; clear h
  have Ha := Lib.hid ha'; clear ha'
  have Hb := Lib.hid hb'; clear hb'
  generalize hV : opV 27 a b = V
  have HV := Lib.hid hV; clear hV
  go_enter Tryd.func55, Tryd.ntmps55
  go_wp2
  go_ret2
  refine ⟨ret2 ?_, rfl⟩
  rw [← HV.out]
  clear HV
  have ha' := Ha.out; have hb' := Hb.out
  have h := H.out; show _ = if b % 4294967296 = 0 then _ else sx (a % 4294967296 % (b % 4294967296)); rw [if_neg h, widen]

theorem doOp27 : DoesAt 27 := fun a b w ha ha' hb hb' => if h : b % 4294967296 = 0 then doOp27y a b w ha ha' hb hb' h else doOp27n a b w ha ha' hb hb' h

set_option maxHeartbeats 400000 in
theorem doOp18 (a b : Int) (w : World) (ha : 0 ≤ a) (ha' : a < 18446744073709551616) (hb : 0 ≤ b) (hb' : b < 18446744073709551616) :
    Calls Tryd.prog 55 #[.int .i64 18, .int .u64 a, .int .u64 b] w fun e w' => e = .returned (.tuple #[.int .u64 (opV 18 a b), .int .i64 0]) ∧ w = w' := by
  have Ha := Lib.hid ha'; clear ha'
  have Hb := Lib.hid hb'; clear hb'
  generalize hV : opV 18 a b = V
  have HV := Lib.hid hV; clear hV
  go_enter Tryd.func55, Tryd.ntmps55
  go_wp2
  go_ret2
  refine ⟨ret2 ?_, rfl⟩
  rw [← HV.out]
  clear HV
  have ha' := Ha.out; have hb' := Hb.out
  rw [widen]; exact sx_congr (by omega)

set_option maxHeartbeats 400000 in
theorem doOp19 (a b : Int) (w : World) (ha : 0 ≤ a) (ha' : a < 18446744073709551616) (hb : 0 ≤ b) (hb' : b < 18446744073709551616) :
    Calls Tryd.prog 55 #[.int .i64 19, .int .u64 a, .int .u64 b] w fun e w' => e = .returned (.tuple #[.int .u64 (opV 19 a b), .int .i64 0]) ∧ w = w' := by
  have Ha := Lib.hid ha'; clear ha'
  have Hb := Lib.hid hb'; clear hb'
  generalize hV : opV 19 a b = V
  have HV := Lib.hid hV; clear hV
  go_enter Tryd.func55, Tryd.ntmps55
  go_wp2
  go_ret2
  refine ⟨ret2 ?_, rfl⟩
  rw [← HV.out]
  clear HV
  have ha' := Ha.out; have hb' := Hb.out
  rw [widen]; exact sx_congr (by omega)

set_option maxHeartbeats 400000 in
theorem doOp23 (a b : Int) (w : World) (ha : 0 ≤ a) (ha' : a < 18446744073709551616) (hb : 0 ≤ b) (hb' : b < 18446744073709551616) :
    Calls Tryd.prog 55 #[.int .i64 23, .int .u64 a, .int .u64 b] w fun e w' => e = .returned (.tuple #[.int .u64 (opV 23 a b), .int .i64 0]) ∧ w = w' := by
  have Ha := Lib.hid ha'; clear ha'
  have Hb := Lib.hid hb'; clear hb'
  generalize hV : opV 23 a b = V
  have HV := Lib.hid hV; clear hV
  go_enter Tryd.func55, Tryd.ntmps55
  go_wp2
  go_ret2
  refine ⟨ret2 ?_, rfl⟩
  rw [← HV.out]
  clear HV
  have ha' := Ha.out; have hb' := Hb.out
  rw [widen]; exact sx_congr (by have := Int.mul_emod a b 4294967296; omega)

set_option maxHeartbeats 400000 in
theorem doOp20 (a b : Int) (w : World) (ha : 0 ≤ a) (ha' : a < 18446744073709551616) (hb : 0 ≤ b) (hb' : b < 18446744073709551616) :
    Calls Tryd.prog 55 #[.int .i64 20, .int .u64 a, .int .u64 b] w fun e w' => e = .returned (.tuple #[.int .u64 (opV 20 a b), .int .i64 0]) ∧ w = w' := by
  have h31 := and_31 b
  have Ha := Lib.hid ha'; clear ha'
  have Hb := Lib.hid hb'; clear hb'
  generalize hV : opV 20 a b = V
  have HV := Lib.hid hV; clear hV
  go_enter Tryd.func55, Tryd.ntmps55
  go_wp2
  go_ret2
  refine ⟨ret2 ?_, rfl⟩
  rw [← HV.out]
  clear HV
  have ha' := Ha.out; have hb' := Hb.out
  rw [widen]; exact sx_congr (by have := mul_mod_congr (a := a % 4294967296) (a' := a) (c := 2 ^ (b % 32).toNat) (m := 4294967296) (by omega); omega)

set_option maxHeartbeats 400000 in
theorem doOp21 (a b : Int) (w : World) (ha : 0 ≤ a) (ha' : a < 18446744073709551616) (hb : 0 ≤ b) (hb' : b < 18446744073709551616) :
    Calls Tryd.prog 55 #[.int .i64 21, .int .u64 a, .int .u64 b] w fun e w' => e = .returned (.tuple #[.int .u64 (opV 21 a b), .int .i64 0]) ∧ w = w' := by
  have h31 := and_31 b
  have Ha := Lib.hid ha'; clear ha'
  have Hb := Lib.hid hb'; clear hb'
  generalize hV : opV 21 a b = V
  have HV := Lib.hid hV; clear hV
  go_enter Tryd.func55, Tryd.ntmps55
  go_wp2
  go_ret2
  refine ⟨ret2 ?_, rfl⟩
  rw [← HV.out]
  clear HV
  have ha' := Ha.out; have hb' := Hb.out
  rw [widen]; rfl

set_option maxHeartbeats 400000 in
theorem doOp22 (a b : Int) (w : World) (ha : 0 ≤ a) (ha' : a < 18446744073709551616) (hb : 0 ≤ b) (hb' : b < 18446744073709551616) :
    Calls Tryd.prog 55 #[.int .i64 22, .int .u64 a, .int .u64 b] w fun e w' => e = .returned (.tuple #[.int .u64 (opV 22 a b), .int .i64 0]) ∧ w = w' := by
  have h31 := and_31 b
  have Ha := Lib.hid ha'; clear ha'
  have Hb := Lib.hid hb'; clear hb'
  generalize hV : opV 22 a b = V
  have HV := Lib.hid hV; clear hV
  go_enter Tryd.func55, Tryd.ntmps55
  go_wp2
  go_ret2
  refine ⟨ret2 ?_, rfl⟩
  rw [← HV.out]
  clear HV
  have ha' := Ha.out; have hb' := Hb.out
  rw [widen, wrap32_mod]; exact sx_congr (by omega)

/-- Of every operation's number. -/
theorem do_any (op : Int) (h1 : 1 ≤ op) (h2 : op ≤ 27) : DoesAt op := by
  have : op = 1 ∨ op = 2 ∨ op = 3 ∨ op = 4 ∨ op = 5 ∨ op = 6 ∨ op = 7 ∨ op = 8 ∨ op = 9 ∨ op = 10 ∨ op = 11 ∨ op = 12 ∨ op = 13 ∨ op = 14 ∨ op = 15 ∨ op = 16 ∨ op = 17 ∨ op = 18 ∨ op = 19 ∨ op = 20 ∨ op = 21 ∨ op = 22 ∨ op = 23 ∨ op = 24 ∨ op = 25 ∨ op = 26 ∨ op = 27 := by omega
  rcases this with rfl | rfl | rfl | rfl | rfl | rfl | rfl | rfl | rfl | rfl | rfl | rfl | rfl | rfl | rfl | rfl | rfl | rfl | rfl | rfl | rfl | rfl | rfl | rfl | rfl | rfl | rfl
  · exact fun a b w ha ha' hb hb' => doOp1 a b w ha ha' hb hb'
  · exact fun a b w ha ha' hb hb' => doOp2 a b w ha ha' hb hb'
  · exact fun a b w ha ha' hb hb' => doOp3 a b w ha ha' hb hb'
  · exact fun a b w ha ha' hb hb' => doOp4 a b w ha ha' hb hb'
  · exact fun a b w ha ha' hb hb' => doOp5 a b w ha ha' hb hb'
  · exact fun a b w ha ha' hb hb' => doOp6 a b w ha ha' hb hb'
  · exact fun a b w ha ha' hb hb' => doOp7 a b w ha ha' hb hb'
  · exact fun a b w ha ha' hb hb' => doOp8 a b w ha ha' hb hb'
  · exact fun a b w ha ha' hb hb' => doOp9 a b w ha ha' hb hb'
  · exact fun a b w ha ha' hb hb' => doOp10 a b w ha ha' hb hb'
  · exact fun a b w ha ha' hb hb' => doOp11 a b w ha ha' hb hb'
  · exact fun a b w ha ha' hb hb' => doOp12 a b w ha ha' hb hb'
  · exact fun a b w ha ha' hb hb' => doOp13 a b w ha ha' hb hb'
  · exact fun a b w ha ha' hb hb' => doOp14 a b w ha ha' hb hb'
  · exact fun a b w ha ha' hb hb' => doOp15 a b w ha ha' hb hb'
  · exact fun a b w ha ha' hb hb' => doOp16 a b w ha ha' hb hb'
  · exact fun a b w ha ha' hb hb' => doOp17 a b w ha ha' hb hb'
  · exact fun a b w ha ha' hb hb' => doOp18 a b w ha ha' hb hb'
  · exact fun a b w ha ha' hb hb' => doOp19 a b w ha ha' hb hb'
  · exact fun a b w ha ha' hb hb' => doOp20 a b w ha ha' hb hb'
  · exact fun a b w ha ha' hb hb' => doOp21 a b w ha ha' hb hb'
  · exact fun a b w ha ha' hb hb' => doOp22 a b w ha ha' hb hb'
  · exact fun a b w ha ha' hb hb' => doOp23 a b w ha ha' hb hb'
  · exact fun a b w ha ha' hb hb' => doOp24 a b w ha ha' hb hb'
  · exact fun a b w ha ha' hb hb' => doOp25 a b w ha ha' hb hb'
  · exact fun a b w ha ha' hb hb' => doOp26 a b w ha ha' hb hb'
  · exact fun a b w ha ha' hb hb' => doOp27 a b w ha ha' hb hb'

theorem opV_none (op a b : Int) (h : op < 1 ∨ 27 < op) : opV op a b = 0 := by
  unfold opV
  repeat (first | rw [if_neg (by omega)])
  
/-- Of any other number. -/
theorem do_none (op a b : Int) (w : World) (h : op < 1 ∨ 27 < op) :
    Calls Tryd.prog 55 #[.int .i64 op, .int .u64 a, .int .u64 b] w fun e w' => e = .returned (.tuple #[.int .u64 0, .int .i64 1]) ∧ w = w' := by
  rcases h with h | h
  · go_enter Tryd.func55, Tryd.ntmps55
    go_wp2
    go_ret2
    exact ⟨rfl, rfl⟩
  · have h' : 1 ≤ op := by omega
    go_enter Tryd.func55, Tryd.ntmps55
    go_wp2
    go_ret2
    exact ⟨rfl, rfl⟩

end Go.Proofs.YtoehfncgkkfdeaaDoor
