/- The document's gaps between tokens. Conditions: each theorem's. -/
import Derived.Test.YtfjobnljdkiihaaGreatDoorRows
import Derived.WalkKit
import Derived.ProofKit
import Derived.OpenShut
import Derived.WalkSpells
import Derived.Lib.Hide
import Derived.Handy
import Derived.Deep.QuietTactic
import Derived.BigQuiet
import Derived.Below
import Derived.RegionTactic
import Derived.BigRegion
import Derived.Shelf.Small.Utf8
import Derived.Shelf.Small.Strs
import Derived.Shelf.Small.Wraps
import Derived.Shelf.LaysM
import Derived.Shelf.Strconv.Clone
import Derived.Shelf.Strings.Search1
import Derived.Shelf.Strings.Search2
import Derived.Shelf.Strings.Search3
import Derived.Shelf.Strings.Shaped
import Derived.Shelf.Strings.Prefix
import Derived.Shelf.Unicode.DecodeSlow
import Derived.Shelf.Unicode.DecodeAny
import Derived.Test.YtfjobnljdkiihaaGreatDoorProg
namespace Go.Proofs.YtfjobnljdkiihaaGreatDoor
open Go.RowKit
set_option linter.unusedVariables false
set_option linter.unusedSimpArgs false
set_option maxRecDepth 10000
theorem sZa {α : Type _} (l : List α) (i : Nat) (a : α) : (l.toArray).setIfInBounds i a = (l.set i a).toArray := by simp
theorem sZb {α : Type _} {a b : α} {l : List α} : (a :: l).set 0 b = b :: l := rfl
theorem sZc {α : Type _} {a b : α} {l : List α} {n : Nat} : (a :: l).set (n + 1) b = a :: l.set n b := rfl
namespace Lx
def dg (c : Int) : Bool := decide (48 ≤ c) && decide (c ≤ 57)
def al (c : Int) : Bool := decide (97 ≤ c) && decide (c ≤ 122) || decide (65 ≤ c) && decide (c ≤ 90) || decide (c = 95)
def nm (c : Int) : Bool := al c || dg c
def bl (c : Int) : Bool := decide (c = 9) || decide (c = 10) || decide (c = 13) || decide (c = 32)
def qt (c : Int) : Bool := decide (32 ≤ c) && decide (c ≤ 126) && !decide (c = 39) && !decide (c = 92)
def dv (c : Int) : Int := if 48 ≤ c ∧ c ≤ 57 then c - 48 else if 97 ≤ c ∧ c ≤ 102 then c - 87 else 16
end Lx
open Lx
theorem retB {a b : Bool} (h : a = true ↔ b = true) : Ending.returned (.bool a) = Ending.returned (.bool b) := by rw [Bool.eq_iff_iff.2 h]
theorem retI {k : IntKind} {a b : Int} (h : a = b) : Ending.returned (.int k a) = Ending.returned (.int k b) := by rw [h]
set_option maxHeartbeats 1000000 in
theorem isDigit_any (c : Int) (w : World) (h0 : 0 ≤ c) (h1 : c ≤ 255) :
  Calls Tryz.prog 36 #[.int .u8 c] w fun e w' => e = .returned (.bool (dg c)) ∧ w = w' := by
 go_enter Tryz.func36, Tryz.ntmps36
 go_wp2
 all_goals
  go_ret
  refine ⟨retB ?_, rfl⟩
  simp [dg]
  try omega
set_option maxHeartbeats 1000000 in
theorem nm_any (c : Int) (w : World) (h0 : 0 ≤ c) (h1 : c ≤ 255) :
  Calls Tryz.prog 38 #[.int .u8 c] w fun e w' => e = .returned (.bool (nm c)) ∧ w = w' := by
 go_enter Tryz.func38, Tryz.ntmps38
 go_wp2_with (go_at_call 36; refine (isDigit_any _ _ h0 h1).mono ?_; rintro e w' ⟨rfl, rfl⟩)
 all_goals
  go_ret
  refine ⟨retB ?_, rfl⟩
  simp [nm, al, dg]
  try omega
set_option maxHeartbeats 1000000 in
theorem isBlank_any (c : Int) (w : World) (h0 : 0 ≤ c) (h1 : c ≤ 255) :
  Calls Tryz.prog 59 #[.int .u8 c] w fun e w' => e = .returned (.bool (bl c)) ∧ w = w' := by
 go_enter Tryz.func59, Tryz.ntmps59
 go_wp2
 all_goals
  go_ret
  refine ⟨retB ?_, rfl⟩
  simp [bl]
  try omega
set_option maxHeartbeats 1000000 in
theorem mayBeQuoted_any (c : Int) (w : World) (h0 : 0 ≤ c) (h1 : c ≤ 255) :
  Calls Tryz.prog 104 #[.int .u8 c] w fun e w' => e = .returned (.bool (qt c)) ∧ w = w' := by
 go_enter Tryz.func104, Tryz.ntmps104
 go_wp2
 all_goals
  go_ret
  refine ⟨retB ?_, rfl⟩
  simp [qt]
  try omega
set_option maxHeartbeats 1000000 in
theorem digit_any (c : Int) (w : World) (h0 : 0 ≤ c) (h1 : c ≤ 255) :
  Calls Tryz.prog 106 #[.int .u8 c] w fun e w' => e = .returned (.int .u64 (dv c)) ∧ w = w' := by
 go_enter Tryz.func106, Tryz.ntmps106
 go_wp2
 all_goals
  go_ret
  refine ⟨retI ?_, rfl⟩
  unfold dv
  (repeat' split) <;> first | omega | (simp [*] at *; try omega)
end Go.Proofs.YtfjobnljdkiihaaGreatDoor
namespace Go.Proofs
open Go.Shelf
def Tryz.lays137_ren : Go.Shelf.Ren := ⟨fun | 137 => 83 | 217 => 100 | 266 => 122 | n => n, fun | 9 => 9 | 5 => 5 | 3 => 3 | n => n, fun | n => n⟩
theorem Tryz.lays137 : Go.Proofs.Lays.n137 Tryz.prog Tryz.lays137_ren := {
 mixed := by kernel_rfl
 f137 := Tryz.func83.trans (congrArg some (by kernel_rfl))
 f217 := Tryz.func100.trans (congrArg some (by kernel_rfl))
 f266 := Tryz.func122.trans (congrArg some (by kernel_rfl))
 t3 := Tryz.underlying3
 a3 := Tryz.isAgg3
 z3 := Tryz.sizeOf3
 v3 := Tryz.zeroValue3
 t5 := Tryz.underlying5
 a5 := Tryz.isAgg5
 z5 := Tryz.sizeOf5
 v5 := Tryz.zeroValue5
 t9 := Tryz.underlying9
 a9 := Tryz.isAgg9
 z9 := Tryz.sizeOf9
 v9 := Tryz.zeroValue9 }
open Go.RowKit in
theorem Tryz.strings_IndexByte (s : ByteArray) (c : Int) (w : World) :
  Calls Tryz.prog 83 #[.string s, .int .u8 c] w fun e w' => e = .returned (.int .i64 (Lib.indexByte s.data.toList c.toNat.toUInt8)) ∧ w' = w := Any.strings_IndexByte Tryz.lays137 s c w
def Tryz.lays103_ren : Go.Shelf.Ren := ⟨fun | 103 => 86 | 210 => 105 | 206 => 82 | n => n, fun | 9 => 9 | 4 => 4 | 24 => 146 | 3 => 3 | n => n, fun | n => n⟩
theorem Tryz.lays103 : Go.Proofs.Lays.n103 Tryz.prog Tryz.lays103_ren := {
 mixed := by kernel_rfl
 f103 := Tryz.func86.trans (congrArg some (by kernel_rfl))
 f206 := Tryz.func82.trans (congrArg some (by kernel_rfl))
 f210 := Tryz.func105.trans (congrArg some (by kernel_rfl))
 t3 := Tryz.underlying3
 a3 := Tryz.isAgg3
 z3 := Tryz.sizeOf3
 v3 := Tryz.zeroValue3
 t4 := Tryz.underlying4
 a4 := Tryz.isAgg4
 z4 := Tryz.sizeOf4
 v4 := Tryz.zeroValue4
 t9 := Tryz.underlying9
 a9 := Tryz.isAgg9
 z9 := Tryz.sizeOf9
 v9 := Tryz.zeroValue9
 t24 := Tryz.underlying146
 a24 := Tryz.isAgg146
 z24 := Tryz.sizeOf146
 v24 := Tryz.zeroValue146 }
open Go.RowKit in
theorem Tryz.strings_CutPrefix (s p : ByteArray) (w : World) :
  Calls Tryz.prog 86 #[.string s, .string p] w fun e w' => e = .returned (.tuple #[.string ⟨(Lib.trimPrefix s.data.toList p.data.toList).toArray⟩, .bool (Lib.hasPrefix s.data.toList p.data.toList)]) ∧ w' = w := Any.strings_CutPrefix Tryz.lays103 s p w
def Tryz.laysM316_ren : Go.Shelf.Ren := ⟨fun | 316 => 34 | n => n, fun | 9 => 9 | 3 => 3 | 4 => 4 | 37 => 51 | 0 => 0 | 127 => 100 | 5 => 5 | n => n, fun | n => n⟩
theorem Tryz.laysM316 : Go.Proofs.LaysM.n316 Tryz.prog Tryz.laysM316_ren := {
 mixed := by kernel_rfl
 f316 := Tryz.func34.trans (congrArg some (by kernel_rfl))
 t0 := Tryz.underlying0
 a0 := Tryz.isAgg0
 z0 := Tryz.sizeOf0
 v0 := Tryz.zeroValue0
 t3 := Tryz.underlying3
 a3 := Tryz.isAgg3
 z3 := Tryz.sizeOf3
 v3 := Tryz.zeroValue3
 t4 := Tryz.underlying4
 a4 := Tryz.isAgg4
 z4 := Tryz.sizeOf4
 v4 := Tryz.zeroValue4
 t9 := Tryz.underlying9
 a9 := Tryz.isAgg9
 z9 := Tryz.sizeOf9
 v9 := Tryz.zeroValue9
 t37 := Tryz.underlying51
 a37 := Tryz.isAgg51
 z37 := Tryz.sizeOf51
 v37 := Tryz.zeroValue51
 t127 := Tryz.underlying100
 a127 := Tryz.isAgg100
 z127 := Tryz.sizeOf100
 v127 := Tryz.zeroValue100
 t5 := Tryz.underlying5
 a5 := Tryz.isAgg5
 z5 := Tryz.sizeOf5
 v5 := Tryz.zeroValue5
 i0 := by kernel_rfl
 i3 := by kernel_rfl
 i4 := by kernel_rfl
 i5 := by kernel_rfl
 i9 := by kernel_rfl
 i37 := by kernel_rfl
 i127 := by kernel_rfl }
open Go.RowKit in
theorem Tryz.stringslite_Clone (s : ByteArray) (w : World) (hlim : s.size ≤ 281474976710656) :
  Calls Tryz.prog 34 #[.string s] w fun e w' => e = .returned (.string s) ∧ Below w.heap.size w w' := Any.stringslite_Clone Tryz.laysM316 s w hlim
def Tryz.lays143_ren : Go.Shelf.Ren := ⟨fun | 143 => 62 | 219 => 84 | 217 => 100 | 225 => 101 | 224 => 102 | 267 => 103 | 266 => 122 | 314 => 123 | n => n, fun | 9 => 9 | 3 => 3 | 4 => 4 | 5 => 5 | 46 => 50 | 146 => 177 | 51 => 176 | n => n, fun | 1 => 0 | n => n⟩
theorem Tryz.lays143 : Go.Proofs.Lays.n143 Tryz.prog Tryz.lays143_ren := {
 mixed := by kernel_rfl
 f143 := Tryz.func62.trans (congrArg some (by kernel_rfl))
 f217 := Tryz.func100.trans (congrArg some (by kernel_rfl))
 f219 := Tryz.func84.trans (congrArg some (by kernel_rfl))
 f224 := Tryz.func102.trans (congrArg some (by kernel_rfl))
 f225 := Tryz.func101.trans (congrArg some (by kernel_rfl))
 f266 := Tryz.func122.trans (congrArg some (by kernel_rfl))
 f267 := Tryz.func103.trans (congrArg some (by kernel_rfl))
 f314 := Tryz.func123.trans (congrArg some (by kernel_rfl))
 t3 := Tryz.underlying3
 a3 := Tryz.isAgg3
 z3 := Tryz.sizeOf3
 v3 := Tryz.zeroValue3
 t4 := Tryz.underlying4
 a4 := Tryz.isAgg4
 z4 := Tryz.sizeOf4
 v4 := Tryz.zeroValue4
 t5 := Tryz.underlying5
 a5 := Tryz.isAgg5
 z5 := Tryz.sizeOf5
 v5 := Tryz.zeroValue5
 t9 := Tryz.underlying9
 a9 := Tryz.isAgg9
 z9 := Tryz.sizeOf9
 v9 := Tryz.zeroValue9
 t46 := Tryz.underlying50
 a46 := Tryz.isAgg50
 z46 := Tryz.sizeOf50
 v46 := Tryz.zeroValue50
 t51 := Tryz.underlying176
 a51 := Tryz.isAgg176
 z51 := Tryz.sizeOf176
 v51 := Tryz.zeroValue176
 t146 := Tryz.underlying177
 a146 := Tryz.isAgg177
 z146 := Tryz.sizeOf177
 v146 := Tryz.zeroValue177
 g1 := by kernel_rfl }
open Go.RowKit Go.Lib in
theorem Tryz.strings_Index (s sub : ByteArray) (m : Int) (w : World) (hs : s.size < 4294967281) (hm : w.cell? ⟨0, 0, none⟩ = some (.int .i64 m)) :
  Calls Tryz.prog 62 #[.string s, .string sub] w fun e w' => e = .returned (.int .i64 (Lib.index s.data.toList sub.data.toList)) ∧ w' = w := Any.strings_Index Tryz.lays143 s sub m w hs hm
def Tryz.laysM143_ren : Go.Shelf.Ren := ⟨fun | 143 => 62 | 219 => 84 | 217 => 100 | 225 => 101 | 224 => 102 | 267 => 103 | 266 => 122 | 314 => 123 | n => n, fun | 9 => 9 | 3 => 3 | 4 => 4 | 5 => 5 | 46 => 50 | 146 => 177 | 51 => 176 | n => n, fun | 1 => 0 | n => n⟩
theorem Tryz.laysM143 : Go.Proofs.LaysM.n143 Tryz.prog Tryz.laysM143_ren := {
 mixed := by kernel_rfl
 f143 := Tryz.func62.trans (congrArg some (by kernel_rfl))
 f217 := Tryz.func100.trans (congrArg some (by kernel_rfl))
 f219 := Tryz.func84.trans (congrArg some (by kernel_rfl))
 f224 := Tryz.func102.trans (congrArg some (by kernel_rfl))
 f225 := Tryz.func101.trans (congrArg some (by kernel_rfl))
 f266 := Tryz.func122.trans (congrArg some (by kernel_rfl))
 f267 := Tryz.func103.trans (congrArg some (by kernel_rfl))
 f314 := Tryz.func123.trans (congrArg some (by kernel_rfl))
 t3 := Tryz.underlying3
 a3 := Tryz.isAgg3
 z3 := Tryz.sizeOf3
 v3 := Tryz.zeroValue3
 t4 := Tryz.underlying4
 a4 := Tryz.isAgg4
 z4 := Tryz.sizeOf4
 v4 := Tryz.zeroValue4
 t5 := Tryz.underlying5
 a5 := Tryz.isAgg5
 z5 := Tryz.sizeOf5
 v5 := Tryz.zeroValue5
 t9 := Tryz.underlying9
 a9 := Tryz.isAgg9
 z9 := Tryz.sizeOf9
 v9 := Tryz.zeroValue9
 t46 := Tryz.underlying50
 a46 := Tryz.isAgg50
 z46 := Tryz.sizeOf50
 v46 := Tryz.zeroValue50
 t51 := Tryz.underlying176
 a51 := Tryz.isAgg176
 z51 := Tryz.sizeOf176
 v51 := Tryz.zeroValue176
 t146 := Tryz.underlying177
 a146 := Tryz.isAgg177
 z146 := Tryz.sizeOf177
 v146 := Tryz.zeroValue177
 g1 := by kernel_rfl
 i3 := by kernel_rfl
 i4 := by kernel_rfl
 i5 := by kernel_rfl
 i9 := by kernel_rfl
 i46 := by kernel_rfl
 i51 := by kernel_rfl
 i146 := by kernel_rfl
 m1 := by kernel_rfl
 s1_3 := fun w h => Go.Proofs.cell_of_shapedOpen_int (zero := #[.int .i64 0]) (t := 3) h (of_decide_eq_true (by kernel_rfl)) (by kernel_rfl) rfl (by kernel_rfl) (by kernel_rfl) Tryz.underlying3 }
def Tryz.lays99_ren : Go.Shelf.Ren := ⟨fun | 99 => 60 | 206 => 82 | n => n, fun | 9 => 9 | 4 => 4 | 3 => 3 | n => n, fun | n => n⟩
theorem Tryz.lays99 : Go.Proofs.Lays.n99 Tryz.prog Tryz.lays99_ren := {
 mixed := by kernel_rfl
 f99 := Tryz.func60.trans (congrArg some (by kernel_rfl))
 f206 := Tryz.func82.trans (congrArg some (by kernel_rfl))
 t3 := Tryz.underlying3
 a3 := Tryz.isAgg3
 z3 := Tryz.sizeOf3
 v3 := Tryz.zeroValue3
 t4 := Tryz.underlying4
 a4 := Tryz.isAgg4
 z4 := Tryz.sizeOf4
 v4 := Tryz.zeroValue4
 t9 := Tryz.underlying9
 a9 := Tryz.isAgg9
 z9 := Tryz.sizeOf9
 v9 := Tryz.zeroValue9 }
open Go.RowKit Go.Lib in
theorem Tryz.strings_HasPrefix (s p : ByteArray) (w : World) :
  Calls Tryz.prog 60 #[.string s, .string p] w fun e w' => e = .returned (.bool (Lib.hasPrefix s.data.toList p.data.toList)) ∧ w' = w := Any.strings_HasPrefix Tryz.lays99 s p w
end Go.Proofs
namespace Go.Proofs.YtfjobnljdkiihaaGreatDoor
open Go.RowKit
set_option linter.unusedVariables false
set_option linter.unusedSimpArgs false
set_option maxRecDepth 10000
open Lx
namespace Lx
def tw (p : UInt8 → Bool) : List UInt8 → Nat
 | [] => 0
 | c :: l => if p c then tw p l + 1 else 0
theorem tw_le (p : UInt8 → Bool) (l : List UInt8) : tw p l ≤ l.length := by
 induction l with
 | nil => simp [tw]
 | cons c l ih => simp only [tw]; split <;> simp <;> omega
theorem tw_eq (p : UInt8 → Bool) (l : List UInt8) (k : Nat) (hk : k ≤ l.length) (h : ∀ i, i < k → p (l.getD i 0) = true) (hs : k = l.length ∨ p (l.getD k 0) = false) : tw p l = k := by
 induction l generalizing k with
 | nil => simp at hk; simp [tw, hk]
 | cons c l ih =>
  cases k with
  | zero =>
   rcases hs with hs | hs
   ·simp at hs
   ·rw [List.getD_cons_zero] at hs
    simp [tw, hs]
  | succ k =>
   have h0 := h 0 (by omega)
   rw [List.getD_cons_zero] at h0
   simp only [tw, h0, if_true]
   rw [ih k (by simpa using hk) (fun i hi => by have := h (i + 1) (by omega); rwa [List.getD_cons_succ] at this)]
   rcases hs with hs | hs
   ·exact .inl (by simpa using hs)
   ·exact .inr (by rwa [List.getD_cons_succ] at hs)
def bt (c : UInt8) : Int := (c.toNat : Int)
theorem bt_range (c : UInt8) : 0 ≤ bt c ∧ bt c ≤ 255 := by unfold bt; have := UInt8.toNat_lt c; omega
def tg (l : List UInt8) : Nat := tw (fun c => nm (bt c)) l
def ln (l : List UInt8) : Nat := tw (fun c => !decide (c = 10)) l
theorem ix_ln (l : List UInt8) : Lib.indexByte l 10 = if ln l = l.length then -1 else (ln l : Int) := by
 induction l with
 | nil => rfl
 | cons c l ih =>
  simp only [Lib.indexByte, ln, tw]
  by_cases h : c = 10
  ·subst h; simp
  ·have h' : (c == 10) = false := by simpa using h
   rw [h']
   simp only [h, decide_false, Bool.not_false, if_true]
   change (if Lib.indexByte l 10 == -1 then -1 else Lib.indexByte l 10 + 1) = if ln l + 1 = (c :: l).length then -1 else ((ln l + 1 : Nat) : Int)
   rw [ih]
   by_cases e : ln l = l.length
   ·rw [if_pos e, if_pos (by simp), if_pos (by simp [e])]
   ·have e2 : ¬ ln l + 1 = (c :: l).length := by simpa using e
    rw [if_neg e, if_neg e2, if_neg (by rw [beq_iff_eq]; omega)]
    omega
end Lx
theorem sz (s : ByteArray) : s.data.toList.length = s.size := (Lib.size_eq s).symm
theorem byte_at (s : ByteArray) (k : Nat) (h : k < s.size) : s[k] = s.data.toList.getD k 0 := by
 have h' : k < s.data.toList.length := by rw [sz]; exact h
 rw [List.getD_eq_getElem?_getD, List.getElem?_eq_getElem h']
 rfl
set_option maxHeartbeats 1000000 in
theorem together_any (s : ByteArray) (w : World) (hs : s.size ≤ 1099511627776) :
  Calls Tryz.prog 63 #[.string s] w fun e w' => e = .returned (.int .i64 (tg s.data.toList)) ∧ w = w' := by
 have hsz := sz s
 go_enter Tryz.func63, Tryz.ntmps63
 go_wp2
 go_loop [6] (fun k => ∃ j : Nat, j ≤ s.size ∧ k = .int .i64 j ∧ ∀ i, i < j → nm (bt (s.data.toList.getD i 0)) = true) (fun k => s.size - (intOf k).toNat)
 case atStart => exact ⟨0, Nat.zero_le _, rfl, fun i hi => by omega⟩
 case round =>
  obtain ⟨j, hj, rfl, hno⟩ := hrel
  by_cases hlt : j < s.size
  ·have hb := byte_at s j hlt
   have hr := bt_range s[j]
   have HE := Lib.hid (tw_eq (fun c => nm (bt c)) s.data.toList j (by omega) hno)
   have HN := Lib.hid hno
   have HB := Lib.hid hb
   clear hno hb
   go_wp2_with fail
   refine (nm_any (bt s[j]) _ hr.1 hr.2).mono ?_
   rintro e w' ⟨rfl, rfl⟩
   cases hq : nm (bt s[j])
   ·have hq' : nm (bt (s.data.toList.getD j 0)) = false := by rw [← HB.out]; exact hq
    have HT := Lib.hid (HE.out (.inr hq'))
    clear hq'
    go_wp2
    go_ret
    refine ⟨retI ?_, rfl⟩
    show (j : Int) = _
    rw [show tg s.data.toList = j from HT.out]
   ·go_wp2
    go_round
    case rel =>
     refine ⟨j + 1, by omega, by go_num, fun i hi => ?_⟩
     rcases Nat.lt_or_ge i j with h | h
     ·exact HN.out i h
     ·obtain rfl : i = j := by omega
      rw [← HB.out]; exact hq
    case measure => simp [intOf]; omega
  ·obtain rfl : j = s.size := by omega
   have HT := Lib.hid (tw_eq (fun c => nm (bt c)) s.data.toList s.size (by omega) hno (.inl hsz.symm))
   clear hno
   go_wp2
   go_ret
   refine ⟨retI ?_, rfl⟩
   show (s.size : Int) = _
   rw [show tg s.data.toList = s.size from HT.out]
set_option maxHeartbeats 1000000 in
theorem line_any (s : ByteArray) (w : World) (hs : s.size ≤ 1099511627776) :
  Calls Tryz.prog 61 #[.string s] w fun e w' => e = .returned (.int .i64 (ln s.data.toList)) ∧ w = w' := by
 have hsz := sz s
 have hle := tw_le (fun c => !decide (c = 10)) s.data.toList
 change ln s.data.toList ≤ _ at hle
 have HI := Lib.hid (ix_ln s.data.toList)
 go_enter Tryz.func61, Tryz.ntmps61
 go_wp2_with (go_at_call 83; refine (Tryz.strings_IndexByte _ _ _).mono ?_; rintro e w' ⟨rfl, rfl⟩)
 ·have hx : 0 ≤ Lib.indexByte s.data.toList 10 := by assumption
  have hi := HI.out
  go_ret
  refine ⟨retI ?_, rfl⟩
  show Lib.indexByte s.data.toList 10 = _
  by_cases h : ln s.data.toList = s.data.toList.length
  ·rw [if_pos h] at hi; omega
  ·rw [if_neg h] at hi; exact hi
 ·have hx : Lib.indexByte s.data.toList 10 < 0 := by assumption
  have hi := HI.out
  go_ret
  refine ⟨retI ?_, rfl⟩
  show (s.size : Int) = _
  by_cases h : ln s.data.toList = s.data.toList.length
  ·omega
  ·rw [if_neg h] at hi; omega
namespace Lx
def og (l : List UInt8) : Option Nat :=
 if bl (bt (l.getD 0 0)) then some 1
 else if Lib.hasPrefix l [47, 47] then some (ln l)
 else if !Lib.hasPrefix l [47, 42] then some 0
 else if Lib.index (l.drop 2) [42, 47] < 0 then none else some (4 + (Lib.index (l.drop 2) [42, 47]).toNat)
end Lx
theorem ix_le (l sub : List UInt8) : Lib.index l sub ≤ l.length := by
 induction l with
 | nil => simp only [Lib.index]; split <;> simp
 | cons b l ih =>
  have hc : ((b :: l).length : Int) = l.length + 1 := by simp
  simp only [Lib.index]
  rw [hc]
  split
  ·omega
  ·split <;> omega
theorem ext_end (s : ByteArray) (k : Nat) : (s.extract k s.size).data.toList = s.data.toList.drop k := by
 exact Lib.extract_to_end s k
def MaxIs (w : World) : Prop := ∃ m : Int, w.cell? ⟨0, 0, none⟩ = some (.int .i64 m)
theorem MaxIs.keep {w w' : World} (h : MaxIs w) (hb : Below w.heap.size w w') : MaxIs w' := by
 obtain ⟨m, hm⟩ := h
 exact ⟨m, (hb.cell (p := ⟨0, 0, none⟩) (World.block_lt_of_cell? w _ hm)).trans hm⟩
theorem maxIs_of {w : World} (h : w.ShapedOpen Tryz.prog) : MaxIs w := Tryz.laysM143.s1_3 w h
set_option maxHeartbeats 1000000 in
theorem oneGap_any (s : ByteArray) (w : World) (hs : s.size ≤ 1048576) (h0 : 0 < s.size) (hsh : MaxIs w) :
  Calls Tryz.prog 35 #[.string s] w fun e w' => e = .returned (.tuple #[.int .i64 ((og s.data.toList).getD 0), .bool (og s.data.toList).isSome]) ∧ w = w' := by
 have hsz := sz s
 obtain ⟨mm, hmm⟩ := hsh
 have hb := byte_at s 0 h0
 have hr := bt_range s[0]
 have HB := Lib.hid hb
 clear hb
 go_enter Tryz.func35, Tryz.ntmps35
 go_wp2_with fail
 refine (isBlank_any (bt s[0]) _ hr.1 hr.2).mono ?_
 rintro e w' ⟨rfl, rfl⟩
 cases hq : bl (bt s[0])
 ·have h1 : bl (bt (s.data.toList.getD 0 0)) = false := by rw [← HB.out]; exact hq
  have H1 := Lib.hid h1
  clear h1
  go_wp2_with fail
  refine (Tryz.strings_HasPrefix _ _ _).mono ?_
  rintro e w' ⟨rfl, rfl⟩
  cases hq2 : Lib.hasPrefix s.data.toList [47, 47]
  ·go_wp2_with fail
   refine (Tryz.strings_HasPrefix _ _ _).mono ?_
   rintro e w' ⟨rfl, rfl⟩
   have hlen : Lib.hasPrefix s.data.toList [47, 42] = true → 2 ≤ s.size := fun h => by
    have := (List.isPrefixOf_iff_prefix.1 h).length_le
    rw [hsz] at this; exact this
   cases hq3 : Lib.hasPrefix s.data.toList [47, 42]
   ·go_wp2
    go_ret2
    exact ⟨by unfold og; rw [if_neg (by rw [H1.out]; simp), hq2, hq3]; rfl, rfl⟩
   ·have h2 := hlen hq3
    have h2' : (2 : Int) ≤ (s.size : Int) := by omega
    have hex := ext_end s 2
    have hxs : (s.extract 2 s.size).size < 4294967281 := by rw [← sz, hex]; simp; omega
    have hge := Lib.index_ge (s.data.toList.drop 2) [42, 47]
    have hle := ix_le (s.data.toList.drop 2) [42, 47]
    have HX := Lib.hid hex
    clear hlen hex
    go_wp2_with fail
    refine (Tryz.strings_Index _ _ mm _ hxs hmm).mono ?_
    rintro e w' ⟨rfl, rfl⟩
    rw [HX.out]
    have ho : og s.data.toList = if Lib.index (s.data.toList.drop 2) [42, 47] < 0 then none else some (4 + (Lib.index (s.data.toList.drop 2) [42, 47]).toNat) := by
     unfold og; rw [if_neg (by rw [H1.out]; simp), hq2, hq3]; rfl
    have HO := Lib.hid ho
    have hl2 : (s.data.toList.drop 2).length ≤ 1048576 := by simp; omega
    clear ho HX hxs
    generalize Lib.index (s.data.toList.drop 2) [42, 47] = ix at *
    by_cases hneg : ix < 0
    ·go_wp2
     go_ret2
     exact ⟨by rw [HO.out, if_pos (by omega)]; rfl, rfl⟩
    ·have hp : 0 ≤ ix := by omega
     have hm : ix ≤ 1048576 := by omega
     go_wp2
     go_ret2
     refine ⟨?_, rfl⟩
     rw [HO.out, if_neg (by omega)]
     show Ending.returned (.tuple #[.int .i64 (2 + ix + 2), .bool true]) = Ending.returned (.tuple #[.int .i64 ((4 + ix.toNat : Nat) : Int), .bool true])
     rw [show (2 + ix + 2 : Int) = ((4 + ix.toNat : Nat) : Int) by omega]
  ·go_wp2_with fail
   refine (line_any s _ (by omega)).mono ?_
   rintro e w' ⟨rfl, rfl⟩
   go_wp2
   go_ret2
   exact ⟨by unfold og; rw [if_neg (by rw [H1.out]; simp), hq2]; rfl, rfl⟩
 ·have h1 : bl (bt (s.data.toList.getD 0 0)) = true := by rw [← HB.out]; exact hq
  have H1 := Lib.hid h1
  clear h1
  go_wp2
  go_ret2
  exact ⟨by unfold og; rw [if_pos H1.out]; rfl, rfl⟩
namespace Lx
def gp : Nat → List UInt8 → Nat × Bool
 | 0, _ => (0, true)
 | f + 1, l => if l = [] then (0, true) else match og l with
  | none => (0, false)
  | some n => if n = 0 then (0, true) else (n + (gp f (l.drop n)).1, (gp f (l.drop n)).2)
def gapV (l : List UInt8) : Nat × Bool := gp (l.length + 1) l
theorem og_le {l : List UInt8} {n : Nat} (h : og l = some n) (h0 : l ≠ []) : n ≤ l.length := by
 have hl : 0 < l.length := List.length_pos_iff.2 h0
 unfold og at h
 split at h
 ·injection h with h; omega
 ·split at h
  ·injection h with h
   rw [← h]
   exact tw_le _ _
  ·split at h
   ·injection h with h; omega
   ·split at h
    ·cases h
    ·injection h with h
     have h3 := Lib.index_room (l.drop 2) [42, 47] (by omega)
     simp at h3
     omega
theorem gp_fuel (f g : Nat) (l : List UInt8) (hf : l.length < f) (hg : l.length < g) : gp f l = gp g l := by
 induction f generalizing g l with
 | zero => omega
 | succ f ih =>
  cases g with
  | zero => omega
  | succ g =>
   simp only [gp]
   by_cases h : l = []
   ·simp [h]
   ·rw [if_neg h, if_neg h]
    have h0 : 0 < l.length := List.length_pos_iff.2 h
    cases ho : og l with
    | none => rfl
    | some n =>
     dsimp only
     by_cases hn : n = 0
     ·simp [hn]
     ·rw [if_neg hn, if_neg hn, ih g (l.drop n) (by simp; omega) (by simp; omega)]
theorem gap_nil : gapV [] = (0, true) := rfl
theorem gap_step {l : List UInt8} {n : Nat} (h0 : l ≠ []) (h : og l = some n) (hn : n ≠ 0) : gapV l = (n + (gapV (l.drop n)).1, (gapV (l.drop n)).2) := by
 have hl : 0 < l.length := List.length_pos_iff.2 h0
 have e := gp_fuel l.length ((l.drop n).length + 1) (l.drop n) (by simp; omega) (by omega)
 unfold gapV
 rw [← e]
 show gp (l.length + 1) l = _
 rw [gp, if_neg h0, h]
 dsimp only
 rw [if_neg hn]
theorem gap_stop {l : List UInt8} (h0 : l ≠ []) (h : og l = some 0) : gapV l = (0, true) := by
 unfold gapV
 rw [gp, if_neg h0, h]
 rfl
theorem gap_bad {l : List UInt8} (h0 : l ≠ []) (h : og l = none) : gapV l = (0, false) := by
 unfold gapV
 rw [gp, if_neg h0, h]
theorem gap_le (l : List UInt8) : (gapV l).1 ≤ l.length := by
 suffices ∀ n, ∀ l : List UInt8, l.length ≤ n → (gapV l).1 ≤ l.length from this _ l (Nat.le_refl _)
 intro n
 induction n with
 | zero => intro l hl; rw [List.length_eq_zero_iff.1 (by omega : l.length = 0)]; simp [gap_nil]
 | succ n ih =>
  intro l hl
  by_cases h0 : l = []
  ·subst h0; simp [gap_nil]
  cases ho : og l with
  | none => rw [gap_bad h0 ho]; exact Nat.zero_le _
  | some m =>
   by_cases hm : m = 0
   ·subst hm; rw [gap_stop h0 ho]; exact Nat.zero_le _
   ·rw [gap_step h0 ho hm]
    have := og_le ho h0
    have := ih (l.drop m) (by simp; omega)
    simp at this ⊢
    omega
end Lx
set_option maxHeartbeats 1000000 in
theorem gap_any (s : ByteArray) (w : World) (hs : s.size ≤ 1048576) (hsh : MaxIs w) :
  Calls Tryz.prog 22 #[.string s] w fun e w' => e = .returned (.tuple #[.int .i64 (gapV s.data.toList).1, .bool (gapV s.data.toList).2]) ∧ w = w' := by
 have hsz := sz s
 have H0 : Hid (gapV s.data.toList = (0 + (gapV (s.data.toList.drop 0)).1, (gapV (s.data.toList.drop 0)).2)) := Lib.hid (by simp)
 go_enter Tryz.func22, Tryz.ntmps22
 go_wp2
 go_loop [4] (fun k => ∃ j : Nat, j ≤ s.size ∧ k = .int .i64 j ∧ Hid (gapV s.data.toList = (j + (gapV (s.data.toList.drop j)).1, (gapV (s.data.toList.drop j)).2))) (fun k => s.size - (intOf k).toNat)
 case atStart => exact ⟨0, Nat.zero_le _, rfl, H0⟩
 case round =>
  obtain ⟨j, hj, rfl, HG⟩ := hrel
  clear H0
  by_cases hlt : j < s.size
  ·have hex := ext_end s j
   have hxs : (s.extract j s.size).size = s.size - j := by rw [← sz, hex]; simp [hsz]
   have HX := Lib.hid hex
   have HXS := Lib.hid hxs
   have hne : s.data.toList.drop j ≠ [] := by
    intro e; have := congrArg List.length e; simp at this; omega
   have hle := fun n h => og_le (n := n) h hne
   have hstep := fun n h hn => gap_step (n := n) hne h hn
   have hstop := gap_stop hne
   have hbad := gap_bad hne
   have HA := Lib.hid (And.intro hle (And.intro hstep (And.intro hstop hbad)))
   clear hex hxs hle hstep hstop hbad hne
   go_wp2_with fail
   refine (oneGap_any _ _ (by rw [HXS.out]; omega) (by rw [HXS.out]; omega) hsh).mono ?_
   rintro e w' ⟨rfl, rfl⟩
   rw [HX.out]
   obtain ⟨a1, a2, a3, a4⟩ := HA.out
   cases ho : og (s.data.toList.drop j) with
   | none =>
    have hg := HG.out
    rw [a4 ho] at hg
    have HG2 := Lib.hid hg
    clear a1 a2 a3 a4 ho hg HG HA
    go_wp2
    go_ret2
    exact ⟨by rw [HG2.out]; rfl, rfl⟩
   | some n =>
    have hn := a1 n ho
    simp only [List.length_drop, hsz] at hn
    by_cases hn0 : n = 0
    ·subst hn0
     have hg := HG.out
     rw [a3 ho] at hg
     have HG2 := Lib.hid hg
     clear a1 a2 a3 a4 ho hg HG HA
     go_wp2
     go_ret2
     exact ⟨by rw [HG2.out]; rfl, rfl⟩
    ·have hg := HG.out
     rw [a2 n ho hn0] at hg
     have HG2 := Lib.hid hg
     have hn1 : ((n : Int) == 0) = false := beq_eq_false_iff_ne.mpr (by omega)
     clear a1 a2 a3 a4 ho hg HG HA
     go_wp2
     go_round
     case rel =>
      refine ⟨j + n, by omega, by go_num, Lib.hid ?_⟩
      rw [HG2.out, List.drop_drop]
      simp [Nat.add_assoc]
     case measure => simp [intOf]; omega
  ·obtain rfl : j = s.size := by omega
   have hg := HG.out
   rw [List.drop_of_length_le (by omega)] at hg
   have HG2 := Lib.hid hg
   clear hg HG
   go_wp2
   go_ret2
   exact ⟨by rw [HG2.out, gap_nil]; rfl, rfl⟩
namespace Lx
end Lx
end Go.Proofs.YtfjobnljdkiihaaGreatDoor
