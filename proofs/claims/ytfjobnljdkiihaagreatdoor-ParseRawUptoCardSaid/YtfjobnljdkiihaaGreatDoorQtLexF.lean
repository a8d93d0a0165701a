/- Words and names of package lex and of the document. Conditions: each theorem's. -/
import Derived.Test.YtfjobnljdkiihaaGreatDoorQtLexC
import Derived.Laws.Rows
import Derived.Deep.MidRow
namespace Go.Proofs.YtfjobnljdkiihaaGreatDoor
open Go.RowKit
set_option linter.unusedVariables false
set_option linter.unusedSimpArgs false
set_option maxRecDepth 10000
open Lx
namespace Lx
theorem dv_range (c : Int) : 0 ≤ dv c ∧ dv c ≤ 16 := by unfold dv; split; · omega
                                                        ·split <;> omega
def badD (base n d : Int) : Bool := decide (base ≤ d) || decide ((9223372036854775807 - d) / base < n)
def mnD (base : Int) : Int → List UInt8 → Option Int
 | n, [] => some n
 | n, c :: l => if badD base n (dv (bt c)) then none else mnD base (n * base + dv (bt c)) l
def meanIn (base : Int) (l : List UInt8) : Option Int := if l = [] then none else mnD base 0 l
theorem mnD_step {base n : Int} {l : List UInt8} {j : Nat} (h : j < l.length) : mnD base n (l.drop j) = if badD base n (dv (bt (l.getD j 0))) then none else mnD base (n * base + dv (bt (l.getD j 0))) (l.drop (j + 1)) := by
 rw [List.drop_eq_getElem_cons h, mnD]
 simp [List.getD_eq_getElem?_getD, h]
def mnE (o : Option Int) : Int := if o.isSome then 0 else 10
theorem bad_ge {base n d : Int} (h : base ≤ d) : badD base n d = true := by simp [badD, h]
end Lx
set_option maxHeartbeats 2000000 in
theorem meanIn_10 (s : ByteArray) (w : World) (hs : s.size ≤ 1048576) :
  Calls Tryz.prog 87 #[.int .u64 10, .string s] w fun e w' => e = .returned (.tuple #[.int .u64 ((meanIn 10 s.data.toList).getD 0), .int .i64 (mnE (meanIn 10 s.data.toList))]) ∧ w = w' := by
 have hsz := sz s
 by_cases h0 : s.size = 0
 ·have he : s.toList = [] := by rw [ByteArray.toList_eq]; exact List.length_eq_zero_iff.1 (by omega)
  have hm : meanIn 10 s.data.toList = none := by unfold meanIn; rw [if_pos (List.length_eq_zero_iff.1 (by omega))]
  have HM := Lib.hid hm
  clear hm
  go_enter Tryz.func87, Tryz.ntmps87
  go_wp2
  go_ret2
  exact ⟨by rw [HM.out]; rfl, rfl⟩
 ·have he : s.toList.isEmpty = false := by rw [ByteArray.toList_eq]; cases hx : s.data.toList with | nil => rw [hx] at hsz; simp at hsz; omega
                                                                                                   | cons => rfl
  have he2 : (!s.toList.isEmpty) = true := by rw [he]; rfl
  have hm : meanIn 10 s.data.toList = mnD 10 0 (s.data.toList.drop 0) := by unfold meanIn; rw [if_neg (fun e => h0 (by rw [← hsz, e]; rfl))]; rfl
  have HM := Lib.hid hm
  clear hm
  go_enter Tryz.func87, Tryz.ntmps87
  go_wp2
  go_loop [6, 13] (fun a k => ∃ (j : Nat) (n : Int), j ≤ s.size ∧ a = .int .u64 n ∧ k = .int .i64 j ∧ 0 ≤ n ∧ n ≤ 9223372036854775807 ∧ Hid (meanIn 10 s.data.toList = mnD 10 n (s.data.toList.drop j))) (fun _ k => s.size - (intOf k).toNat)
  case atStart => exact ⟨0, 0, Nat.zero_le _, rfl, rfl, by omega, by omega, HM⟩
  case round =>
   obtain ⟨j, n, hj, rfl, rfl, n0, n1, HG⟩ := hrel
   clear HM
   by_cases hlt : j < s.size
   ·have hbb := byte_at s j hlt
    have hr := bt_range s[j]
    have hd := dv_range (bt s[j])
    have hstp := mnD_step (l := s.data.toList) (j := j) (n := n) (base := 10) (by omega)
    rw [← hbb] at hstp
    have HS := Lib.hid hstp
    have dj0 : (0 : Int) ≤ (j : Int) := by omega
    have dj1 : (j : Int) < (s.size : Int) := by omega
    clear hbb hstp
    go_wp2_with fail
    refine (digit_any (bt s[j]) _ hr.1 hr.2).mono ?_
    rintro e w' ⟨rfl, rfl⟩
    generalize dv (bt s[j]) = d at *
    obtain ⟨d0, d1⟩ := hd
    by_cases hge : 10 ≤ d
    ·have hg := HG.out
     rw [HS.out, if_pos (bad_ge hge)] at hg
     have HG2 := Lib.hid hg
     clear hg HG HS
     go_wp2
     go_ret2
     exact ⟨by rw [HG2.out]; rfl, rfl⟩
    ·have hlt2 : d < 10 := by omega
     by_cases hov : (9223372036854775807 - d) / 10 < n
     ·have hg := HG.out
      rw [HS.out, if_pos (by simp [badD, hov])] at hg
      have HG2 := Lib.hid hg
      clear hg HG HS
      go_wp2
      go_ret2
      exact ⟨by rw [HG2.out]; rfl, rfl⟩
     ·have hle : n ≤ (9223372036854775807 - d) / 10 := by omega
      have hnb : n * 10 + d ≤ 9223372036854775807 := by omega
      have hg := HG.out
      rw [HS.out, if_neg (by simp [badD]; omega)] at hg
      have HG2 := Lib.hid hg
      clear hg HG HS
      go_wp2
      go_round
      case rel => exact ⟨j + 1, n * 10 + d, by omega, rfl, by go_num, by omega, hnb, HG2⟩
      case measure => simp [intOf]; omega
   ·obtain rfl : j = s.size := by omega
    have hg := HG.out
    rw [List.drop_of_length_le (l := s.data.toList) (i := s.size) (by omega), mnD] at hg
    have HG2 := Lib.hid hg
    clear hg HG
    go_wp2
    go_ret2
    exact ⟨by rw [HG2.out]; rfl, rfl⟩
set_option maxHeartbeats 2000000 in
theorem meanIn_16 (s : ByteArray) (w : World) (hs : s.size ≤ 1048576) :
  Calls Tryz.prog 87 #[.int .u64 16, .string s] w fun e w' => e = .returned (.tuple #[.int .u64 ((meanIn 16 s.data.toList).getD 0), .int .i64 (mnE (meanIn 16 s.data.toList))]) ∧ w = w' := by
 have hsz := sz s
 by_cases h0 : s.size = 0
 ·have he : s.toList = [] := by rw [ByteArray.toList_eq]; exact List.length_eq_zero_iff.1 (by omega)
  have hm : meanIn 16 s.data.toList = none := by unfold meanIn; rw [if_pos (List.length_eq_zero_iff.1 (by omega))]
  have HM := Lib.hid hm
  clear hm
  go_enter Tryz.func87, Tryz.ntmps87
  go_wp2
  go_ret2
  exact ⟨by rw [HM.out]; rfl, rfl⟩
 ·have he : s.toList.isEmpty = false := by rw [ByteArray.toList_eq]; cases hx : s.data.toList with | nil => rw [hx] at hsz; simp at hsz; omega
                                                                                                   | cons => rfl
  have he2 : (!s.toList.isEmpty) = true := by rw [he]; rfl
  have hm : meanIn 16 s.data.toList = mnD 16 0 (s.data.toList.drop 0) := by unfold meanIn; rw [if_neg (fun e => h0 (by rw [← hsz, e]; rfl))]; rfl
  have HM := Lib.hid hm
  clear hm
  go_enter Tryz.func87, Tryz.ntmps87
  go_wp2
  go_loop [6, 13] (fun a k => ∃ (j : Nat) (n : Int), j ≤ s.size ∧ a = .int .u64 n ∧ k = .int .i64 j ∧ 0 ≤ n ∧ n ≤ 9223372036854775807 ∧ Hid (meanIn 16 s.data.toList = mnD 16 n (s.data.toList.drop j))) (fun _ k => s.size - (intOf k).toNat)
  case atStart => exact ⟨0, 0, Nat.zero_le _, rfl, rfl, by omega, by omega, HM⟩
  case round =>
   obtain ⟨j, n, hj, rfl, rfl, n0, n1, HG⟩ := hrel
   clear HM
   by_cases hlt : j < s.size
   ·have hbb := byte_at s j hlt
    have hr := bt_range s[j]
    have hd := dv_range (bt s[j])
    have hstp := mnD_step (l := s.data.toList) (j := j) (n := n) (base := 16) (by omega)
    rw [← hbb] at hstp
    have HS := Lib.hid hstp
    have dj0 : (0 : Int) ≤ (j : Int) := by omega
    have dj1 : (j : Int) < (s.size : Int) := by omega
    clear hbb hstp
    go_wp2_with fail
    refine (digit_any (bt s[j]) _ hr.1 hr.2).mono ?_
    rintro e w' ⟨rfl, rfl⟩
    generalize dv (bt s[j]) = d at *
    obtain ⟨d0, d1⟩ := hd
    by_cases hge : 16 ≤ d
    ·have hg := HG.out
     rw [HS.out, if_pos (bad_ge hge)] at hg
     have HG2 := Lib.hid hg
     clear hg HG HS
     go_wp2
     go_ret2
     exact ⟨by rw [HG2.out]; rfl, rfl⟩
    ·have hlt2 : d < 16 := by omega
     by_cases hov : (9223372036854775807 - d) / 16 < n
     ·have hg := HG.out
      rw [HS.out, if_pos (by simp [badD, hov])] at hg
      have HG2 := Lib.hid hg
      clear hg HG HS
      go_wp2
      go_ret2
      exact ⟨by rw [HG2.out]; rfl, rfl⟩
     ·have hle : n ≤ (9223372036854775807 - d) / 16 := by omega
      have hnb : n * 16 + d ≤ 9223372036854775807 := by omega
      have hg := HG.out
      rw [HS.out, if_neg (by simp [badD]; omega)] at hg
      have HG2 := Lib.hid hg
      clear hg HG HS
      go_wp2
      go_round
      case rel => exact ⟨j + 1, n * 16 + d, by omega, rfl, by go_num, by omega, hnb, HG2⟩
      case measure => simp [intOf]; omega
   ·obtain rfl : j = s.size := by omega
    have hg := HG.out
    rw [List.drop_of_length_le (l := s.data.toList) (i := s.size) (by omega), mnD] at hg
    have HG2 := Lib.hid hg
    clear hg HG
    go_wp2
    go_ret2
    exact ⟨by rw [HG2.out]; rfl, rfl⟩
namespace Lx
def isQ (l : List UInt8) : Bool := decide (l.length = 3) && decide (bt (l.getD 0 0) = 39) && qt (bt (l.getD 1 0)) && decide (bt (l.getD 2 0) = 39)
def meanV (l : List UInt8) : Option Int :=
 if isQ l then some (bt (l.getD 1 0)) else if 20 < l.length then none
 else if Lib.hasPrefix l [48, 120] then meanIn 16 (l.drop 2) else meanIn 10 l
end Lx
set_option maxHeartbeats 1000000 in
theorem isQuoted_any (s : ByteArray) (w : World) (hs : s.size ≤ 1048576) :
  Calls Tryz.prog 85 #[.string s] w fun e w' => e = .returned (.bool (isQ s.data.toList)) ∧ w = w' := by
 have hsz := sz s
 by_cases h3 : s.size = 3
 ·have b0 := byte_at s 0 (by omega)
  have b1 := byte_at s 1 (by omega)
  have b2 := byte_at s 2 (by omega)
  have hr := bt_range s[1]
  have hQ : isQ s.data.toList = (decide (bt s[0] = 39) && qt (bt s[1]) && decide (bt s[2] = 39)) := by
   unfold isQ; rw [hsz, b0, b1, b2]; simp [h3]
  have HQ := Lib.hid hQ
  have e3 : ((s.size : Int) == 3) = true := by rw [beq_iff_eq]; omega
  have l0 : (0 : Int) < (s.size : Int) := by omega
  have l1 : (1 : Int) < (s.size : Int) := by omega
  have l2 : (2 : Int) < (s.size : Int) := by omega
  clear hQ b0 b1 b2
  cases a0 : ((s[0].toNat : Int) == 39)
  ·have f0 : decide (bt s[0] = 39) = false := decide_eq_false (by unfold bt; simpa using a0)
   have F0 := Lib.hid f0
   clear f0
   go_enter Tryz.func85, Tryz.ntmps85
   go_wp2
   go_ret
   exact ⟨by rw [HQ.out, F0.out]; rfl, rfl⟩
  ·have f0 : decide (bt s[0] = 39) = true := decide_eq_true (by unfold bt; simpa using a0)
   have F0 := Lib.hid f0
   clear f0
   go_enter Tryz.func85, Tryz.ntmps85
   go_wp2_with fail
   refine (mayBeQuoted_any (bt s[1]) _ hr.1 hr.2).mono ?_
   rintro e w' ⟨rfl, rfl⟩
   cases hq : qt (bt s[1])
   ·go_wp2
    go_ret
    exact ⟨by rw [HQ.out, F0.out]; simp only [hq]; rfl, rfl⟩
   ·go_wp2
    go_ret
    refine ⟨retB ?_, rfl⟩
    rw [HQ.out, F0.out, hq]
    show ((s[2].toNat : Int) == 39) = true ↔ _
    simp only [beq_iff_eq, Bool.true_and]
    exact ⟨fun h => decide_eq_true h, fun h => of_decide_eq_true h⟩
 ·have e3 : ((s.size : Int) == 3) = false := beq_eq_false_iff_ne.mpr (by omega)
  have hQ : isQ s.data.toList = false := by unfold isQ; rw [hsz]; simp [h3]
  have HQ := Lib.hid hQ
  clear hQ
  go_enter Tryz.func85, Tryz.ntmps85
  go_wp2
  go_ret
  exact ⟨by rw [HQ.out]; rfl, rfl⟩
set_option maxHeartbeats 1000000 in
theorem mean_any (s : ByteArray) (w : World) (hs : s.size ≤ 1048576) :
  Calls Tryz.prog 64 #[.string s] w fun e w' => e = .returned (.tuple #[.int .u64 ((meanV s.data.toList).getD 0), .int .i64 (mnE (meanV s.data.toList))]) ∧ w = w' := by
 have hsz := sz s
 have HM : Hid (meanV s.data.toList = _) := Lib.hid (by unfold meanV; rfl)
 go_enter Tryz.func64, Tryz.ntmps64
 go_wp2_with fail
 refine (isQuoted_any s _ hs).mono ?_
 rintro e w' ⟨rfl, rfl⟩
 cases hq : isQ s.data.toList
 ·by_cases h20 : 20 < s.size
  ·have h20' : (20 : Int) < (s.size : Int) := by omega
   go_wp2
   go_ret2
   exact ⟨by rw [HM.out, if_neg (by rw [hq]; simp), if_pos (by omega)]; rfl, rfl⟩
  ·have h20' : ¬ (20 : Int) < (s.size : Int) := by omega
   go_wp2_with fail
   refine (Tryz.strings_CutPrefix _ _ _).mono ?_
   rintro e w' ⟨rfl, rfl⟩
   dsimp only
   cases hp : Lib.hasPrefix s.data.toList [48, 120]
   ·have ht : Lib.trimPrefix s.data.toList [48, 120] = s.data.toList := by unfold Lib.trimPrefix; rw [if_neg (by rw [hp]; simp)]
    rw [ht]
    clear ht
    go_wp2_with fail
    refine (meanIn_10 s _ hs).mono ?_
    rintro e w' ⟨rfl, rfl⟩
    have hm := HM.out
    rw [if_neg (by rw [hq]; simp), if_neg (by omega), if_neg (by rw [hp]; simp)] at hm
    have HM2 := Lib.hid hm
    clear hm
    go_wp2
    go_ret2
    exact ⟨by rw [HM2.out]; rfl, rfl⟩
   ·have ht : Lib.trimPrefix s.data.toList [48, 120] = s.data.toList.drop 2 := by unfold Lib.trimPrefix; rw [if_pos hp]; rfl
    rw [ht]
    have hd2 : (⟨(s.data.toList.drop 2).toArray⟩ : ByteArray).size ≤ 1048576 := by show ((s.data.toList.drop 2).toArray).size ≤ _; rw [List.size_toArray, List.length_drop]; omega
    clear ht
    go_wp2_with fail
    refine (meanIn_16 _ _ hd2).mono ?_
    rintro e w' ⟨rfl, rfl⟩
    have hm := HM.out
    rw [if_neg (by rw [hq]; simp), if_neg (by omega), if_pos hp] at hm
    have HM2 := Lib.hid hm
    clear hm
    go_wp2
    go_ret2
    exact ⟨by rw [HM2.out]; rfl, rfl⟩
 ·have h1 : 1 < s.size := by
   unfold isQ at hq
   simp [hsz] at hq
   omega
  have h1' : (1 : Int) < (s.size : Int) := by omega
  have b1 := byte_at s 1 h1
  have hm := HM.out
  rw [if_pos hq, ← b1] at hm
  have HM2 := Lib.hid hm
  clear hm b1
  obtain ⟨r0, r1⟩ : (0 : Int) ≤ (s[1].toNat : Int) ∧ (s[1].toNat : Int) ≤ 255 := bt_range s[1]
  go_wp2
  go_ret2
  exact ⟨by rw [HM2.out]; rfl, rfl⟩
namespace Lx
end Lx
namespace Lx
def wdTab : List (List UInt8) := [[99, 104, 97, 114], [105, 110, 116], [108, 111, 110, 103], [118, 111, 105, 100], [115, 116, 114, 117, 99, 116], [105, 102], [101, 108, 115, 101], [119, 104, 105, 108, 101], [114, 101, 116, 117, 114, 110], [98, 114, 101, 97, 107], [99, 111, 110, 116, 105, 110, 117, 101], [115, 105, 122, 101, 111, 102], [109, 97, 108, 108, 111, 99]]
def wdB (l : List UInt8) : Bool := wdTab.any fun x => l == x
end Lx
set_option maxHeartbeats 2000000 in
theorem isWord_any (s : ByteArray) (w : World) :
  Calls Tryz.prog 65 #[.string s] w fun e w' => e = .returned (.bool (wdB s.data.toList)) ∧ w = w' := by
 go_enter Tryz.func65, Tryz.ntmps65
 go_wp2
 all_goals
  go_ret
  refine ⟨retB ?_, rfl⟩
  rw [← ByteArray.toList_eq]
  simp_all [wdB, wdTab]
namespace Lx
end Lx
namespace Lx
def nwV (l : List UInt8) : Int × Nat := if 32 < tg l then (1, 0) else (if wdB (l.take (tg l)) then 4 else 1, tg l)
def nbL (l : List UInt8) : Nat := if bt (l.getD 0 0) = 39 then min 3 l.length else tg l
def nbV (l : List UInt8) : Nat := if (meanV (l.take (nbL l))).isSome then nbL l else 0
theorem nbL_le (l : List UInt8) : nbL l ≤ l.length := by
 unfold nbL; split
 ·omega
 ·exact tw_le _ _
theorem nbV_le (l : List UInt8) : nbV l ≤ l.length := by
 unfold nbV; split
 ·exact nbL_le l
 ·exact Nat.zero_le _
end Lx
set_option maxHeartbeats 1000000 in
theorem nameOrWord_any (s : ByteArray) (w : World) (hs : s.size ≤ 1048576) :
  Calls Tryz.prog 39 #[.string s] w fun e w' => e = .returned (.tuple #[.int .i64 (nwV s.data.toList).1, .int .i64 (nwV s.data.toList).2]) ∧ w = w' := by
 have hsz := sz s
 have hle := tw_le (fun c => nm (bt c)) s.data.toList
 change tg s.data.toList ≤ _ at hle
 rw [hsz] at hle
 have HV : Hid (nwV s.data.toList = _) := Lib.hid (by unfold nwV; rfl)
 go_enter Tryz.func39, Tryz.ntmps39
 go_wp2_with fail
 refine (together_any s _ (by omega)).mono ?_
 rintro e w' ⟨rfl, rfl⟩
 generalize tg s.data.toList = n at *
 by_cases h32 : 32 < n
 ·have h32' : (32 : Int) < (n : Int) := by omega
  go_wp2
  go_ret2
  exact ⟨by rw [HV.out, if_pos h32]; rfl, rfl⟩
 ·have h32' : ¬ (32 : Int) < (n : Int) := by omega
  have n0 : (0 : Int) ≤ (n : Int) := by omega
  have n1 : (n : Int) ≤ (s.size : Int) := by omega
  go_wp2_with fail
  refine (isWord_any _ _).mono ?_
  rintro e w' ⟨rfl, rfl⟩
  rw [Lib.extract_data, List.drop_zero, Nat.sub_zero]
  cases hq : wdB (s.data.toList.take n)
  ·go_wp2
   go_ret2
   exact ⟨by rw [HV.out, if_neg (by omega), hq]; rfl, rfl⟩
  ·go_wp2
   go_ret2
   exact ⟨by rw [HV.out, if_neg (by omega), hq]; rfl, rfl⟩
set_option maxHeartbeats 1000000 in
theorem number_any (s : ByteArray) (w : World) (hs : s.size ≤ 1048576) (h0 : 0 < s.size) :
  Calls Tryz.prog 37 #[.string s] w fun e w' => e = .returned (.int .i64 (nbV s.data.toList)) ∧ w = w' := by
 have hsz := sz s
 have b0 := byte_at s 0 h0
 have l0 : (0 : Int) < (s.size : Int) := by omega
 have hle := nbL_le s.data.toList
 rw [hsz] at hle
 have HV : Hid (nbV s.data.toList = _) := Lib.hid (by unfold nbV; rfl)
 have HL : Hid (nbL s.data.toList = if bt s[0] = 39 then min 3 s.size else tg s.data.toList) := Lib.hid (by unfold nbL; rw [← b0, hsz])
 clear b0
 have hcall : ∀ w : World, Calls Tryz.prog 64 #[.string (s.extract 0 (nbL s.data.toList))] w fun e w' => e = .returned (.tuple #[.int .u64 ((meanV (s.data.toList.take (nbL s.data.toList))).getD 0), .int .i64 (mnE (meanV (s.data.toList.take (nbL s.data.toList))))]) ∧ w = w' := fun w => by
  have hd : (s.extract 0 (nbL s.data.toList)).data.toList = s.data.toList.take (nbL s.data.toList) := by rw [Lib.extract_data, List.drop_zero, Nat.sub_zero]
  have := mean_any (s.extract 0 (nbL s.data.toList)) w (by rw [← sz, hd]; simp; omega)
  rwa [hd] at this
 have HC := Lib.hid hcall
 clear hcall
 go_enter Tryz.func37, Tryz.ntmps37
 go_wp2_with fail
 refine (together_any s _ (by omega)).mono ?_
 rintro e w' ⟨rfl, rfl⟩
 generalize meanV (s.data.toList.take (nbL s.data.toList)) = M at *
 generalize nbL s.data.toList = n at *
 have n0 : (0 : Int) ≤ (n : Int) := by omega
 have n1 : (n : Int) ≤ (s.size : Int) := by omega
 cases hq : ((s[0].toNat : Int) == 39)
 ·have hn := HL.out
  rw [if_neg (by simpa [bt] using hq)] at hn
  rw [← hn]
  clear hn
  go_wp2_with fail
  refine (HC.out _).mono ?_
  rintro e w' ⟨rfl, rfl⟩
  cases M with
  | none =>
   have hv := HV.out
   rw [if_neg (by simp)] at hv
   have HV2 := Lib.hid hv
   clear hv HV HL
   simp only [mnE, Option.isSome_none]
   go_wp2
   go_ret
   exact ⟨by rw [HV2.out]; rfl, rfl⟩
  | some m =>
   have hv := HV.out
   rw [if_pos (by simp)] at hv
   have HV2 := Lib.hid hv
   clear hv HV HL
   simp only [mnE, Option.isSome_some, if_true]
   go_wp2
   go_ret
   exact ⟨by rw [HV2.out]; rfl, rfl⟩
 ·have hn := HL.out
  rw [if_pos (by simpa [bt] using hq)] at hn
  have hmin : min (3 : Int) (s.size : Int) = (n : Int) := by omega
  clear hn
  go_wp2_with fail
  refine (HC.out _).mono ?_
  rintro e w' ⟨rfl, rfl⟩
  cases M with
  | none =>
   have hv := HV.out
   rw [if_neg (by simp)] at hv
   have HV2 := Lib.hid hv
   clear hv HV HL
   simp only [mnE, Option.isSome_none]
   go_wp2
   go_ret
   exact ⟨by rw [HV2.out]; rfl, rfl⟩
  | some m =>
   have hv := HV.out
   rw [if_pos (by simp)] at hv
   have HV2 := Lib.hid hv
   clear hv HV HL
   simp only [mnE, Option.isSome_some, if_true]
   go_wp2
   go_ret
   exact ⟨by rw [HV2.out]; rfl, rfl⟩
end Go.Proofs.YtfjobnljdkiihaaGreatDoor
