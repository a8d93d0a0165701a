/- Words and names of package lex and of the document. Conditions: each theorem's. -/
import Derived.Test.YtlobphanodhcoaaLexC
import Derived.Test.YtlobphanodhcoaaLexD
import Derived.Laws.Rows
import Derived.Deep.MidRow
namespace Go.Proofs.Ytlobphanodhcoaa
open Go.RowKit
set_option linter.unusedVariables false
set_option linter.unusedSimpArgs false
set_option maxRecDepth 10000
open Lx
namespace Lx
def wdTab : List (List UInt8) := [[99, 104, 97, 114], [105, 110, 116], [108, 111, 110, 103], [118, 111, 105, 100], [115, 116, 114, 117, 99, 116], [105, 102], [101, 108, 115, 101], [119, 104, 105, 108, 101], [114, 101, 116, 117, 114, 110], [98, 114, 101, 97, 107], [99, 111, 110, 116, 105, 110, 117, 101], [115, 105, 122, 101, 111, 102], [109, 97, 108, 108, 111, 99]]
def wdB (l : List UInt8) : Bool := wdTab.any fun x => l == x
end Lx
set_option maxHeartbeats 2000000 in
theorem isWord_any (s : ByteArray) (w : World) :
    Calls Try.prog 40 #[.string s] w fun e w' => e = .returned (.bool (wdB s.data.toList)) ∧ w = w' := by
  go_enter Try.func40, Try.ntmps40
  go_wp2
  all_goals
    go_ret
    refine ⟨retB ?_, rfl⟩
    rw [← ByteArray.toList_eq]
    simp_all [wdB, wdTab]
namespace Lx
def wdX (j : Nat) : ByteArray := ⟨(wdTab.getD j []).toArray⟩
theorem wdX_list (j : Nat) : (wdX j).toList = wdTab.getD j [] := by rw [ByteArray.toList_eq]; rfl
theorem wd_yes {l : List UInt8} {j : Nat} (hj : j < 13) (h : wdTab.getD j [] = l) : wdB l = true := by
  unfold wdB
  rw [List.any_eq_true]
  have hj' : j < wdTab.length := hj
  refine ⟨wdTab[j], List.getElem_mem _, ?_⟩
  rw [List.getD_eq_getElem?_getD, List.getElem?_eq_getElem hj'] at h
  rw [← h]; simp
theorem wd_no {l : List UInt8} (h : ∀ j, j < 13 → wdTab.getD j [] ≠ l) : wdB l = false := by
  unfold wdB
  rw [List.any_eq_false]
  intro x hx
  obtain ⟨j, hj, rfl⟩ := List.mem_iff_getElem.1 hx
  have := h j hj
  rw [List.getD_eq_getElem?_getD, List.getElem?_eq_getElem hj] at this
  simpa using fun e => this (Eq.symm e)
end Lx
theorem strs_row {w : World} {l : List ByteArray} {t : TypeId} {j : Nat} {x : ByteArray} {cs : Array Value} (hcs : cs = (l.map Value.string).toArray) (hx : l[j]? = some x) : (w.alloc (.cells cs t)).cell? ⟨w.heap.size, j, none⟩ = some (.string x) := by
  rw [cell_of_row _ _ _ _ _ _ (heap_alloc_new w _), hcs]
  simp [hx]
namespace Lx
/-- The kind and the bytes of what begins with a letter or _. -/
def nwV (l : List UInt8) : Int × Nat := if 32 < tg l then (1, 0) else (if wdB (l.take (tg l)) then 4 else 1, tg l)
/-- The bytes of a TNum. -/
def nbL (l : List UInt8) : Nat := if bt (l.getD 0 0) = 39 then min 3 l.length else tg l
def nbV (l : List UInt8) : Nat := if (meanV (l.take (nbL l))).isSome then nbL l else 0
theorem nbL_le (l : List UInt8) : nbL l ≤ l.length := by
  unfold nbL; split
  · omega
  · exact tw_le _ _
theorem nbV_le (l : List UInt8) : nbV l ≤ l.length := by
  unfold nbV; split
  · exact nbL_le l
  · exact Nat.zero_le _
end Lx
theorem retII {a b x y : Int} (h : a = b) (h2 : x = y) : Ending.returned (.tuple #[.int .i64 a, .int .i64 x]) = Ending.returned (.tuple #[.int .i64 b, .int .i64 y]) := by rw [h, h2]
set_option maxHeartbeats 1000000 in
theorem nameOrWord_any (s : ByteArray) (w : World) (hs : s.size ≤ 1048576) :
    Calls Try.prog 24 #[.string s] w fun e w' => e = .returned (.tuple #[.int .i64 (nwV s.data.toList).1, .int .i64 (nwV s.data.toList).2]) ∧ w = w' := by
  have hsz := sz s
  have hle := tw_le (fun c => nm (bt c)) s.data.toList
  change tg s.data.toList ≤ _ at hle
  rw [hsz] at hle
  have HV : Hid (nwV s.data.toList = _) := Lib.hid (by unfold nwV; rfl)
  go_enter Try.func24, Try.ntmps24
  go_wp2_with fail
  refine (together_any s _ (by omega)).mono ?_
  rintro e w' ⟨rfl, rfl⟩
  generalize tg s.data.toList = n at *
  by_cases h32 : 32 < n
  · have h32' : (32 : Int) < (n : Int) := by omega
    go_wp2
    go_ret2
    exact ⟨by rw [HV.out, if_pos h32]; rfl, rfl⟩
  · have h32' : ¬ (32 : Int) < (n : Int) := by omega
    have n0 : (0 : Int) ≤ (n : Int) := by omega
    have n1 : (n : Int) ≤ (s.size : Int) := by omega
    go_wp2_with fail
    refine (isWord_any _ _).mono ?_
    rintro e w' ⟨rfl, rfl⟩
    rw [Lib.extract_data, List.drop_zero, Nat.sub_zero]
    cases hq : wdB (s.data.toList.take n)
    · go_wp2
      go_ret2
      exact ⟨by rw [HV.out, if_neg (by omega), hq]; rfl, rfl⟩
    · go_wp2
      go_ret2
      exact ⟨by rw [HV.out, if_neg (by omega), hq]; rfl, rfl⟩
set_option maxHeartbeats 1000000 in
theorem number_any (s : ByteArray) (w : World) (hs : s.size ≤ 1048576) (h0 : 0 < s.size) :
    Calls Try.prog 22 #[.string s] w fun e w' => e = .returned (.int .i64 (nbV s.data.toList)) ∧ w = w' := by
  have hsz := sz s
  have b0 := byte_at s 0 h0
  have l0 : (0 : Int) < (s.size : Int) := by omega
  have hle := nbL_le s.data.toList
  rw [hsz] at hle
  have HV : Hid (nbV s.data.toList = _) := Lib.hid (by unfold nbV; rfl)
  have HL : Hid (nbL s.data.toList = if bt s[0] = 39 then min 3 s.size else tg s.data.toList) := Lib.hid (by unfold nbL; rw [← b0, hsz])
  clear b0
  have hcall : ∀ w : World, Calls Try.prog 39 #[.string (s.extract 0 (nbL s.data.toList))] w fun e w' => e = .returned (.tuple #[.int .u64 ((meanV (s.data.toList.take (nbL s.data.toList))).getD 0), .int .i64 (mnE (meanV (s.data.toList.take (nbL s.data.toList))))]) ∧ w = w' := fun w => by
    have hd : (s.extract 0 (nbL s.data.toList)).data.toList = s.data.toList.take (nbL s.data.toList) := by rw [Lib.extract_data, List.drop_zero, Nat.sub_zero]
    have := mean_any (s.extract 0 (nbL s.data.toList)) w (by rw [← sz, hd]; simp; omega)
    rwa [hd] at this
  have HC := Lib.hid hcall
  clear hcall
  go_enter Try.func22, Try.ntmps22
  go_wp2_with fail
  refine (together_any s _ (by omega)).mono ?_
  rintro e w' ⟨rfl, rfl⟩
  generalize meanV (s.data.toList.take (nbL s.data.toList)) = M at *
  generalize nbL s.data.toList = n at *
  have n0 : (0 : Int) ≤ (n : Int) := by omega
  have n1 : (n : Int) ≤ (s.size : Int) := by omega
  cases hq : ((s[0].toNat : Int) == 39)
  · have hn := HL.out
    rw [if_neg (by simpa [bt] using hq)] at hn
    rw [← hn]
    clear hn
    go_wp2_with fail
    refine (HC.out _).mono ?_
    rintro e w' ⟨rfl, rfl⟩
    cases M with
    | none =>
      have hv := HV.out
      rw [if_neg (by simp)] at hv
      have HV2 := Lib.hid hv
      clear hv HV HL
      simp only [mnE, Option.isSome_none]
      go_wp2
      go_ret
      exact ⟨by rw [HV2.out]; rfl, rfl⟩
    | some m =>
      have hv := HV.out
      rw [if_pos (by simp)] at hv
      have HV2 := Lib.hid hv
      clear hv HV HL
      simp only [mnE, Option.isSome_some, if_true]
      go_wp2
      go_ret
      exact ⟨by rw [HV2.out]; rfl, rfl⟩
  · have hn := HL.out
    rw [if_pos (by simpa [bt] using hq)] at hn
    have hmin : min (3 : Int) (s.size : Int) = (n : Int) := by omega
    clear hn
    go_wp2_with fail
    refine (HC.out _).mono ?_
    rintro e w' ⟨rfl, rfl⟩
    cases M with
    | none =>
      have hv := HV.out
      rw [if_neg (by simp)] at hv
      have HV2 := Lib.hid hv
      clear hv HV HL
      simp only [mnE, Option.isSome_none]
      go_wp2
      go_ret
      exact ⟨by rw [HV2.out]; rfl, rfl⟩
    | some m =>
      have hv := HV.out
      rw [if_pos (by simp)] at hv
      have HV2 := Lib.hid hv
      clear hv HV HL
      simp only [mnE, Option.isSome_some, if_true]
      go_wp2
      go_ret
      exact ⟨by rw [HV2.out]; rfl, rfl⟩
end Go.Proofs.Ytlobphanodhcoaa
