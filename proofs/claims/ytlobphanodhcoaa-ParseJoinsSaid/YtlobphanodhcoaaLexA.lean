/- Package lex: how many bytes go together. Conditions: each theorem's. -/
import Derived.Test.YtlobphanodhcoaaLexH
import Derived.Test.YtlobphanodhcoaaShelf
namespace Go.Proofs.Ytlobphanodhcoaa
open Go.RowKit
set_option linter.unusedVariables false
set_option linter.unusedSimpArgs false
set_option maxRecDepth 10000
open Lx
namespace Lx
/-- How many bytes a list begins with that are so. -/
def tw (p : UInt8 → Bool) : List UInt8 → Nat
  | [] => 0
  | c :: l => if p c then tw p l + 1 else 0
theorem tw_le (p : UInt8 → Bool) (l : List UInt8) : tw p l ≤ l.length := by
  induction l with
  | nil => simp [tw]
  | cons c l ih => simp only [tw]; split <;> simp <;> omega
theorem tw_eq (p : UInt8 → Bool) (l : List UInt8) (k : Nat) (hk : k ≤ l.length) (h : ∀ i, i < k → p (l.getD i 0) = true) (hs : k = l.length ∨ p (l.getD k 0) = false) : tw p l = k := by
  induction l generalizing k with
  | nil => simp at hk; simp [tw, hk]
  | cons c l ih =>
    cases k with
    | zero =>
      rcases hs with hs | hs
      · simp at hs
      · rw [List.getD_cons_zero] at hs
        simp [tw, hs]
    | succ k =>
      have h0 := h 0 (by omega)
      rw [List.getD_cons_zero] at h0
      simp only [tw, h0, if_true]
      rw [ih k (by simpa using hk) (fun i hi => by have := h (i + 1) (by omega); rwa [List.getD_cons_succ] at this)]
      rcases hs with hs | hs
      · exact .inl (by simpa using hs)
      · exact .inr (by rwa [List.getD_cons_succ] at hs)
theorem tw_in (p : UInt8 → Bool) (l : List UInt8) (i : Nat) (h : i < tw p l) : p (l.getD i 0) = true := by
  induction l generalizing i with
  | nil => simp [tw] at h
  | cons c l ih =>
    simp only [tw] at h
    split at h
    · cases i with
      | zero => rwa [List.getD_cons_zero]
      | succ i => rw [List.getD_cons_succ]; exact ih i (by omega)
    · omega
theorem tw_stop (p : UInt8 → Bool) (l : List UInt8) (h : tw p l < l.length) : p (l.getD (tw p l) 0) = false := by
  induction l with
  | nil => simp at h
  | cons c l ih =>
    simp only [tw] at h ⊢
    split
    · rename_i hc
      rw [if_pos hc] at h
      rw [List.getD_cons_succ]
      exact ih (by simpa using h)
    · rw [List.getD_cons_zero]; simpa using ‹¬ p c = true›
def bt (c : UInt8) : Int := (c.toNat : Int)
theorem bt_range (c : UInt8) : 0 ≤ bt c ∧ bt c ≤ 255 := by unfold bt; have := UInt8.toNat_lt c; omega
def tg (l : List UInt8) : Nat := tw (fun c => nm (bt c)) l
def ln (l : List UInt8) : Nat := tw (fun c => !decide (c = 10)) l
theorem ix_ln (l : List UInt8) : Lib.indexByte l 10 = if ln l = l.length then -1 else (ln l : Int) := by
  induction l with
  | nil => rfl
  | cons c l ih =>
    simp only [Lib.indexByte, ln, tw]
    by_cases h : c = 10
    · subst h; simp
    · have h' : (c == 10) = false := by simpa using h
      rw [h']
      simp only [h, decide_false, Bool.not_false, if_true]
      change (if Lib.indexByte l 10 == -1 then -1 else Lib.indexByte l 10 + 1) = if ln l + 1 = (c :: l).length then -1 else ((ln l + 1 : Nat) : Int)
      rw [ih]
      by_cases e : ln l = l.length
      · rw [if_pos e, if_pos (by simp), if_pos (by simp [e])]
      · have e2 : ¬ ln l + 1 = (c :: l).length := by simpa using e
        rw [if_neg e, if_neg e2, if_neg (by rw [beq_iff_eq]; omega)]
        omega
end Lx
theorem sz (s : ByteArray) : s.data.toList.length = s.size := (Lib.size_eq s).symm
theorem byte_at (s : ByteArray) (k : Nat) (h : k < s.size) : s[k] = s.data.toList.getD k 0 := by
  have h' : k < s.data.toList.length := by rw [sz]; exact h
  rw [List.getD_eq_getElem?_getD, List.getElem?_eq_getElem h']
  rfl
set_option maxHeartbeats 1000000 in
theorem together_any (s : ByteArray) (w : World) (hs : s.size ≤ 1099511627776) :
    Calls Try.prog 38 #[.string s] w fun e w' => e = .returned (.int .i64 (tg s.data.toList)) ∧ w = w' := by
  have hsz := sz s
  go_enter Try.func38, Try.ntmps38
  go_wp2
  go_loop [6] (fun k => ∃ j : Nat, j ≤ s.size ∧ k = .int .i64 j ∧ ∀ i, i < j → nm (bt (s.data.toList.getD i 0)) = true) (fun k => s.size - (intOf k).toNat)
  case atStart => exact ⟨0, Nat.zero_le _, rfl, fun i hi => by omega⟩
  case round =>
    obtain ⟨j, hj, rfl, hno⟩ := hrel
    by_cases hlt : j < s.size
    · have hb := byte_at s j hlt
      have hr := bt_range s[j]
      have HE := Lib.hid (tw_eq (fun c => nm (bt c)) s.data.toList j (by omega) hno)
      have HN := Lib.hid hno
      have HB := Lib.hid hb
      clear hno hb
      go_wp2_with fail
      refine (nm_any (bt s[j]) _ hr.1 hr.2).mono ?_
      rintro e w' ⟨rfl, rfl⟩
      cases hq : nm (bt s[j])
      · have hq' : nm (bt (s.data.toList.getD j 0)) = false := by rw [← HB.out]; exact hq
        have HT := Lib.hid (HE.out (.inr hq'))
        clear hq'
        go_wp2
        go_ret
        refine ⟨retI ?_, rfl⟩
        show (j : Int) = _
        rw [show tg s.data.toList = j from HT.out]
      · go_wp2
        go_round
        case rel =>
          refine ⟨j + 1, by omega, by go_num, fun i hi => ?_⟩
          rcases Nat.lt_or_ge i j with h | h
          · exact HN.out i h
          · obtain rfl : i = j := by omega
            rw [← HB.out]; exact hq
        case measure => simp [intOf]; omega
    · obtain rfl : j = s.size := by omega
      have HT := Lib.hid (tw_eq (fun c => nm (bt c)) s.data.toList s.size (by omega) hno (.inl hsz.symm))
      clear hno
      go_wp2
      go_ret
      refine ⟨retI ?_, rfl⟩
      show (s.size : Int) = _
      rw [show tg s.data.toList = s.size from HT.out]
set_option maxHeartbeats 1000000 in
theorem line_any (s : ByteArray) (w : World) (hs : s.size ≤ 1099511627776) :
    Calls Try.prog 36 #[.string s] w fun e w' => e = .returned (.int .i64 (ln s.data.toList)) ∧ w = w' := by
  have hsz := sz s
  have hle := tw_le (fun c => !decide (c = 10)) s.data.toList
  change ln s.data.toList ≤ _ at hle
  have HI := Lib.hid (ix_ln s.data.toList)
  go_enter Try.func36, Try.ntmps36
  go_wp2_with (go_at_call 50; refine (Try.strings_IndexByte _ _ _).mono ?_; rintro e w' ⟨rfl, rfl⟩)
  · have hx : 0 ≤ Lib.indexByte s.data.toList 10 := by assumption
    have hi := HI.out
    go_ret
    refine ⟨retI ?_, rfl⟩
    show Lib.indexByte s.data.toList 10 = _
    by_cases h : ln s.data.toList = s.data.toList.length
    · rw [if_pos h] at hi; omega
    · rw [if_neg h] at hi; exact hi
  · have hx : Lib.indexByte s.data.toList 10 < 0 := by assumption
    have hi := HI.out
    go_ret
    refine ⟨retI ?_, rfl⟩
    show (s.size : Int) = _
    by_cases h : ln s.data.toList = s.data.toList.length
    · omega
    · rw [if_neg h] at hi; omega
namespace Lx
/-- Blanks and remarks: how many bytes of one of them a list begins with; none, if a remark has no end. -/
def og (l : List UInt8) : Option Nat :=
  if bl (bt (l.getD 0 0)) then some 1
  else if Lib.hasPrefix l [47, 47] then some (ln l)
  else if !Lib.hasPrefix l [47, 42] then some 0
  else if Lib.index (l.drop 2) [42, 47] < 0 then none else some (4 + (Lib.index (l.drop 2) [42, 47]).toNat)
end Lx
theorem ix_le (l sub : List UInt8) : Lib.index l sub ≤ l.length := by
  induction l with
  | nil => simp only [Lib.index]; split <;> simp
  | cons b l ih =>
    have hc : ((b :: l).length : Int) = l.length + 1 := by simp
    simp only [Lib.index]
    rw [hc]
    split
    · omega
    · split <;> omega
theorem ext_end (s : ByteArray) (k : Nat) : (s.extract k s.size).data.toList = s.data.toList.drop k := by
  exact Lib.extract_to_end s k
/-- The library's variable for short texts holds some number. -/
def MaxIs (w : World) : Prop := ∃ m : Int, w.cell? ⟨0, 0, none⟩ = some (.int .i64 m)
theorem MaxIs.keep {w w' : World} (h : MaxIs w) (hb : Below w.heap.size w w') : MaxIs w' := by
  obtain ⟨m, hm⟩ := h
  exact ⟨m, (hb.cell (p := ⟨0, 0, none⟩) (World.block_lt_of_cell? w _ hm)).trans hm⟩
theorem maxIs_of {w : World} (h : w.ShapedOpen Try.prog) : MaxIs w := Try.laysM143.s1_3 w h
set_option maxHeartbeats 1000000 in
theorem oneGap_any (s : ByteArray) (w : World) (hs : s.size ≤ 1048576) (h0 : 0 < s.size) (hsh : MaxIs w) :
    Calls Try.prog 20 #[.string s] w fun e w' => e = .returned (.tuple #[.int .i64 ((og s.data.toList).getD 0), .bool (og s.data.toList).isSome]) ∧ w = w' := by
  have hsz := sz s
  obtain ⟨mm, hmm⟩ := hsh
  have hb := byte_at s 0 h0
  have hr := bt_range s[0]
  have HB := Lib.hid hb
  clear hb
  go_enter Try.func20, Try.ntmps20
  go_wp2_with fail
  refine (isBlank_any (bt s[0]) _ hr.1 hr.2).mono ?_
  rintro e w' ⟨rfl, rfl⟩
  cases hq : bl (bt s[0])
  · have h1 : bl (bt (s.data.toList.getD 0 0)) = false := by rw [← HB.out]; exact hq
    have H1 := Lib.hid h1
    clear h1
    go_wp2_with fail
    refine (Try.strings_HasPrefix _ _ _).mono ?_
    rintro e w' ⟨rfl, rfl⟩
    cases hq2 : Lib.hasPrefix s.data.toList [47, 47]
    · go_wp2_with fail
      refine (Try.strings_HasPrefix _ _ _).mono ?_
      rintro e w' ⟨rfl, rfl⟩
      have hlen : Lib.hasPrefix s.data.toList [47, 42] = true → 2 ≤ s.size := fun h => by
        have := (List.isPrefixOf_iff_prefix.1 h).length_le
        rw [hsz] at this; exact this
      cases hq3 : Lib.hasPrefix s.data.toList [47, 42]
      · go_wp2
        go_ret2
        exact ⟨by unfold og; rw [if_neg (by rw [H1.out]; simp), hq2, hq3]; rfl, rfl⟩
      · have h2 := hlen hq3
        have h2' : (2 : Int) ≤ (s.size : Int) := by omega
        have hex := ext_end s 2
        have hxs : (s.extract 2 s.size).size < 4294967281 := by rw [← sz, hex]; simp; omega
        have hge := Lib.index_ge (s.data.toList.drop 2) [42, 47]
        have hle := ix_le (s.data.toList.drop 2) [42, 47]
        have HX := Lib.hid hex
        clear hlen hex
        go_wp2_with fail
        refine (Try.strings_Index _ _ mm _ hxs hmm).mono ?_
        rintro e w' ⟨rfl, rfl⟩
        rw [HX.out]
        have ho : og s.data.toList = if Lib.index (s.data.toList.drop 2) [42, 47] < 0 then none else some (4 + (Lib.index (s.data.toList.drop 2) [42, 47]).toNat) := by
          unfold og; rw [if_neg (by rw [H1.out]; simp), hq2, hq3]; rfl
        have HO := Lib.hid ho
        have hl2 : (s.data.toList.drop 2).length ≤ 1048576 := by simp; omega
        clear ho HX hxs
        generalize Lib.index (s.data.toList.drop 2) [42, 47] = ix at *
        by_cases hneg : ix < 0
        · go_wp2
          go_ret2
          exact ⟨by rw [HO.out, if_pos (by omega)]; rfl, rfl⟩
        · have hp : 0 ≤ ix := by omega
          have hm : ix ≤ 1048576 := by omega
          go_wp2
          go_ret2
          refine ⟨?_, rfl⟩
          rw [HO.out, if_neg (by omega)]
          show Ending.returned (.tuple #[.int .i64 (2 + ix + 2), .bool true]) = Ending.returned (.tuple #[.int .i64 ((4 + ix.toNat : Nat) : Int), .bool true])
          rw [show (2 + ix + 2 : Int) = ((4 + ix.toNat : Nat) : Int) by omega]
    · go_wp2_with fail
      refine (line_any s _ (by omega)).mono ?_
      rintro e w' ⟨rfl, rfl⟩
      go_wp2
      go_ret2
      exact ⟨by unfold og; rw [if_neg (by rw [H1.out]; simp), hq2]; rfl, rfl⟩
  · have h1 : bl (bt (s.data.toList.getD 0 0)) = true := by rw [← HB.out]; exact hq
    have H1 := Lib.hid h1
    clear h1
    go_wp2
    go_ret2
    exact ⟨by unfold og; rw [if_pos H1.out]; rfl, rfl⟩
end Go.Proofs.Ytlobphanodhcoaa
