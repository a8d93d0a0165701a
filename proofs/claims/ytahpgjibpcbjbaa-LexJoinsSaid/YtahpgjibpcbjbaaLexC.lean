/- The document's gaps between tokens. Conditions: each theorem's. -/
import Derived.Test.YtahpgjibpcbjbaaLexB
namespace Go.Proofs.Ytahpgjibpcbjbaa
open Go.RowKit
set_option linter.unusedVariables false
set_option linter.unusedSimpArgs false
set_option maxRecDepth 10000
open Lx
theorem pre_take (l p : List UInt8) : p.isPrefixOf l = (l.take p.length == p) := by
  induction p generalizing l with
  | nil => simp
  | cons c p ih =>
    cases l with
    | nil => simp
    | cons b l =>
      simp only [List.isPrefixOf, List.length_cons, List.take_succ_cons]
      rw [ih, Bool.eq_iff_iff]
      simp
      intro _
      exact eq_comm
theorem pre_long {l p : List UInt8} (h : l.length < p.length) : p.isPrefixOf l = false := by
  cases hq : p.isPrefixOf l with
  | false => rfl
  | true => have := (List.isPrefixOf_iff_prefix.1 hq).length_le; omega
set_option maxHeartbeats 1000000 in
theorem starts_any (s what : ByteArray) (k : Nat) (w : World) (hs : s.size ≤ 1048576) (hk : k ≤ s.size) (hw : what.size ≤ 1048576) :
    Calls Try.prog 26 #[.string s, .int .i64 k, .string what] w fun e w' => e = .returned (.bool (Lib.hasPrefix (s.data.toList.drop k) what.data.toList)) ∧ w = w' := by
  have hsz := sz s
  have hwz := sz what
  have hlong := fun h => pre_long (l := s.data.toList.drop k) (p := what.data.toList) h
  have htk := pre_take (s.data.toList.drop k) what.data.toList
  have HA := Lib.hid (And.intro hlong htk)
  clear hlong htk
  by_cases hf : k + what.size ≤ s.size
  · have hf' : (k : Int) + (what.size : Int) ≤ (s.size : Int) := by omega
    have k0 : (0 : Int) ≤ (k : Int) := by omega
    go_enter Try.func26, Try.ntmps26
    go_wp2
    go_ret
    refine ⟨retB ?_, rfl⟩
    show ((s.extract k (k + what.size)).toList == what.toList) = true ↔ _
    rw [ByteArray.toList_eq, ByteArray.toList_eq, Lib.extract_data]
    unfold Lib.hasPrefix
    rw [HA.out.2, hwz, show k + what.size - k = what.size by omega]
  · have hf' : decide ((k : Int) + (what.size : Int) ≤ (s.size : Int)) = false := decide_eq_false (by omega)
    go_enter Try.func26, Try.ntmps26
    go_wp2
    go_ret
    refine ⟨retB ?_, rfl⟩
    unfold Lib.hasPrefix
    rw [HA.out.1 (by simp; omega)]
namespace Lx
theorem bl_or (c : Int) : bl c = true ↔ c = 32 ∨ c = 9 ∨ c = 10 ∨ c = 13 := by simp [bl]; omega
/-- og, told by what a list begins with. -/
theorem og_blank {l : List UInt8} (h : bl (bt (l.getD 0 0)) = true) : og l = some 1 := by unfold og; rw [if_pos h]
theorem og_line {l : List UInt8} (h : bl (bt (l.getD 0 0)) = false) (h2 : Lib.hasPrefix l [47, 47] = true) : og l = some (ln l) := by unfold og; rw [if_neg (by rw [h]; simp), if_pos h2]
theorem og_none {l : List UInt8} (h : bl (bt (l.getD 0 0)) = false) (h2 : Lib.hasPrefix l [47, 47] = false) (h3 : Lib.hasPrefix l [47, 42] = false) : og l = some 0 := by unfold og; rw [if_neg (by rw [h]; simp), if_neg (by rw [h2]; simp), h3]; rfl
theorem og_open {l : List UInt8} (h : bl (bt (l.getD 0 0)) = false) (h2 : Lib.hasPrefix l [47, 47] = false) (h3 : Lib.hasPrefix l [47, 42] = true) (h4 : Lib.index (l.drop 2) [42, 47] = -1) : og l = none := by
  unfold og; rw [if_neg (by rw [h]; simp), if_neg (by rw [h2]; simp), h3, if_neg (by simp), if_pos (by omega)]
theorem og_shut {l : List UInt8} {i : Nat} (h : bl (bt (l.getD 0 0)) = false) (h2 : Lib.hasPrefix l [47, 47] = false) (h3 : Lib.hasPrefix l [47, 42] = true) (h4 : Lib.index (l.drop 2) [42, 47] = i) : og l = some (4 + i) := by
  unfold og; rw [if_neg (by rw [h]; simp), if_neg (by rw [h2]; simp), h3, if_neg (by simp), if_neg (by omega), h4]; rfl
theorem ln_two {l : List UInt8} (h : Lib.hasPrefix l [47, 47] = true) : ln l ≠ 0 := by
  cases l with
  | nil => simp [Lib.hasPrefix] at h
  | cons c l =>
    have : c = 47 := by simp [Lib.hasPrefix] at h; exact h.1.symm
    subst this
    simp [ln, tw]
theorem drop_zero_at (l : List UInt8) (j : Nat) : (l.drop j).getD 0 0 = l.getD j 0 := by simp [List.getD_eq_getElem?_getD]
end Lx
theorem retIB {a b : Int} {x y : Bool} (h : a = b) (h2 : x = y) : Ending.returned (.tuple #[.int .i64 a, .bool x]) = Ending.returned (.tuple #[.int .i64 b, .bool y]) := by rw [h, h2]
set_option maxHeartbeats 4000000 in
theorem rgap_any (s : ByteArray) (k : Nat) (w : World) (hs : s.size ≤ 1048576) (hk : k ≤ s.size) :
    Calls Try.prog 20 #[.string s, .int .i64 k] w fun e w' => e = .returned (.tuple #[.int .i64 ((k : Int) + ((gapV (s.data.toList.drop k)).1 : Int)), .bool (gapV (s.data.toList.drop k)).2]) ∧ w = w' := by
  have hsz := sz s
  go_enter Try.func20, Try.ntmps20
  go_wp2
  go_loop [1, 6] (fun a _ => ∃ j : Nat, j ≤ s.size ∧ a = .int .i64 j ∧ Hid (k + (gapV (s.data.toList.drop k)).1 = j + (gapV (s.data.toList.drop j)).1 ∧ (gapV (s.data.toList.drop k)).2 = (gapV (s.data.toList.drop j)).2)) (fun a _ => s.size - (intOf a).toNat)
  case atStart => exact ⟨k, hk, rfl, Lib.hid ⟨rfl, rfl⟩⟩
  case round =>
    obtain ⟨j, hj, rfl, HG⟩ := hrel
    by_cases hlt : j < s.size
    · have hne : s.data.toList.drop j ≠ [] := by
        intro e; have := congrArg List.length e; simp at this; omega
      have hb := byte_at s j hlt
      have hr := bt_range s[j]
      have H0 := Lib.hid ((drop_zero_at s.data.toList j).trans hb.symm)
      have HNE := Lib.hid hne
      clear hne hb
      have dj0 : (0 : Int) ≤ (j : Int) := by omega
      have dj1 : (j : Int) < (s.size : Int) := by omega
      cases hq : bl (bt s[j])
      · have HB := Lib.hid (show bl (bt ((s.data.toList.drop j).getD 0 0)) = false by rw [H0.out]; exact hq)
        have hnb : ¬ (bt s[j] = 32 ∨ bt s[j] = 9 ∨ bt s[j] = 10 ∨ bt s[j] = 13) := fun h => by rw [(bl_or _).2 h] at hq; cases hq
        have n1 : ((s[j].toNat : Int) == 32) = false := beq_eq_false_iff_ne.mpr fun e => hnb (.inl e)
        have n2 : ((s[j].toNat : Int) == 9) = false := beq_eq_false_iff_ne.mpr fun e => hnb (.inr (.inl e))
        have n3 : ((s[j].toNat : Int) == 10) = false := beq_eq_false_iff_ne.mpr fun e => hnb (.inr (.inr (.inl e)))
        have n4 : ((s[j].toNat : Int) == 13) = false := beq_eq_false_iff_ne.mpr fun e => hnb (.inr (.inr (.inr e)))
        clear hq hnb
        go_wp2_with fail
        refine (starts_any s ⟨#[47, 47]⟩ j _ hs hj (by decide)).mono ?_
        rintro e w' ⟨rfl, rfl⟩
        dsimp only
        cases hq1 : Lib.hasPrefix (s.data.toList.drop j) [47, 47]
        · clear n1 n2 n3 n4
          go_wp2_with fail
          refine (starts_any s ⟨#[47, 42]⟩ j _ hs hj (by decide)).mono ?_
          rintro e w' ⟨rfl, rfl⟩
          dsimp only
          cases hq2 : Lib.hasPrefix (s.data.toList.drop j) [47, 42]
          · have hg := HG.out
            rw [gap_stop HNE.out (og_none HB.out hq1 hq2)] at hg
            have HG2 := Lib.hid hg
            clear hg hq1 hq2
            go_wp2
            go_ret2
            obtain ⟨g1, g2⟩ := HG2.out
            refine ⟨retIB ?_ ?_, rfl⟩
            · show (j : Int) = _; omega
            · exact g2.symm
          · have h2 : j + 2 ≤ s.size := by
              have := (List.isPrefixOf_iff_prefix.1 hq2).length_le
              simp at this; omega
            have H12 := Lib.hid (And.intro hq1 hq2)
            have hj2 : (j : Int) + 2 ≤ (s.size : Int) := by omega
            clear hq1 hq2
            go_wp2_with fail
            go_loop [6] (fun b => ∃ i : Nat, b = .int .i64 ((j : Int) + 2 + i) ∧ j + 2 + i ≤ s.size ∧ Hid (Lib.NoOcc (s.data.toList.drop (j + 2)) [42, 47] i)) (fun b => s.size - (intOf b).toNat)
            case atStart => exact ⟨0, by simp, by omega, Lib.hid (Lib.NoOcc.zero _ _)⟩
            case round =>
              obtain ⟨i, rfl, hi, HO⟩ := hrel
              by_cases hlt2 : j + 2 + i < s.size
              · have e0 : (0 : Int) ≤ (j : Int) + 2 + (i : Int) := by omega
                have e1 : (j : Int) + 2 + (i : Int) < (s.size : Int) := by omega
                have hst := starts_any s ⟨#[42, 47]⟩ (j + 2 + i) w hs (by omega) (by decide)
                rw [show ((j + 2 + i : Nat) : Int) = (j : Int) + 2 + (i : Int) by omega] at hst
                have hoc : Lib.hasPrefix (s.data.toList.drop (j + 2 + i)) [42, 47] = Lib.occAt (s.data.toList.drop (j + 2)) [42, 47] i := by unfold Lib.hasPrefix Lib.occAt; rw [List.drop_drop]
                dsimp only at hst
                rw [hoc] at hst
                clear hoc
                go_wp2_with fail
                refine hst.mono ?_
                rintro e w' ⟨rfl, rfl⟩
                clear hst
                cases hoc : Lib.occAt (s.data.toList.drop (j + 2)) [42, 47] i
                · go_wp2
                  go_round
                  case rel => exact ⟨i + 1, by go_num, by omega, Lib.hid (Lib.NoOcc.succ HO.out hoc)⟩
                  case measure => simp [intOf]; omega
                · have hro := Lib.occAt_room hoc
                  simp at hro
                  have hix := Lib.index_hit HO.out (by simp; omega) hoc
                  have hg := HG.out
                  rw [gap_step HNE.out (og_shut HB.out H12.out.1 H12.out.2 (by rw [List.drop_drop]; exact hix)) (by omega), List.drop_drop] at hg
                  have HG2 := Lib.hid hg
                  have e2 : decide ((s.size : Int) ≤ (j : Int) + 2 + (i : Int)) = false := decide_eq_false (by omega)
                  clear hg hix hoc HG HO H12
                  go_wp2
                  go_round
                  case rel => exact ⟨j + (4 + i), by omega, by simp; omega, Lib.hid ⟨by have := HG2.out.1; omega, HG2.out.2⟩⟩
                  case measure => simp [intOf]; omega
              · have e1 : decide ((j : Int) + 2 + (i : Int) < (s.size : Int)) = false := decide_eq_false (by omega)
                have e2 : decide ((s.size : Int) ≤ (j : Int) + 2 + (i : Int)) = true := decide_eq_true (by omega)
                have hix := Lib.index_past (by simp) HO.out (by simp; omega)
                have hg := HG.out
                rw [gap_bad HNE.out (og_open HB.out H12.out.1 H12.out.2 (by rw [List.drop_drop]; exact hix))] at hg
                have HG2 := Lib.hid hg
                clear hg hix HG HO H12
                go_wp2
                go_ret2
                obtain ⟨g1, g2⟩ := HG2.out
                refine ⟨retIB ?_ ?_, rfl⟩
                · show (j : Int) = _; omega
                · exact g2.symm
        · have hln := tw_le (fun c => !decide (c = 10)) (s.data.toList.drop j)
          have hlin := fun i h => tw_in (fun c => !decide (c = 10)) (s.data.toList.drop j) i h
          have hlst := fun h => tw_stop (fun c => !decide (c = 10)) (s.data.toList.drop j) h
          change ln (s.data.toList.drop j) ≤ _ at hln
          change ∀ i, i < ln (s.data.toList.drop j) → _ at hlin
          change ln (s.data.toList.drop j) < _ → (!decide ((s.data.toList.drop j).getD (ln (s.data.toList.drop j)) 0 = 10)) = false at hlst
          rw [List.length_drop, hsz] at hln hlst
          have hg := HG.out
          rw [gap_step HNE.out (og_line HB.out hq1) (ln_two hq1)] at hg
          have h1 := ln_two hq1
          have HG2 := Lib.hid hg
          have HL := Lib.hid (And.intro hlin hlst)
          clear hlin hlst hg n1 n2 n3 n4 hq1 HG
          generalize ln (s.data.toList.drop j) = m at *
          go_wp2_with fail
          go_loop [1] (fun b => ∃ i : Nat, b = .int .i64 ((j : Int) + i) ∧ i ≤ m) (fun b => s.size - (intOf b).toNat)
          case atStart => exact ⟨0, by simp, by omega⟩
          case round =>
            obtain ⟨i, rfl, hi⟩ := hrel
            have e0 : (0 : Int) ≤ (j : Int) + (i : Int) := by omega
            by_cases him : i < m
            · have e1 : (j : Int) + (i : Int) < (s.size : Int) := by omega
              have hbi := byte_at s (j + i) (by omega)
              have hni := HL.out.1 i him
              have hgd : (s.data.toList.drop j).getD i 0 = s.data.toList.getD (j + i) 0 := by simp [List.getD_eq_getElem?_getD]
              have hx : ((s[j + i].toNat : Int) == 10) = false := by
                rw [hgd, ← hbi] at hni
                refine beq_eq_false_iff_ne.mpr fun e => ?_
                simp at hni
                exact hni (UInt8.toNat_inj.1 (by show _ = 10; omega))
              clear hbi hni hgd
              go_wp2
              go_round
              case rel => exact ⟨i + 1, by go_num, by omega⟩
              case measure => simp [intOf]; omega
            · obtain rfl : i = m := by omega
              by_cases hend : j + i < s.size
              · have e1 : (j : Int) + (i : Int) < (s.size : Int) := by omega
                have hbi := byte_at s (j + i) (by omega)
                have hni := HL.out.2 (by omega)
                have hgd : (s.data.toList.drop j).getD i 0 = s.data.toList.getD (j + i) 0 := by simp [List.getD_eq_getElem?_getD]
                have hx : ((s[j + i].toNat : Int) == 10) = true := by
                  rw [hgd, ← hbi] at hni
                  simp at hni
                  rw [hni]; rfl
                clear hbi hni hgd
                go_wp2
                go_round
                case rel => exact ⟨j + i, by omega, by go_num, Lib.hid ⟨by have := HG2.out.1; rw [List.drop_drop] at this; omega, by have := HG2.out.2; rw [List.drop_drop] at this; exact this⟩⟩
                case measure => simp [intOf]; omega
              · have e1 : decide ((j : Int) + (i : Int) < (s.size : Int)) = false := decide_eq_false (by omega)
                go_wp2
                go_round
                case rel => exact ⟨j + i, by omega, by go_num, Lib.hid ⟨by have := HG2.out.1; rw [List.drop_drop] at this; omega, by have := HG2.out.2; rw [List.drop_drop] at this; exact this⟩⟩
                case measure => simp [intOf]; omega
      · have HB := Lib.hid (show bl (bt ((s.data.toList.drop j).getD 0 0)) = true by rw [H0.out]; exact hq)
        have hg := HG.out
        rw [gap_step HNE.out (og_blank HB.out) (by simp), List.drop_drop] at hg
        have HG2 := Lib.hid hg
        have hbb := (bl_or _).1 hq
        clear hq hg HG HB
        rcases hbb with h | h | h | h
        all_goals
          have h' : ((s[j].toNat : Int) = _) := h
          clear h
          go_wp2
          go_round
          case rel => exact ⟨j + 1, by omega, by go_num, Lib.hid ⟨by have := HG2.out.1; dsimp only at this; omega, HG2.out.2⟩⟩
          case measure => simp [intOf]; omega
    · obtain rfl : j = s.size := by omega
      have hg := HG.out
      rw [List.drop_of_length_le (l := s.data.toList) (i := s.size) (by omega)] at hg
      have HG2 := Lib.hid hg
      clear hg HG
      go_wp2
      go_ret2
      obtain ⟨g1, g2⟩ := HG2.out
      rw [gap_nil] at g1 g2
      refine ⟨retIB ?_ ?_, rfl⟩
      · show (s.size : Int) = _; dsimp only at g1; omega
      · exact g2.symm
end Go.Proofs.Ytahpgjibpcbjbaa
