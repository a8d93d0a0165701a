/- What digits mean, in the document. Conditions: each theorem's. -/
import Derived.Test.YtahpgjibpcbjbaaLexC
import Derived.Test.YtahpgjibpcbjbaaLexD
namespace Go.Proofs.Ytahpgjibpcbjbaa
open Go.RowKit
set_option linter.unusedVariables false
set_option linter.unusedSimpArgs false
set_option maxRecDepth 10000
open Lx
namespace Lx
theorem mnD_bad {base : Int} {l : List UInt8} (h0 : l ≠ []) (h : base ≤ dv (bt (l.getD 0 0))) : meanIn base l = none := by
  cases l with
  | nil => exact absurd rfl h0
  | cons c l =>
    rw [List.getD_cons_zero] at h
    simp [meanIn, mnD, bad_ge h]
theorem qt_iff (c : Int) : qt c = true ↔ 32 ≤ c ∧ c ≤ 126 ∧ c ≠ 39 ∧ c ≠ 92 := by simp [qt, and_assoc]
theorem qt_no {c : Int} (h : ¬ (32 ≤ c ∧ c ≤ 126 ∧ c ≠ 39 ∧ c ≠ 92)) : qt c = false := by
  cases hq : qt c with
  | false => rfl
  | true => exact absurd ((qt_iff c).1 hq) h
theorem dv_no {c : Int} (h : dg c = false) : 10 ≤ dv c := by
  unfold dg at h
  unfold dv
  simp at h
  split
  · omega
  · split <;> omega
theorem no_x {l : List UInt8} (h : dg (bt (l.getD 0 0)) = false) : Lib.hasPrefix l [48, 120] = false := by
  cases l with
  | nil => rfl
  | cons c l =>
    rw [List.getD_cons_zero] at h
    have : c ≠ 48 := fun e => by subst e; revert h; decide
    simp only [Lib.hasPrefix, List.isPrefixOf, Bool.and_eq_false_iff, beq_eq_false_iff_ne]
    exact .inl fun e => this e.symm
/-- Where a text begins with no digit, and is no byte between two signs, it means nothing. -/
theorem mean_no {l : List UInt8} (hq : isQ l = false) (h : dg (bt (l.getD 0 0)) = false) : meanV l = none := by
  unfold meanV
  rw [hq, if_neg (by simp), no_x h]
  split
  · rfl
  · rw [if_neg (by simp)]
    by_cases h0 : l = []
    · subst h0; rfl
    · exact mnD_bad h0 (dv_no h)
end Lx
theorem retUB {a b : Int} {x y : Bool} (h : a = b) (h2 : x = y) : Ending.returned (.tuple #[.int .u64 a, .bool x]) = Ending.returned (.tuple #[.int .u64 b, .bool y]) := by rw [h, h2]
set_option maxHeartbeats 4000000 in
theorem rmean_q (s : ByteArray) (w : World) (h3 : s.size = 3) (h0 : bt s[0] = 39) :
    Calls Try.prog 15 #[.string s] w fun e w' => e = .returned (.tuple #[.int .u64 ((meanV s.data.toList).getD 0), .bool (meanV s.data.toList).isSome]) ∧ w = w' := by
  have hsz := sz s
  have b0 := byte_at s 0 (by omega)
  have b1 := byte_at s 1 (by omega)
  have b2 := byte_at s 2 (by omega)
  have hr : (0 : Int) ≤ (s[1].toNat : Int) ∧ (s[1].toNat : Int) ≤ 255 := bt_range s[1]
  obtain ⟨r0, r1⟩ := hr
  have e3 : ((s.size : Int) == 3) = true := by rw [beq_iff_eq]; omega
  have l0 : (0 : Int) < (s.size : Int) := by omega
  have l1 : (1 : Int) < (s.size : Int) := by omega
  have l2 : (2 : Int) < (s.size : Int) := by omega
  have a0 : ((s[0].toNat : Int) == 39) = true := by rw [beq_iff_eq]; exact h0
  have hQ : isQ s.data.toList = (qt (bt s[1]) && decide (bt s[2] = 39)) := by
    unfold isQ; rw [hsz, ← b0, ← b1, ← b2]; simp [h3, h0]
  have hno : isQ s.data.toList = false → meanV s.data.toList = none := fun h => mean_no h (by rw [← b0, h0]; rfl)
  have hyes : isQ s.data.toList = true → meanV s.data.toList = some (bt s[1]) := fun h => by unfold meanV; rw [if_pos h, ← b1]
  have HA := Lib.hid (And.intro hno hyes)
  have HQ := Lib.hid hQ
  clear hno hyes hQ b0 b1 b2 h0
  by_cases hz : bt s[2] = 39
  · have z0 : ((s[2].toNat : Int) == 39) = true := by rw [beq_iff_eq]; exact hz
    by_cases x1 : (32 : Int) ≤ (s[1].toNat : Int)
    · by_cases x2 : (s[1].toNat : Int) ≤ 126
      · cases x3 : ((s[1].toNat : Int) == 39)
        · have x3' : ((s[1].toNat : Int) != 39) = true := by rw [bne, x3]; rfl
          cases x4 : ((s[1].toNat : Int) == 92)
          · have x4' : ((s[1].toNat : Int) != 92) = true := by rw [bne, x4]; rfl
            have hm := HA.out.2 (by rw [HQ.out, (qt_iff (bt s[1])).2 ⟨x1, x2, by simpa [bt] using x3, by simpa [bt] using x4⟩]; simp [hz])
            have HM := Lib.hid hm
            clear hm HA HQ hz
            go_enter Try.func15, Try.ntmps15
            go_wp2
            go_ret2
            exact ⟨by rw [HM.out]; rfl, rfl⟩
          · have x4' : ((s[1].toNat : Int) != 92) = false := by rw [bne, x4]; rfl
            have hm := HA.out.1 (by rw [HQ.out, qt_no (fun h => by simp at x4; exact h.2.2.2 x4)]; rfl)
            have HM := Lib.hid hm
            clear hm HA HQ hz
            go_enter Try.func15, Try.ntmps15
            go_wp2
            go_ret2
            exact ⟨by rw [HM.out]; rfl, rfl⟩
        · have x3' : ((s[1].toNat : Int) != 39) = false := by rw [bne, x3]; rfl
          have hm := HA.out.1 (by rw [HQ.out, qt_no (fun h => by simp at x3; exact h.2.2.1 x3)]; rfl)
          have HM := Lib.hid hm
          clear hm HA HQ hz
          go_enter Try.func15, Try.ntmps15
          go_wp2
          go_ret2
          exact ⟨by rw [HM.out]; rfl, rfl⟩
      · have hm := HA.out.1 (by rw [HQ.out, qt_no (c := bt s[1]) (fun h => x2 h.2.1)]; rfl)
        have HM := Lib.hid hm
        clear hm HA HQ hz
        have x2' : decide ((s[1].toNat : Int) ≤ 126) = false := decide_eq_false x2
        go_enter Try.func15, Try.ntmps15
        go_wp2
        go_ret2
        exact ⟨by rw [HM.out]; rfl, rfl⟩
    · have hm := HA.out.1 (by rw [HQ.out, qt_no (c := bt s[1]) (fun h => x1 h.1)]; rfl)
      have HM := Lib.hid hm
      clear hm HA HQ hz
      have x1' : decide ((32 : Int) ≤ (s[1].toNat : Int)) = false := decide_eq_false x1
      go_enter Try.func15, Try.ntmps15
      go_wp2
      go_ret2
      exact ⟨by rw [HM.out]; rfl, rfl⟩
  · have hm := HA.out.1 (by rw [HQ.out]; simp [hz])
    have HM := Lib.hid hm
    have z0 : ((s[2].toNat : Int) == 39) = false := beq_eq_false_iff_ne.mpr hz
    clear hm HA HQ hz
    go_enter Try.func15, Try.ntmps15
    go_wp2
    go_ret2
    exact ⟨by rw [HM.out]; rfl, rfl⟩
set_option maxHeartbeats 8000000 in
theorem rmean_n (s : ByteArray) (w : World) (hs : s.size ≤ 1048576) (hnq : ¬ (s.size = 3 ∧ bt (s.data.toList.getD 0 0) = 39)) :
    Calls Try.prog 15 #[.string s] w fun e w' => e = .returned (.tuple #[.int .u64 ((meanV s.data.toList).getD 0), .bool (meanV s.data.toList).isSome]) ∧ w = w' := by
  have hsz := sz s
  have hQ : isQ s.data.toList = false := by
    unfold isQ; rw [hsz]
    by_cases h3 : s.size = 3
    · rw [show decide (bt (s.data.toList.getD 0 0) = 39) = false from decide_eq_false fun e => hnq ⟨h3, e⟩]; simp
    · rw [show decide (s.size = 3) = false from decide_eq_false h3]; simp
  have HQ := Lib.hid hQ
  clear hQ
  by_cases h0 : s.size = 0
  · have he : s.toList = [] := by rw [ByteArray.toList_eq]; exact List.length_eq_zero_iff.1 (by omega)
    have he2 : s.toList.isEmpty = true := by rw [he]; rfl
    have e3 : ((s.size : Int) == 3) = false := beq_eq_false_iff_ne.mpr (by omega)
    have hm : meanV s.data.toList = none := by rw [List.length_eq_zero_iff.1 (by omega : s.data.toList.length = 0)]; decide
    have HM := Lib.hid hm
    clear hm hnq h0
    go_enter Try.func15, Try.ntmps15
    go_wp2
    go_ret2
    exact ⟨by rw [HM.out]; rfl, rfl⟩
  have he : s.toList.isEmpty = false := by rw [ByteArray.toList_eq]; cases hx : s.data.toList with | nil => rw [hx] at hsz; simp at hsz; omega
                                                                                                   | cons => rfl
  have he2 : (!s.toList.isEmpty) = true := by rw [he]; rfl
  have hp : 0 < s.size := by omega
  have l0 : (0 : Int) < (s.size : Int) := by omega
  have b0 := byte_at s 0 hp
  have hr : 0 ≤ bt s[0] ∧ bt s[0] ≤ 255 := bt_range s[0]
  have HB := Lib.hid b0
  have h39 : s.size = 3 → ((s[0].toNat : Int) == 39) = false := fun h3 => beq_eq_false_iff_ne.mpr fun e => hnq ⟨h3, by rw [← b0]; exact e⟩
  have h22 : ¬ dg (bt (s.data.toList.getD 0 0)) = true → meanV s.data.toList = none := fun h => mean_no HQ.out (by simpa using h)
  have H22 := Lib.hid h22
  have hlong : 20 < s.size → meanV s.data.toList = none := fun h => by unfold meanV; rw [if_neg (by rw [HQ.out]; simp), if_pos (by omega)]
  have HL := Lib.hid hlong
  clear b0 hnq h0 h22 hlong
  by_cases h3 : s.size = 3
  · have e3 : ((s.size : Int) == 3) = true := by rw [beq_iff_eq]; omega
    have a0 := h39 h3
    have h20 : ¬ (20 : Int) < (s.size : Int) := by omega
    clear h39
    go_enter Try.func15, Try.ntmps15
    go_wp2_with fail
    refine (rdigit_any (bt s[0]) _ hr.1 hr.2).mono ?_
    rintro e w' ⟨rfl, rfl⟩
    cases hd : dg (bt s[0])
    · have hm := H22.out (by rw [← HB.out, hd]; simp)
      have HM := Lib.hid hm
      clear hm hd
      go_wp2
      go_ret2
      exact ⟨by rw [HM.out]; rfl, rfl⟩
    clear hd
    have hst := starts_any s ⟨#[48, 120]⟩ 0 w hs (by omega) (by decide)
    rw [List.drop_zero] at hst
    dsimp only at hst
    go_wp2_with fail
    refine hst.mono ?_
    rintro e w' ⟨rfl, rfl⟩
    clear hst
    cases hp : Lib.hasPrefix s.data.toList [48, 120]
    · have hm : meanV s.data.toList = mnD 10 0 (s.data.toList.drop 0) := by
        unfold meanV
        rw [if_neg (by rw [HQ.out]; simp), if_neg (by omega), if_neg (by rw [hp]; simp)]
        unfold meanIn; rw [if_neg (fun e => by rw [e] at hsz; simp at hsz; omega), List.drop_zero]
      have HV := Lib.hid hm
      have z0 : ((0 : Int) == (s.size : Int)) = false := beq_eq_false_iff_ne.mpr (by omega)
      clear hm hp
      go_wp2
      go_loop [4, 6, 7] (fun k a _ => ∃ (j : Nat) (n : Int), j ≤ s.size ∧ a = .int .u64 n ∧ k = .int .i64 j ∧ 0 ≤ n ∧ n ≤ 9223372036854775807 ∧ Hid (meanV s.data.toList = mnD 10 n (s.data.toList.drop j))) (fun k _ _ => s.size - (intOf k).toNat)
      case atStart => exact ⟨0, 0, by omega, rfl, rfl, by omega, by omega, HV⟩
      case round =>
        obtain ⟨j, n, hj, rfl, rfl, n0, n1, HG⟩ := hrel
        clear HV
        by_cases hlt : j < s.size
        · have hbb := byte_at s j hlt
          have hr : (0 : Int) ≤ (s[j].toNat : Int) ∧ (s[j].toNat : Int) ≤ 255 := bt_range s[j]
          obtain ⟨r0, r1⟩ := hr
          have hstp := mnD_step (l := s.data.toList) (j := j) (n := n) (base := 10) (by omega)
          rw [← hbb] at hstp
          have HS := Lib.hid hstp
          have dj0 : (0 : Int) ≤ (j : Int) := by omega
          have dj1 : (j : Int) < (s.size : Int) := by omega
          clear hbb hstp
          go_wp2_with fail
          refine (rdigit_any (bt s[j]) _ r0 r1).mono ?_
          rintro e w' ⟨rfl, rfl⟩
          cases hq : dg (bt s[j])
          · have hnd : ¬ ((48 : Int) ≤ (s[j].toNat : Int) ∧ (s[j].toNat : Int) ≤ 57) := fun e => by
              have : dg (bt s[j]) = true := by unfold dg bt; simp; omega
              rw [this] at hq; cases hq
            by_cases haf : (97 : Int) ≤ (s[j].toNat : Int) ∧ (s[j].toNat : Int) ≤ 102
            · have hdv : dv (bt s[j]) = (s[j].toNat : Int) - 87 := by unfold dv bt; rw [if_neg hnd, if_pos haf]
              rw [hdv] at HS
              obtain ⟨f0, f1⟩ := haf
              clear hdv hnd hq
              by_cases hge : 10 ≤ (s[j].toNat : Int) - 87
              · have hg := HG.out
                rw [HS.out, if_pos (bad_ge hge)] at hg
                have HG2 := Lib.hid hg
                have hge' : 10 ≤ (s[j].toNat : Int) - 97 + 10 := by omega
                clear hg HG HS
                (go_wp2; go_ret2; exact ⟨by rw [HG2.out]; rfl, rfl⟩)
              · exfalso; omega
            · have hdv : dv (bt s[j]) = 16 := by unfold dv bt; rw [if_neg hnd, if_neg haf]
              rw [hdv] at HS
              have hg := HG.out
              rw [HS.out, if_pos (bad_ge (by omega))] at hg
              have HG2 := Lib.hid hg
              clear hg HG HS hdv hnd hq
              by_cases f0 : (97 : Int) ≤ (s[j].toNat : Int)
              · have f1 : ¬ (s[j].toNat : Int) ≤ 102 := fun e => haf ⟨f0, e⟩
                (go_wp2; go_ret2; exact ⟨by rw [HG2.out]; rfl, rfl⟩)
              · (go_wp2; go_ret2; exact ⟨by rw [HG2.out]; rfl, rfl⟩)
          · have hdg : (48 : Int) ≤ (s[j].toNat : Int) ∧ (s[j].toNat : Int) ≤ 57 := by
              unfold dg bt at hq; simp at hq; omega
            have hdv : dv (bt s[j]) = (s[j].toNat : Int) - 48 := by unfold dv bt; rw [if_pos hdg]
            rw [hdv] at HS
            obtain ⟨f0, f1⟩ := hdg
            clear hdv hq
            have hlt2 : (s[j].toNat : Int) - 48 < 10 := by omega
            by_cases hov : (9223372036854775807 - ((s[j].toNat : Int) - 48)) / 10 < n
            · have hg := HG.out
              rw [HS.out, if_pos (by simp [badD, hov])] at hg
              have HG2 := Lib.hid hg
              clear hg HG HS
              (go_wp2; go_ret2; exact ⟨by rw [HG2.out]; rfl, rfl⟩)
            · have hle : n ≤ (9223372036854775807 - ((s[j].toNat : Int) - 48)) / 10 := by omega
              have hnb : n * 10 + ((s[j].toNat : Int) - 48) ≤ 9223372036854775807 := by omega
              have hg := HG.out
              rw [HS.out, if_neg (by simp [badD]; omega)] at hg
              have HG2 := Lib.hid hg
              clear hg HG HS
              go_wp2
              go_round
              case rel => exact ⟨j + 1, n * 10 + ((s[j].toNat : Int) - 48), by omega, rfl, by go_num, by omega, hnb, HG2⟩
              case measure => simp [intOf]; omega
        · obtain rfl : j = s.size := by omega
          have hg := HG.out
          rw [List.drop_of_length_le (l := s.data.toList) (i := s.size) (by omega), mnD] at hg
          have HG2 := Lib.hid hg
          clear hg HG
          go_wp2
          go_ret2
          exact ⟨by rw [HG2.out]; rfl, rfl⟩
    · have h2 : 2 ≤ s.size := by
        have := (List.isPrefixOf_iff_prefix.1 hp).length_le
        rw [hsz] at this; exact this
      by_cases h22 : s.size = 2
      · exfalso; omega
      have hm : meanV s.data.toList = mnD 16 0 (s.data.toList.drop 2) := by
        unfold meanV
        rw [if_neg (by rw [HQ.out]; simp), if_neg (by omega), if_pos hp]
        unfold meanIn; rw [if_neg (fun e => by have := congrArg List.length e; simp at this; omega)]
      have HV := Lib.hid hm
      have z0 : ((2 : Int) == (s.size : Int)) = false := beq_eq_false_iff_ne.mpr (by omega)
      clear hm hp
      go_wp2
      go_loop [4, 6, 7] (fun k a _ => ∃ (j : Nat) (n : Int), j ≤ s.size ∧ a = .int .u64 n ∧ k = .int .i64 j ∧ 0 ≤ n ∧ n ≤ 9223372036854775807 ∧ Hid (meanV s.data.toList = mnD 16 n (s.data.toList.drop j))) (fun k _ _ => s.size - (intOf k).toNat)
      case atStart => exact ⟨2, 0, by omega, rfl, rfl, by omega, by omega, HV⟩
      case round =>
        obtain ⟨j, n, hj, rfl, rfl, n0, n1, HG⟩ := hrel
        clear HV
        by_cases hlt : j < s.size
        · have hbb := byte_at s j hlt
          have hr : (0 : Int) ≤ (s[j].toNat : Int) ∧ (s[j].toNat : Int) ≤ 255 := bt_range s[j]
          obtain ⟨r0, r1⟩ := hr
          have hstp := mnD_step (l := s.data.toList) (j := j) (n := n) (base := 16) (by omega)
          rw [← hbb] at hstp
          have HS := Lib.hid hstp
          have dj0 : (0 : Int) ≤ (j : Int) := by omega
          have dj1 : (j : Int) < (s.size : Int) := by omega
          clear hbb hstp
          go_wp2_with fail
          refine (rdigit_any (bt s[j]) _ r0 r1).mono ?_
          rintro e w' ⟨rfl, rfl⟩
          cases hq : dg (bt s[j])
          · have hnd : ¬ ((48 : Int) ≤ (s[j].toNat : Int) ∧ (s[j].toNat : Int) ≤ 57) := fun e => by
              have : dg (bt s[j]) = true := by unfold dg bt; simp; omega
              rw [this] at hq; cases hq
            by_cases haf : (97 : Int) ≤ (s[j].toNat : Int) ∧ (s[j].toNat : Int) ≤ 102
            · have hdv : dv (bt s[j]) = (s[j].toNat : Int) - 87 := by unfold dv bt; rw [if_neg hnd, if_pos haf]
              rw [hdv] at HS
              obtain ⟨f0, f1⟩ := haf
              clear hdv hnd hq
              by_cases hge : 16 ≤ (s[j].toNat : Int) - 87
              · have hg := HG.out
                rw [HS.out, if_pos (bad_ge hge)] at hg
                have HG2 := Lib.hid hg
                have hge' : 16 ≤ (s[j].toNat : Int) - 97 + 10 := by omega
                clear hg HG HS
                omega
              · have hlt2 : (s[j].toNat : Int) - 97 + 10 < 16 := by omega
                by_cases hov : (9223372036854775807 - ((s[j].toNat : Int) - 97 + 10)) / 16 < n
                · have hg := HG.out
                  rw [HS.out, if_pos (by have : (9223372036854775807 - ((s[j].toNat : Int) - 87)) / 16 < n := by omega
                                         simp [badD, this])] at hg
                  have HG2 := Lib.hid hg
                  clear hg HG HS
                  (go_wp2; go_ret2; exact ⟨by rw [HG2.out]; rfl, rfl⟩)
                · have hle : n ≤ (9223372036854775807 - ((s[j].toNat : Int) - 97 + 10)) / 16 := by omega
                  have hnb : n * 16 + ((s[j].toNat : Int) - 97 + 10) ≤ 9223372036854775807 := by omega
                  have hg := HG.out
                  rw [HS.out, if_neg (by simp [badD]; omega)] at hg
                  have HG2 := Lib.hid hg
                  clear hg HG HS
                  go_wp2
                  go_round
                  case rel => exact ⟨j + 1, n * 16 + ((s[j].toNat : Int) - 97 + 10), by omega, rfl, by go_num, by omega, hnb, by rw [show (s[j].toNat : Int) - 97 + 10 = (s[j].toNat : Int) - 87 by omega]; exact HG2⟩
                  case measure => simp [intOf]; omega
            · have hdv : dv (bt s[j]) = 16 := by unfold dv bt; rw [if_neg hnd, if_neg haf]
              rw [hdv] at HS
              have hg := HG.out
              rw [HS.out, if_pos (bad_ge (by omega))] at hg
              have HG2 := Lib.hid hg
              clear hg HG HS hdv hnd hq
              by_cases f0 : (97 : Int) ≤ (s[j].toNat : Int)
              · have f1 : ¬ (s[j].toNat : Int) ≤ 102 := fun e => haf ⟨f0, e⟩
                (go_wp2; go_ret2; exact ⟨by rw [HG2.out]; rfl, rfl⟩)
              · (go_wp2; go_ret2; exact ⟨by rw [HG2.out]; rfl, rfl⟩)
          · have hdg : (48 : Int) ≤ (s[j].toNat : Int) ∧ (s[j].toNat : Int) ≤ 57 := by
              unfold dg bt at hq; simp at hq; omega
            have hdv : dv (bt s[j]) = (s[j].toNat : Int) - 48 := by unfold dv bt; rw [if_pos hdg]
            rw [hdv] at HS
            obtain ⟨f0, f1⟩ := hdg
            clear hdv hq
            have hlt2 : (s[j].toNat : Int) - 48 < 16 := by omega
            by_cases hov : (9223372036854775807 - ((s[j].toNat : Int) - 48)) / 16 < n
            · have hg := HG.out
              rw [HS.out, if_pos (by simp [badD, hov])] at hg
              have HG2 := Lib.hid hg
              clear hg HG HS
              (go_wp2; go_ret2; exact ⟨by rw [HG2.out]; rfl, rfl⟩)
            · have hle : n ≤ (9223372036854775807 - ((s[j].toNat : Int) - 48)) / 16 := by omega
              have hnb : n * 16 + ((s[j].toNat : Int) - 48) ≤ 9223372036854775807 := by omega
              have hg := HG.out
              rw [HS.out, if_neg (by simp [badD]; omega)] at hg
              have HG2 := Lib.hid hg
              clear hg HG HS
              go_wp2
              go_round
              case rel => exact ⟨j + 1, n * 16 + ((s[j].toNat : Int) - 48), by omega, rfl, by go_num, by omega, hnb, HG2⟩
              case measure => simp [intOf]; omega
        · obtain rfl : j = s.size := by omega
          have hg := HG.out
          rw [List.drop_of_length_le (l := s.data.toList) (i := s.size) (by omega), mnD] at hg
          have HG2 := Lib.hid hg
          clear hg HG
          go_wp2
          go_ret2
          exact ⟨by rw [HG2.out]; rfl, rfl⟩
  · have e3 : ((s.size : Int) == 3) = false := beq_eq_false_iff_ne.mpr (by omega)
    clear h39
    by_cases h20 : 20 < s.size
    · have h20' : (20 : Int) < (s.size : Int) := by omega
      have hm := HL.out h20
      have HM := Lib.hid hm
      clear hm
      go_enter Try.func15, Try.ntmps15
      go_wp2
      go_ret2
      exact ⟨by rw [HM.out]; rfl, rfl⟩
    have h20 : ¬ (20 : Int) < (s.size : Int) := by omega
    go_enter Try.func15, Try.ntmps15
    go_wp2_with fail
    refine (rdigit_any (bt s[0]) _ hr.1 hr.2).mono ?_
    rintro e w' ⟨rfl, rfl⟩
    cases hd : dg (bt s[0])
    · have hm := H22.out (by rw [← HB.out, hd]; simp)
      have HM := Lib.hid hm
      clear hm hd
      go_wp2
      go_ret2
      exact ⟨by rw [HM.out]; rfl, rfl⟩
    clear hd
    have hst := starts_any s ⟨#[48, 120]⟩ 0 w hs (by omega) (by decide)
    rw [List.drop_zero] at hst
    dsimp only at hst
    go_wp2_with fail
    refine hst.mono ?_
    rintro e w' ⟨rfl, rfl⟩
    clear hst
    cases hp : Lib.hasPrefix s.data.toList [48, 120]
    · have hm : meanV s.data.toList = mnD 10 0 (s.data.toList.drop 0) := by
        unfold meanV
        rw [if_neg (by rw [HQ.out]; simp), if_neg (by omega), if_neg (by rw [hp]; simp)]
        unfold meanIn; rw [if_neg (fun e => by rw [e] at hsz; simp at hsz; omega), List.drop_zero]
      have HV := Lib.hid hm
      have z0 : ((0 : Int) == (s.size : Int)) = false := beq_eq_false_iff_ne.mpr (by omega)
      clear hm hp
      go_wp2
      go_loop [4, 6, 7] (fun k a _ => ∃ (j : Nat) (n : Int), j ≤ s.size ∧ a = .int .u64 n ∧ k = .int .i64 j ∧ 0 ≤ n ∧ n ≤ 9223372036854775807 ∧ Hid (meanV s.data.toList = mnD 10 n (s.data.toList.drop j))) (fun k _ _ => s.size - (intOf k).toNat)
      case atStart => exact ⟨0, 0, by omega, rfl, rfl, by omega, by omega, HV⟩
      case round =>
        obtain ⟨j, n, hj, rfl, rfl, n0, n1, HG⟩ := hrel
        clear HV
        by_cases hlt : j < s.size
        · have hbb := byte_at s j hlt
          have hr : (0 : Int) ≤ (s[j].toNat : Int) ∧ (s[j].toNat : Int) ≤ 255 := bt_range s[j]
          obtain ⟨r0, r1⟩ := hr
          have hstp := mnD_step (l := s.data.toList) (j := j) (n := n) (base := 10) (by omega)
          rw [← hbb] at hstp
          have HS := Lib.hid hstp
          have dj0 : (0 : Int) ≤ (j : Int) := by omega
          have dj1 : (j : Int) < (s.size : Int) := by omega
          clear hbb hstp
          go_wp2_with fail
          refine (rdigit_any (bt s[j]) _ r0 r1).mono ?_
          rintro e w' ⟨rfl, rfl⟩
          cases hq : dg (bt s[j])
          · have hnd : ¬ ((48 : Int) ≤ (s[j].toNat : Int) ∧ (s[j].toNat : Int) ≤ 57) := fun e => by
              have : dg (bt s[j]) = true := by unfold dg bt; simp; omega
              rw [this] at hq; cases hq
            by_cases haf : (97 : Int) ≤ (s[j].toNat : Int) ∧ (s[j].toNat : Int) ≤ 102
            · have hdv : dv (bt s[j]) = (s[j].toNat : Int) - 87 := by unfold dv bt; rw [if_neg hnd, if_pos haf]
              rw [hdv] at HS
              obtain ⟨f0, f1⟩ := haf
              clear hdv hnd hq
              by_cases hge : 10 ≤ (s[j].toNat : Int) - 87
              · have hg := HG.out
                rw [HS.out, if_pos (bad_ge hge)] at hg
                have HG2 := Lib.hid hg
                have hge' : 10 ≤ (s[j].toNat : Int) - 97 + 10 := by omega
                clear hg HG HS
                (go_wp2; go_ret2; exact ⟨by rw [HG2.out]; rfl, rfl⟩)
              · exfalso; omega
            · have hdv : dv (bt s[j]) = 16 := by unfold dv bt; rw [if_neg hnd, if_neg haf]
              rw [hdv] at HS
              have hg := HG.out
              rw [HS.out, if_pos (bad_ge (by omega))] at hg
              have HG2 := Lib.hid hg
              clear hg HG HS hdv hnd hq
              by_cases f0 : (97 : Int) ≤ (s[j].toNat : Int)
              · have f1 : ¬ (s[j].toNat : Int) ≤ 102 := fun e => haf ⟨f0, e⟩
                (go_wp2; go_ret2; exact ⟨by rw [HG2.out]; rfl, rfl⟩)
              · (go_wp2; go_ret2; exact ⟨by rw [HG2.out]; rfl, rfl⟩)
          · have hdg : (48 : Int) ≤ (s[j].toNat : Int) ∧ (s[j].toNat : Int) ≤ 57 := by
              unfold dg bt at hq; simp at hq; omega
            have hdv : dv (bt s[j]) = (s[j].toNat : Int) - 48 := by unfold dv bt; rw [if_pos hdg]
            rw [hdv] at HS
            obtain ⟨f0, f1⟩ := hdg
            clear hdv hq
            have hlt2 : (s[j].toNat : Int) - 48 < 10 := by omega
            by_cases hov : (9223372036854775807 - ((s[j].toNat : Int) - 48)) / 10 < n
            · have hg := HG.out
              rw [HS.out, if_pos (by simp [badD, hov])] at hg
              have HG2 := Lib.hid hg
              clear hg HG HS
              (go_wp2; go_ret2; exact ⟨by rw [HG2.out]; rfl, rfl⟩)
            · have hle : n ≤ (9223372036854775807 - ((s[j].toNat : Int) - 48)) / 10 := by omega
              have hnb : n * 10 + ((s[j].toNat : Int) - 48) ≤ 9223372036854775807 := by omega
              have hg := HG.out
              rw [HS.out, if_neg (by simp [badD]; omega)] at hg
              have HG2 := Lib.hid hg
              clear hg HG HS
              go_wp2
              go_round
              case rel => exact ⟨j + 1, n * 10 + ((s[j].toNat : Int) - 48), by omega, rfl, by go_num, by omega, hnb, HG2⟩
              case measure => simp [intOf]; omega
        · obtain rfl : j = s.size := by omega
          have hg := HG.out
          rw [List.drop_of_length_le (l := s.data.toList) (i := s.size) (by omega), mnD] at hg
          have HG2 := Lib.hid hg
          clear hg HG
          go_wp2
          go_ret2
          exact ⟨by rw [HG2.out]; rfl, rfl⟩
    · have h2 : 2 ≤ s.size := by
        have := (List.isPrefixOf_iff_prefix.1 hp).length_le
        rw [hsz] at this; exact this
      by_cases h22 : s.size = 2
      · have hm : meanV s.data.toList = none := by
          unfold meanV
          rw [if_neg (by rw [HQ.out]; simp), if_neg (by omega), if_pos hp, List.drop_of_length_le (by omega)]; rfl
        have HM := Lib.hid hm
        have z0 : ((2 : Int) == (s.size : Int)) = true := by rw [beq_iff_eq]; omega
        clear hm hp
        go_wp2
        go_ret2
        exact ⟨by rw [HM.out]; rfl, rfl⟩
      have hm : meanV s.data.toList = mnD 16 0 (s.data.toList.drop 2) := by
        unfold meanV
        rw [if_neg (by rw [HQ.out]; simp), if_neg (by omega), if_pos hp]
        unfold meanIn; rw [if_neg (fun e => by have := congrArg List.length e; simp at this; omega)]
      have HV := Lib.hid hm
      have z0 : ((2 : Int) == (s.size : Int)) = false := beq_eq_false_iff_ne.mpr (by omega)
      clear hm hp
      go_wp2
      go_loop [4, 6, 7] (fun k a _ => ∃ (j : Nat) (n : Int), j ≤ s.size ∧ a = .int .u64 n ∧ k = .int .i64 j ∧ 0 ≤ n ∧ n ≤ 9223372036854775807 ∧ Hid (meanV s.data.toList = mnD 16 n (s.data.toList.drop j))) (fun k _ _ => s.size - (intOf k).toNat)
      case atStart => exact ⟨2, 0, by omega, rfl, rfl, by omega, by omega, HV⟩
      case round =>
        obtain ⟨j, n, hj, rfl, rfl, n0, n1, HG⟩ := hrel
        clear HV
        by_cases hlt : j < s.size
        · have hbb := byte_at s j hlt
          have hr : (0 : Int) ≤ (s[j].toNat : Int) ∧ (s[j].toNat : Int) ≤ 255 := bt_range s[j]
          obtain ⟨r0, r1⟩ := hr
          have hstp := mnD_step (l := s.data.toList) (j := j) (n := n) (base := 16) (by omega)
          rw [← hbb] at hstp
          have HS := Lib.hid hstp
          have dj0 : (0 : Int) ≤ (j : Int) := by omega
          have dj1 : (j : Int) < (s.size : Int) := by omega
          clear hbb hstp
          go_wp2_with fail
          refine (rdigit_any (bt s[j]) _ r0 r1).mono ?_
          rintro e w' ⟨rfl, rfl⟩
          cases hq : dg (bt s[j])
          · have hnd : ¬ ((48 : Int) ≤ (s[j].toNat : Int) ∧ (s[j].toNat : Int) ≤ 57) := fun e => by
              have : dg (bt s[j]) = true := by unfold dg bt; simp; omega
              rw [this] at hq; cases hq
            by_cases haf : (97 : Int) ≤ (s[j].toNat : Int) ∧ (s[j].toNat : Int) ≤ 102
            · have hdv : dv (bt s[j]) = (s[j].toNat : Int) - 87 := by unfold dv bt; rw [if_neg hnd, if_pos haf]
              rw [hdv] at HS
              obtain ⟨f0, f1⟩ := haf
              clear hdv hnd hq
              by_cases hge : 16 ≤ (s[j].toNat : Int) - 87
              · have hg := HG.out
                rw [HS.out, if_pos (bad_ge hge)] at hg
                have HG2 := Lib.hid hg
                have hge' : 16 ≤ (s[j].toNat : Int) - 97 + 10 := by omega
                clear hg HG HS
                omega
              · have hlt2 : (s[j].toNat : Int) - 97 + 10 < 16 := by omega
                by_cases hov : (9223372036854775807 - ((s[j].toNat : Int) - 97 + 10)) / 16 < n
                · have hg := HG.out
                  rw [HS.out, if_pos (by have : (9223372036854775807 - ((s[j].toNat : Int) - 87)) / 16 < n := by omega
                                         simp [badD, this])] at hg
                  have HG2 := Lib.hid hg
                  clear hg HG HS
                  (go_wp2; go_ret2; exact ⟨by rw [HG2.out]; rfl, rfl⟩)
                · have hle : n ≤ (9223372036854775807 - ((s[j].toNat : Int) - 97 + 10)) / 16 := by omega
                  have hnb : n * 16 + ((s[j].toNat : Int) - 97 + 10) ≤ 9223372036854775807 := by omega
                  have hg := HG.out
                  rw [HS.out, if_neg (by simp [badD]; omega)] at hg
                  have HG2 := Lib.hid hg
                  clear hg HG HS
                  go_wp2
                  go_round
                  case rel => exact ⟨j + 1, n * 16 + ((s[j].toNat : Int) - 97 + 10), by omega, rfl, by go_num, by omega, hnb, by rw [show (s[j].toNat : Int) - 97 + 10 = (s[j].toNat : Int) - 87 by omega]; exact HG2⟩
                  case measure => simp [intOf]; omega
            · have hdv : dv (bt s[j]) = 16 := by unfold dv bt; rw [if_neg hnd, if_neg haf]
              rw [hdv] at HS
              have hg := HG.out
              rw [HS.out, if_pos (bad_ge (by omega))] at hg
              have HG2 := Lib.hid hg
              clear hg HG HS hdv hnd hq
              by_cases f0 : (97 : Int) ≤ (s[j].toNat : Int)
              · have f1 : ¬ (s[j].toNat : Int) ≤ 102 := fun e => haf ⟨f0, e⟩
                (go_wp2; go_ret2; exact ⟨by rw [HG2.out]; rfl, rfl⟩)
              · (go_wp2; go_ret2; exact ⟨by rw [HG2.out]; rfl, rfl⟩)
          · have hdg : (48 : Int) ≤ (s[j].toNat : Int) ∧ (s[j].toNat : Int) ≤ 57 := by
              unfold dg bt at hq; simp at hq; omega
            have hdv : dv (bt s[j]) = (s[j].toNat : Int) - 48 := by unfold dv bt; rw [if_pos hdg]
            rw [hdv] at HS
            obtain ⟨f0, f1⟩ := hdg
            clear hdv hq
            have hlt2 : (s[j].toNat : Int) - 48 < 16 := by omega
            by_cases hov : (9223372036854775807 - ((s[j].toNat : Int) - 48)) / 16 < n
            · have hg := HG.out
              rw [HS.out, if_pos (by simp [badD, hov])] at hg
              have HG2 := Lib.hid hg
              clear hg HG HS
              (go_wp2; go_ret2; exact ⟨by rw [HG2.out]; rfl, rfl⟩)
            · have hle : n ≤ (9223372036854775807 - ((s[j].toNat : Int) - 48)) / 16 := by omega
              have hnb : n * 16 + ((s[j].toNat : Int) - 48) ≤ 9223372036854775807 := by omega
              have hg := HG.out
              rw [HS.out, if_neg (by simp [badD]; omega)] at hg
              have HG2 := Lib.hid hg
              clear hg HG HS
              go_wp2
              go_round
              case rel => exact ⟨j + 1, n * 16 + ((s[j].toNat : Int) - 48), by omega, rfl, by go_num, by omega, hnb, HG2⟩
              case measure => simp [intOf]; omega
        · obtain rfl : j = s.size := by omega
          have hg := HG.out
          rw [List.drop_of_length_le (l := s.data.toList) (i := s.size) (by omega), mnD] at hg
          have HG2 := Lib.hid hg
          clear hg HG
          go_wp2
          go_ret2
          exact ⟨by rw [HG2.out]; rfl, rfl⟩
theorem rmean_any (s : ByteArray) (w : World) (hs : s.size ≤ 1048576) :
    Calls Try.prog 15 #[.string s] w fun e w' => e = .returned (.tuple #[.int .u64 ((meanV s.data.toList).getD 0), .bool (meanV s.data.toList).isSome]) ∧ w = w' := by
  by_cases h : s.size = 3 ∧ bt (s.data.toList.getD 0 0) = 39
  · exact rmean_q s w h.1 (by rw [byte_at s 0 (by omega)]; exact h.2)
  · exact rmean_n s w hs h
end Go.Proofs.Ytahpgjibpcbjbaa
