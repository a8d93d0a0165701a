/- The document's tokens of package lex. Conditions: each theorem's. -/
import Derived.Test.YtahpgjibpcbjbaaLexE
import Derived.Test.YtahpgjibpcbjbaaLexG
import Derived.WalkSmall
namespace Go.Proofs.Ytahpgjibpcbjbaa
open Go.RowKit Go.Maps
set_option linter.unusedVariables false
set_option linter.unusedSimpArgs false
set_option maxRecDepth 10000
open Lx
namespace Lx
def twoT : List (Int × Int) := [(45, 62), (60, 60), (62, 62), (60, 61), (62, 61), (61, 61), (33, 61), (38, 38), (124, 124)]
def oneT : List Int := [43, 45, 42, 47, 37, 38, 124, 94, 126, 33, 60, 62, 61, 40, 41, 123, 125, 91, 93, 59, 44, 46]
theorem sg_tab : ∀ k, k < 31 → sgN k = if (sgA k, sgB k) ∈ twoT then 2 else if sgB k = 0 ∧ sgA k ∈ oneT then 1 else 0 := by decide
theorem two_in : ∀ p ∈ twoT, (List.range 31).any (fun k => decide (sgA k = p.1 ∧ sgB k = p.2)) = true := by decide
theorem one_in : ∀ p ∈ oneT, (List.range 31).any (fun k => decide (sgA k = p ∧ sgB k = 0)) = true := by decide
theorem sgV_eq (x y : Int) : sgV x y = if (x, y) ∈ twoT then 2 else if y = 0 ∧ x ∈ oneT then 1 else 0 := by
  by_cases h : ∃ k, k < 31 ∧ sgA k = x ∧ sgB k = y
  · obtain ⟨k, hk, rfl, rfl⟩ := h
    obtain ⟨_, _, _, _, _, r6⟩ := sg_range k hk
    rw [r6]
    exact sg_tab k hk
  · rw [sg_none (fun k hk e => h ⟨k, hk, e.1, e.2⟩), if_neg, if_neg]
    · rintro ⟨rfl, hx⟩
      have := one_in x hx
      rw [List.any_eq_true] at this
      obtain ⟨k, hk, e⟩ := this
      exact h ⟨k, List.mem_range.1 hk, by simpa using e⟩
    · intro hx
      have := two_in _ hx
      rw [List.any_eq_true] at this
      obtain ⟨k, hk, e⟩ := this
      exact h ⟨k, List.mem_range.1 hk, by simpa using e⟩
theorem two_not0 {x y : Int} (h : (x, y) ∈ twoT) : y ≠ 0 := by
  have : ∀ p ∈ twoT, p.2 ≠ 0 := by decide
  exact this _ h
theorem sgW_eq (l : List UInt8) : sgW l = if (bt (l.getD 0 0), bt (l.getD 1 0)) ∈ twoT then 2 else if bt (l.getD 0 0) ∈ oneT then 1 else 0 := by
  unfold sgW
  rw [sgV_eq, sgV_eq]
  generalize bt (l.getD 0 0) = x
  generalize bt (l.getD 1 0) = y
  by_cases h : (x, y) ∈ twoT
  · rw [if_pos h, if_pos h, if_pos (by omega)]; rfl
  · have h0 : ¬ (x, (0 : Int)) ∈ twoT := fun e => two_not0 e rfl
    rw [if_neg h, if_neg h, if_neg h0]
    by_cases h1 : x ∈ oneT
    · rw [if_pos h1, if_pos (show (0 : Int) = 0 ∧ x ∈ oneT from ⟨rfl, h1⟩)]
      split <;> first | rfl | (split <;> first | rfl | (exfalso; omega))
    · rw [if_neg h1, if_neg (fun e : y = 0 ∧ x ∈ oneT => h1 e.2), if_neg (by simp), if_neg (fun e : (0 : Int) = 0 ∧ x ∈ oneT => h1 e.2)]; rfl
/-- A list begins with two bytes. -/
theorem pre_two (l : List UInt8) (a b : UInt8) (hb : b ≠ 0) : Lib.hasPrefix l [a, b] = true ↔ l.getD 0 0 = a ∧ l.getD 1 0 = b ∧ 0 < l.length := by
  cases l with
  | nil => simp [Lib.hasPrefix]
  | cons x l =>
    cases l with
    | nil => simp [Lib.hasPrefix, List.isPrefixOf]; intro _ e; exact hb e.symm
    | cons y l => simp [Lib.hasPrefix, List.isPrefixOf]; constructor <;> rintro ⟨h1, h2⟩ <;> exact ⟨h1.symm, h2.symm⟩
def twoL (j : Nat) : List UInt8 := [((twoT.getD j (0, 0)).1.toNat).toUInt8, ((twoT.getD j (0, 0)).2.toNat).toUInt8]
theorem twoL_facts : ∀ j, j < 9 → ∃ a b : UInt8, twoL j = [a, b] ∧ b ≠ 0 ∧ twoT.getD j (0, 0) = (bt a, bt b) := by
  intro j hj
  have : j = 0 ∨ j = 1 ∨ j = 2 ∨ j = 3 ∨ j = 4 ∨ j = 5 ∨ j = 6 ∨ j = 7 ∨ j = 8 := by omega
  rcases this with rfl | rfl | rfl | rfl | rfl | rfl | rfl | rfl | rfl
  all_goals exact ⟨_, _, rfl, by decide, by decide⟩
theorem bt_inj {a b : UInt8} (h : bt a = bt b) : a = b := UInt8.toNat_inj.1 (by unfold bt at h; omega)
theorem two_yes {l : List UInt8} {j : Nat} (hj : j < 9) (h : Lib.hasPrefix l (twoL j) = true) : sgW l = 2 := by
  obtain ⟨a, b, e, hb, et⟩ := twoL_facts j hj
  rw [e, pre_two l a b hb] at h
  rw [sgW_eq, h.1, h.2.1, if_pos]
  rw [← et]
  have hj' : j < twoT.length := hj
  rw [List.getD_eq_getElem?_getD, List.getElem?_eq_getElem hj']
  exact List.getElem_mem _
theorem two_no {l : List UInt8} (h0 : 0 < l.length) (h : ∀ j, j < 9 → Lib.hasPrefix l (twoL j) = false) : ¬ (bt (l.getD 0 0), bt (l.getD 1 0)) ∈ twoT := by
  intro hm
  obtain ⟨j, hj, e⟩ := List.mem_iff_getElem.1 hm
  have hj' : j < 9 := hj
  obtain ⟨a, b, e1, hb, et⟩ := twoL_facts j hj'
  have := h j hj'
  rw [e1] at this
  rw [List.getD_eq_getElem?_getD, List.getElem?_eq_getElem hj] at et
  simp only [Option.getD_some] at et
  rw [et] at e
  injection e with e2 e3
  rw [(pre_two l a b hb).2 ⟨(bt_inj e2).symm, (bt_inj e3).symm, h0⟩] at this
  cases this
def rtV (k : Nat) (l : List UInt8) : Int × Int := if (tokV l).2 = 0 then (0, 0) else ((tokV l).1, (k : Int) + ((tokV l).2 : Int))
theorem al_no_dg {c : Int} (h : al c = true) : dg c = false ∧ c ≠ 39 ∧ nm c = true := by
  refine ⟨?_, ?_, by unfold nm; rw [h]; rfl⟩
  · cases hd : dg c with
    | false => rfl
    | true => exfalso; simp [al, dg] at h hd; omega
  · rintro rfl; revert h; decide
theorem wd_short {l : List UInt8} (h : wdB l = true) : l.length ≤ 8 := by
  unfold wdB at h
  rw [List.any_eq_true] at h
  obtain ⟨x, hx, e⟩ := h
  have hall : ∀ x ∈ wdTab, x.length ≤ 8 := by decide
  have := hall x hx
  have e' : l = x := by simpa using e
  rw [e']; exact this
end Lx
def twoX (j : Nat) : ByteArray := ⟨(twoL j).toArray⟩
set_option maxHeartbeats 8000000 in
theorem rtoken_any (s : ByteArray) (k : Nat) (w : World) (hs : s.size ≤ 1048576) (hk : k < s.size) :
    Calls Try.prog 21 #[.string s, .int .i64 k] w fun e w' => e = .returned (.tuple #[.int .i64 (rtV k (s.data.toList.drop k)).1, .int .i64 (rtV k (s.data.toList.drop k)).2]) ∧ Below w.heap.size w w' := by
  have hsz := sz s
  have bk := byte_at s k hk
  have hl0 : (s.data.toList.drop k).getD 0 0 = s[k] := (drop_zero_at s.data.toList k).trans bk.symm
  have H0 := Lib.hid hl0
  have hrk := bt_range s[k]
  have k0 : (0 : Int) ≤ (k : Int) := by omega
  have k1 : (k : Int) < (s.size : Int) := by omega
  have hgl := tw_le (fun c => nm (bt c)) (s.data.toList.drop k)
  have hgin := fun i h => tw_in (fun c => nm (bt c)) (s.data.toList.drop k) i h
  have hgst := fun h => tw_stop (fun c => nm (bt c)) (s.data.toList.drop k) h
  change tg (s.data.toList.drop k) ≤ _ at hgl
  change ∀ i, i < tg (s.data.toList.drop k) → _ at hgin
  change tg (s.data.toList.drop k) < _ → nm (bt ((s.data.toList.drop k).getD (tg (s.data.toList.drop k)) 0)) = false at hgst
  rw [List.length_drop, hsz] at hgl hgst
  have HT := Lib.hid (tokV.eq_1 (s.data.toList.drop k))
  have HR := Lib.hid (rtV.eq_1 k (s.data.toList.drop k))
  have HG := Lib.hid (And.intro hgin hgst)
  clear bk hl0 hgin hgst
  obtain ⟨n, hn⟩ : ∃ n, n = tg (s.data.toList.drop k) := ⟨_, rfl⟩
  rw [← hn] at HG hgl
  have HN := Lib.hid hn
  clear hn
  go_enter Try.func21, Try.ntmps21
  go_wp2_with fail
  go_loop [6] (fun b => ∃ i : Nat, b = .int .i64 ((k : Int) + i) ∧ i ≤ n) (fun b => s.size - (intOf b).toNat)
  case atStart => exact ⟨0, by simp, by omega⟩
  case round =>
    obtain ⟨i, rfl, hi⟩ := hrel
    have e0 : (0 : Int) ≤ (k : Int) + (i : Int) := by omega
    by_cases him : i < n
    · have e1 : (k : Int) + (i : Int) < (s.size : Int) := by omega
      have hbi := byte_at s (k + i) (by omega)
      have hgd : (s.data.toList.drop k).getD i 0 = s.data.toList.getD (k + i) 0 := by simp [List.getD_eq_getElem?_getD]
      have hni := HG.out.1 i him
      rw [hgd, ← hbi] at hni
      have hr := bt_range s[k + i]
      have HNI := Lib.hid hni
      clear hbi hgd hni
      go_wp2_with fail
      refine (letter_any (bt s[k + i]) _ hr.1 hr.2).mono ?_
      rintro e w' ⟨rfl, rfl⟩
      cases ha : al (bt s[k + i])
      · have hd : dg (bt s[k + i]) = true := by have := HNI.out; unfold nm at this; rw [ha] at this; simpa using this
        go_wp2_with fail
        refine (rdigit_any (bt s[k + i]) _ hr.1 hr.2).mono ?_
        rintro e w' ⟨rfl, rfl⟩
        rw [hd]
        go_wp2
        go_round
        case rel => exact ⟨i + 1, by go_num, by omega⟩
        case measure => simp [intOf]; omega
      · go_wp2
        go_round
        case rel => exact ⟨i + 1, by go_num, by omega⟩
        case measure => simp [intOf]; omega
    · obtain rfl : i = n := by omega
      by_cases hend : k + i < s.size
      · have e1 : (k : Int) + (i : Int) < (s.size : Int) := by omega
        have hbi := byte_at s (k + i) (by omega)
        have hgd : (s.data.toList.drop k).getD i 0 = s.data.toList.getD (k + i) 0 := by simp [List.getD_eq_getElem?_getD]
        have hni := HG.out.2 (by omega)
        rw [hgd, ← hbi] at hni
        have hr := bt_range s[k + i]
        have ha : al (bt s[k + i]) = false := by unfold nm at hni; cases h : al (bt s[k + i]) with | false => rfl | true => rw [h] at hni; simp at hni
        have hd : dg (bt s[k + i]) = false := by unfold nm at hni; cases h : dg (bt s[k + i]) with | false => rfl | true => rw [h] at hni; simp at hni
        clear hbi hgd hni
        go_wp2_with fail
        refine (letter_any (bt s[k + i]) _ hr.1 hr.2).mono ?_
        rintro e w' ⟨rfl, rfl⟩
        rw [ha]
        go_wp2_with fail
        refine (rdigit_any (bt s[k + i]) _ hr.1 hr.2).mono ?_
        rintro e w' ⟨rfl, rfl⟩
        rw [hd]
        clear ha hd hr
        go_wp2_with fail
        refine (letter_any (bt s[k]) _ hrk.1 hrk.2).mono ?_
        rintro e w' ⟨rfl, rfl⟩
        cases ha : al (bt s[k])
        · cases hq : ((s[k].toNat : Int) == 39)
          · go_wp2_with fail
            refine (rdigit_any (bt s[k]) _ hrk.1 hrk.2).mono ?_
            rintro e w' ⟨rfl, rfl⟩
            cases hd : dg (bt s[k])
            · have hor : ¬ (dg (bt s[k]) = true ∨ bt s[k] = 39) := by rw [hd]; simpa [bt] using hq
              have hnm : nm (bt s[k]) = false := by unfold nm; rw [ha, hd]; rfl
              have ht := HT.out
              rw [H0.out, if_neg hor, if_neg (by rw [hnm]; simp)] at ht
              have hr2 := HR.out
              rw [ht] at hr2
              have HS := Lib.hid hr2
              clear ht hr2 hor hnm ha hd HT HR HG HN hgl
              go_wp2_with fail
              have HC := Lib.hid (fun (j : Nat) (hj : j < 9) => strs_row (w := w) (l := (List.range 9).map twoX) (t := 62) (j := j) (x := twoX j) (cs := ((List.range 9).map twoX |>.map Value.string).toArray) rfl (by simp [hj]))
              change Code.wp _ _ _ _ (w.alloc (.cells ((List.range 9).map twoX |>.map Value.string).toArray 62))
              have hB : Below w.heap.size w (w.alloc (.cells ((List.range 9).map twoX |>.map Value.string).toArray 62)) := (Below.refl _ _).alloc (Nat.le_refl _) _
              generalize w.alloc (.cells ((List.range 9).map twoX |>.map Value.string).toArray 62) = w1 at *
              go_loop [10, 79] (fun _ b => ∃ j : Nat, j ≤ 9 ∧ b = .int .i64 j ∧ Hid (∀ i, i < j → Lib.hasPrefix (s.data.toList.drop k) (twoL i) = false)) (fun _ b => 9 - (intOf b).toNat)
              case atStart => exact ⟨0, by omega, rfl, Lib.hid fun i hi => by omega⟩
              case round =>
                obtain ⟨j, hj, rfl, HP⟩ := hrel
                by_cases hlt : j < 9
                · have hcj := HC.out j hlt
                  have dj0 : (0 : Int) ≤ (j : Int) := by omega
                  have dj1 : (j : Int) < 9 := by omega
                  have HX := Lib.hid (show (twoX j).data.toList = twoL j from rfl)
                  have hxs : (twoX j).size ≤ 1048576 := by show (twoL j).toArray.size ≤ _; simp [twoL]
                  generalize twoX j = X at *
                  go_wp2_with fail
                  refine (starts_any s X k _ hs (by omega) hxs).mono ?_
                  rintro e w' ⟨rfl, rfl⟩
                  rw [HX.out]
                  cases hq2 : Lib.hasPrefix (s.data.toList.drop k) (twoL j)
                  · go_wp2
                    go_round
                    case rel =>
                      refine ⟨j + 1, by omega, by go_num, Lib.hid fun i hi => ?_⟩
                      rcases Nat.lt_or_ge i j with h | h
                      · exact HP.out i h
                      · obtain rfl : i = j := by omega
                        exact hq2
                    case measure => simp [intOf]; omega
                  · have hr2 := HS.out
                    rw [two_yes hlt hq2] at hr2
                    have hr3 := hr2.trans (c := (3, (k : Int) + 2)) (by simp)
                    have HS2 := Lib.hid hr3
                    clear hr3
                    clear hr2 HS hq2
                    go_wp2
                    go_ret2
                    exact ⟨by rw [HS2.out]; rfl, hB⟩
                · obtain rfl : j = 9 := by omega
                  have hno := two_no (l := s.data.toList.drop k) (by simp; omega) HP.out
                  have hr2 := HS.out
                  rw [sgW_eq, if_neg hno, H0.out] at hr2
                  have HS2 := Lib.hid hr2
                  clear hno hr2 HS HP HC
                  obtain ⟨O, hO⟩ : ∃ O : ByteArray, O = ⟨#[43, 45, 42, 47, 37, 38, 124, 94, 126, 33, 60, 62, 61, 40, 41, 123, 125, 91, 93, 59, 44, 46]⟩ := ⟨_, rfl⟩
                  have hOs : O.size = 22 := by rw [hO]; rfl
                  have hOb : ∀ j (h : j < O.size), (O[j].toNat : Int) = oneT.getD j 0 := by
                    intro j h
                    have h' := h
                    rw [hOs] at h'
                    subst hO
                    have : ∀ j, j < 22 → (((⟨#[43, 45, 42, 47, 37, 38, 124, 94, 126, 33, 60, 62, 61, 40, 41, 123, 125, 91, 93, 59, 44, 46]⟩ : ByteArray).data.toList.getD j 0).toNat : Int) = oneT.getD j 0 := by decide
                    rw [byte_at _ j h]
                    exact this j h'
                  have HO := Lib.hid hO
                  have HOB := Lib.hid hOb
                  clear hO hOb
                  go_wp2_with fail
                  rw [← HO.out]
                  go_loopw [12] (fun b wr => ∃ j : Nat, j ≤ 22 ∧ b = .int .i64 j ∧ Below w.heap.size w wr ∧ Hid (∀ i, i < j → oneT.getD i 0 ≠ bt s[k])) (fun b _ => 22 - (intOf b).toNat)
                  case atStart => exact ⟨0, by omega, rfl, hB, Lib.hid fun i hi => by omega⟩
                  case round =>
                    obtain ⟨j, hj, rfl, hbe, HP⟩ := hrel
                    by_cases hlt : j < 22
                    · have hjO : j < O.size := by omega
                      have dj0 : (0 : Int) ≤ (j : Int) := by omega
                      have dj1 : (j : Int) < (O.size : Int) := by omega
                      have hob := HOB.out j hjO
                      cases hq2 : ((O[j].toNat : Int) == (s[k].toNat : Int))
                      · have hne : oneT.getD j 0 ≠ bt s[k] := fun e => by rw [← hob] at e; rw [show (O[j].toNat : Int) = (s[k].toNat : Int) from e] at hq2; simp at hq2
                        have HNE := Lib.hid hne
                        clear hne hob
                        go_wp2_with fail
                        go_quiet (fail)
                        go_wp2
                        go_roundw
                        case rel =>
                          refine ⟨j + 1, by omega, by go_num, below_drewN hbe _, Lib.hid fun i hi => ?_⟩
                          rcases Nat.lt_or_ge i j with h | h
                          · exact HP.out i h
                          · obtain rfl : i = j := by omega
                            exact HNE.out
                        case measure => simp [intOf]; omega
                      · have hin : bt s[k] ∈ oneT := by
                          have : oneT.getD j 0 = bt s[k] := by rw [← hob]; simpa [bt] using hq2
                          rw [← this]
                          have hj' : j < oneT.length := hlt
                          rw [List.getD_eq_getElem?_getD, List.getElem?_eq_getElem hj']
                          exact List.getElem_mem _
                        have hr2 := HS2.out
                        rw [if_pos hin] at hr2
                        have hr3 := hr2.trans (c := (3, (k : Int) + 1)) (by simp)
                        have HS3 := Lib.hid hr3
                        clear hr3
                        clear hin hr2 HS2 hob
                        go_wp2_with fail
                        go_quiet (fail)
                        go_wp2
                        go_ret2
                        exact ⟨by rw [HS3.out]; rfl, below_drewN hbe _⟩
                    · obtain rfl : j = 22 := by omega
                      have hnin : ¬ bt s[k] ∈ oneT := fun hm => by
                        obtain ⟨j, hj, e⟩ := List.mem_iff_getElem.1 hm
                        have := HP.out j hj
                        rw [List.getD_eq_getElem?_getD, List.getElem?_eq_getElem hj] at this
                        exact this e
                      have hr2 := HS2.out
                      rw [if_neg hnin] at hr2
                      have hr3 := hr2.trans (c := (0, 0)) (by simp)
                      have HS3 := Lib.hid hr3
                      clear hr3
                      have dj2 : decide ((22 : Int) < (O.size : Int)) = false := decide_eq_false (by omega)
                      clear hnin hr2 HS2
                      go_wp2
                      go_ret2
                      exact ⟨by rw [HS3.out]; rfl, hbe⟩
            · have hi0 : i ≠ 0 := fun e => by
                subst e
                have := HG.out.2 (by omega)
                rw [H0.out] at this
                unfold nm at this; rw [hd] at this; simp at this
              have ht := HT.out
              rw [H0.out, if_pos (.inl hd)] at ht
              have hnb : nbV (s.data.toList.drop k) = if (meanV ((s.data.toList.drop k).take i)).isSome then i else 0 := by
                have hnl : nbL (s.data.toList.drop k) = i := by unfold nbL; rw [H0.out, if_neg (by simpa [bt] using hq), ← HN.out]
                unfold nbV; rw [hnl]
              have hex : (s.extract k (k + i)).data.toList = (s.data.toList.drop k).take i := by rw [Lib.extract_data, show k + i - k = i by omega]
              have hsz2 : (s.extract k (k + i)).size ≤ 1048576 := by rw [← sz, hex]; simp; omega
              have hr2 := HR.out
              rw [ht, hnb] at hr2
              have HS := Lib.hid hr2
              have HX := Lib.hid hex
              have e2 : (k : Int) + (i : Int) ≤ (s.size : Int) := by omega
              have e3 : decide ((s.size : Int) < (k : Int) + (i : Int)) = false := decide_eq_false (by omega)
              have e4 : (k : Int) ≤ (k : Int) + (i : Int) := by omega
              clear ht hr2 hnb hex ha hd HT HR HG HN hgl
              go_wp2_with fail
              refine (rmean_any _ _ hsz2).mono ?_
              rintro e w' ⟨rfl, rfl⟩
              rw [HX.out]
              generalize meanV ((s.data.toList.drop k).take i) = M at *
              cases M with
              | none =>
                have hr2 := HS.out.trans (c := (0, 0)) (by simp)
                have HS2 := Lib.hid hr2
                clear hr2 HS
                go_wp2
                go_ret2
                exact ⟨by rw [HS2.out]; rfl, Below.refl _ _⟩
              | some m =>
                have hr2 := HS.out.trans (c := (2, (k : Int) + (i : Int))) (by simp [hi0])
                have HS2 := Lib.hid hr2
                clear hr2 HS
                go_wp2
                go_ret2
                exact ⟨by rw [HS2.out]; rfl, Below.refl _ _⟩
          · have hd : dg (bt s[k]) = false := by have h39 : bt s[k] = 39 := by simpa [bt] using hq
                                                 rw [h39]; rfl
            have ht := HT.out
            rw [H0.out, if_pos (.inr (by simpa [bt] using hq))] at ht
            have hnl : nbL (s.data.toList.drop k) = min 3 (s.size - k) := by
              unfold nbL; rw [H0.out, if_pos (by simpa [bt] using hq), List.length_drop, hsz]
            have hnb : nbV (s.data.toList.drop k) = if (meanV ((s.data.toList.drop k).take (min 3 (s.size - k)))).isSome then min 3 (s.size - k) else 0 := by
              unfold nbV; rw [hnl]
            have hr2 := HR.out
            rw [ht, hnb] at hr2
            by_cases hfit : k + 3 ≤ s.size
            · rw [show min 3 (s.size - k) = 3 by omega] at hr2
              have hex : (s.extract k (k + 3)).data.toList = (s.data.toList.drop k).take 3 := by rw [Lib.extract_data, show k + 3 - k = 3 by omega]
              have hsz2 : (s.extract k (k + 3)).size ≤ 1048576 := by rw [← sz, hex]; simp; omega
              have HS := Lib.hid hr2
              have HX := Lib.hid hex
              have e2 : (k : Int) + 3 ≤ (s.size : Int) := by omega
              have e4 : (k : Int) ≤ (k : Int) + 3 := by omega
              clear ht hr2 hnb hnl hex ha HT HR HG HN hgl
              go_wp2_with fail
              refine (rdigit_any (bt s[k]) _ hrk.1 hrk.2).mono ?_
              rintro e w' ⟨rfl, rfl⟩
              rw [hd]
              clear hd
              go_wp2_with fail
              refine (rmean_any _ _ hsz2).mono ?_
              rintro e w' ⟨rfl, rfl⟩
              rw [HX.out]
              generalize meanV ((s.data.toList.drop k).take 3) = M at *
              cases M with
              | none =>
                have hr2 := HS.out.trans (c := (0, 0)) (by simp)
                have HS2 := Lib.hid hr2
                clear hr2 HS
                go_wp2
                go_ret2
                exact ⟨by rw [HS2.out]; rfl, Below.refl _ _⟩
              | some m =>
                have hr2 := HS.out.trans (c := (2, (k : Int) + 3)) (by simp)
                have HS2 := Lib.hid hr2
                clear hr2 HS
                go_wp2
                go_ret2
                exact ⟨by rw [HS2.out]; rfl, Below.refl _ _⟩
            · have hm : meanV ((s.data.toList.drop k).take (min 3 (s.size - k))) = none := by
                rw [List.take_of_length_le (by rw [List.length_drop, hsz]; omega)]
                refine mean_no ?_ (by rw [H0.out]; exact hd)
                unfold isQ
                rw [List.length_drop, hsz, show decide (s.size - k = 3) = false from decide_eq_false (by omega)]
                rfl
              rw [hm] at hr2
              have hr3 := hr2.trans (c := (0, 0)) (by simp)
              have HS2 := Lib.hid hr3
              clear hr3
              have e2 : ¬ (k : Int) + 3 ≤ (s.size : Int) := by omega
              clear ht hr2 hnb hnl hm ha HT HR HG HN hgl
              go_wp2_with fail
              refine (rdigit_any (bt s[k]) _ hrk.1 hrk.2).mono ?_
              rintro e w' ⟨rfl, rfl⟩
              rw [hd]
              clear hd
              go_wp2
              go_ret2
              exact ⟨by rw [HS2.out]; rfl, Below.refl _ _⟩
        · obtain ⟨a1, a2, a3⟩ := al_no_dg ha
          have hi0 : i ≠ 0 := fun e => by
            subst e
            have := HG.out.2 (by omega)
            rw [H0.out, a3] at this; cases this
          have ht := HT.out
          rw [H0.out, if_neg (by rw [a1]; simpa using a2), if_pos a3] at ht
          have hnw : nwV (s.data.toList.drop k) = if 32 < i then (1, 0) else (if wdB ((s.data.toList.drop k).take i) then 4 else 1, i) := by unfold nwV; rw [← HN.out]
          have hex : (s.extract k (k + i)).data.toList = (s.data.toList.drop k).take i := by rw [Lib.extract_data, show k + i - k = i by omega]
          have hlen : ((s.data.toList.drop k).take i).length = i := by simp; omega
          have hr2 := HR.out
          rw [ht, hnw] at hr2
          have HS := Lib.hid hr2
          have HX := Lib.hid hex
          have HLN := Lib.hid hlen
          have e2 : (k : Int) + (i : Int) ≤ (s.size : Int) := by omega
          have e4 : (k : Int) ≤ (k : Int) + (i : Int) := by omega
          clear ht hr2 hnw hex ha HT HR HG HN hgl a1 a2 a3 hlen
          go_wp2_with fail
          refine (rword_any _ _).mono ?_
          rintro e w' ⟨rfl, hb⟩
          rw [HX.out]
          cases hw : wdB ((s.data.toList.drop k).take i)
          · by_cases h32 : 32 < i
            · have hr2 := HS.out
              rw [if_pos h32, if_pos rfl] at hr2
              have HS2 := Lib.hid hr2
              have e5 : (32 : Int) < (k : Int) + (i : Int) - (k : Int) := by omega
              have e6 : (32 : Int) < (i : Int) := by omega
              clear hr2 HS hw
              go_wp2
              go_ret2
              exact ⟨by rw [HS2.out]; rfl, hb⟩
            · have hr2 := HS.out
              rw [if_neg h32, hw, if_neg (by simpa using hi0)] at hr2
              have HS2 := Lib.hid hr2
              have e5 : ¬ (32 : Int) < (k : Int) + (i : Int) - (k : Int) := by omega
              have e6 : ¬ (32 : Int) < (i : Int) := by omega
              clear hr2 HS hw
              go_wp2
              go_ret2
              exact ⟨by rw [HS2.out]; rfl, hb⟩
          · have hl8 := wd_short hw
            rw [HLN.out] at hl8
            have hr2 := HS.out.trans (c := (4, (k : Int) + (i : Int))) (by rw [if_neg (show ¬ 32 < i by omega), hw]; simp [hi0])
            have HS2 := Lib.hid hr2
            clear hr2 HS hw
            go_wp2
            go_ret2
            exact ⟨by rw [HS2.out]; rfl, hb⟩
      · have e1 : decide ((k : Int) + (i : Int) < (s.size : Int)) = false := decide_eq_false (by omega)
        go_wp2_with fail
        refine (letter_any (bt s[k]) _ hrk.1 hrk.2).mono ?_
        rintro e w' ⟨rfl, rfl⟩
        cases ha : al (bt s[k])
        · cases hq : ((s[k].toNat : Int) == 39)
          · go_wp2_with fail
            refine (rdigit_any (bt s[k]) _ hrk.1 hrk.2).mono ?_
            rintro e w' ⟨rfl, rfl⟩
            cases hd : dg (bt s[k])
            · have hor : ¬ (dg (bt s[k]) = true ∨ bt s[k] = 39) := by rw [hd]; simpa [bt] using hq
              have hnm : nm (bt s[k]) = false := by unfold nm; rw [ha, hd]; rfl
              have ht := HT.out
              rw [H0.out, if_neg hor, if_neg (by rw [hnm]; simp)] at ht
              have hr2 := HR.out
              rw [ht] at hr2
              have HS := Lib.hid hr2
              clear ht hr2 hor hnm ha hd HT HR HG HN e1 hgl
              go_wp2_with fail
              have HC := Lib.hid (fun (j : Nat) (hj : j < 9) => strs_row (w := w) (l := (List.range 9).map twoX) (t := 62) (j := j) (x := twoX j) (cs := ((List.range 9).map twoX |>.map Value.string).toArray) rfl (by simp [hj]))
              change Code.wp _ _ _ _ (w.alloc (.cells ((List.range 9).map twoX |>.map Value.string).toArray 62))
              have hB : Below w.heap.size w (w.alloc (.cells ((List.range 9).map twoX |>.map Value.string).toArray 62)) := (Below.refl _ _).alloc (Nat.le_refl _) _
              generalize w.alloc (.cells ((List.range 9).map twoX |>.map Value.string).toArray 62) = w1 at *
              go_loop [10, 79] (fun _ b => ∃ j : Nat, j ≤ 9 ∧ b = .int .i64 j ∧ Hid (∀ i, i < j → Lib.hasPrefix (s.data.toList.drop k) (twoL i) = false)) (fun _ b => 9 - (intOf b).toNat)
              case atStart => exact ⟨0, by omega, rfl, Lib.hid fun i hi => by omega⟩
              case round =>
                obtain ⟨j, hj, rfl, HP⟩ := hrel
                by_cases hlt : j < 9
                · have hcj := HC.out j hlt
                  have dj0 : (0 : Int) ≤ (j : Int) := by omega
                  have dj1 : (j : Int) < 9 := by omega
                  have HX := Lib.hid (show (twoX j).data.toList = twoL j from rfl)
                  have hxs : (twoX j).size ≤ 1048576 := by show (twoL j).toArray.size ≤ _; simp [twoL]
                  generalize twoX j = X at *
                  go_wp2_with fail
                  refine (starts_any s X k _ hs (by omega) hxs).mono ?_
                  rintro e w' ⟨rfl, rfl⟩
                  rw [HX.out]
                  cases hq2 : Lib.hasPrefix (s.data.toList.drop k) (twoL j)
                  · go_wp2
                    go_round
                    case rel =>
                      refine ⟨j + 1, by omega, by go_num, Lib.hid fun i hi => ?_⟩
                      rcases Nat.lt_or_ge i j with h | h
                      · exact HP.out i h
                      · obtain rfl : i = j := by omega
                        exact hq2
                    case measure => simp [intOf]; omega
                  · have hr2 := HS.out
                    rw [two_yes hlt hq2] at hr2
                    have hr3 := hr2.trans (c := (3, (k : Int) + 2)) (by simp)
                    have HS2 := Lib.hid hr3
                    clear hr3
                    clear hr2 HS hq2
                    go_wp2
                    go_ret2
                    exact ⟨by rw [HS2.out]; rfl, hB⟩
                · obtain rfl : j = 9 := by omega
                  have hno := two_no (l := s.data.toList.drop k) (by simp; omega) HP.out
                  have hr2 := HS.out
                  rw [sgW_eq, if_neg hno, H0.out] at hr2
                  have HS2 := Lib.hid hr2
                  clear hno hr2 HS HP HC
                  obtain ⟨O, hO⟩ : ∃ O : ByteArray, O = ⟨#[43, 45, 42, 47, 37, 38, 124, 94, 126, 33, 60, 62, 61, 40, 41, 123, 125, 91, 93, 59, 44, 46]⟩ := ⟨_, rfl⟩
                  have hOs : O.size = 22 := by rw [hO]; rfl
                  have hOb : ∀ j (h : j < O.size), (O[j].toNat : Int) = oneT.getD j 0 := by
                    intro j h
                    have h' := h
                    rw [hOs] at h'
                    subst hO
                    have : ∀ j, j < 22 → (((⟨#[43, 45, 42, 47, 37, 38, 124, 94, 126, 33, 60, 62, 61, 40, 41, 123, 125, 91, 93, 59, 44, 46]⟩ : ByteArray).data.toList.getD j 0).toNat : Int) = oneT.getD j 0 := by decide
                    rw [byte_at _ j h]
                    exact this j h'
                  have HO := Lib.hid hO
                  have HOB := Lib.hid hOb
                  clear hO hOb
                  go_wp2_with fail
                  rw [← HO.out]
                  go_loopw [12] (fun b wr => ∃ j : Nat, j ≤ 22 ∧ b = .int .i64 j ∧ Below w.heap.size w wr ∧ Hid (∀ i, i < j → oneT.getD i 0 ≠ bt s[k])) (fun b _ => 22 - (intOf b).toNat)
                  case atStart => exact ⟨0, by omega, rfl, hB, Lib.hid fun i hi => by omega⟩
                  case round =>
                    obtain ⟨j, hj, rfl, hbe, HP⟩ := hrel
                    by_cases hlt : j < 22
                    · have hjO : j < O.size := by omega
                      have dj0 : (0 : Int) ≤ (j : Int) := by omega
                      have dj1 : (j : Int) < (O.size : Int) := by omega
                      have hob := HOB.out j hjO
                      cases hq2 : ((O[j].toNat : Int) == (s[k].toNat : Int))
                      · have hne : oneT.getD j 0 ≠ bt s[k] := fun e => by rw [← hob] at e; rw [show (O[j].toNat : Int) = (s[k].toNat : Int) from e] at hq2; simp at hq2
                        have HNE := Lib.hid hne
                        clear hne hob
                        go_wp2_with fail
                        go_quiet (fail)
                        go_wp2
                        go_roundw
                        case rel =>
                          refine ⟨j + 1, by omega, by go_num, below_drewN hbe _, Lib.hid fun i hi => ?_⟩
                          rcases Nat.lt_or_ge i j with h | h
                          · exact HP.out i h
                          · obtain rfl : i = j := by omega
                            exact HNE.out
                        case measure => simp [intOf]; omega
                      · have hin : bt s[k] ∈ oneT := by
                          have : oneT.getD j 0 = bt s[k] := by rw [← hob]; simpa [bt] using hq2
                          rw [← this]
                          have hj' : j < oneT.length := hlt
                          rw [List.getD_eq_getElem?_getD, List.getElem?_eq_getElem hj']
                          exact List.getElem_mem _
                        have hr2 := HS2.out
                        rw [if_pos hin] at hr2
                        have hr3 := hr2.trans (c := (3, (k : Int) + 1)) (by simp)
                        have HS3 := Lib.hid hr3
                        clear hr3
                        clear hin hr2 HS2 hob
                        go_wp2_with fail
                        go_quiet (fail)
                        go_wp2
                        go_ret2
                        exact ⟨by rw [HS3.out]; rfl, below_drewN hbe _⟩
                    · obtain rfl : j = 22 := by omega
                      have hnin : ¬ bt s[k] ∈ oneT := fun hm => by
                        obtain ⟨j, hj, e⟩ := List.mem_iff_getElem.1 hm
                        have := HP.out j hj
                        rw [List.getD_eq_getElem?_getD, List.getElem?_eq_getElem hj] at this
                        exact this e
                      have hr2 := HS2.out
                      rw [if_neg hnin] at hr2
                      have hr3 := hr2.trans (c := (0, 0)) (by simp)
                      have HS3 := Lib.hid hr3
                      clear hr3
                      have dj2 : decide ((22 : Int) < (O.size : Int)) = false := decide_eq_false (by omega)
                      clear hnin hr2 HS2
                      go_wp2
                      go_ret2
                      exact ⟨by rw [HS3.out]; rfl, hbe⟩
            · have hi0 : i ≠ 0 := fun e => by
                subst e
                have := HG.out.2 (by omega)
                rw [H0.out] at this
                unfold nm at this; rw [hd] at this; simp at this
              have ht := HT.out
              rw [H0.out, if_pos (.inl hd)] at ht
              have hnb : nbV (s.data.toList.drop k) = if (meanV ((s.data.toList.drop k).take i)).isSome then i else 0 := by
                have hnl : nbL (s.data.toList.drop k) = i := by unfold nbL; rw [H0.out, if_neg (by simpa [bt] using hq), ← HN.out]
                unfold nbV; rw [hnl]
              have hex : (s.extract k (k + i)).data.toList = (s.data.toList.drop k).take i := by rw [Lib.extract_data, show k + i - k = i by omega]
              have hsz2 : (s.extract k (k + i)).size ≤ 1048576 := by rw [← sz, hex]; simp; omega
              have hr2 := HR.out
              rw [ht, hnb] at hr2
              have HS := Lib.hid hr2
              have HX := Lib.hid hex
              have e2 : (k : Int) + (i : Int) ≤ (s.size : Int) := by omega
              have e3 : decide ((s.size : Int) < (k : Int) + (i : Int)) = false := decide_eq_false (by omega)
              have e4 : (k : Int) ≤ (k : Int) + (i : Int) := by omega
              clear ht hr2 hnb hex ha hd HT HR HG HN e1 hgl
              go_wp2_with fail
              refine (rmean_any _ _ hsz2).mono ?_
              rintro e w' ⟨rfl, rfl⟩
              rw [HX.out]
              generalize meanV ((s.data.toList.drop k).take i) = M at *
              cases M with
              | none =>
                have hr2 := HS.out.trans (c := (0, 0)) (by simp)
                have HS2 := Lib.hid hr2
                clear hr2 HS
                go_wp2
                go_ret2
                exact ⟨by rw [HS2.out]; rfl, Below.refl _ _⟩
              | some m =>
                have hr2 := HS.out.trans (c := (2, (k : Int) + (i : Int))) (by simp [hi0])
                have HS2 := Lib.hid hr2
                clear hr2 HS
                go_wp2
                go_ret2
                exact ⟨by rw [HS2.out]; rfl, Below.refl _ _⟩
          · have hd : dg (bt s[k]) = false := by have h39 : bt s[k] = 39 := by simpa [bt] using hq
                                                 rw [h39]; rfl
            have ht := HT.out
            rw [H0.out, if_pos (.inr (by simpa [bt] using hq))] at ht
            have hnl : nbL (s.data.toList.drop k) = min 3 (s.size - k) := by
              unfold nbL; rw [H0.out, if_pos (by simpa [bt] using hq), List.length_drop, hsz]
            have hnb : nbV (s.data.toList.drop k) = if (meanV ((s.data.toList.drop k).take (min 3 (s.size - k)))).isSome then min 3 (s.size - k) else 0 := by
              unfold nbV; rw [hnl]
            have hr2 := HR.out
            rw [ht, hnb] at hr2
            by_cases hfit : k + 3 ≤ s.size
            · rw [show min 3 (s.size - k) = 3 by omega] at hr2
              have hex : (s.extract k (k + 3)).data.toList = (s.data.toList.drop k).take 3 := by rw [Lib.extract_data, show k + 3 - k = 3 by omega]
              have hsz2 : (s.extract k (k + 3)).size ≤ 1048576 := by rw [← sz, hex]; simp; omega
              have HS := Lib.hid hr2
              have HX := Lib.hid hex
              have e2 : (k : Int) + 3 ≤ (s.size : Int) := by omega
              have e4 : (k : Int) ≤ (k : Int) + 3 := by omega
              clear ht hr2 hnb hnl hex ha HT HR HG HN e1 hgl
              go_wp2_with fail
              refine (rdigit_any (bt s[k]) _ hrk.1 hrk.2).mono ?_
              rintro e w' ⟨rfl, rfl⟩
              rw [hd]
              clear hd
              go_wp2_with fail
              refine (rmean_any _ _ hsz2).mono ?_
              rintro e w' ⟨rfl, rfl⟩
              rw [HX.out]
              generalize meanV ((s.data.toList.drop k).take 3) = M at *
              cases M with
              | none =>
                have hr2 := HS.out.trans (c := (0, 0)) (by simp)
                have HS2 := Lib.hid hr2
                clear hr2 HS
                go_wp2
                go_ret2
                exact ⟨by rw [HS2.out]; rfl, Below.refl _ _⟩
              | some m =>
                have hr2 := HS.out.trans (c := (2, (k : Int) + 3)) (by simp)
                have HS2 := Lib.hid hr2
                clear hr2 HS
                go_wp2
                go_ret2
                exact ⟨by rw [HS2.out]; rfl, Below.refl _ _⟩
            · have hm : meanV ((s.data.toList.drop k).take (min 3 (s.size - k))) = none := by
                rw [List.take_of_length_le (by rw [List.length_drop, hsz]; omega)]
                refine mean_no ?_ (by rw [H0.out]; exact hd)
                unfold isQ
                rw [List.length_drop, hsz, show decide (s.size - k = 3) = false from decide_eq_false (by omega)]
                rfl
              rw [hm] at hr2
              have hr3 := hr2.trans (c := (0, 0)) (by simp)
              have HS2 := Lib.hid hr3
              clear hr3
              have e2 : ¬ (k : Int) + 3 ≤ (s.size : Int) := by omega
              clear ht hr2 hnb hnl hm ha HT HR HG HN e1 hgl
              go_wp2_with fail
              refine (rdigit_any (bt s[k]) _ hrk.1 hrk.2).mono ?_
              rintro e w' ⟨rfl, rfl⟩
              rw [hd]
              clear hd
              go_wp2
              go_ret2
              exact ⟨by rw [HS2.out]; rfl, Below.refl _ _⟩
        · obtain ⟨a1, a2, a3⟩ := al_no_dg ha
          have hi0 : i ≠ 0 := fun e => by
            subst e
            have := HG.out.2 (by omega)
            rw [H0.out, a3] at this; cases this
          have ht := HT.out
          rw [H0.out, if_neg (by rw [a1]; simpa using a2), if_pos a3] at ht
          have hnw : nwV (s.data.toList.drop k) = if 32 < i then (1, 0) else (if wdB ((s.data.toList.drop k).take i) then 4 else 1, i) := by unfold nwV; rw [← HN.out]
          have hex : (s.extract k (k + i)).data.toList = (s.data.toList.drop k).take i := by rw [Lib.extract_data, show k + i - k = i by omega]
          have hlen : ((s.data.toList.drop k).take i).length = i := by simp; omega
          have hr2 := HR.out
          rw [ht, hnw] at hr2
          have HS := Lib.hid hr2
          have HX := Lib.hid hex
          have HLN := Lib.hid hlen
          have e2 : (k : Int) + (i : Int) ≤ (s.size : Int) := by omega
          have e4 : (k : Int) ≤ (k : Int) + (i : Int) := by omega
          clear ht hr2 hnw hex ha HT HR HG HN e1 hgl a1 a2 a3 hlen
          go_wp2_with fail
          refine (rword_any _ _).mono ?_
          rintro e w' ⟨rfl, hb⟩
          rw [HX.out]
          cases hw : wdB ((s.data.toList.drop k).take i)
          · by_cases h32 : 32 < i
            · have hr2 := HS.out
              rw [if_pos h32, if_pos rfl] at hr2
              have HS2 := Lib.hid hr2
              have e5 : (32 : Int) < (k : Int) + (i : Int) - (k : Int) := by omega
              have e6 : (32 : Int) < (i : Int) := by omega
              clear hr2 HS hw
              go_wp2
              go_ret2
              exact ⟨by rw [HS2.out]; rfl, hb⟩
            · have hr2 := HS.out
              rw [if_neg h32, hw, if_neg (by simpa using hi0)] at hr2
              have HS2 := Lib.hid hr2
              have e5 : ¬ (32 : Int) < (k : Int) + (i : Int) - (k : Int) := by omega
              have e6 : ¬ (32 : Int) < (i : Int) := by omega
              clear hr2 HS hw
              go_wp2
              go_ret2
              exact ⟨by rw [HS2.out]; rfl, hb⟩
          · have hl8 := wd_short hw
            rw [HLN.out] at hl8
            have hr2 := HS.out.trans (c := (4, (k : Int) + (i : Int))) (by rw [if_neg (show ¬ 32 < i by omega), hw]; simp [hi0])
            have HS2 := Lib.hid hr2
            clear hr2 HS hw
            go_wp2
            go_ret2
            exact ⟨by rw [HS2.out]; rfl, hb⟩

end Go.Proofs.Ytahpgjibpcbjbaa
