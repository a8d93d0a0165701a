/- What the document says of lists of structs. Conditions: each theorem's. -/
import Derived.Test.YtalelgnooemooaaLayE
import Derived.Deep.Cut
import Derived.WalkSmall
import Derived.Deep.DeepCutAuto
namespace Go.Proofs.Ytalelgnooemooaa
open Go.RowKit
set_option linter.unusedVariables false
set_option linter.unusedSimpArgs false
set_option maxRecDepth 10000
open Py
theorem mayBe_eq (l : List Sc) (t : Ty) : mayBe l t = ((known l t && !(small t == 0)) && !(t.ba == 0)) := by
  unfold mayBe
  cases hk : known l t
  · rfl
  · have hk' := hk
    unfold known at hk'
    by_cases h0 : t.st < 0 ∨ 4 < t.st
    · rw [if_pos h0] at hk'; cases hk'
    · rw [if_neg h0] at hk'
      by_cases hb0 : t.ba = 0
      · simp [hb0]
      · by_cases h4 : t.ba = 4
        · by_cases hs : t.st = 0
          · simp [whole, small, h4, hs]
          · have hs' : 0 < t.st := by omega
            simp [whole, small, h4, hs, hs']
        · rw [if_neg h4] at hk'
          simp at hk'
          have hb : t.ba = 1 ∨ t.ba = 2 ∨ t.ba = 3 := by omega
          by_cases hs' : 0 < t.st
          · simp [whole, small, h4, hb0, hs']
          · rcases hb with hb | hb | hb <;> simp [whole, small, hb, hs']
theorem find_n {w : World} {B n : Nat} {A : Option Addr} {c : Nat} {l : List Sc} (nm : ByteArray) (hn : l.length = n) (hS : ScsAt w B A l) (hB : B ≤ w.heap.size) (hl : l.length ≤ 1099511627776) :
    Calls Try.prog 16 #[.slice A n c, .string nm] w fun e w' => ∃ v, e = .returned (.tuple #[v, .bool (decide (0 ≤ sIdx l nm))]) ∧ ScV w' B v (fnd l nm) ∧ Below w.heap.size w w' := by
  subst hn; exact find_any nm hS hB hl
set_option maxHeartbeats 4000000 in
theorem rcheck_any {w : World} {B : Nat} {A : Option Addr} {c : Nat} {l : List Sc} (hS : ScsAt w B A l) (hB : B ≤ w.heap.size) (hl : l.length ≤ 1099511627776) (hlc : l.length ≤ c) (hcm : c ≤ maxLen) :
    Calls Try.prog 13 #[.slice A l.length c] w fun e w' => e = .returned (.tuple #[.int .i64 (chk l).1, .int .i64 (chk l).2]) ∧ Below w.heap.size w w' := by
  by_cases h20 : 20 < l.length
  · have hV : chk l = ((l.getD 20 sc0).at_, 3) := by unfold chk; rw [if_pos h20]
    rw [hV]
    obtain ⟨g, o, rfl, hg, hrg⟩ := hS (by omega)
    obtain ⟨fA, fc, -, -, hr, -⟩ := hrg 20 h20
    have hc2 := hr 2 _ rfl
    generalize l.getD 20 sc0 = s at *
    have h1 : decide (20 < (l.length : Int)) = true := decide_eq_true (by omega)
    have h2 : (20 : Int) < (l.length : Int) := by omega
    clear hrg hr hV
    go_enter Try.func13, Try.ntmps13
    go_wp2
    go_ret2
    exact ⟨rfl, Below.refl _ _⟩
  · have hV : chk l = fb (strB l) l.length := by unfold chk; rw [if_neg h20]
    rw [hV]
    have h1 : decide (20 < (l.length : Int)) = false := decide_eq_false (by omega)
    generalize hV2 : fb (strB l) l.length = V
    obtain ⟨V1, V2⟩ := V
    have HV := Lib.hid hV2; clear hV hV2
    go_enter Try.func13, Try.ntmps13
    go_wp2
    go_loopw [22] (fun k wr => ∃ j : Nat, j ≤ l.length ∧ k = .int .i64 j ∧ (∀ i, i < j → (strB l i).2 = 0) ∧ Below w.heap.size w wr) (fun k _ => l.length - (intOf k).toNat)
    case atStart => exact ⟨0, Nat.zero_le _, rfl, fun i hi => by omega, Below.refl _ _⟩
    case round =>
      obtain ⟨j, hj, rfl, hno, hbe⟩ := hrel
      by_cases hlt : j < l.length
      · have hSt := (hS.take j).keep hbe hB
        have hS1 := hS.keep hbe hB
        obtain ⟨g, o, rfl, hg, hrg⟩ := hS (by omega)
        obtain ⟨fA, fc, hf1, hf2, hr, hfd⟩ := hrg j hlt
        have hr' := range_keep hr (Nat.lt_of_lt_of_le hg hB) hbe
        have hfd1 := hfd.keep hbe hB
        have dj0 : (0 : Int) ≤ (j : Int) := by omega
        have dj1 : (j : Int) < (l.length : Int) := by omega
        have dj2 : (j : Int) ≤ (c : Int) := by omega
        have hit := fb_hit (strB l) l.length j hlt hno (fun i _ => strB_z l i)
        have htl : (l.take j).length = j := by simp; omega
        clear hrg hr hfd
        generalize hs : l.getD j sc0 = s at *
        generalize hpre : l.take j = pre at *
        obtain ⟨nm, fs, sat⟩ := s
        have hst := strB_eq hpre hs
        clear hs hpre
        dsimp only at *
        go_wp2_with (refine wpList_load_mid (op := ⟨some 28, _, _, _, _, _⟩) rfl 45 (.tmp 27) rfl g (o + j * 3) rfl [.string nm, .slice fA fs.length fc, .int .i64 sat] _ hr' Try.underlying45 rfl sizeSc ?_)
        have hb2 := hbe.alloc hbe.size (.cells #[.string nm, .slice fA fs.length fc, .int .i64 sat] 45)
        have hwz := hbe.size
        have hbB : Below B wr (wr.alloc (.cells #[.string nm, .slice fA fs.length fc, .int .i64 sat] 45)) := (Below.refl B wr).alloc (by omega) _
        have hcn : (wr.alloc (.cells #[.string nm, .slice fA fs.length fc, .int .i64 sat] 45)).heap[wr.heap.size]? = some (.cells #[.string nm, .slice fA fs.length fc, .int .i64 sat] 45) := heap_alloc_new _ _
        have hX : (wr.alloc (.cells #[.string nm, .slice fA fs.length fc, .int .i64 sat] 45)).heap.size = wr.heap.size + 1 := szA _ _
        have hS2 := hS1.keep hbB (Nat.le_refl _)
        have hSt2 := hSt.keep hbB (Nat.le_refl _)
        have hfd2 := hfd1.keep hbB (Nat.le_refl _)
        generalize wr.alloc (.cells #[.string nm, .slice fA fs.length fc, .int .i64 sat] 45) = X at *
        have c0 : X.cell? ⟨wr.heap.size, 0, none⟩ = some (.string nm) := (sc_cells hcn).1
        have hcf : pre.length ≤ 1099511627776 := by omega
        have hbx : B ≤ X.heap.size := by omega
        clear hr' hbB
        have hW1 : ScsAt X.drew B (some ⟨g, o, none⟩) pre := hSt2.keep (Below.refl B X).drew (Nat.le_refl _)
        have hW2 : ScsAt (X.alloc (.cells #[.string ByteArray.empty, .slice none 0 0, .int .i64 0] 45)).drew B (some ⟨g, o, none⟩) pre := hSt2.keep ((Below.refl B X).alloc hbx _).drew (Nat.le_refl _)
        have hbx1 : B ≤ X.drew.heap.size := hbx
        have hbx2 : B ≤ (X.alloc (.cells #[.string ByteArray.empty, .slice none 0 0, .int .i64 0] 45)).drew.heap.size := by simp only [szD, szA]; omega
        have cD1 : X.drew.cell? ⟨wr.heap.size, 0, none⟩ = some (.string nm) := c0
        have cD2 : (X.alloc (.cells #[.string ByteArray.empty, .slice none 0 0, .int .i64 0] 45)).drew.cell? ⟨wr.heap.size, 0, none⟩ = some (.string nm) := (World.cell?_alloc_lt X _ _ (by show wr.heap.size < X.heap.size; omega)).trans c0
        have hzD1 : X.drew.heap.size = X.heap.size := rfl
        have hzD2 : (X.alloc (.cells #[.string ByteArray.empty, .slice none 0 0, .int .i64 0] 45)).drew.heap.size = X.heap.size + 1 := by simp only [szD, szA]
        have hlt9 : X.heap.size < (X.alloc (.cells #[.string ByteArray.empty, .slice none 0 0, .int .i64 0] 45)).drew.heap.size := by rw [hzD2]; exact Nat.lt_succ_self _
        go_cut [7, 13, 14, 15, 16, 17, 18, 19, 20, 21, 22] from 6 to 37 (fun s7 s13 s14 s15 s16 s17 s18 s19 s20 s21 s22 wx => s7 = .bool (decide (0 ≤ sIdx pre nm)) ∧ s13 = .slice (some ⟨g, o, none⟩) l.length c ∧ s14 = .int .i64 l.length ∧ s15 = .bool false ∧ s16 = undef ∧ s17 = undef ∧ s18 = undef ∧ s19 = undef ∧ s20 = .slice (some ⟨g, o, none⟩) l.length c ∧ s21 = .int .i64 l.length ∧ s22 = .int .i64 j ∧ Below X.heap.size X wx)
        case first =>
          go_region_held3 (fun W => W.cell? ⟨wr.heap.size, 0, none⟩ = some (.string nm)) (first | go_keep | (rw [hb.cell (by simp only [szA, szD]; omega)]; go_simp)) (first | (go_at_call 16; refine (find_n nm htl hW1 hbx1 hcf).mono ?_; rintro e w3 ⟨v, rfl, ⟨vA, vc, rfl, -⟩, hb⟩; have hw3 : w3.cell? ⟨wr.heap.size, 0, none⟩ = some (.string nm) := (hb.cell (p := ⟨wr.heap.size, 0, none⟩) (by show wr.heap.size < X.heap.size; omega)).trans cD1) | (go_at_call 16; refine (find_n nm htl hW2 hbx2 hcf).mono ?_; rintro e w3 ⟨v, rfl, ⟨vA, vc, rfl, -⟩, hb⟩; have hw3 : w3.cell? ⟨wr.heap.size, 0, none⟩ = some (.string nm) := (hb.cell (p := ⟨wr.heap.size, 0, none⟩) (by show wr.heap.size < _; rw [hzD2]; omega)).trans cD2; have hrw3 : w3.heap[wr.heap.size + 1]? = some (.cells #[.string ByteArray.empty, .slice none 0 0, .int .i64 0] 45) := hX ▸ (hb.block X.heap.size hlt9).trans (heap_alloc_new X _); obtain ⟨z0, z1, z2⟩ := sc_cells hrw3; have y0 := frozen_of_row w3 (wr.heap.size + 1) 0 _ _ hrw3; have y1 := frozen_of_row w3 (wr.heap.size + 1) 1 _ _ hrw3; have y2 := frozen_of_row w3 (wr.heap.size + 1) 2 _ _ hrw3; clear hrw3))
          all_goals
            go_wp2_with fail
            go_meet
            refine ⟨rfl, rfl, rfl, rfl, rfl, rfl, rfl, rfl, rfl, rfl, rfl, ?_⟩
            have hB0 := Below.trans (B := X.heap.size) (a := X) (by repeat (first | exact Below.refl _ _ | apply Below.drew | (refine Below.alloc ?_ (by simp) _))) (hb.mono (by simp only [szA, szD]; omega))
            repeat (first | exact hB0 | (refine Below.setCell ?_ (by simp; omega) _) | (refine Below.alloc ?_ hB0.size _))
        case rest =>
          obtain ⟨rfl, rfl, rfl, rfl, rfl, rfl, rfl, rfl, rfl, rfl, rfl, hb3⟩ := hcut
          have hbw := hb2.trans (hb3.mono hb2.size)
          have hr3 := row_below hb3 hcn (by omega)
          have hS3 := hS2.keep hb3 (by omega)
          have hfd3 := hfd2.keep hb3 (by omega)
          obtain ⟨k0, k1, k2⟩ := sc_cells hr3
          have hr3z := hb3.size
          have hwlt : wr.heap.size < wc.heap.size := by omega
          clear hb3 hb2 hX c0 hcn hfd2 hfd1 hSt2 hSt hS2 hS1 hW1 hW2 hbx1 hbx2 cD1 cD2 hzD1 hzD2 hlt9
          by_cases hnm : 0 ≤ sIdx pre nm
          · rw [if_pos hnm] at hst
            have hz := HV.out.symm.trans ((hit (by rw [hst]; simp)).trans hst)
            injection hz with e1 e2
            subst e1 e2
            rw [decide_eq_true hnm]
            clear HV hit hst hno
            go_wp2
            go_ret2
            exact ⟨rfl, hbw⟩
          · rw [decide_eq_false hnm]
            rw [if_neg hnm] at hst
            by_cases hfz : fs.length = 0 ∨ 12 < fs.length
            · rw [if_pos hfz] at hst
              have hz := HV.out.symm.trans ((hit (by rw [hst]; simp)).trans hst)
              injection hz with e1 e2
              subst e1 e2
              clear HV hit hst hno
              rcases hfz with hfz | hfz
              · have e0 : ((fs.length : Int) == 0) = true := by rw [beq_iff_eq]; omega
                go_wp2
                go_ret2
                exact ⟨rfl, hbw⟩
              · have e0 : ((fs.length : Int) == 0) = false := beq_eq_false_iff_ne.mpr (by omega)
                have e12 : decide (12 < (fs.length : Int)) = true := decide_eq_true (by omega)
                go_wp2
                go_ret2
                exact ⟨rfl, hbw⟩
            · rw [if_neg hfz] at hst
              have e0 : ((fs.length : Int) == 0) = false := beq_eq_false_iff_ne.mpr (by omega)
              have e12 : decide (12 < (fs.length : Int)) = false := decide_eq_false (by omega)
              have f1 : fs.length ≤ 1099511627776 := by omega
              clear hfz
              have hstop : (chkF l fs).2 ≠ 0 → (V1, V2) = chkF l fs := fun h => HV.out.symm.trans ((hit (by rw [hst]; exact h)).trans hst)
              have hgo : (chkF l fs).2 = 0 → (strB l j).2 = 0 := fun h => by rw [hst]; exact h
              generalize wr.heap.size = sb at *
              clear hit hst HV
              go_wp2
              go_loopw [56] (fun k w2 => ∃ m : Nat, m ≤ fs.length ∧ k = .int .i64 m ∧ (∀ i, i < m → (fldB l fs i).2 = 0) ∧ Below wc.heap.size wc w2) (fun k _ => fs.length - (intOf k).toNat)
              case atStart => exact ⟨0, Nat.zero_le _, rfl, fun i hi => by omega, Below.refl _ _⟩
              case round =>
                obtain ⟨m, hm, rfl, hmo, hbm⟩ := hrel
                by_cases hmt : m < fs.length
                · obtain ⟨g2, o2, rfl, hg2, hrg2⟩ := hfd3 (by omega)
                  have hr2 := range_keep (hrg2 m hmt) (by omega) hbm
                  have hrs := row_below hbm hr3 (by omega)
                  obtain ⟨t0, t1, t2⟩ := sc_cells hrs
                  have hSm := hS3.keep hbm (by omega)
                  have dm0 : (0 : Int) ≤ (m : Int) := by omega
                  have dm1 : (m : Int) < (fs.length : Int) := by omega
                  have hmit := fb_hit (fldB l fs) fs.length m hmt hmo (fun i _ => fldB_z l fs i)
                  clear k0 k1 k2
                  generalize hf : fs.getD m fd0 = f at *
                  obtain ⟨fn, t, fat⟩ := f
                  have hfld := fldB_eq (l := l) (pre := fs.take m) rfl hf
                  obtain ⟨ba, st, sn⟩ := t
                  clear hf
                  dsimp only at *
                  go_wp2_with (refine wpList_load_mid (op := ⟨some 63, _, _, _, _, _⟩) rfl 47 (.tmp 62) rfl g2 (o2 + m * 5) rfl [.string fn, .int .i64 ba, .int .i64 st, .string sn, .int .i64 fat] _ hr2 Try.underlying47 rfl sizeFd ?_)
                  have hbm2 := hbm.alloc hbm.size (.cells #[.string fn, .int .i64 ba, .int .i64 st, .string sn, .int .i64 fat] 47)
                  have hbmz := hbm.size
                  have hbB2 : Below wr.heap.size wr (wr.alloc (.cells #[.string fn, .int .i64 ba, .int .i64 st, .string sn, .int .i64 fat] 47)) := (Below.refl _ _).alloc (Nat.le_refl _) _
                  have hcf2 : (wr.alloc (.cells #[.string fn, .int .i64 ba, .int .i64 st, .string sn, .int .i64 fat] 47)).heap[wr.heap.size]? = some (.cells #[.string fn, .int .i64 ba, .int .i64 st, .string sn, .int .i64 fat] 47) := heap_alloc_new _ _
                  have hrs2 := row_below hbB2 hrs (by omega)
                  have hSm2 := hSm.keep hbB2 (by omega)
                  have hrg3 : ∀ i, i < fs.length → (wr.alloc (.cells #[.string fn, .int .i64 ba, .int .i64 st, .string sn, .int .i64 fat] 47)).cell? ⟨g2, o2 + i * 5, none⟩ = some (.string (fs.getD i fd0).nm) := fun i hi => range_keep (range_keep (hrg2 i hi) (by omega) hbm) (B := wr.heap.size) (by omega) hbB2 0 _ rfl
                  have hz2 : (wr.alloc (.cells #[.string fn, .int .i64 ba, .int .i64 st, .string sn, .int .i64 fat] 47)).heap.size = wr.heap.size + 1 := szA _ _
                  have HRG := Lib.hid hrg3
                  clear hrg3 hrg2 hr2 hbB2 hSm hrs t0 t1 t2
                  generalize wr.alloc (.cells #[.string fn, .int .i64 ba, .int .i64 st, .string sn, .int .i64 fat] 47) = Y at *
                  generalize wr.heap.size = fb' at *
                  go_loopw [10] (fun k w2 => ∃ i : Nat, i ≤ m ∧ k = .int .i64 i ∧ (∀ i', i' < i → ((fs.getD i' fd0).nm.toList == fn.toList) = false) ∧ Below Y.heap.size Y w2) (fun k _ => m - (intOf k).toNat)
                  case atStart => exact ⟨0, Nat.zero_le _, rfl, fun i hi => by omega, Below.refl _ _⟩
                  case round =>
                    obtain ⟨i, hi, rfl, hio, hbi⟩ := hrel
                    obtain ⟨t0, t1, t2⟩ := sc_cells (row_below hbi hrs2 (by omega))
                    obtain ⟨f0, f1, f2, f3, f4⟩ := fd_cells' (row_below hbi hcf2 (by omega))
                    by_cases him : i < m
                    · have hce : wr.cell? ⟨g2, o2 + i * 5, none⟩ = some (.string (fs.getD i fd0).nm) := (hbi.cell (p := ⟨g2, o2 + i * 5, none⟩) (by show g2 < Y.heap.size; omega)).trans (HRG.out i (by omega))
                      generalize hen : (fs.getD i fd0).nm = en at *
                      have di0 : (0 : Int) ≤ (i : Int) := by omega
                      have di1 : (i : Int) < (fs.length : Int) := by omega
                      have di2 : decide ((i : Int) < (m : Int)) = true := decide_eq_true (by omega)
                      cases hq : (en.toList == fn.toList)
                      · go_wp2_with fail
                        go_quiet (fail)
                        go_wp2
                        go_roundw
                        case rel =>
                          refine ⟨i + 1, by omega, by go_num, fun i' hi' => ?_, below_drewN hbi _⟩
                          rcases Nat.lt_or_ge i' i with h | h
                          · exact hio i' h
                          · obtain rfl : i' = i := by omega
                            rw [hen]; exact hq
                        case measure => simp [intOf]; omega
                      · have hix := idx_hit (fun s : Fe => s.nm.toList == fn.toList) (fs.take m) fd0 i (by simp; omega) (fun i' hi' => by
                          have e : (fs.take m).getD i' fd0 = fs.getD i' fd0 := by simp [List.getD, show i' < m by omega]
                          rw [e]; exact hio i' hi') (by
                          have e : (fs.take m).getD i fd0 = fs.getD i fd0 := by simp [List.getD, him]
                          rw [e, hen]; exact hq)
                        rw [if_pos (.inl (by show 0 ≤ fIdx (fs.take m) fn; unfold fIdx; rw [hix]; omega))] at hfld
                        have hz := (hstop (by unfold chkF; rw [hmit (by rw [hfld]; simp), hfld]; simp)).trans ((hmit (by rw [hfld]; simp)).trans hfld)
                        injection hz with e1 e2
                        subst e1 e2
                        have hfin := hbw.trans ((hbm2.trans (hbi.mono hbm2.size)).mono hbw.size)
                        clear hmit hstop hgo hfld hix
                        go_wp2_with fail
                        go_quiet (fail)
                        go_wp2
                        go_ret2
                        exact ⟨rfl, below_drewN hfin _⟩
                    · obtain rfl : i = m := by omega
                      have hnone : fIdx (fs.take i) fn = -1 := idx_none _ _ fd0 (fun i' hi' => by
                        have hi2 : i' < i := by simp at hi'; omega
                        have e : (fs.take i).getD i' fd0 = fs.getD i' fd0 := by simp [List.getD, hi2]
                        rw [e]; exact hio i' hi2)
                      rw [hnone] at hfld
                      have di2 : decide ((i : Int) < (i : Int)) = false := decide_eq_false (by omega)
                      have hSi := hSm2.keep hbi (by omega)
                      have hcfi := row_below hbi hcf2 (by omega)
                      have hrsi := row_below hbi hrs2 (by omega)
                      have hbiz := hbi.size
                      have hbwi := hbw.trans ((hbm2.trans (hbi.mono hbm2.size)).mono hbw.size)
                      have hbc := hbm2.trans (hbi.mono hbm2.size)
                      clear hnone hio HRG
                      have hmb := mayBe_eq l ⟨ba, st, sn⟩
                      go_wp2_with fail
                      refine (find_any sn hSi (by omega) hl).mono ?_
                      rintro e w4 ⟨v4, rfl, ⟨vA, vc, rfl, -⟩, h4⟩
                      have hbw4 := hbwi.trans (h4.mono hbwi.size)
                      have hbc4 := hbc.trans (h4.mono hbc.size)
                      have hcf4 := row_below h4 hcfi (by omega)
                      have hrs4 := row_below h4 hrsi (by omega)
                      have hS4 := hSi.keep h4 (by omega)
                      have hz4 := h4.size
                      generalize fnd l sn = vv
                      clear h4 hcfi hrsi hSi hbwi hcf2 hrs2 hSm2 t0 t1 t2 f0 f1 f2 f3 f4 hbi
                      have hbA : Below w4.heap.size w4 (w4.alloc (.cells #[.string vv.nm, .slice vA vv.fs.length vc, .int .i64 vv.at_] 45)) := (Below.refl _ _).alloc (Nat.le_refl _) _
                      have hbwA := hbw4.trans (hbA.mono hbw4.size)
                      have hbcA := hbc4.trans (hbA.mono hbc4.size)
                      have hcfA := row_below hbA hcf4 (by omega)
                      have hrsA := row_below hbA hrs4 (by omega)
                      have hSA := hS4.keep hbA (by omega)
                      have hzA := hbA.size
                      by_cases hb4 : ba = 4 ∧ sIdx l sn < 0
                      · rw [if_pos (.inr hb4)] at hfld
                        have hz := (hstop (by unfold chkF; rw [hmit (by rw [hfld]; simp), hfld]; simp)).trans ((hmit (by rw [hfld]; simp)).trans hfld)
                        injection hz with e1 e2
                        subst e1 e2
                        obtain ⟨rfl, hsn⟩ := hb4
                        rw [show decide (0 ≤ sIdx l sn) = false from decide_eq_false (by omega)]
                        obtain ⟨f0, f1, f2, f3, f4⟩ := fd_cells' hcfA
                        clear hmit hstop hgo hfld
                        go_wp2
                        go_ret2
                        exact ⟨rfl, hbwA⟩
                      · rw [if_neg (fun h => h.elim (by omega) hb4)] at hfld
                        obtain ⟨f0, f1, f2, f3, f4⟩ := fd_cells' hcfA
                        by_cases hb5 : ba = 4
                        · have hsn : 0 ≤ sIdx l sn := by omega
                          rw [decide_eq_true hsn]
                          subst hb5
                          clear hb4
                          go_wp2_with fail
                          refine (rknown_any ⟨4, st, sn⟩ hSA (by omega) hl).mono ?_
                          rintro e w5 ⟨rfl, h5⟩
                          have hbw5 := hbwA.trans (h5.mono hbwA.size)
                          have hbc5 := hbcA.trans (h5.mono hbcA.size)
                          have hcf5 := row_below h5 hcfA (by omega)
                          have hz5 := h5.size
                          obtain ⟨p0, p1, p2, p3, p4⟩ := fd_cells' hcf5
                          clear f0 f1 f2 f3 f4
                          have hbad : mayBe l ⟨4, st, sn⟩ = false → (V1, V2) = (fat, (14 : Int)) := fun h => by
                            rw [if_neg (by rw [h]; simp)] at hfld
                            exact (hstop (by unfold chkF; rw [hmit (by rw [hfld]; simp), hfld]; simp)).trans ((hmit (by rw [hfld]; simp)).trans hfld)
                          have hgood : mayBe l ⟨4, st, sn⟩ = true → (fldB l fs i).2 = 0 := fun h => by
                            rw [if_pos h] at hfld
                            rw [hfld]
                          rw [hmb] at hbad hgood
                          clear hfld hmit hmb
                          cases hk : known l ⟨4, st, sn⟩
                          · rw [hk] at hbad
                            have hz := hbad rfl
                            injection hz with e1 e2
                            subst e1 e2
                            clear hbad hgood hstop hgo
                            go_wp2
                            go_ret2
                            exact ⟨rfl, hbw5⟩
                          · rw [hk] at hbad hgood
                            go_wp2_with fail
                            refine (small_any ⟨4, st, sn⟩ w5).mono ?_
                            rintro e w6 ⟨rfl, h6⟩
                            have hbw6 := hbw5.trans (h6.mono hbw5.size)
                            obtain ⟨q0, q1, q2, q3, q4⟩ := fd_cells' (row_below h6 hcf5 (by omega))
                            clear p0 p1 p2 p3 p4
                            cases hsm : (small ⟨4, st, sn⟩ == 0)
                            · rw [hsm] at hbad hgood
                              have hz := hgood rfl
                              clear hbad hgood hstop
                              go_wp2
                              go_roundw
                              case rel =>
                                refine ⟨i + 1, by omega, by go_num, fun i' hi' => ?_, ?_⟩
                                · rcases Nat.lt_or_ge i' i with h | h
                                  · exact hmo i' h
                                  · obtain rfl : i' = i := by omega
                                    exact hz
                                · exact hbc5.trans (h6.mono hbc5.size)
                              case measure => simp [intOf]; omega
                            · rw [hsm] at hbad
                              have hz := hbad rfl
                              injection hz with e1 e2
                              subst e1 e2
                              clear hbad hgood hstop hgo
                              go_wp2
                              go_ret2
                              exact ⟨rfl, hbw6⟩
                        · have hb5' : (ba == 4) = false := by simpa using hb5
                          clear hb4
                          go_wp2_with fail
                          refine (rknown_any ⟨ba, st, sn⟩ hSA (by omega) hl).mono ?_
                          rintro e w5 ⟨rfl, h5⟩
                          have hbw5 := hbwA.trans (h5.mono hbwA.size)
                          have hbc5 := hbcA.trans (h5.mono hbcA.size)
                          have hcf5 := row_below h5 hcfA (by omega)
                          have hz5 := h5.size
                          obtain ⟨p0, p1, p2, p3, p4⟩ := fd_cells' hcf5
                          clear f0 f1 f2 f3 f4
                          have hbad : mayBe l ⟨ba, st, sn⟩ = false → (V1, V2) = (fat, (14 : Int)) := fun h => by
                            rw [if_neg (by rw [h]; simp)] at hfld
                            exact (hstop (by unfold chkF; rw [hmit (by rw [hfld]; simp), hfld]; simp)).trans ((hmit (by rw [hfld]; simp)).trans hfld)
                          have hgood : mayBe l ⟨ba, st, sn⟩ = true → (fldB l fs i).2 = 0 := fun h => by
                            rw [if_pos h] at hfld
                            rw [hfld]
                          rw [hmb] at hbad hgood
                          clear hfld hmit hmb
                          cases hk : known l ⟨ba, st, sn⟩
                          · rw [hk] at hbad
                            have hz := hbad rfl
                            injection hz with e1 e2
                            subst e1 e2
                            clear hbad hgood hstop hgo
                            go_wp2
                            go_ret2
                            exact ⟨rfl, hbw5⟩
                          · rw [hk] at hbad hgood
                            go_wp2_with fail
                            refine (small_any ⟨ba, st, sn⟩ w5).mono ?_
                            rintro e w6 ⟨rfl, h6⟩
                            have hbw6 := hbw5.trans (h6.mono hbw5.size)
                            obtain ⟨q0, q1, q2, q3, q4⟩ := fd_cells' (row_below h6 hcf5 (by omega))
                            clear p0 p1 p2 p3 p4
                            cases hsm : (small ⟨ba, st, sn⟩ == 0)
                            · rw [hsm] at hbad hgood
                              cases hb0 : (ba == 0)
                              · rw [hb0] at hbad hgood
                                have hz := hgood rfl
                                clear hbad hgood hstop
                                go_wp2
                                go_roundw
                                case rel =>
                                  refine ⟨i + 1, by omega, by go_num, fun i' hi' => ?_, ?_⟩
                                  · rcases Nat.lt_or_ge i' i with h | h
                                    · exact hmo i' h
                                    · obtain rfl : i' = i := by omega
                                      exact hz
                                  · exact hbc5.trans (h6.mono hbc5.size)
                                case measure => simp [intOf]; omega
                              · rw [hb0] at hbad
                                have hz := hbad rfl
                                injection hz with e1 e2
                                subst e1 e2
                                clear hbad hgood hstop hgo
                                go_wp2
                                go_ret2
                                exact ⟨rfl, hbw6⟩
                            · rw [hsm] at hbad
                              have hz := hbad rfl
                              injection hz with e1 e2
                              subst e1 e2
                              clear hbad hgood hstop hgo
                              go_wp2
                              go_ret2
                              exact ⟨rfl, hbw6⟩
                · obtain rfl : m = fs.length := by omega
                  have hvv : chkF l fs = (0, 0) := fb_none _ _ hmo (fun i _ => fldB_z l fs i)
                  have hz := hgo (by rw [hvv])
                  clear hstop hgo
                  go_wp2
                  go_roundw
                  case rel =>
                    refine ⟨j + 1, by omega, by go_num, fun i hi => ?_, hbw.trans (hbm.mono hbw.size)⟩
                    rcases Nat.lt_or_ge i j with h | h
                    · exact hno i h
                    · obtain rfl : i = j := by omega
                      exact hz
                  case measure => simp [intOf]; omega
      · obtain rfl : j = l.length := by omega
        have hvv : fb (strB l) l.length = (0, 0) := fb_none _ _ hno (fun i _ => strB_z l i)
        have hz : (V1, V2) = ((0, 0) : Int × Int) := HV.out.symm.trans hvv
        injection hz with e1 e2
        subst e1 e2
        clear HV hvv
        go_wp2
        go_ret2
        exact ⟨rfl, hbe⟩
end Go.Proofs.Ytalelgnooemooaa
