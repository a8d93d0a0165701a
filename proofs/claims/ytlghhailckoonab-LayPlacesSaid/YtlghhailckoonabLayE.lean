/- What package lay says of lists of structs. Conditions: each theorem's. -/
import Derived.Test.YtlghhailckoonabLayD
namespace Go.Proofs.Ytlghhailckoonab
open Go.RowKit
set_option linter.unusedVariables false
set_option linter.unusedSimpArgs false
set_option maxRecDepth 10000
open Py
theorem strB_eq {l pre : List Sc} {j : Nat} {nm : ByteArray} {fs : List Fe} {a : Int} (h1 : l.take j = pre) (h2 : l.getD j sc0 = ⟨nm, fs, a⟩) :
    strB l j = if 0 ≤ sIdx pre nm then (a, 13) else if fs.length = 0 ∨ 12 < fs.length then (a, 3) else chkF l fs := by
  unfold strB; rw [h1, h2]
set_option maxHeartbeats 4000000 in
theorem check_any {w : World} {B : Nat} {A : Option Addr} {c : Nat} {l : List Sc} (hS : ScsAt w B A l) (hB : B ≤ w.heap.size) (hl : l.length ≤ 1099511627776) (hlc : l.length ≤ c) (hcm : c ≤ maxLen) :
    Calls Try.prog 11 #[.slice A l.length c] w fun e w' => e = .returned (.tuple #[.int .i64 (chk l).1, .int .i64 (chk l).2]) ∧ Below w.heap.size w w' := by
  by_cases h20 : 20 < l.length
  · have hV : chk l = ((l.getD 20 sc0).at_, 3) := by unfold chk; rw [if_pos h20]
    rw [hV]
    obtain ⟨g, o, rfl, hg, hrg⟩ := hS (by omega)
    obtain ⟨fA, fc, -, -, hr, -⟩ := hrg 20 h20
    have hc2 := hr 2 _ rfl
    generalize l.getD 20 sc0 = s at *
    have h1 : decide (20 < (l.length : Int)) = true := decide_eq_true (by omega)
    have h2 : (20 : Int) < (l.length : Int) := by omega
    clear hrg hr hV
    go_enter Try.func11, Try.ntmps11
    go_wp2
    go_ret2
    exact ⟨rfl, Below.refl _ _⟩
  · have hV : chk l = fb (strB l) l.length := by unfold chk; rw [if_neg h20]
    rw [hV]
    have h1 : decide (20 < (l.length : Int)) = false := decide_eq_false (by omega)
    generalize hV2 : fb (strB l) l.length = V
    obtain ⟨V1, V2⟩ := V
    have HV := Lib.hid hV2; clear hV hV2
    go_enter Try.func11, Try.ntmps11
    go_wp2
    go_loopw [17] (fun k wr => ∃ j : Nat, j ≤ l.length ∧ k = .int .i64 j ∧ (∀ i, i < j → (strB l i).2 = 0) ∧ Below w.heap.size w wr) (fun k _ => l.length - (intOf k).toNat)
    case atStart => exact ⟨0, Nat.zero_le _, rfl, fun i hi => by omega, Below.refl _ _⟩
    case round =>
      obtain ⟨j, hj, rfl, hno, hbe⟩ := hrel
      by_cases hlt : j < l.length
      · have hSt := (hS.take j).keep hbe hB
        have hS1 := hS.keep hbe hB
        obtain ⟨g, o, rfl, hg, hrg⟩ := hS (by omega)
        obtain ⟨fA, fc, hf1, hf2, hr, hfd⟩ := hrg j hlt
        have hr' := range_keep hr (Nat.lt_of_lt_of_le hg hB) hbe
        have hfd1 := hfd.keep hbe hB
        have dj0 : (0 : Int) ≤ (j : Int) := by omega
        have dj1 : (j : Int) < (l.length : Int) := by omega
        have dj2 : (j : Int) ≤ (c : Int) := by omega
        have hit := fb_hit (strB l) l.length j hlt hno (fun i _ => strB_z l i)
        have htl : (l.take j).length = j := by simp; omega
        clear hrg hr hfd
        generalize hs : l.getD j sc0 = s at *
        generalize hpre : l.take j = pre at *
        obtain ⟨nm, fs, sat⟩ := s
        have hst := strB_eq hpre hs
        clear hs hpre
        dsimp only at *
        go_wp2_with (refine wpList_load_mid (op := ⟨some 21, _, _, _, _, _⟩) rfl 37 (.tmp 20) rfl g (o + j * 3) rfl [.string nm, .slice fA fs.length fc, .int .i64 sat] _ hr' Try.underlying37 rfl sizeSc ?_)
        have hb2 := hbe.alloc hbe.size (.cells #[.string nm, .slice fA fs.length fc, .int .i64 sat] 37)
        have hwz := hbe.size
        have hbB : Below B wr (wr.alloc (.cells #[.string nm, .slice fA fs.length fc, .int .i64 sat] 37)) := (Below.refl B wr).alloc (by omega) _
        have hcn : (wr.alloc (.cells #[.string nm, .slice fA fs.length fc, .int .i64 sat] 37)).heap[wr.heap.size]? = some (.cells #[.string nm, .slice fA fs.length fc, .int .i64 sat] 37) := heap_alloc_new _ _
        have hX : (wr.alloc (.cells #[.string nm, .slice fA fs.length fc, .int .i64 sat] 37)).heap.size = wr.heap.size + 1 := szA _ _
        have hS2 := hS1.keep hbB (Nat.le_refl _)
        have hSt2 := hSt.keep hbB (Nat.le_refl _)
        have hfd2 := hfd1.keep hbB (Nat.le_refl _)
        generalize wr.alloc (.cells #[.string nm, .slice fA fs.length fc, .int .i64 sat] 37) = X at *
        have c0 : X.cell? ⟨wr.heap.size, 0, none⟩ = some (.string nm) := (sc_cells hcn).1
        have hcf : pre.length ≤ 1099511627776 := by omega
        have hbx : B ≤ X.heap.size := by omega
        clear hr' hbB
        go_region_held3 (fun W => W.cell? ⟨wr.heap.size, 0, none⟩ = some (.string nm)) (first | go_keep | (rw [hb.cell (by simp only [szA, szD]; omega)]; go_simp)) (first | (go_at_call 22; refine (isStruct_n nm htl (hSt2.keep (Below.refl B X).drew (Nat.le_refl _)) hbx hcf).mono ?_; rintro e w3 ⟨rfl, hb⟩))
        have hb3 : Below X.heap.size X w3 := (Below.refl X.heap.size X).drew.trans hb
        have hbw := hb2.trans (hb3.mono hb2.size)
        have hr3 := row_below hb3 hcn (by omega)
        have hS3 := hS2.keep hb3 (by omega)
        have hfd3 := hfd2.keep hb3 (by omega)
        obtain ⟨k0, k1, k2⟩ := sc_cells hr3
        have hr3z := hb3.size
        have hwlt : wr.heap.size < w3.heap.size := by omega
        clear hb hb3 hb2 hX c0 hcn hfd2 hfd1 hSt2 hSt hS2 hS1
        by_cases hnm : 0 ≤ sIdx pre nm
        · rw [if_pos hnm] at hst
          have hz := HV.out.symm.trans ((hit (by rw [hst]; simp)).trans hst)
          injection hz with e1 e2
          subst e1 e2
          rw [decide_eq_true hnm]
          clear HV hit hst hno
          go_wp2
          go_ret2
          exact ⟨rfl, hbw⟩
        · rw [decide_eq_false hnm]
          rw [if_neg hnm] at hst
          by_cases hfz : fs.length = 0 ∨ 12 < fs.length
          · rw [if_pos hfz] at hst
            have hz := HV.out.symm.trans ((hit (by rw [hst]; simp)).trans hst)
            injection hz with e1 e2
            subst e1 e2
            clear HV hit hst hno
            rcases hfz with hfz | hfz
            · have e0 : ((fs.length : Int) == 0) = true := by rw [beq_iff_eq]; omega
              go_wp2
              go_ret2
              exact ⟨rfl, hbw⟩
            · have e0 : ((fs.length : Int) == 0) = false := beq_eq_false_iff_ne.mpr (by omega)
              have e12 : decide (12 < (fs.length : Int)) = true := decide_eq_true (by omega)
              go_wp2
              go_ret2
              exact ⟨rfl, hbw⟩
          · rw [if_neg hfz] at hst
            have e0 : ((fs.length : Int) == 0) = false := beq_eq_false_iff_ne.mpr (by omega)
            have e12 : decide (12 < (fs.length : Int)) = false := decide_eq_false (by omega)
            have f1 : fs.length ≤ 1099511627776 := by omega
            clear hfz
            go_wp2_with fail
            refine (checkFields_any hS3 hfd3 (by omega) hl hf1 hf2 f1).mono ?_
            rintro e w4 ⟨rfl, h4⟩
            have hbw4 := hbw.trans (h4.mono hbw.size)
            obtain ⟨q0, q1, q2⟩ := sc_cells (row_below h4 hr3 (by omega))
            clear k0 k1 k2
            generalize chkF l fs = F at *
            obtain ⟨F1, F2⟩ := F
            dsimp only at *
            by_cases hF : F2 = 0
            · have hF' : (F2 == 0) = true := by simpa using hF
              have hz : (strB l j).2 = 0 := by rw [hst]; exact hF
              clear hit HV hst hF
              go_wp2
              go_roundw
              case rel =>
                refine ⟨j + 1, by omega, by go_num, fun i hi => ?_, hbw4⟩
                rcases Nat.lt_or_ge i j with h | h
                · exact hno i h
                · obtain rfl : i = j := by omega
                  exact hz
              case measure => simp [intOf]; omega
            · have hF' : (F2 == 0) = false := by simpa using hF
              have hz := HV.out.symm.trans ((hit (by rw [hst]; exact hF)).trans hst)
              injection hz with e1 e2
              subst e1 e2
              clear HV hit hst hno hF
              go_wp2
              go_ret2
              exact ⟨rfl, hbw4⟩
      · obtain rfl : j = l.length := by omega
        have hvv : fb (strB l) l.length = (0, 0) := fb_none _ _ hno (fun i _ => strB_z l i)
        have hz : (V1, V2) = ((0, 0) : Int × Int) := HV.out.symm.trans hvv
        injection hz with e1 e2
        subst e1 e2
        clear HV hvv
        go_wp2
        go_ret2
        exact ⟨rfl, hbe⟩
end Go.Proofs.Ytlghhailckoonab
