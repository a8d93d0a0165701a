/- The document's cells of so many of a struct. Conditions: each theorem's. -/
import Derived.Test.YticganpocdjcgaaLayCf
import Derived.Deep.RegionLaw
import Derived.IntWalk
namespace Go.Proofs.Yticganpocdjcgaa
open Go.RowKit Go.Maps
set_option linter.unusedVariables false
set_option linter.unusedSimpArgs false
set_option maxRecDepth 10000
open Py
theorem fldN_get (fs : List Fe) (k j : Nat) (h : j < k) : (fldN fs k).getD j cl0 = ⟨(layV fs).offs.getD j 0, (fs.getD j fd0).ty⟩ := by
  simp [fldN, List.getD, h]
theorem rls_next {w : World} {base i j n : Nat} {v : Value} {z off : Int} {t : Ty} {C : List Cl} (hj : j < C.length) (hn : (allC z C i ++ (shiftC z i C).take j).length = n) (h : w.ownsRow base 35 4 v (n + 1) (clsL (allC z C i ++ (shiftC z i C).take j) ++ [.int .i64 off, .int .i64 t.ba, .int .i64 t.st, .string t.sn])) (h1 : off = i * z + (C.getD j cl0).off) (h2 : t = (C.getD j cl0).ty) : RlsAt w base v (allC z C i ++ (shiftC z i C).take (j + 1)) := by
  subst h1 h2
  unfold RlsAt
  rw [shiftC_take z i j C hj, ← List.append_assoc, clsL_app, List.length_append, hn]
  exact h
set_option maxHeartbeats 8000000 in
theorem rcells_whole {w : World} {B n : Nat} {A : Option Addr} {c : Nat} {l : List Sc} (t : Ty) (z : Int) (hS : ScsAt w B A l) (hB : B ≤ w.heap.size) (hl : l.length ≤ 1099511627776) (hn : n ≤ 500) (hz : 0 ≤ z ∧ z ≤ 1073741824) (hsm : small t = 0)
    (hsize : ∀ W : World, ScsAt W B A l → B ≤ W.heap.size → Calls Try.prog 15 #[.slice A l.length c, .agg #[.int .i64 t.ba, .int .i64 t.st, .string t.sn]] W fun e w' => e = .returned (.tuple #[.int .i64 z, .bool true]) ∧ Below W.heap.size W w')
    (hf : 0 < (fnd l t.sn).fs.length ∧ (fnd l t.sn).fs.length ≤ 1000) (hCo : ∀ j, j < (fnd l t.sn).fs.length → 0 ≤ (layV (fnd l t.sn).fs).offs.getD j 0 ∧ (layV (fnd l t.sn).fs).offs.getD j 0 ≤ 1073741824)
    (hpl : ∀ (W : World) (fA : Option Addr) (fc : Nat), FdsAt W B fA (fnd l t.sn).fs → B ≤ W.heap.size → Calls Try.prog 17 #[.agg #[.string (fnd l t.sn).nm, .slice fA (fnd l t.sn).fs.length fc, .int .i64 (fnd l t.sn).at_]] W fun e w' => ∃ ov x y, e = .returned (.tuple #[ov, .int .i64 x, .int .i64 y]) ∧ w'.ownsRow W.heap.size 3 1 ov (fnd l t.sn).fs.length (ints (layV (fnd l t.sn).fs).offs) ∧ Below W.heap.size W w') :
    Calls Try.prog 9 #[.slice A l.length c, .agg #[.int .i64 t.ba, .int .i64 t.st, .string t.sn], .int .i64 n] w fun e w' => ∃ v, e = .returned (.tuple #[v, .int .i64 0]) ∧ RlsAt w' w.heap.size v (allC z (fldN (fnd l t.sn).fs (fnd l t.sn).fs.length) n) ∧ Below w.heap.size w w' := by
  have hb0 := (Below.refl w.heap.size w).alloc (Nat.le_refl _) (.cells #[.int .i64 t.ba, .int .i64 t.st, .string t.sn] 24)
  have hx := heap_alloc_new w (.cells #[.int .i64 t.ba, .int .i64 t.st, .string t.sn] 24)
  obtain ⟨a0, a1, a2⟩ := sc_cells3 hx
  obtain ⟨i0, hi0, hz0, hz1, hz2⟩ := info_parts infoRl
  have HSZ := Lib.hid hsize
  have HPL := Lib.hid hpl
  have HCO := Lib.hid hCo
  clear hsize hpl hCo
  have hn0 : decide ((n : Int) < 0) = false := decide_eq_false (by omega)
  have hn5 : decide ((500 : Int) < (n : Int)) = false := decide_eq_false (by omega)
  go_enter Try.func9, Try.ntmps9
  go_wp2_with fail
  refine (HSZ.out _ (hS.keep hb0 hB) (by simp only [szA]; omega)).mono ?_
  rintro e w1 ⟨rfl, h1⟩
  have hb1 := hb0.trans (h1.mono (by simp only [szA]; omega))
  have hx1 := row_below2 h1 hx (lt_of_row hx)
  obtain ⟨d0, d1, d2⟩ := sc_cells3 hx1
  clear a0 a1 a2
  go_wp2_with fail
  refine (find_any t.sn (hS.keep hb1 hB) (by have := hb1.size; omega) hl).mono ?_
  rintro e w4 ⟨v, rfl, hv, h5⟩
  obtain ⟨fA, fc, rfl, hfc, hfm, hfd⟩ := hv
  generalize hss : fnd l t.sn = s at *
  have HSS := Lib.hid hss
  clear hss
  have hb4 := hb1.trans (h5.mono hb1.size)
  have hx4 := row_below2 h5 hx1 (lt_of_row hx1)
  have hbB : Below w4.heap.size w4 (w4.alloc (.cells #[.string s.nm, .slice fA s.fs.length fc, .int .i64 s.at_] 45)) := (Below.refl w4.heap.size w4).alloc (Nat.le_refl _) _
  have hb5 := hb4.trans (hbB.mono hb4.size)
  have hx5 := row_below2 hbB hx4 (lt_of_row hx4)
  have h6 := heap_alloc_new w4 (.cells #[.string s.nm, .slice fA s.fs.length fc, .int .i64 s.at_] 45)
  have hfdB := hfd.keep hbB (by have := hb4.size; omega)
  obtain ⟨e0, e1, e2⟩ := sc_cells3 h6
  have hz4 := hb4.size
  clear d0 d1 d2
  go_wp2_with fail
  refine (HPL.out _ fA fc hfdB (by have := hb5.size; omega)).mono ?_
  rintro e w6 ⟨ov, x, y, rfl, hov, h7⟩
  have hb6 := hb5.trans (h7.mono hb5.size)
  have hx6 := row_below2 h7 hx5 (lt_of_row hx5)
  have h66 := row_below2 h7 h6 (lt_of_row h6)
  obtain ⟨g3, cap3, cur3, rfl, hg3, hr3, hq3⟩ := own_row hov hf.1 (layV_len s.fs)
  obtain ⟨g2, o2, rfl, hg2, hrg2⟩ := (hfdB.keep h7 (by have := hb5.size; omega)) hf.1
  have HRG := Lib.hid hrg2
  have HQ3 := Lib.hid hq3
  have hg2w : g2 < w.heap.size := by omega
  have hc0 : RlsAt w6 w.heap.size (.slice none 0 0) (allC z (fldN s.fs s.fs.length) 0) := ⟨rfl, .inl ⟨rfl, rfl⟩⟩
  have hg3w : w4.heap.size < g3 := by simp only [szA] at hg3; omega
  have hCl := fldN_len s.fs s.fs.length
  have HCL := Lib.hid hCl
  have HGT := Lib.hid (fun j h => fldN_get s.fs s.fs.length j h)
  clear hrg2 hq3 e0 e1 e2 h6 hfdB hfd hx hx1 hx4 hx5 hb0 hb1 hb4 hb5 h1 h5 h7 hbB hov hCl
  generalize hCC : fldN s.fs s.fs.length = C at *
  have HCC := Lib.hid hCC
  clear hCC
  go_wp2_with fail
  generalize w4.heap.size = sb at *
  go_loopw [10, 16] (fun v k wr => ∃ i : Nat, i ≤ n ∧ k = .int .i64 i ∧ RlsAt wr w.heap.size v (allC z C i) ∧ Below w.heap.size w6 wr ∧ wr.heap[w.heap.size]? = some (.cells #[.int .i64 t.ba, .int .i64 t.st, .string t.sn] 24) ∧ wr.heap[sb]? = some (.cells #[.string s.nm, .slice (some ⟨g2, o2, none⟩) s.fs.length fc, .int .i64 s.at_] 45) ∧ wr.heap[g3]? = some (.cells cur3 3 (0, 0))) (fun _ k _ => n - (intOf k).toNat)
  case atStart => exact ⟨0, Nat.zero_le _, rfl, hc0, Below.refl _ _, hx6, h66, hr3⟩
  case round =>
    obtain ⟨i, hi, rfl, hov, hbe, hxr, hsr, hr3w⟩ := hrel
    have hzw := hbe.size
    by_cases hlt : i < n
    · have hP0 : (0 : Int) ≤ (i : Int) * z := Int.mul_nonneg (by omega) hz.1
      have hP1 : (i : Int) * z ≤ 500 * 1073741824 := Int.mul_le_mul (by omega) hz.2 hz.1 (by omega)
      obtain ⟨P, hP⟩ : ∃ P, (i : Int) * z = P := ⟨_, rfl⟩
      rw [hP] at hP0 hP1
      obtain ⟨f0, f1, f2⟩ := sc_cells3 hxr
      clear hc0
      go_wp2_with fail
      refine (small_any t wr).mono ?_
      rintro e w7 ⟨rfl, h7⟩
      rw [hsm]
      have hov7 := own_keep hov h7
      have hxr7 := row_below2 h7 hxr (lt_of_row hxr)
      have hsr7 := row_below2 h7 hsr (lt_of_row hsr)
      have hr37 := row_below2 h7 hr3w (lt_of_row hr3w)
      have hbe7 := hbe.trans (h7.mono (by have := hb6.size; omega))
      have hov' : RlsAt w7 w.heap.size u10 (allC z C i ++ (shiftC z i C).take 0) := by
        have h : RlsAt w7 w.heap.size u10 (allC z C i) := hov7
        simpa using h
      have hal := allC_len z C i
      have hmul : i * C.length ≤ 500 * 1000 := Nat.mul_le_mul (by omega) (by rw [HCL.out]; exact hf.2)
      clear hov hov7 f0 f1 f2 hxr hsr hr3w hbe h7
      go_wp2_with fail
      go_loopw [10, 63] (fun v k wr => ∃ j : Nat, j ≤ s.fs.length ∧ k = .int .i64 j ∧ RlsAt wr w.heap.size v (allC z C i ++ (shiftC z i C).take j) ∧ Below w.heap.size w6 wr ∧ wr.heap[w.heap.size]? = some (.cells #[.int .i64 t.ba, .int .i64 t.st, .string t.sn] 24) ∧ wr.heap[sb]? = some (.cells #[.string s.nm, .slice (some ⟨g2, o2, none⟩) s.fs.length fc, .int .i64 s.at_] 45) ∧ wr.heap[g3]? = some (.cells cur3 3 (0, 0))) (fun _ k _ => s.fs.length - (intOf k).toNat)
      case atStart => exact ⟨0, Nat.zero_le _, rfl, hov', hbe7, hxr7, hsr7, hr37⟩
      case round =>
        obtain ⟨j, hj, rfl, hov, hbe, hxr, hsr, hr3w⟩ := hrel
        have hzw : w.heap.size ≤ wr.heap.size := by have h8 := hb6.size; have h9 := hbe.size; omega
        have hlx := lt_of_row hxr
        have hls := lt_of_row hsr
        have hl3 := lt_of_row hr3w
        by_cases hlt : j < s.fs.length
        · have hgt := HGT.out j hlt
          obtain ⟨o1, o2'⟩ := HCO.out j hlt
          have e3 : wr.cell? ⟨g3, j, none⟩ = some (.int .i64 ((layV s.fs).offs.getD j 0)) := (cell_of_row _ _ _ _ _ _ hr3w).trans (HQ3.out j hlt)
          have hr2 := range_keep (HRG.out j hlt) hg2w hbe
          have t0 : wr.cell? ⟨g2, o2 + j * 5 + 1, none⟩ = some (.int .i64 (s.fs.getD j fd0).ty.ba) := hr2 1 _ rfl
          have t1 : wr.cell? ⟨g2, o2 + j * 5 + 1 + 1, none⟩ = some (.int .i64 (s.fs.getD j fd0).ty.st) := hr2 2 _ rfl
          have t2 : wr.cell? ⟨g2, o2 + j * 5 + 1 + 2, none⟩ = some (.string (s.fs.getD j fd0).ty.sn) := hr2 3 _ rfl
          obtain ⟨-, s1, -⟩ := sc_cells3 hsr
          have hlen : (allC z C i ++ (shiftC z i C).take j).length = i * C.length + j := by rw [List.length_append, hal, List.length_take, shiftC_len, HCL.out]; omega
          have hsn := Lib.hid (fun (W : World) (v : Value) (x : Int) (h : W.ownsRow w.heap.size 35 4 v (i * C.length + j + 1) (clsL (allC z C i ++ (shiftC z i C).take j) ++ [.int .i64 x, .int .i64 (C.getD j cl0).ty.ba, .int .i64 (C.getD j cl0).ty.st, .string (C.getD j cl0).ty.sn])) (h1 : x = i * z + (C.getD j cl0).off) => rls_next (by rw [HCL.out]; exact hlt) hlen h h1 rfl)
          rw [hgt] at hsn
          unfold RlsAt at hov
          rw [hlen] at hov
          have n0 := own_type hov hxr (by decide)
          have n1 := own_type hov hsr (by decide)
          have n2 := own_type hov hr3w (by decide)
          have HOV := Lib.hid hov
          have HNS := Lib.hid (And.intro n0 (And.intro n1 n2))
          have HRS := Lib.hid (And.intro hxr (And.intro hsr hr3w))
          have dk0 : (0 : Int) ≤ (j : Int) := by omega
          have dk1 : (j : Int) < (s.fs.length : Int) := by omega
          clear hov hov' hr2 hgt hlen hal n0 n1 n2 hxr hsr hr3w hxr7 hsr7 hr37
          generalize (layV s.fs).offs.getD j 0 = off at *
          generalize (s.fs.getD j fd0).ty = ty at *
          obtain ⟨ba, st, sn⟩ := ty
          dsimp only at *
          generalize i * C.length = N at *
          have hwP : IntKind.i64.wrap P = P := IntWalk.i64_in _ (by omega)
          have hwQ : IntKind.i64.wrap (P + off) = P + off := IntWalk.i64_in _ (by omega)
          go_wp2_with fail
          go_region_law ((refine step_append_lies _ (by rfl) _ _ _ (by rfl) w.heap.size 35 i0 _ 4 40 Try.underlying31 hi0 hz0 hz1 hz2 rfl (by omega) _ _ _ (by rfl) ((HOV.out.alloc _).drew) ⟨wr.heap.size, 0, none⟩ 1 1 [.int .i64 (P + off), .int .i64 ba, .int .i64 st, .string sn] (by rfl) (by rfl) (World.news_of_block (cs := #[.int .i64 (P + off), .int .i64 ba, .int .i64 st, .string sn]) (t := 35) (fr := (0, 0)) (heap_alloc_new wr _)) (by simp [Value.oneCell']) (by omega) (by unfold maxLen; omega) (by omega) (by simp; omega) (wr.heap.size + 1) (by simp) ?_; intro ga cap2 w8 hown8 hgrow hat hlt8))
          all_goals
            go_wp2
            go_roundw
            case rel =>
              obtain ⟨n0, n1, n2⟩ := HNS.out
              obtain ⟨hxr, hsr, hr3w⟩ := HRS.out
              refine ⟨j + 1, by omega, by go_num, hsn.out _ _ _ hown8 (by rw [hP]), ?_, ?_, ?_, ?_⟩
              · exact own_grow ((HOV.out.alloc _).drew) (Nat.le_refl _) hgrow (by simp; omega) ((hbe.alloc hzw _).drew)
              · exact (hgrow.block w.heap.size (by simp; omega) (fun e => n0 e.symm)).trans ((Below.heap_alloc _ _ _ hlx).trans hxr)
              · exact (hgrow.block sb (by simp; omega) (fun e => n1 e.symm)).trans ((Below.heap_alloc _ _ _ hls).trans hsr)
              · exact (hgrow.block g3 (by simp; omega) (fun e => n2 e.symm)).trans ((Below.heap_alloc _ _ _ hl3).trans hr3w)
            case measure => simp [intOf]; omega
        · obtain rfl : j = s.fs.length := by omega
          have hfull : RlsAt wr w.heap.size u10 (allC z C (i + 1)) := by
            rw [List.take_of_length_le (by rw [shiftC_len, HCL.out]; exact Nat.le_refl _), ← allC_succ] at hov
            exact hov
          clear hov hov' hxr7 hsr7 hr37
          go_wp2_with fail
          go_roundw
          case rel => exact ⟨i + 1, by omega, by go_num, hfull, hbe, hxr, hsr, hr3w⟩
          case measure => simp [intOf]; omega
    · obtain rfl : i = n := by omega
      go_wp2_with fail
      go_ret2
      refine ⟨_, rfl, ?_, hb6.trans hbe⟩
      rw [HSS.out, HCC.out]
      exact hov
end Go.Proofs.Yticganpocdjcgaa
