/- LayFields answers true, of any structs; at most new blocks in memory. Conditions: structs as they lie in memory, of their Go types. -/
import Derived.Test.YtlghhailckoonabLayV
import Derived.Test.YtlghhailckoonabLayP
import Derived.Test.YtlghhailckoonabLayS
namespace Go.Proofs.Ytlghhailckoonab
open Go.RowKit Go.Maps
set_option linter.unusedVariables false
set_option linter.unusedSimpArgs false
set_option maxRecDepth 10000
open Py
theorem scsOk_of {l : List Sc} (h : rightV l = true) (hok : ∀ k, k < l.length → scOk (l.getD k sc0)) : ScsOk l := fun i hi => by
  obtain ⟨-, hf⟩ := right_facts h
  obtain ⟨-, -, h12, -⟩ := hf i hi
  exact ⟨by omega, fun k hk => ((hok i hi).2 k hk).2.1⟩
set_option maxHeartbeats 8000000 in
theorem layFields_walk {w : World} {A : Option Addr} {c : Nat} {l : List Sc} (hS : ScsAt w w.heap.size A l) (hlc : l.length ≤ c) (hcm : c ≤ maxLen) (hok : ∀ k, k < l.length → scOk (l.getD k sc0)) :
    Calls Try.prog 8 #[.slice A l.length c] w fun e w' => e = .returned (.bool true) ∧ Below w.heap.size w w' := by
  go_enter Try.func8, Try.ntmps8
  go_wp2_with fail
  refine (awake_any _).mono ?_
  rintro e w1 ⟨rfl, b1⟩
  go_wp2_with fail
  refine (right_any (hS.keep b1 (Nat.le_refl _)) b1.size hlc hcm).mono ?_
  rintro e w2 ⟨rfl, h2⟩
  have b2 := b1.trans (h2.mono b1.size)
  clear h2 b1
  cases hf : rightV l
  · go_wp2_with fail
    refine (awake_any _).mono ?_
    rintro e w3 ⟨rfl, h3⟩
    go_wp2
    go_ret
    exact ⟨rfl, b2.trans (h3.mono b2.size)⟩
  · have hSO := scsOk_of hf hok
    obtain ⟨hl, hR⟩ := right_facts hf
    have HR := Lib.hid hR
    clear hR hf hok
    have hS2 := hS.keep b2 (Nat.le_refl _)
    have hz2 := b2.size
    clear hS
    go_wp2
    go_loopw [25] (fun k wr => ∃ i : Nat, i ≤ l.length ∧ k = .int .i64 i ∧ Below w2.heap.size w2 wr) (fun k _ => l.length - (intOf k).toNat)
    case atStart => exact ⟨0, Nat.zero_le _, rfl, Below.refl _ _⟩
    case round =>
      obtain ⟨i, hi, rfl, hbe⟩ := hrel
      by_cases hlt : i < l.length
      · obtain ⟨g, o, rfl, hg, hrg⟩ := hS2 (by omega)
        obtain ⟨fA, fc, hf1, hf2, hr, hfd⟩ := hrg i hlt
        obtain ⟨r1, r2, r3, r4⟩ := HR.out i hlt
        have hr' := range_keep hr (Nat.lt_of_lt_of_le hg hz2) hbe
        have hbz := hbe.size
        have hS3 := hS2.keep hbe (by omega)
        have hfd3 := hfd.keep hbe (by omega)
        have dj0 : (0 : Int) ≤ (i : Int) := by omega
        have dj1 : (i : Int) < (l.length : Int) := by omega
        clear hrg hr
        have hoy := fun (W : World) (h : ScsAt W w.heap.size (some ⟨g, o, none⟩) l) (hB : w.heap.size ≤ W.heap.size) => of_yes (w := W) (c := c) (l.getD i sc0).nm h hB (by omega) r1 hSO
        have hfy := fun (k : Nat) (hk : k < (l.getD i sc0).fs.length) (W : World) (h : ScsAt W w.heap.size (some ⟨g, o, none⟩) l) (hB : w.heap.size ≤ W.heap.size) => field_yes (w := W) (c := c) (l.getD i sc0).nm ((l.getD i sc0).fs.getD k fd0).nm h hB (by omega) r1 hSO (r4 k hk).1
        have hsy := fun (k : Nat) (hk : k < (l.getD i sc0).fs.length) (W : World) (h : ScsAt W w.heap.size (some ⟨g, o, none⟩) l) (hB : w.heap.size ≤ W.heap.size) => size_fld (w := W) (c := c) ((l.getD i sc0).fs.getD k fd0).ty h hB (by omega) (mayBe_facts (r4 k hk).2).1 (mayBe_facts (r4 k hk).2).2.1 (mayBe_facts (r4 k hk).2).2.2 ((hSO i hlt).2 k hk)
        have hends := fun (k : Nat) (hk : k < (l.getD i sc0).fs.length) => lay_ends (l.getD i sc0).fs (fun k hk => size_pos (r4 k hk).2) k hk
        have hlen := layV_len (l.getD i sc0).fs
        clear r1 r4
        generalize l.getD i sc0 = s at *
        have HOY := Lib.hid hoy; have HFY := Lib.hid hfy; have HSY := Lib.hid hsy; have HE := Lib.hid hends
        clear hoy hfy hsy hends
        go_wp2_with (refine wpList_load_mid (op := ⟨some 28, _, _, _, _, _⟩) rfl 37 (.tmp 27) rfl g (o + i * 3) rfl [.string s.nm, .slice fA s.fs.length fc, .int .i64 s.at_] _ hr' Try.underlying37 rfl sizeSc ?_)
        have hbA : Below wr.heap.size wr (wr.alloc (.cells #[.string s.nm, .slice fA s.fs.length fc, .int .i64 s.at_] 37)) := (Below.refl _ _).alloc (Nat.le_refl _) _
        have hcn := heap_alloc_new wr (.cells #[.string s.nm, .slice fA s.fs.length fc, .int .i64 s.at_] 37)
        refine (HOY.out _ (hS3.keep hbA (by omega)) (by simp only [szA]; omega)).mono ?_
        rintro e w4 ⟨ov, rfl, hov, h4⟩
        rw [← hlen] at hov
        have hb4 : Below wr.heap.size wr w4 := hbA.trans (h4.mono (by simp only [szA]; omega))
        have hcn4 := row_below2 h4 hcn (by simp)
        have hz4 := hb4.size
        have hl4 := lt_of_row hcn4
        have hb5 : Below w4.heap.size w4 (w4.alloc (.cells #[.int .i64 (layV s.fs).size, .int .i64 (layV s.fs).line, ov] 32)) := (Below.refl _ _).alloc (Nat.le_refl _) _
        have hcl := heap_alloc_new w4 (.cells #[.int .i64 (layV s.fs).size, .int .i64 (layV s.fs).line, ov] 32)
        have hcn5 := row_below2 hb5 hcn4 (by omega)
        have hov5 := hov.alloc (.cells #[.int .i64 (layV s.fs).size, .int .i64 (layV s.fs).line, ov] 32)
        have hb25 : Below w2.heap.size w2 (w4.alloc (.cells #[.int .i64 (layV s.fs).size, .int .i64 (layV s.fs).line, ov] 32)) := (hbe.trans (hb4.mono hbz)).alloc (by omega) _
        have hz5 : (w4.alloc (.cells #[.int .i64 (layV s.fs).size, .int .i64 (layV s.fs).line, ov] 32)).heap.size = w4.heap.size + 1 := szA _ _
        obtain ⟨oA, on, oc, rfl⟩ := own_slice hov
        have hon : on = s.fs.length := by
          rcases hov.2 with ⟨hv, hn⟩ | ⟨g', cap, cur, hv, _⟩
          · cases hv; omega
          · cases hv; omega
        subst hon
        obtain ⟨c0, c1, c2⟩ := sc_cells3 hcn5
        obtain ⟨d0, d1, d2⟩ := sc_cells3 hcl
        clear hov h4 hbA hb5 hcn hcn4
        go_wp2_with fail
        generalize w4.alloc (.cells #[.int .i64 (layV s.fs).size, .int .i64 (layV s.fs).line, .slice oA s.fs.length oc] 32) = w5 at *
        have hl5 : w4.heap.size < w5.heap.size := by omega
        have hl6 : wr.heap.size < w5.heap.size := by omega
        have hb26 := b2.trans (hb25.mono b2.size)
        clear c0 c1 c2 d0 d1 d2 hb4 hbe hl4 hz4 hfd3 hS3 hr'
        generalize wr.heap.size = sb at *
        generalize w4.heap.size = lb at *
        go_loopw [50] (fun q wr => ∃ k : Nat, k ≤ s.fs.length ∧ q = .int .i64 k ∧ Below w5.heap.size w5 wr) (fun q _ => s.fs.length - (intOf q).toNat)
        case atStart => exact ⟨0, Nat.zero_le _, rfl, Below.refl _ _⟩
        case round =>
          obtain ⟨k, hk, rfl, hbk⟩ := hrel
          have hbkz := hbk.size
          by_cases hkl : k < s.fs.length
          · have hb2k := hb25.trans (hbk.mono hb25.size)
            obtain ⟨g2, o2, rfl, hg2, hrg2⟩ := (hfd.keep hb2k hz2) (by omega)
            have hr2 := hrg2 k hkl
            have hSk := hS2.keep hb2k hz2
            have hfy := HFY.out k hkl
            have hsy := HSY.out k hkl
            obtain ⟨hE0, hE1, hE2, hE3⟩ := HE.out k hkl
            have own0 := own_at hov5 (k := k) (by omega)
            have own1 : k + 1 < s.fs.length → _ := fun h => own_at hov5 (k := k + 1) (by omega)
            obtain ⟨g3, oc3, e3, hg3, hcel0⟩ := own0
            injection e3 with e3a e3b e3c
            subst e3a e3c
            clear e3b
            have dk0 : (0 : Int) ≤ (k : Int) := by omega
            have dk1 : (k : Int) < (s.fs.length : Int) := by omega
            clear hrg2
            generalize s.fs.getD k fd0 = f at *
            generalize hat : (layV s.fs).offs.getD k 0 = atk at *
            obtain ⟨c0, c1, c2⟩ := sc_cells3 (row_below2 hbk hcn5 hl6)
            have hbF : Below wr.heap.size wr (wr.alloc (.cells #[.string f.nm, .int .i64 f.ty.ba, .int .i64 f.ty.st, .string f.ty.sn, .int .i64 f.at_] 64)) := (Below.refl _ _).alloc (Nat.le_refl _) _
            have hfN := heap_alloc_new wr (.cells #[.string f.nm, .int .i64 f.ty.ba, .int .i64 f.ty.st, .string f.ty.sn, .int .i64 f.at_] 64)
            have hsbF := row_below2 hbF (row_below2 hbk hcn5 hl6) (by omega)
            obtain ⟨e0, e1, e2⟩ := sc_cells3 hsbF
            go_wp2_with (refine wpList_load_mid (op := ⟨some 54, _, _, _, _, _⟩) rfl 64 (.tmp 53) rfl g2 (o2 + k * 5) rfl [.string f.nm, .int .i64 f.ty.ba, .int .i64 f.ty.st, .string f.ty.sn, .int .i64 f.at_] _ hr2 Try.underlying64 rfl sizeFd ?_)
            refine (hfy _ (hSk.keep hbF (by omega)) (by simp only [szA]; omega)).mono ?_
            rintro e x2 ⟨rfl, h2⟩
            have hbF2 : Below wr.heap.size wr x2 := hbF.trans (h2.mono (by simp only [szA]; omega))
            have hf2 := row_below2 h2 hfN (by simp)
            have hz2' := hbF2.size
            have hlf := lt_of_row hf2
            have hbT : Below x2.heap.size x2 (x2.alloc (.cells #[.int .i64 f.ty.ba, .int .i64 f.ty.st, .string f.ty.sn] 43)) := (Below.refl _ _).alloc (Nat.le_refl _) _
            have htN := heap_alloc_new x2 (.cells #[.int .i64 f.ty.ba, .int .i64 f.ty.st, .string f.ty.sn] 43)
            obtain ⟨t0, t1, t2⟩ := sc_cells3 htN
            go_wp2_with fail
            refine (hsy _ ((hSk.keep hbF2 (by omega)).keep hbT (by omega)) (by simp only [szA]; omega)).mono ?_
            rintro e x4 ⟨rfl, h4⟩
            have hbT4 : Below x2.heap.size x2 x4 := hbT.trans (h4.mono (by simp only [szA]; omega))
            have hbK4 : Below wr.heap.size wr x4 := hbF2.trans (hbT4.mono hbF2.size)
            have hb54 : Below w5.heap.size w5 x4 := hbk.trans (hbK4.mono hbk.size)
            obtain ⟨n0, n1, n2⟩ := sc_cells3 (row_below2 h4 htN (by simp))
            obtain ⟨f0, f1, f2, f3, f4⟩ := fd_cells' (row_below2 hbT4 hf2 (by omega))
            obtain ⟨l0, l1, l2⟩ := sc_cells3 (row_below2 hb54 hcl (by omega))
            have q0 : x4.cell? ⟨g3, k, none⟩ = some (.int .i64 atk) := by
              rw [hb54.cell (p := ⟨g3, k, none⟩) hg3, hcel0]
            have hz16 : (s.fs.length : Int) ≤ 12 := by omega
            have hz4 := hb54.size
            have hzp : 0 ≤ sizeV f.ty ∧ sizeV f.ty ≤ 8 := by have := sizeV_cases f.ty; omega
            generalize sizeV f.ty = z at *
            clear hfy hsy hbF hfN hsbF hbF2 hf2 hbT htN h2 h4 t0 t1 t2 c0 c1 c2 e0 e1 e2 hSk hr2 hbT4 hcel0
            by_cases hk1 : k + 1 < s.fs.length
            · obtain ⟨g4, oc4, e4, hg4, hcel1⟩ := own1 hk1
              injection e4 with e4a e4b e4c
              injection e4a with e4a
              injection e4a with e4a
              subst e4a
              clear e4b e4c
              rw [if_pos hk1] at hE1
              have q1 : x4.cell? ⟨g3, k + 1, none⟩ = some (.int .i64 ((layV s.fs).offs.getD (k + 1) 0)) := by rw [hb54.cell (p := ⟨g3, k + 1, none⟩) hg4, hcel1]
              have hbig : (layV s.fs).offs.getD (k + 1) 0 ≤ 16 * s.fs.length := (HE.out (k + 1) hk1).2.2.1
              generalize (layV s.fs).offs.getD (k + 1) 0 = nx at *
              have t1 : decide ((k : Int) + 1 < (s.fs.length : Int)) = true := decide_eq_true (by omega)
              have dk2 : (0 : Int) ≤ (k : Int) + 1 := by omega
              have dk3 : (k : Int) + 1 < (s.fs.length : Int) := by omega
              have dk4 : ((k : Int) + 1).toNat = k + 1 := by omega
              have t2 : decide (nx < atk + z) = false := decide_eq_false (by omega)
              clear own1 hE2 hE3 hcel1
              go_wp2
              go_roundw
              case rel => exact ⟨k + 1, by omega, by go_num, hb54⟩
              case measure => simp [intOf]; omega
            · rw [if_neg hk1] at hE1
              have t1 : decide ((k : Int) + 1 < (s.fs.length : Int)) = false := decide_eq_false (by omega)
              have t2 : decide ((layV s.fs).size < atk + z) = false := decide_eq_false (by omega)
              clear own1
              go_wp2
              go_roundw
              case rel => exact ⟨k + 1, by omega, by go_num, hb54⟩
              case measure => simp [intOf]; omega
          · obtain rfl : k = s.fs.length := by omega
            go_wp2
            go_roundw
            case rel => exact ⟨i + 1, by omega, by go_num, hb25.trans (hbk.mono hb25.size)⟩
            case measure => simp [intOf]; omega
      · obtain rfl : i = l.length := by omega
        go_wp2
        go_ret
        exact ⟨rfl, b2.trans (hbe.mono b2.size)⟩
end Go.Proofs.Ytlghhailckoonab
