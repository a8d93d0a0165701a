/- Package lay: the cells of one of a type. Conditions: each theorem's. -/
import Derived.Test.YtalelgnooemooaaLayC0
namespace Go.Proofs.Ytalelgnooemooaa
open Go.RowKit Go.Maps
set_option linter.unusedVariables false
set_option linter.unusedSimpArgs false
set_option maxRecDepth 10000
open Py
set_option maxHeartbeats 1000000 in
theorem one_flat {w : World} {B : Nat} {A : Option Addr} {c : Nat} {l : List Sc} (t : Ty) (hw : whole t = false) :
    Calls Try.prog 14 #[.slice A l.length c, .agg #[.int .i64 t.ba, .int .i64 t.st, .string t.sn]] w fun e w' => ∃ v, e = .returned v ∧ ClsAt w' w.heap.size v [⟨0, t⟩] ∧ Below w.heap.size w w' := by
  have hb0 := (Below.refl w.heap.size w).alloc (Nat.le_refl _) (.cells #[.int .i64 t.ba, .int .i64 t.st, .string t.sn] 24)
  have hx := heap_alloc_new w (.cells #[.int .i64 t.ba, .int .i64 t.st, .string t.sn] 24)
  obtain ⟨a0, a1, a2⟩ := sc_cells3 hx
  go_enter Try.func14, Try.ntmps14
  go_wp2_with fail
  refine (isWhole_any t _).mono ?_
  rintro e w3 ⟨rfl, h3⟩
  rw [hw]
  have hb3 := hb0.trans (h3.mono (by simp only [szA]; omega))
  have hx3 := row_below2 h3 hx (lt_of_row hx)
  obtain ⟨d0, d1, d2⟩ := sc_cells3 hx3
  clear a0 a1 a2
  go_wp2_with fail
  go_ret
  refine ⟨_, rfl, ⟨rfl, .inr ⟨w3.heap.size, 1, #[.int .i64 0, .int .i64 t.ba, .int .i64 t.st, .string t.sn], rfl, ?_, heap_alloc_new w3 _, by simp, by unfold maxLen; omega, rfl, rfl⟩⟩, hb3.alloc hb3.size _⟩
  exact hb3.size
set_option maxHeartbeats 4000000 in
theorem one_whole {w : World} {B i : Nat} {A : Option Addr} {c : Nat} {l : List Sc} (t : Ty) (hS : ScsAt w B A l) (hB : B ≤ w.heap.size) (hl : l.length ≤ 1099511627776) (hw : whole t = true) (hi : sIdx l t.sn = i) (hok : ScsOk l) (hn : 0 < (l.getD i sc0).fs.length) :
    Calls Try.prog 14 #[.slice A l.length c, .agg #[.int .i64 t.ba, .int .i64 t.st, .string t.sn]] w fun e w' => ∃ v, e = .returned v ∧ ClsAt w' w.heap.size v (fldN (l.getD i sc0).fs (l.getD i sc0).fs.length) ∧ Below w.heap.size w w' := by
  have hb0 := (Below.refl w.heap.size w).alloc (Nat.le_refl _) (.cells #[.int .i64 t.ba, .int .i64 t.st, .string t.sn] 24)
  have hx := heap_alloc_new w (.cells #[.int .i64 t.ba, .int .i64 t.st, .string t.sn] 24)
  obtain ⟨a0, a1, a2⟩ := sc_cells3 hx
  obtain ⟨i0, hi0, hz0, hz1, hz2⟩ := info_parts infoCl
  have hir : i < l.length := by have := (idx_range (fun s : Sc => s.nm.toList == t.sn.toList) l).2; rw [show idx (fun s : Sc => s.nm.toList == t.sn.toList) l = (i : Int) from hi] at this; omega
  obtain ⟨hf40, hty⟩ := hok i hir
  go_enter Try.func14, Try.ntmps14
  go_wp2_with fail
  refine (isWhole_any t _).mono ?_
  rintro e w3 ⟨rfl, h3⟩
  rw [hw]
  have hb3 := hb0.trans (h3.mono (by simp only [szA]; omega))
  have hx3 := row_below2 h3 hx (lt_of_row hx)
  obtain ⟨d0, d1, d2⟩ := sc_cells3 hx3
  clear a0 a1 a2
  go_wp2_with fail
  refine (findStruct_any t.sn (hS.keep hb3 hB) (by have := hb3.size; omega) hl).mono ?_
  rintro e w4 ⟨rfl, h4⟩
  rw [hi]
  have hb4 := hb3.trans (h4.mono hb3.size)
  have hS4 := hS.keep hb4 hB
  obtain ⟨g, o, rfl, hg, hrg⟩ := hS4 (by omega)
  obtain ⟨fA, fc, hf1, hf2, hr, hfd⟩ := hrg i hir
  have hc1 : w4.cell? ⟨g, o + i * 3 + 1, none⟩ = some (.slice fA (l.getD i sc0).fs.length fc) := hr 1 _ rfl
  have dj0 : (0 : Int) ≤ (i : Int) := by omega
  have dj1 : (i : Int) < (l.length : Int) := by omega
  have hz4 := hb4.size
  clear hrg hr h3 h4 hb0 hS hS4 hok d0 d1 d2
  generalize hs : l.getD i sc0 = s at *
  obtain ⟨wm, hmk, hom, hgm⟩ := run_make_own (P := Try.prog) w4 w.heap.size 27 36 i0 (.agg #[.int .i64 0, .int .i64 0, .int .i64 0, .string ⟨#[]⟩]) 4 Try.underlying27 hi0 hz0 hz1 .i64 .i64 s.fs.length (by rw [hz2]; omega) (by unfold maxLen; omega) hz4
  have hbm : Below w.heap.size w wm := hb4.grown hgm (by omega) (fun k hk => by cases hk)
  have hbm4 : Below w4.heap.size w4 wm := (Below.refl w4.heap.size w4).grown hgm (Nat.le_refl _) (fun k hk => by cases hk)
  have hfdm := hfd.keep hbm4 (by omega)
  have hzm := hbm.size
  go_wp2_with fail
  refine (numbers_any _).mono ?_
  rintro e w5 ⟨rfl, hN5, h5⟩
  have hz5 := h5.size
  go_wp2_with fail
  refine (lay_any hN5 (hfdm.keep h5 (by omega)) (by omega) hf40 hty).mono ?_
  rintro e w6 ⟨ov, rfl, hov, h6⟩
  obtain ⟨g3, cap3, cur3, rfl, hg3, hr3, hq3⟩ := own_row hov hn (layV_len s.fs)
  have hz6 := h6.size
  have hb5 := hbm.trans (h5.mono (by omega))
  have hb6 := hb5.trans (h6.mono (by omega))
  have hom6 := ownsRow_at hom (fun g' cur _ hg' => row_below2 h6 (row_below2 h5 hg' (lt_of_row hg')) (by have := lt_of_row hg'; omega))
  have hfd6 := (hfdm.keep h5 (by omega)).keep h6 (by omega)
  have hc0 : ClsAt w6 w.heap.size (.slice (some ⟨w4.heap.size, 0, none⟩) 0 s.fs.length) (fldN s.fs 0) := hom6
  obtain ⟨g2, o2, rfl, hg2, hrg2⟩ := hfd6 (by omega)
  have HRG := Lib.hid hrg2
  have hg2w : g2 < w.heap.size := by omega
  have hfield : ∀ (a b : Int) (A : Option Addr) (n c : Nat) (W : World), (Instr.field 50 (.agg #[.int .i64 a, .int .i64 b, .slice A n c]) 2).run Try.prog W = .ok (.slice A n c) W := fun _ _ _ _ _ _ => by kernel_rfl
  clear hrg2 hom6 hom hgm hmk hfd hfdm hfd6 hbm hbm4 h5 h6 hN5 hov hc1 hx3 hx hb3 hb4 hty hw hi
  have HSS := Lib.hid hs
  have HQ3 := Lib.hid hq3
  clear hs hq3
  go_wp2_with fail
  go_loopw [6, 31] (fun v k wr => ∃ j : Nat, j ≤ s.fs.length ∧ k = .int .i64 j ∧ ClsAt wr w.heap.size v (fldN s.fs j) ∧ Below w.heap.size w wr ∧ Below w.heap.size w6 wr ∧ wr.heap[g3]? = some (.cells cur3 3 (0, 0))) (fun _ k _ => s.fs.length - (intOf k).toNat)
  case atStart => exact ⟨0, Nat.zero_le _, rfl, hc0, hb6, Below.refl _ _, hr3⟩
  case round =>
    obtain ⟨j, hj, rfl, hov, hbe, hbw, hr3w⟩ := hrel
    have HNB := Lib.hid (own_type hov hr3w (by decide))
    unfold ClsAt at hov
    rw [fldN_len] at hov
    have hzw := hbe.size
    have hl3 := lt_of_row hr3w
    by_cases hlt : j < s.fs.length
    · have e3 : wr.cell? ⟨g3, j, none⟩ = some (.int .i64 ((layV s.fs).offs.getD j 0)) := (cell_of_row _ _ _ _ _ _ hr3w).trans (HQ3.out j hlt)
      have hr2 := range_keep (HRG.out j hlt) (by omega) hbw
      have t0 : wr.cell? ⟨g2, o2 + j * 5 + 1, none⟩ = some (.int .i64 (s.fs.getD j fd0).ty.ba) := hr2 1 _ rfl
      have t1 : wr.cell? ⟨g2, o2 + j * 5 + 1 + 1, none⟩ = some (.int .i64 (s.fs.getD j fd0).ty.st) := hr2 2 _ rfl
      have t2 : wr.cell? ⟨g2, o2 + j * 5 + 1 + 2, none⟩ = some (.string (s.fs.getD j fd0).ty.sn) := hr2 3 _ rfl
      have dk0 : (0 : Int) ≤ (j : Int) := by omega
      have dk1 : (j : Int) < (s.fs.length : Int) := by omega
      have hsn := Lib.hid (fun (W : World) (v : Value) (h : W.ownsRow w.heap.size 36 4 v (j + 1) (clsL (fldN s.fs j) ++ [.int .i64 ((layV s.fs).offs.getD j 0), .int .i64 (s.fs.getD j fd0).ty.ba, .int .i64 (s.fs.getD j fd0).ty.st, .string (s.fs.getD j fd0).ty.sn])) => cls_snoc h rfl rfl)
      have HR3 := Lib.hid hr3w
      have HHOV := Lib.hid hov
      clear hr2 hc0 hr3w hr3 hb5 hb6
      generalize (layV s.fs).offs.getD j 0 = off at *
      generalize (s.fs.getD j fd0).ty = ty at *
      obtain ⟨ba, st, sn⟩ := ty
      clear hov
      dsimp only at *
      go_wp2_with (at_builtin; refine wpList_append_lies (o := ⟨some 45, _, _, _, _, _⟩) _ rfl (.tmp 36) (.tmp 44) 27 rfl w.heap.size 36 i0 (.agg #[.int .i64 0, .int .i64 0, .int .i64 0, .string ⟨#[]⟩]) 4 40 Try.underlying27 hi0 hz0 hz1 hz2 rfl (by decide) _ _ _ rfl (HHOV.out.alloc _) ⟨wr.heap.size, 0, none⟩ 1 1 [.int .i64 off, .int .i64 ba, .int .i64 st, .string sn] rfl rfl (World.news_of_block (cs := #[.int .i64 off, .int .i64 ba, .int .i64 st, .string sn]) (t := 36) (fr := (0, 0)) (heap_alloc_new wr _)) (by simp [Value.oneCell']) (by omega) (by unfold maxLen; omega) (by omega) (by simp only [szA]; omega) (wr.heap.size + 1) (szA _ _) ?_; intro ga cap w7 hown7 hgrow hat hlt7)
      have hz7 : wr.heap.size ≤ w7.heap.size := by have := hgrow.size; simp only [szA] at this; omega
      refine ⟨⟨j + 1, by omega, by go_num, hsn.out _ _ hown7, ?_, ?_, ?_⟩, by simp [intOf]; omega⟩
      · exact (hbe.alloc hzw (.cells #[.int .i64 off, .int .i64 ba, .int .i64 st, .string sn] 36)).grown hgrow (by simp only [szA]; omega) (fun k hk => by
          rcases Nat.lt_or_ge k w.heap.size with hlt' | hge
          · exact absurd hk (own_base HHOV.out hlt')
          · exact hge)
      · exact (hbw.alloc hzw (.cells #[.int .i64 off, .int .i64 ba, .int .i64 st, .string sn] 36)).grown hgrow (by simp only [szA]; omega) (fun k hk => by
          rcases Nat.lt_or_ge k w.heap.size with hlt' | hge
          · exact absurd hk (own_base HHOV.out hlt')
          · exact hge)
      · exact (hgrow.block g3 (by simp only [szA]; omega) (fun e => HNB.out e.symm)).trans ((Below.heap_alloc _ _ _ hl3).trans HR3.out)
    · obtain rfl : j = s.fs.length := by omega
      go_wp2_with fail
      go_ret
      refine ⟨_, rfl, ?_, hbe⟩
      rw [HSS.out]
      unfold ClsAt
      rw [fldN_len]
      exact hov
end Go.Proofs.Ytalelgnooemooaa
