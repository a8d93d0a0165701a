/- ParseTrees answers true. Conditions: each theorem's. -/
import Derived.Test.YtfjobnljdkiihaaGreatDoorQtTwP
import Derived.Test.YtfjobnljdkiihaaGreatDoorQtParAw
import Derived.Test.YtfjobnljdkiihaaGreatDoorQtParSz
namespace Go.Proofs.YtfjobnljdkiihaaGreatDoor
open Go.RowKit Go.Maps
set_option linter.unusedVariables false
set_option linter.unusedSimpArgs false
set_option maxRecDepth 100000
open Lx Pa Go.Lib Qi
theorem strs_eq (T : PrintTabs) (p q : PPr) : ((⟨(treeT T p).toArray⟩ : ByteArray).toList == (⟨(treeT T q).toArray⟩ : ByteArray).toList) = sameB (EqP false p q) := by
 by_cases h : EqP false p q
 ·rw [sameB_true h, tree_eq h]; simp
 ·rw [sameB_false h]
  refine strEqF fun e => h (tree_inj (T := T) ?_)
  injection e with e
  injection e
set_option maxHeartbeats 16000000 in
theorem parseTrees_walk {w : World} (s t : ByteArray) (hM : MaxIs w) (T : PrintTabs) (hT : Tb T w.heap.size w) (hs0 : s.size ≤ maxLen) (ht0 : t.size ≤ maxLen) :
  Calls Tryz.prog 3 #[.string s, .string t] w fun e w' => e = .returned (.bool true) ∧ Below w.heap.size w w' := by
 unfold maxLen at hs0 ht0
 have HT := Lib.hid hT
 clear hT
 go_enter Tryz.func3, Tryz.ntmps3
 go_wp2_with fail
 refine (awake_any hM).mono ?_
 rintro e w1 ⟨rfl, hb1⟩
 by_cases hbig : 3000 < s.size
 ·have hb' : (3000 : Int) < (s.size : Int) := by omega
  go_wp2_with fail
  refine (awake_any (hM.keep hb1)).mono ?_
  rintro e w2 ⟨rfl, h2⟩
  go_wp2
  go_ret
  exact ⟨rfl, hb1.trans (h2.mono hb1.size)⟩
 have hb' : ¬ (3000 : Int) < (s.size : Int) := by omega
 by_cases hbig2 : 3000 < t.size
 ·have hb'' : (3000 : Int) < (t.size : Int) := by omega
  go_wp2_with fail
  refine (awake_any (hM.keep hb1)).mono ?_
  rintro e w2 ⟨rfl, h2⟩
  go_wp2
  go_ret
  exact ⟨rfl, hb1.trans (h2.mono hb1.size)⟩
 have hb'' : ¬ (3000 : Int) < (t.size : Int) := by omega
 have db1 : decide ((3000 : Int) < (s.size : Int)) = false := decide_eq_false hb'
 have db2 : decide ((3000 : Int) < (t.size : Int)) = false := decide_eq_false hb''
 have HF1 := Lib.hid (fun h => parse_fits T (a := s) h)
 have HF2 := Lib.hid (fun h => parse_fits T (a := t) h)
 have HP1 : Hid (∀ W, MaxIs W → Calls Tryz.prog 7 #[.string s] W (ParseP s W)) := Lib.hid (fun W hW => parse_any s W (by omega) hW)
 have HP2 : Hid (∀ W, MaxIs W → Calls Tryz.prog 7 #[.string t] W (ParseP t W)) := Lib.hid (fun W hW => parse_any t W (by omega) hW)
 unfold ParseP at HP1 HP2
 generalize parseV s = P1 at *
 generalize parseV t = P2 at *
 go_wp2_with fail
 refine (HP1.out _ (hM.keep hb1)).mono ?_
 rintro e w2 ⟨v1, v2, v3, rfl, hpa, h2⟩
 have hb2 := hb1.trans (h2.mono hb1.size)
 obtain ⟨A1, c1, rfl⟩ := hpa.s.slice
 obtain ⟨A2, c2, rfl⟩ := hpa.v.slice
 obtain ⟨A3, c3, rfl⟩ := hpa.f.slice
 have HPA := Lib.hid hpa
 clear hpa h2 HP1
 go_wp2_with fail
 generalize hX : w2.alloc (.cells #[.slice A1 P1.1.ss.length c1, .slice A2 P1.1.vs.length c2, .slice A3 P1.1.fs.length c3] 27) = w3
 have hb3 : Below w2.heap.size w2 w3 := by rw [← hX]; exact (Below.refl _ _).alloc (Nat.le_refl _) _
 have r5 : w3.heap[w2.heap.size]? = some (.cells #[.slice A1 P1.1.ss.length c1, .slice A2 P1.1.vs.length c2, .slice A3 P1.1.fs.length c3] 27) := by rw [← hX]; exact heap_new _ _
 replace HPA := Lib.hid (ap_keep HPA.out hb3)
 replace hb2 := hb2.trans (hb3.mono hb2.size)
 clear hX hb3
 generalize w2.heap.size = b5 at *
 have hl5 := (Array.getElem?_eq_some_iff.1 r5).1
 refine (HP2.out _ (hM.keep hb2)).mono ?_
 rintro e w4 ⟨u1, u2, u3, rfl, hpb, h4⟩
 obtain ⟨B1, d1, rfl⟩ := hpb.s.slice
 obtain ⟨B2, d2, rfl⟩ := hpb.v.slice
 obtain ⟨B3, d3, rfl⟩ := hpb.f.slice
 have HPB := Lib.hid hpb
 replace r5 := (h4.block b5 hl5).trans r5
 replace HPA := Lib.hid (ap_keep HPA.out h4)
 replace hb2 := hb2.trans (h4.mono hb2.size)
 clear hpb h4 HP2 hl5
 have R5 := Lib.hid r5
 clear r5
 by_cases her1 : P1.2.2 = 0
 rotate_left
 ·have hne : (P1.2.2 == 0) = false := beq_eq_false_iff_ne.mpr her1
  have hne2 : (P1.2.2 != 0) = true := by rw [bne, hne]; rfl
  go_wp2
  go_ret
  exact ⟨rfl, hb2.alloc hb2.size _⟩
 by_cases her2 : P2.2.2 = 0
 rotate_left
 ·have HE1 := her1
  have hne1 : (P1.2.2 == 0) = true := beq_iff_eq.mpr her1
  have hne3 : (P1.2.2 != 0) = false := by rw [bne, hne1]; rfl
  have hne : (P2.2.2 == 0) = false := beq_eq_false_iff_ne.mpr her2
  have hne2 : (P2.2.2 != 0) = true := by rw [bne, hne]; rfl
  clear her1 HE1
  go_wp2
  go_ret
  exact ⟨rfl, hb2.alloc hb2.size _⟩
 obtain ⟨f1, g1⟩ := HF1.out her1
 obtain ⟨f2, g2⟩ := HF2.out her2
 have hne1 : (P1.2.2 == 0) = true := beq_iff_eq.mpr her1
 have hne3 : (P1.2.2 != 0) = false := by rw [bne, hne1]; rfl
 have hne2 : (P2.2.2 == 0) = true := beq_iff_eq.mpr her2
 have hne4 : (P2.2.2 != 0) = false := by rw [bne, hne2]; rfl
 clear HF1 HF2 her1 her2
 go_wp2_with fail
 generalize hX : w4.alloc (.cells #[.slice B1 P2.1.ss.length d1, .slice B2 P2.1.vs.length d2, .slice B3 P2.1.fs.length d3] 27) = Y
 have hb3 : Below w4.heap.size w4 Y := by rw [← hX]; exact (Below.refl _ _).alloc (Nat.le_refl _) _
 have r8 : Y.heap[w4.heap.size]? = some (.cells #[.slice B1 P2.1.ss.length d1, .slice B2 P2.1.vs.length d2, .slice B3 P2.1.fs.length d3] 27) := by rw [← hX]; exact heap_new _ _
 replace HPA := Lib.hid (ap_keep HPA.out hb3)
 replace HPB := Lib.hid (ap_keep HPB.out hb3)
 replace hb2 := hb2.trans (hb3.mono hb2.size)
 have r5 := (hb3.block b5 (Array.getElem?_eq_some_iff.1 R5.out).1).trans R5.out
 clear hX hb3 R5
 generalize w4.heap.size = b8 at *
 have hTY := HT.out.keep hb2
 have hl5 := (Array.getElem?_eq_some_iff.1 r5).1
 have hl8 := (Array.getElem?_eq_some_iff.1 r8).1
 have CA : ∀ g : Gx Y, ∀ v, (⟨(treeT T P1.1).toArray⟩ : ByteArray) = v → Calls Tryz.prog 8 #[.agg #[.slice A1 P1.1.ss.length c1, .slice A2 P1.1.vs.length c2, .slice A3 P1.1.fs.length c3]] g.1 fun e w' => e = .returned (.string v) ∧ ∃ g' : Gx Y, w' = g'.1 := fun g v hv => hv ▸ grx_of (treeP_any T P1.1 _ _ _ g.1 (hTY.keep (g.2.mono hb2.size)) (Nat.le_trans hb2.size g.2.size) HPA.out g.2 f1 g1)
 have CB : ∀ g : Gx Y, ∀ v, (⟨(treeT T P2.1).toArray⟩ : ByteArray) = v → Calls Tryz.prog 8 #[.agg #[.slice B1 P2.1.ss.length d1, .slice B2 P2.1.vs.length d2, .slice B3 P2.1.fs.length d3]] g.1 fun e w' => e = .returned (.string v) ∧ ∃ g' : Gx Y, w' = g'.1 := fun g v hv => hv ▸ grx_of (treeP_any T P2.1 _ _ _ g.1 (hTY.keep (g.2.mono hb2.size)) (Nat.le_trans hb2.size g.2.size) HPB.out g.2 f2 g2)
 have CS : ∀ g : Gx Y, ∀ v, sameB (EqP false P1.1 P2.1) = v → Calls Tryz.prog 9 #[.agg #[.slice A1 P1.1.ss.length c1, .slice A2 P1.1.vs.length c2, .slice A3 P1.1.fs.length c3], .agg #[.slice B1 P2.1.ss.length d1, .slice B2 P2.1.vs.length d2, .slice B3 P2.1.fs.length d3], .bool false] g.1 fun e w' => e = .returned (.bool v) ∧ ∃ g' : Gx Y, w' = g'.1 := fun g v hv => hv ▸ grx_of (same_any P1.1 P2.1 false _ _ _ _ _ _ g.1 _ _ (ap_keep HPA.out g.2) (ap_keep HPB.out g.2))
 have hq := strs_eq T P1.1 P2.1
 generalize hva : (⟨(treeT T P1.1).toArray⟩ : ByteArray) = va at *
 generalize hvb : (⟨(treeT T P2.1).toArray⟩ : ByteArray) = vb at *
 generalize hvs : sameB (EqP false P1.1 P2.1) = vs at *
 have CA := fun g => CA g va rfl
 have CB := fun g => CB g vb rfl
 have CS := fun g => CS g vs rfl
 have q5 : ∀ (g : Gx Y) (i : Nat) (u : Value), (#[Value.slice A1 P1.1.ss.length c1, .slice A2 P1.1.vs.length c2, .slice A3 P1.1.fs.length c3])[i]? = some u → g.1.cell? ⟨b5, i, none⟩ = some u := fun g i u hu => by rw [g.2.cell (p := ⟨b5, i, none⟩) hl5, cell_of_row _ _ _ _ _ _ r5]; exact hu
 have q8 : ∀ (g : Gx Y) (i : Nat) (u : Value), (#[Value.slice B1 P2.1.ss.length d1, .slice B2 P2.1.vs.length d2, .slice B3 P2.1.fs.length d3])[i]? = some u → g.1.cell? ⟨b8, i, none⟩ = some u := fun g i u hu => by rw [g.2.cell (p := ⟨b8, i, none⟩) hl8, cell_of_row _ _ _ _ _ _ r8]; exact hu
 have x0 := fun g => q5 g 0 _ rfl
 have x1 := fun g => q5 g 1 _ rfl
 have x2 := fun g => q5 g 2 _ rfl
 have y0 := fun g => q8 g 0 _ rfl
 have y1 := fun g => q8 g 1 _ rfl
 have y2 := fun g => q8 g 2 _ rfl
 clear q5 q8 r5 r8 hTY HPA HPB f1 f2 g1 g2
 have HQ := Lib.hid hq
 clear hq
 refine wp_region_grx (w0 := Y) (by kernel_rfl) (by kernel_rfl) (Below.refl _ _) ?_
 repeat (go_big_quiet_step (first | with_reducible exact CA _ | with_reducible exact CB _ | with_reducible exact CS _))
 refine wpQuiet_nil ?_
 rintro W ⟨g, rfl⟩
 go_wp2
 go_ret
 exact ⟨by rw [HQ.out]; simp, hb2.trans (g.2.mono hb2.size)⟩
end Go.Proofs.YtfjobnljdkiihaaGreatDoor
