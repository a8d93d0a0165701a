/- The document's comparison of programs, places too. Conditions: each theorem's. -/
import Derived.Test.YtfjobnljdkiihaaGreatDoorQtParSh
namespace Go.Proofs.YtfjobnljdkiihaaGreatDoor
open Go.RowKit Go.Maps
set_option linter.unusedVariables false
set_option linter.unusedSimpArgs false
set_option maxRecDepth 100000
open Lx Pa
set_option maxHeartbeats 64000000 in
theorem same_true (p q : PPr) (A1 A2 A3 A4 A5 A6 : Option Addr) (c1 c2 c3 c4 c5 c6 : Nat) (w : World) (S1 S2 : Nat → Prop) (h1 : PrAt w S1 p (.slice A1 p.ss.length c1) (.slice A2 p.vs.length c2) (.slice A3 p.fs.length c3)) (h2 : PrAt w S2 q (.slice A4 q.ss.length c4) (.slice A5 q.vs.length c5) (.slice A6 q.fs.length c6)) :
 Calls Tryz.prog 9 #[.agg #[.slice A1 p.ss.length c1, .slice A2 p.vs.length c2, .slice A3 p.fs.length c3], .agg #[.slice A4 q.ss.length c4, .slice A5 q.vs.length c5, .slice A6 q.fs.length c6], .bool true] w fun e w' => e = .returned (.bool (sameB (EqP true p q))) ∧ Below w.heap.size w w' := by
 have HB2 := Lib.hid ((((Below.refl w.heap.size w).alloc (Nat.le_refl _) (.cells #[.slice A1 p.ss.length c1, .slice A2 p.vs.length c2, .slice A3 p.fs.length c3] 27)).alloc (by simp only [szA]; omega) (.cells #[.slice A4 q.ss.length c4, .slice A5 q.vs.length c5, .slice A6 q.fs.length c6] 27)))
 have hza := heap_alloc_new w (.cells #[.slice A1 p.ss.length c1, .slice A2 p.vs.length c2, .slice A3 p.fs.length c3] 27)
 have HZA := Lib.hid (bl1 (w.alloc (.cells #[.slice A1 p.ss.length c1, .slice A2 p.vs.length c2, .slice A3 p.fs.length c3] 27)) (.cells #[.slice A4 q.ss.length c4, .slice A5 q.vs.length c5, .slice A6 q.fs.length c6] 27) hza (by rw [szA]; omega))
 have HZB := Lib.hid (bn (w.alloc (.cells #[.slice A1 p.ss.length c1, .slice A2 p.vs.length c2, .slice A3 p.fs.length c3] 27)) (.cells #[.slice A4 q.ss.length c4, .slice A5 q.vs.length c5, .slice A6 q.fs.length c6] 27) (k := w.heap.size + 1) (by rw [szA]))
 have HZS := Lib.hid (show ((w.alloc (.cells #[.slice A1 p.ss.length c1, .slice A2 p.vs.length c2, .slice A3 p.fs.length c3] 27)).alloc (.cells #[.slice A4 q.ss.length c4, .slice A5 q.vs.length c5, .slice A6 q.fs.length c6] 27)).heap.size = w.heap.size + 2 by simp only [szA])
 have HK2 := Lib.hid (show ∀ g, g < w.heap.size → ((w.alloc (.cells #[.slice A1 p.ss.length c1, .slice A2 p.vs.length c2, .slice A3 p.fs.length c3] 27)).alloc (.cells #[.slice A4 q.ss.length c4, .slice A5 q.vs.length c5, .slice A6 q.fs.length c6] 27)).heap[g]? = w.heap[g]? from fun g hg => bl1 (w.alloc (.cells #[.slice A1 p.ss.length c1, .slice A2 p.vs.length c2, .slice A3 p.fs.length c3] 27)) (.cells #[.slice A4 q.ss.length c4, .slice A5 q.vs.length c5, .slice A6 q.fs.length c6] 27) (bl1 w (.cells #[.slice A1 p.ss.length c1, .slice A2 p.vs.length c2, .slice A3 p.fs.length c3] 27) rfl hg) (by rw [szA]; omega))
 have HPA := Lib.hid (h1.keep (w' := ((w.alloc (.cells #[.slice A1 p.ss.length c1, .slice A2 p.vs.length c2, .slice A3 p.fs.length c3] 27)).alloc (.cells #[.slice A4 q.ss.length c4, .slice A5 q.vs.length c5, .slice A6 q.fs.length c6] 27))) (S' := S1) (fun g hg hl => ⟨hg, HK2.out g hl⟩) (by rw [HZS.out]; omega))
 have HPB := Lib.hid (h2.keep (w' := ((w.alloc (.cells #[.slice A1 p.ss.length c1, .slice A2 p.vs.length c2, .slice A3 p.fs.length c3] 27)).alloc (.cells #[.slice A4 q.ss.length c4, .slice A5 q.vs.length c5, .slice A6 q.fs.length c6] 27))) (S' := S2) (fun g hg hl => ⟨hg, HK2.out g hl⟩) (by rw [HZS.out]; omega))
 clear hza h1 h2
 by_cases hsl : p.ss.length = q.ss.length
 case neg =>
  have HN := Lib.hid (show ¬ EqP true p q from fun h => hsl h.ss.1)
  have e1 : ((p.ss.length : Int) != (q.ss.length : Int)) = true := by simp; omega
  clear hsl
  go_enter Tryz.func9, Tryz.ntmps9
  go_wp2_with fail
  go_ret
  exact ⟨by rw [sameB_false HN.out] <;> rfl, HB2.out⟩
 case pos =>
  have HLEN := Lib.hid hsl
  have e1 : ((p.ss.length : Int) != (q.ss.length : Int)) = false := by rw [hsl]; simp
  clear hsl
  by_cases hfl : p.fs.length = q.fs.length
  case neg =>
   have HN := Lib.hid (show ¬ EqP true p q from fun h => hfl h.fs.1)
   have e2 : ((p.fs.length : Int) != (q.fs.length : Int)) = true := by simp; omega
   clear hfl
   go_enter Tryz.func9, Tryz.ntmps9
   go_wp2_with fail
   go_ret
   exact ⟨by rw [sameB_false HN.out] <;> rfl, HB2.out⟩
  case pos =>
   have HLENn := Lib.hid hfl
   have e2 : ((p.fs.length : Int) != (q.fs.length : Int)) = false := by rw [hfl]; simp
   clear hfl
   have hva := vars_any p.vs true q.vs _ _ _ S1 S2 HPA.out.v HPB.out.v
   by_cases hv : EqVas true p.vs q.vs
   case neg =>
    have HN := Lib.hid (show ¬ EqP true p q from fun h => hv h.vs)
    rw [sameB_false hv] at hva
    clear hv
    go_enter Tryz.func9, Tryz.ntmps9
    go_wp2_with fail
    refine hva.mono ?_
    rintro e wz ⟨rfl, bz⟩
    go_wp2
    go_ret
    exact ⟨by rw [sameB_false HN.out] <;> rfl, HB2.out.trans (bz.mono HB2.out.size)⟩
   case pos =>
    have HV := Lib.hid hv
    rw [sameB_true hv] at hva
    clear hv
    go_enter Tryz.func9, Tryz.ntmps9
    go_wp2_with fail
    refine hva.mono ?_
    rintro e wv ⟨rfl, bv⟩
    have HBv := Lib.hid (HB2.out.trans (bv.mono HB2.out.size))
    have lv : w.heap.size + 2 ≤ wv.heap.size := by have := bv.size; rw [HZS.out] at this; exact this
    have HVA := Lib.hid ((bv.block _ (by rw [HZS.out]; omega)).trans HZA.out)
    have HVB := Lib.hid ((bv.block _ (by rw [HZS.out]; omega)).trans HZB.out)
    have HPv := Lib.hid (HPA.out.keep (w' := wv) (S' := S1) (fun g hg hl => ⟨hg, bv.block g hl⟩) bv.size)
    have HQv := Lib.hid (HPB.out.keep (w' := wv) (S' := S2) (fun g hg hl => ⟨hg, bv.block g hl⟩) bv.size)
    have HS1 := Lib.hid HPv.out.s
    have HS2 := Lib.hid HQv.out.s
    clear bv
    have a0 : wv.cell? ⟨w.heap.size, 0, none⟩ = some (.slice A1 p.ss.length c1) := cell_of_row _ _ _ _ _ _ HVA.out
    go_wp2
    go_loopw [44] (fun vi wr => ∃ j : Nat, j ≤ p.ss.length ∧ vi = .int .i64 j ∧ Hid (Below wv.heap.size wv wr) ∧ Hid (∀ i, i < j → EqSr true (p.ss.getD i sr0) (q.ss.getD i sr0))) (fun vi _ => p.ss.length - (intOf vi).toNat)
    case atStart => exact ⟨0, by omega, rfl, Lib.hid (Below.refl _ _), Lib.hid (fun i hi => by omega)⟩
    case round =>
     clear a0
     obtain ⟨j, hj, rfl, HBW, HEQ⟩ := hrel
     obtain ⟨w3, hw3⟩ : ∃ w3, w3 = wr := ⟨_, rfl⟩
     subst hw3
     have l3 := HBW.out.size
     have HVA3 := Lib.hid ((HBW.out.block _ (by omega)).trans HVA.out)
     have HVB3 := Lib.hid ((HBW.out.block _ (by omega)).trans HVB.out)
     by_cases hlt : j < p.ss.length
     case pos =>
      have d1 : decide ((j : Int) < (p.ss.length : Int)) = true := decide_eq_true (by omega)
      have hlt2 : j < q.ss.length := by rw [← HLEN.out]; exact hlt
      have hx : p.ss[j]? = some (p.ss[j]'hlt) := List.getElem?_eq_getElem hlt
      have hy : q.ss[j]? = some (q.ss[j]'hlt2) := List.getElem?_eq_getElem hlt2
      have hK1 := HS1.out.keep (w' := w3) (S' := S1) (fun g hg hl => ⟨hg, HBW.out.block g hl⟩) HBW.out.size
      have hK2 := HS2.out.keep (w' := w3) (S' := S2) (fun g hg hl => ⟨hg, HBW.out.block g hl⟩) HBW.out.size
      obtain ⟨g1, o1, cp1, cx, e1, p1, m1, _, b1, hX, r1⟩ := hK1.get j hx
      obtain ⟨g2, o2, cp2, cy, e2, p2, m2, _, b2, hY', r2⟩ := hK2.get j hy
      injection e1 with e1 _ e1'
      injection e2 with e2 _ e2'
      generalize hxx : p.ss[j]'hlt = x at *
      generalize hyy : q.ss[j]'hlt2 = y at *
      have HX := Lib.hid hx
      have HY2 := Lib.hid hy
      have HCX := Lib.hid (srE.len hX)
      have HCY := Lib.hid (srE.len hY')
      have HOX := Lib.hid (elem_one hX)
      have HOY := Lib.hid (elem_one hY')
      have HEX := Lib.hid hX
      have HEY := Lib.hid hY'
      have RX : w3.rangeAt g1 (o1 + j * 3) cx := fun k u hu => by have := r1 k u hu; rw [show o1 + (j * srE.z + k) = o1 + j * 3 + k from by show o1 + (j * 3 + k) = _; omega] at this; exact this
      have RY : w3.rangeAt g2 (o2 + j * 3) cy := fun k u hu => by have := r2 k u hu; rw [show o2 + (j * srE.z + k) = o2 + j * 3 + k from by show o2 + (j * 3 + k) = _; omega] at this; exact this
      have HRX := Lib.hid RX
      have HRY := Lib.hid RY
      subst e1 e2 e1' e2'
      clear hX hY' r1 r2 hK1 hK2 RX RY hxx hyy hx hy
      have q1 : (j : Int) < (p.ss.length : Int) := by omega
      have q2 : (j : Int) < (q.ss.length : Int) := by omega
      have q0 : (0 : Int) ≤ (j : Int) := by omega
      have HQ3 : Hid (wrap64 ((j : Int) + 1) = (j : Int) + 1) := Lib.hid (by unfold maxLen at m1 m2; unfold wrap64; omega)
      clear p1 m1 p2 m2
      have HCA := Lib.hid (show w3.cell? ⟨w.heap.size, 0, none⟩ = some (.slice (some ⟨g1, o1, none⟩) p.ss.length c1) from cell_of_row _ _ _ _ _ _ HVA3.out)
      have HCB := Lib.hid (show w3.cell? ⟨w.heap.size + 1, 0, none⟩ = some (.slice (some ⟨g2, o2, none⟩) q.ss.length c4) from cell_of_row _ _ _ _ _ _ HVB3.out)
      have HLA := Lib.hid (show w.heap.size < w3.heap.size by omega)
      have HLB := Lib.hid (show w.heap.size + 1 < w3.heap.size by omega)
      go_wp2_with fail
      refine wp_region_held_drew (S := fun W : World => Below w3.heap.size w3 W) (by kernel_rfl) ((Below.refl _ _).drew) (fun hHeld => ?_)
      refine wpAnyH_take (i := 0) (oi := ⟨some 47, .fieldAddr 27 (.tmp 3) 0, 0, "same.go:53", #[], none⟩) (v := .pointer (some ⟨w.heap.size, 0, none⟩)) rfl (by kernel_rfl) (by kernel_rfl) (by kernel_rfl) (fun _ _ _ h => h) (Or.inl ⟨by rfl, ?hy1⟩) (by assumption) ?_
      case hy1 => ((intro W hSW; (try dsimp only at hSW); go_simp); (try with_reducible rfl); (try exact ⟨rfl, rfl, rfl⟩))
      simp only [Act.put, sZa, sZb, sZc]
      refine wpAnyH_take (i := 1) (oi := ⟨some 48, .load 23 (.tmp 47), 23, "same.go:53", #[⟨0, .data⟩], none⟩) (v := .slice (some ⟨g1, o1, none⟩) p.ss.length c1) rfl (by kernel_rfl) (by kernel_rfl) (by kernel_rfl) (fun _ _ _ h => h) (Or.inl ⟨by rfl, ?hy2⟩) (by assumption) ?_
      case hy2 => ((intro W hSW; (try dsimp only at hSW); have hcW := (World.cell?_of_block (w := w3) (hSW.block _ HLA.out)).trans HCA.out; clear hSW; go_simp); (try with_reducible rfl); (try exact ⟨rfl, rfl, rfl⟩))
      simp only [Act.put, sZa, sZb, sZc]
      refine wpAnyH_take (i := 2) (oi := ⟨some 49, .move (.tmp 7), 3, "same.go:53", #[], none⟩) (v := .int .i64 j) rfl (by kernel_rfl) (by kernel_rfl) (by kernel_rfl) (fun _ _ _ h => h) (Or.inl ⟨by rfl, ?hy3⟩) (by assumption) ?_
      case hy3 => ((intro W hSW; (try dsimp only at hSW); go_simp); (try with_reducible rfl); (try exact ⟨rfl, rfl, rfl⟩))
      simp only [Act.put, sZa, sZb, sZc]
      refine wpAnyH_take (i := 3) (oi := ⟨some 50, .indexAddr 23 (.tmp 48) (.tmp 49), 0, "same.go:53", #[⟨1, .data⟩, ⟨2, .data⟩], none⟩) (v := .pointer (some ⟨g1, o1 + j * 3, none⟩)) rfl (by kernel_rfl) (by kernel_rfl) (by kernel_rfl) (fun _ _ _ h => h) (Or.inl ⟨by rfl, ?hy4⟩) (by assumption) ?_
      case hy4 => ((intro W hSW; (try dsimp only at hSW); go_simp); (try with_reducible rfl); (try exact ⟨rfl, rfl, rfl⟩))
      simp only [Act.put, sZa, sZb, sZc]
      refine wpAnyH_take (i := 4) (oi := ⟨some 51, .load 75 (.tmp 50), 75, "same.go:53", #[⟨3, .data⟩], none⟩) (v := .agg cx.toArray) rfl (by kernel_rfl) (by kernel_rfl) (by kernel_rfl) (fun _ _ _ h => h) (yieldsIf_load_mid (by rfl) 75 (.tmp 50) rfl g1 (o1 + j * 3) rfl cx _ (fun W hW => (fun k u hu => (World.cell?_of_block (w := w3) (hW.block g1 b1)).trans (HRX.out k u hu))) Tryz.underlying75 rfl (by rw [HCX.out]; exact sizeSr)) (by assumption) ?_
      simp only [Act.put, sZa, sZb, sZc]
      refine wpAnyH_take (i := 5) (oi := ⟨some 52, .fieldAddr 27 (.tmp 4) 0, 0, "same.go:53", #[{ on := 12, ground := Go.Ground.gcOnly Go.Departure.lateStores }], none⟩) (v := .pointer (some ⟨(w.heap.size + 1), 0, none⟩)) rfl (by kernel_rfl) (by kernel_rfl) (by kernel_rfl) (fun _ _ _ h => h) (Or.inl ⟨by rfl, ?hy6⟩) (by assumption) ?_
      case hy6 => ((intro W hSW; (try dsimp only at hSW); go_simp); (try with_reducible rfl); (try exact ⟨rfl, rfl, rfl⟩))
      simp only [Act.put, sZa, sZb, sZc]
      refine wpAnyH_take (i := 6) (oi := ⟨some 53, .load 23 (.tmp 52), 23, "same.go:53", #[⟨5, .data⟩, { on := 12, ground := Go.Ground.gcOnly Go.Departure.lateStores }], none⟩) (v := .slice (some ⟨g2, o2, none⟩) q.ss.length c4) rfl (by kernel_rfl) (by kernel_rfl) (by kernel_rfl) (fun _ _ _ h => h) (Or.inl ⟨by rfl, ?hy7⟩) (by assumption) ?_
      case hy7 => ((intro W hSW; (try dsimp only at hSW); have hcW := (World.cell?_of_block (w := w3) (hSW.block _ HLB.out)).trans HCB.out; clear hSW; go_simp); (try with_reducible rfl); (try exact ⟨rfl, rfl, rfl⟩))
      simp only [Act.put, sZa, sZb, sZc]
      refine wpAnyH_take (i := 7) (oi := ⟨some 54, .move (.tmp 7), 3, "same.go:53", #[{ on := 12, ground := Go.Ground.gcOnly Go.Departure.lateStores }], none⟩) (v := .int .i64 j) rfl (by kernel_rfl) (by kernel_rfl) (by kernel_rfl) (fun _ _ _ h => h) (Or.inl ⟨by rfl, ?hy8⟩) (by assumption) ?_
      case hy8 => ((intro W hSW; (try dsimp only at hSW); go_simp); (try with_reducible rfl); (try exact ⟨rfl, rfl, rfl⟩))
      simp only [Act.put, sZa, sZb, sZc]
      refine wpAnyH_take (i := 8) (oi := ⟨some 55, .indexAddr 23 (.tmp 53) (.tmp 54), 0, "same.go:53", #[⟨6, .data⟩, ⟨7, .data⟩, { on := 12, ground := Go.Ground.gcOnly Go.Departure.lateStores }], none⟩) (v := .pointer (some ⟨g2, o2 + j * 3, none⟩)) rfl (by kernel_rfl) (by kernel_rfl) (by kernel_rfl) (fun _ _ _ h => h) (Or.inl ⟨by rfl, ?hy9⟩) (by assumption) ?_
      case hy9 => ((intro W hSW; (try dsimp only at hSW); go_simp); (try with_reducible rfl); (try exact ⟨rfl, rfl, rfl⟩))
      simp only [Act.put, sZa, sZb, sZc]
      refine wpAnyH_take (i := 9) (oi := ⟨some 56, .load 75 (.tmp 55), 75, "same.go:53", #[⟨8, .data⟩, { on := 12, ground := Go.Ground.gcOnly Go.Departure.lateStores }], none⟩) (v := .agg cy.toArray) rfl (by kernel_rfl) (by kernel_rfl) (by kernel_rfl) (fun _ _ _ h => h) (yieldsIf_load_mid (by rfl) 75 (.tmp 55) rfl g2 (o2 + j * 3) rfl cy _ (fun W hW => (fun k u hu => (World.cell?_of_block (w := w3) (hW.block g2 b2)).trans (HRY.out k u hu))) Tryz.underlying75 rfl (by rw [HCY.out]; exact sizeSr)) (by assumption) ?_
      simp only [Act.put, sZa, sZb, sZc]
      refine wpAnyH_ready (rs := [10, 11]) (by kernel_rfl) (by simp) ?_
      refine (AllReadyH.cons (i := 10) (o := ⟨some 8, .alloc 75, 0, "same.go:53", #[], none⟩) rfl (fun K hK => ?_) (AllReadyH.cons (i := 11) (o := ⟨some 9, .alloc 75, 0, "same.go:53", #[], none⟩) rfl (fun K hK => ?_) AllReadyH.nil))
      ·have HZ8 := Lib.hid (heap_alloc_new w3.drew (.cells srZ 75))
       go_simp
       refine hK.out _ _ (hHeld.alloc (hHeld.size) _) (fun hHeld => ?_)
       clear hK K
       try simp only [Act.put, sZa, sZb, sZc]
       refine wpAnyH_ready (rs := [11]) (by kernel_rfl) (by simp) ?_
       refine (AllReadyH.cons (i := 11) (o := ⟨some 9, .alloc 75, 0, "same.go:53", #[], none⟩) rfl (fun K hK => ?_) AllReadyH.nil)
       have HZo := Lib.hid (bl1 (w3.drew.alloc (.cells srZ 75)) (.cells srZ 75) HZ8.out (by rw [szA]; show w3.heap.size < w3.heap.size + 1; omega))
       have HZ9 := Lib.hid (bn (w3.drew.alloc (.cells srZ 75)) (.cells srZ 75) (k := w3.heap.size + 1) (by rw [szA]; rfl))
       go_simp
       refine hK.out _ _ (hHeld.alloc (hHeld.size) _) (fun hHeld => ?_)
       clear hK K
       try simp only [Act.put, sZa, sZb, sZc]
       refine wpAnyH_ready (rs := [12]) (by kernel_rfl) (by simp) ?_
       refine (AllReadyH.cons (i := 12) (o := ⟨none, .store 75 (.tmp 8) (.tmp 51), 0, "same.go:53", #[⟨10, .data⟩, ⟨4, .data⟩, ⟨0, .phase⟩, ⟨1, .phase⟩, ⟨2, .phase⟩, ⟨3, .phase⟩, ⟨4, .phase⟩, { on := 5, ground := Go.Ground.textOnly Go.Departure.lateStores }, { on := 6, ground := Go.Ground.textOnly Go.Departure.lateStores }, { on := 7, ground := Go.Ground.textOnly Go.Departure.lateStores }, { on := 8, ground := Go.Ground.textOnly Go.Departure.lateStores }, { on := 9, ground := Go.Ground.textOnly Go.Departure.lateStores }, ⟨10, .phase⟩, ⟨11, .phase⟩], none⟩) rfl (fun K hK => ?_) AllReadyH.nil)
       rw [if_pos (by rfl)]
       refine wp_stG 75 w3.heap.size cx.toArray (by rfl) (by rfl) HZo.out (by rw [List.size_toArray, HCX.out]; exact sizeSr) (by first | (rw [List.size_toArray, List.size_toArray, HCX.out] <;> rfl) | (rw [List.size_toArray, HCX.out] <;> rfl)) HOX.out ?_
       intro Y8 hY8
       have HY8 := Lib.hid hY8
       clear hY8
       have HB8 := Lib.hid HY8.out.at_
       have HZp := Lib.hid ((HY8.out.oth (w3.heap.size + 1) (by omega)).trans HZ9.out)
       refine hK.out _ _ (HY8.out.below hHeld (by omega)) (fun hHeld => ?_)
       clear hK K
       try simp only [Act.put, sZa, sZb, sZc]
       refine wpAnyH_ready (rs := [13]) (by kernel_rfl) (by simp) ?_
       refine (AllReadyH.cons (i := 13) (o := ⟨none, .store 75 (.tmp 9) (.tmp 56), 0, "same.go:53", #[⟨11, .data⟩, ⟨9, .data⟩, ⟨12, .chain⟩, ⟨0, .phase⟩, ⟨1, .phase⟩, ⟨2, .phase⟩, ⟨3, .phase⟩, ⟨4, .phase⟩, ⟨5, .phase⟩, ⟨6, .phase⟩, ⟨7, .phase⟩, ⟨8, .phase⟩, ⟨9, .phase⟩, ⟨10, .phase⟩, ⟨11, .phase⟩, ⟨12, .phase⟩], none⟩) rfl (fun K hK => ?_) AllReadyH.nil)
       rw [if_pos (by rfl)]
       refine wp_stG 75 (w3.heap.size + 1) cy.toArray (by rfl) (by rfl) HZp.out (by rw [List.size_toArray, HCY.out]; exact sizeSr) (by first | (rw [List.size_toArray, List.size_toArray, HCY.out] <;> rfl) | (rw [List.size_toArray, HCY.out] <;> rfl)) HOY.out ?_
       intro Y9 hY9
       have HY9 := Lib.hid hY9
       clear hY9
       have hb8 := (HY9.out.oth w3.heap.size (by omega)).trans HB8.out
       have hb9 := HY9.out.at_
       refine hK.out _ _ (HY9.out.below hHeld (by omega)) (fun hHeld => ?_)
       clear hK K
       try simp only [Act.put, sZa, sZb, sZc]
       refine wpAnyH_done (by kernel_rfl) ?_ _
       have HBL := Lib.hid (HBW.out.trans (hHeld.mono HBW.out.size))
       obtain ⟨vf1, hf1, hc1⟩ := srE.keep HEX.out (w' := Y9) (S' := S1) (fun g hg hl => ⟨hg, hHeld.block g hl⟩) hHeld.size
       obtain ⟨vf2, hf2, hc2⟩ := srE.keep HEY.out (w' := Y9) (S' := S2) (fun g hg hl => ⟨hg, hHeld.block g hl⟩) hHeld.size
       obtain ⟨Af, cf, rfl⟩ := hf1.slice
       obtain ⟨Af', cf', rfl⟩ := hf2.slice
       obtain ⟨nm, fds, ax⟩ := x
       obtain ⟨nm', fds', ay⟩ := y
       subst hc1 hc2
       have HF1 := Lib.hid (show LAt fdE Y9 S1 fds (.slice Af fds.length cf) from hf1)
       have HF2 := Lib.hid (show LAt fdE Y9 S2 fds' (.slice Af' fds'.length cf') from hf2)
       have fx0 : Y9.cell? ⟨w3.heap.size, 0, none⟩ = some (.string nm) := cell_of_row _ _ _ _ _ _ hb8
       have fx1 : Y9.cell? ⟨w3.heap.size, 1, none⟩ = some (.slice Af fds.length cf) := cell_of_row _ _ _ _ _ _ hb8
       have fx2 : Y9.cell? ⟨w3.heap.size, 2, none⟩ = some (.int .i64 ax) := cell_of_row _ _ _ _ _ _ hb8
       have fy0 : Y9.cell? ⟨(w3.heap.size + 1), 0, none⟩ = some (.string nm') := cell_of_row _ _ _ _ _ _ hb9
       have fy1 : Y9.cell? ⟨(w3.heap.size + 1), 1, none⟩ = some (.slice Af' fds'.length cf') := cell_of_row _ _ _ _ _ _ hb9
       have fy2 : Y9.cell? ⟨(w3.heap.size + 1), 2, none⟩ = some (.int .i64 ay) := cell_of_row _ _ _ _ _ _ hb9
       have HRX8 := Lib.hid fx1
       have HRY9 := Lib.hid fy1
       have HL8 := Lib.hid (Array.getElem?_eq_some_iff.1 hb8).1
       have HL9 := Lib.hid (Array.getElem?_eq_some_iff.1 hb9).1
       clear hf1 hf2 hb8 hb9 hHeld HEX HEY HRX HRY HCX HCY HOX HOY d1
       by_cases hne : nm = nm'
       case neg =>
        have HNE := Lib.hid (show ¬ EqSr true ⟨nm, fds, ax⟩ ⟨nm', fds', ay⟩ from fun hE => hne hE.nm)
        have n1 := strEqF hne
        have n2 := strNeT hne
        clear hne
        clear HBW HEQ
        go_wp2
        go_ret
        exact ⟨by rw [sameB_false (fun h => EqL.no HX.out HY2.out HNE.out h.ss)] <;> rfl, HBv.out.trans (HBL.out.mono HBv.out.size)⟩
       case pos =>
        subst hne
        by_cases hne : ax = ay
        case neg =>
         have HNE := Lib.hid (show ¬ EqSr true ⟨nm, fds, ax⟩ ⟨nm, fds', ay⟩ from fun hE => hne (hE.pa rfl))
         have n1 : ((ax : Int) == (ay : Int)) = false := beq_eq_false_iff_ne.mpr (by omega)
         have n2 : ((ax : Int) != (ay : Int)) = true := bne_iff_ne.mpr (by omega)
         clear hne
         clear HBW HEQ
         go_wp2
         go_ret
         exact ⟨by rw [sameB_false (fun h => EqL.no HX.out HY2.out HNE.out h.ss)] <;> rfl, HBv.out.trans (HBL.out.mono HBv.out.size)⟩
        case pos =>
         subst hne
         by_cases hfl : fds.length = fds'.length
         case neg =>
          have HNE := Lib.hid (show ¬ EqSr true ⟨nm, fds, ax⟩ ⟨nm, fds', ax⟩ from fun hE => hfl hE.fds.1)
          have n2 : ((fds.length : Int) != (fds'.length : Int)) = true := by simp; omega
          clear hfl
          clear HBW HEQ
          go_wp2
          go_ret
          exact ⟨by rw [sameB_false (fun h => EqL.no HX.out HY2.out HNE.out h.ss)] <;> rfl, HBv.out.trans (HBL.out.mono HBv.out.size)⟩
         case pos =>
          have HLENf := Lib.hid hfl
          have n2 : ((fds.length : Int) != (fds'.length : Int)) = false := by rw [hfl]; simp
          clear hfl
          go_wp2
          go_loopw [84] (fun vi wr => ∃ kf : Nat, kf ≤ fds.length ∧ vi = .int .i64 kf ∧ Hid (Below Y9.heap.size Y9 wr) ∧ Hid (∀ i, i < kf → EqFd true (fds.getD i fd0) (fds'.getD i fd0))) (fun vi _ => fds.length - (intOf vi).toNat)
          case atStart => exact ⟨0, by omega, rfl, Lib.hid (Below.refl _ _), Lib.hid (fun i hi => by omega)⟩
          case round =>
           obtain ⟨kf, hkf, rfl, HBWf, HEQf⟩ := hrel
           obtain ⟨w4, hw4⟩ : ∃ w4, w4 = wr := ⟨_, rfl⟩
           subst hw4
           by_cases hltf : kf < fds.length
           case pos =>
            have d1f : decide ((kf : Int) < (fds.length : Int)) = true := decide_eq_true (by omega)
            have hltf2 : kf < fds'.length := by rw [← HLENf.out]; exact hltf
            have hx : fds[kf]? = some (fds[kf]'hltf) := List.getElem?_eq_getElem hltf
            have hy : fds'[kf]? = some (fds'[kf]'hltf2) := List.getElem?_eq_getElem hltf2
            have hK1 := HF1.out.keep (w' := w4) (S' := S1) (fun g hg hl => ⟨hg, HBWf.out.block g hl⟩) HBWf.out.size
            have hK2 := HF2.out.keep (w' := w4) (S' := S2) (fun g hg hl => ⟨hg, HBWf.out.block g hl⟩) HBWf.out.size
            obtain ⟨g1f, o1f, cp1, cxf, e1, p1, m1, _, b1f, hX, r1⟩ := hK1.get kf hx
            obtain ⟨g2f, o2f, cp2, cyf, e2, p2, m2, _, b2f, hY', r2⟩ := hK2.get kf hy
            injection e1 with e1 _ e1'
            injection e2 with e2 _ e2'
            generalize hxx : fds[kf]'hltf = xf at *
            generalize hyy : fds'[kf]'hltf2 = yf at *
            have HXf := Lib.hid hx
            have HYf2 := Lib.hid hy
            have HCXf := Lib.hid (fdE.len hX)
            have HCYf := Lib.hid (fdE.len hY')
            have HOXf := Lib.hid (elem_one hX)
            have HOYf := Lib.hid (elem_one hY')
            have HEXf := Lib.hid hX
            have HEYf := Lib.hid hY'
            have RX : w4.rangeAt g1f (o1f + kf * 5) cxf := fun k u hu => by have := r1 k u hu; rw [show o1f + (kf * fdE.z + k) = o1f + kf * 5 + k from by show o1f + (kf * 5 + k) = _; omega] at this; exact this
            have RY : w4.rangeAt g2f (o2f + kf * 5) cyf := fun k u hu => by have := r2 k u hu; rw [show o2f + (kf * fdE.z + k) = o2f + kf * 5 + k from by show o2f + (kf * 5 + k) = _; omega] at this; exact this
            have HRXf := Lib.hid RX
            have HRYf := Lib.hid RY
            subst e1 e2 e1' e2'
            clear hX hY' r1 r2 hK1 hK2 RX RY hxx hyy hx hy
            have q1f : (kf : Int) < (fds.length : Int) := by omega
            have q2f : (kf : Int) < (fds'.length : Int) := by omega
            have q0f : (0 : Int) ≤ (kf : Int) := by omega
            have HQ3f : Hid (wrap64 ((kf : Int) + 1) = (kf : Int) + 1) := Lib.hid (by unfold maxLen at m1 m2; unfold wrap64; omega)
            clear p1 m1 p2 m2
            have HCAf := Lib.hid ((World.cell?_of_block (w := Y9) (HBWf.out.block _ HL8.out)).trans HRX8.out)
            have HCBf := Lib.hid ((World.cell?_of_block (w := Y9) (HBWf.out.block _ HL9.out)).trans HRY9.out)
            have HLAf := Lib.hid (Nat.lt_of_lt_of_le HL8.out HBWf.out.size)
            have HLBf := Lib.hid (Nat.lt_of_lt_of_le HL9.out HBWf.out.size)
            clear n2 fx0 fx1 fx2 fy0 fy1 fy2
            go_wp2_with fail
            refine wp_region_held_drew (S := fun W : World => Below w4.heap.size w4 W) (by kernel_rfl) ((Below.refl _ _).drew) (fun hHeld => ?_)
            refine wpAnyH_take (i := 0) (oi := ⟨some 87, .fieldAddr 75 (.tmp 8) 1, 0, "same.go:58", #[], none⟩) (v := .pointer (some ⟨w3.heap.size, 1, none⟩)) rfl (by kernel_rfl) (by kernel_rfl) (by kernel_rfl) (fun _ _ _ h => h) (Or.inl ⟨by rfl, ?hy1⟩) (by assumption) ?_
            case hy1 => ((intro W hSW; (try dsimp only at hSW); go_simp); (try with_reducible rfl); (try exact ⟨rfl, rfl, rfl⟩))
            simp only [Act.put, sZa, sZb, sZc]
            refine wpAnyH_take (i := 1) (oi := ⟨some 88, .load 73 (.tmp 87), 73, "same.go:58", #[⟨0, .data⟩], none⟩) (v := .slice (some ⟨g1f, o1f, none⟩) fds.length cf) rfl (by kernel_rfl) (by kernel_rfl) (by kernel_rfl) (fun _ _ _ h => h) (Or.inl ⟨by rfl, ?hy2⟩) (by assumption) ?_
            case hy2 => ((intro W hSW; (try dsimp only at hSW); have hcW := (World.cell?_of_block (w := w4) (hSW.block _ HLAf.out)).trans HCAf.out; clear hSW; go_simp); (try with_reducible rfl); (try exact ⟨rfl, rfl, rfl⟩))
            simp only [Act.put, sZa, sZb, sZc]
            refine wpAnyH_take (i := 2) (oi := ⟨some 89, .move (.tmp 10), 3, "same.go:58", #[], none⟩) (v := .int .i64 kf) rfl (by kernel_rfl) (by kernel_rfl) (by kernel_rfl) (fun _ _ _ h => h) (Or.inl ⟨by rfl, ?hy3⟩) (by assumption) ?_
            case hy3 => ((intro W hSW; (try dsimp only at hSW); go_simp); (try with_reducible rfl); (try exact ⟨rfl, rfl, rfl⟩))
            simp only [Act.put, sZa, sZb, sZc]
            refine wpAnyH_take (i := 3) (oi := ⟨some 90, .indexAddr 73 (.tmp 88) (.tmp 89), 0, "same.go:58", #[⟨1, .data⟩, ⟨2, .data⟩], none⟩) (v := .pointer (some ⟨g1f, o1f + kf * 5, none⟩)) rfl (by kernel_rfl) (by kernel_rfl) (by kernel_rfl) (fun _ _ _ h => h) (Or.inl ⟨by rfl, ?hy4⟩) (by assumption) ?_
            case hy4 => ((intro W hSW; (try dsimp only at hSW); go_simp); (try with_reducible rfl); (try exact ⟨rfl, rfl, rfl⟩))
            simp only [Act.put, sZa, sZb, sZc]
            refine wpAnyH_take (i := 4) (oi := ⟨some 91, .load 77 (.tmp 90), 77, "same.go:58", #[⟨3, .data⟩], none⟩) (v := .agg cxf.toArray) rfl (by kernel_rfl) (by kernel_rfl) (by kernel_rfl) (fun _ _ _ h => h) (yieldsIf_load_mid (by rfl) 77 (.tmp 90) rfl g1f (o1f + kf * 5) rfl cxf _ (fun W hW => (fun k u hu => (World.cell?_of_block (w := w4) (hW.block g1f b1f)).trans (HRXf.out k u hu))) Tryz.underlying77 rfl (by rw [HCXf.out]; exact sizeFd)) (by assumption) ?_
            simp only [Act.put, sZa, sZb, sZc]
            refine wpAnyH_take (i := 5) (oi := ⟨some 92, .fieldAddr 75 (.tmp 9) 1, 0, "same.go:58", #[{ on := 12, ground := Go.Ground.gcOnly Go.Departure.lateStores }], none⟩) (v := .pointer (some ⟨(w3.heap.size + 1), 1, none⟩)) rfl (by kernel_rfl) (by kernel_rfl) (by kernel_rfl) (fun _ _ _ h => h) (Or.inl ⟨by rfl, ?hy6⟩) (by assumption) ?_
            case hy6 => ((intro W hSW; (try dsimp only at hSW); go_simp); (try with_reducible rfl); (try exact ⟨rfl, rfl, rfl⟩))
            simp only [Act.put, sZa, sZb, sZc]
            refine wpAnyH_take (i := 6) (oi := ⟨some 93, .load 73 (.tmp 92), 73, "same.go:58", #[⟨5, .data⟩, { on := 12, ground := Go.Ground.gcOnly Go.Departure.lateStores }], none⟩) (v := .slice (some ⟨g2f, o2f, none⟩) fds'.length cf') rfl (by kernel_rfl) (by kernel_rfl) (by kernel_rfl) (fun _ _ _ h => h) (Or.inl ⟨by rfl, ?hy7⟩) (by assumption) ?_
            case hy7 => ((intro W hSW; (try dsimp only at hSW); have hcW := (World.cell?_of_block (w := w4) (hSW.block _ HLBf.out)).trans HCBf.out; clear hSW; go_simp); (try with_reducible rfl); (try exact ⟨rfl, rfl, rfl⟩))
            simp only [Act.put, sZa, sZb, sZc]
            refine wpAnyH_take (i := 7) (oi := ⟨some 94, .move (.tmp 10), 3, "same.go:58", #[{ on := 12, ground := Go.Ground.gcOnly Go.Departure.lateStores }], none⟩) (v := .int .i64 kf) rfl (by kernel_rfl) (by kernel_rfl) (by kernel_rfl) (fun _ _ _ h => h) (Or.inl ⟨by rfl, ?hy8⟩) (by assumption) ?_
            case hy8 => ((intro W hSW; (try dsimp only at hSW); go_simp); (try with_reducible rfl); (try exact ⟨rfl, rfl, rfl⟩))
            simp only [Act.put, sZa, sZb, sZc]
            refine wpAnyH_take (i := 8) (oi := ⟨some 95, .indexAddr 73 (.tmp 93) (.tmp 94), 0, "same.go:58", #[⟨6, .data⟩, ⟨7, .data⟩, { on := 12, ground := Go.Ground.gcOnly Go.Departure.lateStores }], none⟩) (v := .pointer (some ⟨g2f, o2f + kf * 5, none⟩)) rfl (by kernel_rfl) (by kernel_rfl) (by kernel_rfl) (fun _ _ _ h => h) (Or.inl ⟨by rfl, ?hy9⟩) (by assumption) ?_
            case hy9 => ((intro W hSW; (try dsimp only at hSW); go_simp); (try with_reducible rfl); (try exact ⟨rfl, rfl, rfl⟩))
            simp only [Act.put, sZa, sZb, sZc]
            refine wpAnyH_take (i := 9) (oi := ⟨some 96, .load 77 (.tmp 95), 77, "same.go:58", #[⟨8, .data⟩, { on := 12, ground := Go.Ground.gcOnly Go.Departure.lateStores }], none⟩) (v := .agg cyf.toArray) rfl (by kernel_rfl) (by kernel_rfl) (by kernel_rfl) (fun _ _ _ h => h) (yieldsIf_load_mid (by rfl) 77 (.tmp 95) rfl g2f (o2f + kf * 5) rfl cyf _ (fun W hW => (fun k u hu => (World.cell?_of_block (w := w4) (hW.block g2f b2f)).trans (HRYf.out k u hu))) Tryz.underlying77 rfl (by rw [HCYf.out]; exact sizeFd)) (by assumption) ?_
            simp only [Act.put, sZa, sZb, sZc]
            refine wpAnyH_ready (rs := [10, 11]) (by kernel_rfl) (by simp) ?_
            refine (AllReadyH.cons (i := 10) (o := ⟨some 11, .alloc 77, 0, "same.go:58", #[], none⟩) rfl (fun K hK => ?_) (AllReadyH.cons (i := 11) (o := ⟨some 12, .alloc 77, 0, "same.go:58", #[], none⟩) rfl (fun K hK => ?_) AllReadyH.nil))
            ·have HZ11 := Lib.hid (heap_alloc_new w4.drew (.cells fdZ 77))
             go_simp
             refine hK.out _ _ (hHeld.alloc (hHeld.size) _) (fun hHeld => ?_)
             clear hK K
             try simp only [Act.put, sZa, sZb, sZc]
             refine wpAnyH_ready (rs := [11]) (by kernel_rfl) (by simp) ?_
             refine (AllReadyH.cons (i := 11) (o := ⟨some 12, .alloc 77, 0, "same.go:58", #[], none⟩) rfl (fun K hK => ?_) AllReadyH.nil)
             have HZof := Lib.hid (bl1 (w4.drew.alloc (.cells fdZ 77)) (.cells fdZ 77) HZ11.out (by rw [szA]; show w4.heap.size < w4.heap.size + 1; omega))
             have HZ12 := Lib.hid (bn (w4.drew.alloc (.cells fdZ 77)) (.cells fdZ 77) (k := w4.heap.size + 1) (by rw [szA]; rfl))
             go_simp
             refine hK.out _ _ (hHeld.alloc (hHeld.size) _) (fun hHeld => ?_)
             clear hK K
             try simp only [Act.put, sZa, sZb, sZc]
             refine wpAnyH_ready (rs := [12]) (by kernel_rfl) (by simp) ?_
             refine (AllReadyH.cons (i := 12) (o := ⟨none, .store 77 (.tmp 11) (.tmp 91), 0, "same.go:58", #[⟨10, .data⟩, ⟨4, .data⟩, ⟨0, .phase⟩, ⟨1, .phase⟩, ⟨2, .phase⟩, ⟨3, .phase⟩, ⟨4, .phase⟩, { on := 5, ground := Go.Ground.textOnly Go.Departure.lateStores }, { on := 6, ground := Go.Ground.textOnly Go.Departure.lateStores }, { on := 7, ground := Go.Ground.textOnly Go.Departure.lateStores }, { on := 8, ground := Go.Ground.textOnly Go.Departure.lateStores }, { on := 9, ground := Go.Ground.textOnly Go.Departure.lateStores }, ⟨10, .phase⟩, ⟨11, .phase⟩], none⟩) rfl (fun K hK => ?_) AllReadyH.nil)
             rw [if_pos (by rfl)]
             refine wp_stG 77 w4.heap.size cxf.toArray (by rfl) (by rfl) HZof.out (by rw [List.size_toArray, HCXf.out]; exact sizeFd) (by first | (rw [List.size_toArray, List.size_toArray, HCXf.out] <;> rfl) | (rw [List.size_toArray, HCXf.out] <;> rfl)) HOXf.out ?_
             intro Y11 hY11
             have HY11 := Lib.hid hY11
             clear hY11
             have HB11 := Lib.hid HY11.out.at_
             have HZpf := Lib.hid ((HY11.out.oth (w4.heap.size + 1) (by omega)).trans HZ12.out)
             refine hK.out _ _ (HY11.out.below hHeld (by omega)) (fun hHeld => ?_)
             clear hK K
             try simp only [Act.put, sZa, sZb, sZc]
             refine wpAnyH_ready (rs := [13]) (by kernel_rfl) (by simp) ?_
             refine (AllReadyH.cons (i := 13) (o := ⟨none, .store 77 (.tmp 12) (.tmp 96), 0, "same.go:58", #[⟨11, .data⟩, ⟨9, .data⟩, ⟨12, .chain⟩, ⟨0, .phase⟩, ⟨1, .phase⟩, ⟨2, .phase⟩, ⟨3, .phase⟩, ⟨4, .phase⟩, ⟨5, .phase⟩, ⟨6, .phase⟩, ⟨7, .phase⟩, ⟨8, .phase⟩, ⟨9, .phase⟩, ⟨10, .phase⟩, ⟨11, .phase⟩, ⟨12, .phase⟩], none⟩) rfl (fun K hK => ?_) AllReadyH.nil)
             rw [if_pos (by rfl)]
             refine wp_stG 77 (w4.heap.size + 1) cyf.toArray (by rfl) (by rfl) HZpf.out (by rw [List.size_toArray, HCYf.out]; exact sizeFd) (by first | (rw [List.size_toArray, List.size_toArray, HCYf.out] <;> rfl) | (rw [List.size_toArray, HCYf.out] <;> rfl)) HOYf.out ?_
             intro Y12 hY12
             have HY12 := Lib.hid hY12
             clear hY12
             have hb11 := (HY12.out.oth w4.heap.size (by omega)).trans HB11.out
             have hb12 := HY12.out.at_
             refine hK.out _ _ (HY12.out.below hHeld (by omega)) (fun hHeld => ?_)
             clear hK K
             try simp only [Act.put, sZa, sZb, sZc]
             refine wpAnyH_done (by kernel_rfl) ?_ _
             have HBLf := Lib.hid (HBWf.out.trans (hHeld.mono HBWf.out.size))
             obtain rfl : cxf = fdL xf := HEXf.out
             obtain rfl : cyf = fdL yf := HEYf.out
             obtain ⟨nf, ⟨ba, st, rc⟩, af⟩ := xf
             obtain ⟨nf', ⟨ba', st', rc'⟩, ag⟩ := yf
             have gx0 : Y12.cell? ⟨w4.heap.size, 0, none⟩ = some (.string nf) := cell_of_row _ _ _ _ _ _ hb11
             have gx1 : Y12.cell? ⟨w4.heap.size, 1, none⟩ = some (.int .i64 ba) := cell_of_row _ _ _ _ _ _ hb11
             have gx2 : Y12.cell? ⟨w4.heap.size, 2, none⟩ = some (.int .i64 st) := cell_of_row _ _ _ _ _ _ hb11
             have gx3 : Y12.cell? ⟨w4.heap.size, 3, none⟩ = some (.string rc) := cell_of_row _ _ _ _ _ _ hb11
             have gx4 : Y12.cell? ⟨w4.heap.size, 4, none⟩ = some (.int .i64 af) := cell_of_row _ _ _ _ _ _ hb11
             have gy0 : Y12.cell? ⟨(w4.heap.size + 1), 0, none⟩ = some (.string nf') := cell_of_row _ _ _ _ _ _ hb12
             have gy1 : Y12.cell? ⟨(w4.heap.size + 1), 1, none⟩ = some (.int .i64 ba') := cell_of_row _ _ _ _ _ _ hb12
             have gy2 : Y12.cell? ⟨(w4.heap.size + 1), 2, none⟩ = some (.int .i64 st') := cell_of_row _ _ _ _ _ _ hb12
             have gy3 : Y12.cell? ⟨(w4.heap.size + 1), 3, none⟩ = some (.string rc') := cell_of_row _ _ _ _ _ _ hb12
             have gy4 : Y12.cell? ⟨(w4.heap.size + 1), 4, none⟩ = some (.int .i64 ag) := cell_of_row _ _ _ _ _ _ hb12
             clear hb11 hb12 hHeld HEXf HEYf HRXf HRYf HCXf HCYf HOXf HOYf d1f
             by_cases hne : nf = nf'
             case neg =>
              have HNE := Lib.hid (show ¬ EqFd true ⟨nf, ⟨ba, st, rc⟩, af⟩ ⟨nf', ⟨ba', st', rc'⟩, ag⟩ from fun hE => (fun h => hne h.1) (eqFd_iff.1 hE))
              have n1 := strEqF hne
              have n2 := strNeT hne
              clear hne
              clear HBWf HEQf HBW HEQ
              go_wp2
              go_ret
              exact ⟨by rw [sameB_false (fun h => EqL.no HX.out HY2.out (fun hS => EqL.no HXf.out HYf2.out HNE.out hS.fds) h.ss)] <;> rfl, HBv.out.trans ((HBL.out.trans (HBLf.out.mono HBL.out.size)).mono HBv.out.size)⟩
             case pos =>
              subst hne
              by_cases hne : ba = ba'
              case neg =>
               have HNE := Lib.hid (show ¬ EqFd true ⟨nf, ⟨ba, st, rc⟩, af⟩ ⟨nf, ⟨ba', st', rc'⟩, ag⟩ from fun hE => (fun h => hne h.2.1) (eqFd_iff.1 hE))
               have n1 : (ba == ba') = false := beq_eq_false_iff_ne.mpr hne
               have n2 : (ba != ba') = true := bne_iff_ne.mpr hne
               clear hne
               clear HBWf HEQf HBW HEQ
               go_wp2
               go_ret
               exact ⟨by rw [sameB_false (fun h => EqL.no HX.out HY2.out (fun hS => EqL.no HXf.out HYf2.out HNE.out hS.fds) h.ss)] <;> rfl, HBv.out.trans ((HBL.out.trans (HBLf.out.mono HBL.out.size)).mono HBv.out.size)⟩
              case pos =>
               subst hne
               by_cases hne : st = st'
               case neg =>
                have HNE := Lib.hid (show ¬ EqFd true ⟨nf, ⟨ba, st, rc⟩, af⟩ ⟨nf, ⟨ba, st', rc'⟩, ag⟩ from fun hE => (fun h => hne h.2.2.1) (eqFd_iff.1 hE))
                have n1 : (st == st') = false := beq_eq_false_iff_ne.mpr hne
                have n2 : (st != st') = true := bne_iff_ne.mpr hne
                clear hne
                clear HBWf HEQf HBW HEQ
                go_wp2
                go_ret
                exact ⟨by rw [sameB_false (fun h => EqL.no HX.out HY2.out (fun hS => EqL.no HXf.out HYf2.out HNE.out hS.fds) h.ss)] <;> rfl, HBv.out.trans ((HBL.out.trans (HBLf.out.mono HBL.out.size)).mono HBv.out.size)⟩
               case pos =>
                subst hne
                by_cases hne : rc = rc'
                case neg =>
                 have HNE := Lib.hid (show ¬ EqFd true ⟨nf, ⟨ba, st, rc⟩, af⟩ ⟨nf, ⟨ba, st, rc'⟩, ag⟩ from fun hE => (fun h => hne h.2.2.2.1) (eqFd_iff.1 hE))
                 have n1 := strEqF hne
                 have n2 := strNeT hne
                 clear hne
                 clear HBWf HEQf HBW HEQ
                 go_wp2
                 go_ret
                 exact ⟨by rw [sameB_false (fun h => EqL.no HX.out HY2.out (fun hS => EqL.no HXf.out HYf2.out HNE.out hS.fds) h.ss)] <;> rfl, HBv.out.trans ((HBL.out.trans (HBLf.out.mono HBL.out.size)).mono HBv.out.size)⟩
                case pos =>
                 subst hne
                 by_cases hne : af = ag
                 case neg =>
                  have HNE := Lib.hid (show ¬ EqFd true ⟨nf, ⟨ba, st, rc⟩, af⟩ ⟨nf, ⟨ba, st, rc⟩, ag⟩ from fun hE => (fun h => hne (h.2.2.2.2 rfl)) (eqFd_iff.1 hE))
                  have n1 : ((af : Int) == (ag : Int)) = false := beq_eq_false_iff_ne.mpr (by omega)
                  have n2 : ((af : Int) != (ag : Int)) = true := bne_iff_ne.mpr (by omega)
                  clear hne
                  clear HBWf HEQf HBW HEQ
                  go_wp2
                  go_ret
                  exact ⟨by rw [sameB_false (fun h => EqL.no HX.out HY2.out (fun hS => EqL.no HXf.out HYf2.out HNE.out hS.fds) h.ss)] <;> rfl, HBv.out.trans ((HBL.out.trans (HBLf.out.mono HBL.out.size)).mono HBv.out.size)⟩
                 case pos =>
                  subst hne
                  have HOKf := Lib.hid (show EqFd true ⟨nf, ⟨ba, st, rc⟩, af⟩ ⟨nf, ⟨ba, st, rc⟩, af⟩ from eqFd_iff.2 ⟨rfl, rfl, rfl, rfl, fun _ => rfl⟩)
                  go_wp2
                  try simp only [Act.put]
                  go_roundw
                  case rel =>
                   refine ⟨kf + 1, by omega, by rw [HQ3f.out] <;> go_num, Lib.hid (HBLf.out), Lib.hid (fun i hi => ?_)⟩
                   by_cases hij : i = kf
                   ·rw [hij, getD_of HXf.out, getD_of HYf2.out]; exact HOKf.out
                   ·exact HEQf.out i (by omega)
                  case measure => rw [HQ3f.out]; simp [intOf]; omega
            ·have HZ12 := Lib.hid (heap_alloc_new w4.drew (.cells fdZ 77))
             go_simp
             refine hK.out _ _ (hHeld.alloc (hHeld.size) _) (fun hHeld => ?_)
             clear hK K
             try simp only [Act.put, sZa, sZb, sZc]
             refine wpAnyH_ready (rs := [10]) (by kernel_rfl) (by simp) ?_
             refine (AllReadyH.cons (i := 10) (o := ⟨some 11, .alloc 77, 0, "same.go:58", #[], none⟩) rfl (fun K hK => ?_) AllReadyH.nil)
             have HZof := Lib.hid (bl1 (w4.drew.alloc (.cells fdZ 77)) (.cells fdZ 77) HZ12.out (by rw [szA]; show w4.heap.size < w4.heap.size + 1; omega))
             have HZ11 := Lib.hid (bn (w4.drew.alloc (.cells fdZ 77)) (.cells fdZ 77) (k := w4.heap.size + 1) (by rw [szA]; rfl))
             go_simp
             refine hK.out _ _ (hHeld.alloc (hHeld.size) _) (fun hHeld => ?_)
             clear hK K
             try simp only [Act.put, sZa, sZb, sZc]
             refine wpAnyH_ready (rs := [12]) (by kernel_rfl) (by simp) ?_
             refine (AllReadyH.cons (i := 12) (o := ⟨none, .store 77 (.tmp 11) (.tmp 91), 0, "same.go:58", #[⟨10, .data⟩, ⟨4, .data⟩, ⟨0, .phase⟩, ⟨1, .phase⟩, ⟨2, .phase⟩, ⟨3, .phase⟩, ⟨4, .phase⟩, { on := 5, ground := Go.Ground.textOnly Go.Departure.lateStores }, { on := 6, ground := Go.Ground.textOnly Go.Departure.lateStores }, { on := 7, ground := Go.Ground.textOnly Go.Departure.lateStores }, { on := 8, ground := Go.Ground.textOnly Go.Departure.lateStores }, { on := 9, ground := Go.Ground.textOnly Go.Departure.lateStores }, ⟨10, .phase⟩, ⟨11, .phase⟩], none⟩) rfl (fun K hK => ?_) AllReadyH.nil)
             rw [if_pos (by rfl)]
             refine wp_stG 77 (w4.heap.size + 1) cxf.toArray (by rfl) (by rfl) HZ11.out (by rw [List.size_toArray, HCXf.out]; exact sizeFd) (by first | (rw [List.size_toArray, List.size_toArray, HCXf.out] <;> rfl) | (rw [List.size_toArray, HCXf.out] <;> rfl)) HOXf.out ?_
             intro Y11 hY11
             have HY11 := Lib.hid hY11
             clear hY11
             have HB11 := Lib.hid HY11.out.at_
             have HZpf := Lib.hid ((HY11.out.oth w4.heap.size (by omega)).trans HZof.out)
             refine hK.out _ _ (HY11.out.below hHeld (by omega)) (fun hHeld => ?_)
             clear hK K
             try simp only [Act.put, sZa, sZb, sZc]
             refine wpAnyH_ready (rs := [13]) (by kernel_rfl) (by simp) ?_
             refine (AllReadyH.cons (i := 13) (o := ⟨none, .store 77 (.tmp 12) (.tmp 96), 0, "same.go:58", #[⟨11, .data⟩, ⟨9, .data⟩, ⟨12, .chain⟩, ⟨0, .phase⟩, ⟨1, .phase⟩, ⟨2, .phase⟩, ⟨3, .phase⟩, ⟨4, .phase⟩, ⟨5, .phase⟩, ⟨6, .phase⟩, ⟨7, .phase⟩, ⟨8, .phase⟩, ⟨9, .phase⟩, ⟨10, .phase⟩, ⟨11, .phase⟩, ⟨12, .phase⟩], none⟩) rfl (fun K hK => ?_) AllReadyH.nil)
             rw [if_pos (by rfl)]
             refine wp_stG 77 w4.heap.size cyf.toArray (by rfl) (by rfl) HZpf.out (by rw [List.size_toArray, HCYf.out]; exact sizeFd) (by first | (rw [List.size_toArray, List.size_toArray, HCYf.out] <;> rfl) | (rw [List.size_toArray, HCYf.out] <;> rfl)) HOYf.out ?_
             intro Y12 hY12
             have HY12 := Lib.hid hY12
             clear hY12
             have hb11 := (HY12.out.oth (w4.heap.size + 1) (by omega)).trans HB11.out
             have hb12 := HY12.out.at_
             refine hK.out _ _ (HY12.out.below hHeld (by omega)) (fun hHeld => ?_)
             clear hK K
             try simp only [Act.put, sZa, sZb, sZc]
             refine wpAnyH_done (by kernel_rfl) ?_ _
             have HBLf := Lib.hid (HBWf.out.trans (hHeld.mono HBWf.out.size))
             obtain rfl : cxf = fdL xf := HEXf.out
             obtain rfl : cyf = fdL yf := HEYf.out
             obtain ⟨nf, ⟨ba, st, rc⟩, af⟩ := xf
             obtain ⟨nf', ⟨ba', st', rc'⟩, ag⟩ := yf
             have gx0 : Y12.cell? ⟨(w4.heap.size + 1), 0, none⟩ = some (.string nf) := cell_of_row _ _ _ _ _ _ hb11
             have gx1 : Y12.cell? ⟨(w4.heap.size + 1), 1, none⟩ = some (.int .i64 ba) := cell_of_row _ _ _ _ _ _ hb11
             have gx2 : Y12.cell? ⟨(w4.heap.size + 1), 2, none⟩ = some (.int .i64 st) := cell_of_row _ _ _ _ _ _ hb11
             have gx3 : Y12.cell? ⟨(w4.heap.size + 1), 3, none⟩ = some (.string rc) := cell_of_row _ _ _ _ _ _ hb11
             have gx4 : Y12.cell? ⟨(w4.heap.size + 1), 4, none⟩ = some (.int .i64 af) := cell_of_row _ _ _ _ _ _ hb11
             have gy0 : Y12.cell? ⟨w4.heap.size, 0, none⟩ = some (.string nf') := cell_of_row _ _ _ _ _ _ hb12
             have gy1 : Y12.cell? ⟨w4.heap.size, 1, none⟩ = some (.int .i64 ba') := cell_of_row _ _ _ _ _ _ hb12
             have gy2 : Y12.cell? ⟨w4.heap.size, 2, none⟩ = some (.int .i64 st') := cell_of_row _ _ _ _ _ _ hb12
             have gy3 : Y12.cell? ⟨w4.heap.size, 3, none⟩ = some (.string rc') := cell_of_row _ _ _ _ _ _ hb12
             have gy4 : Y12.cell? ⟨w4.heap.size, 4, none⟩ = some (.int .i64 ag) := cell_of_row _ _ _ _ _ _ hb12
             clear hb11 hb12 hHeld HEXf HEYf HRXf HRYf HCXf HCYf HOXf HOYf d1f
             by_cases hne : nf = nf'
             case neg =>
              have HNE := Lib.hid (show ¬ EqFd true ⟨nf, ⟨ba, st, rc⟩, af⟩ ⟨nf', ⟨ba', st', rc'⟩, ag⟩ from fun hE => (fun h => hne h.1) (eqFd_iff.1 hE))
              have n1 := strEqF hne
              have n2 := strNeT hne
              clear hne
              clear HBWf HEQf HBW HEQ
              go_wp2
              go_ret
              exact ⟨by rw [sameB_false (fun h => EqL.no HX.out HY2.out (fun hS => EqL.no HXf.out HYf2.out HNE.out hS.fds) h.ss)] <;> rfl, HBv.out.trans ((HBL.out.trans (HBLf.out.mono HBL.out.size)).mono HBv.out.size)⟩
             case pos =>
              subst hne
              by_cases hne : ba = ba'
              case neg =>
               have HNE := Lib.hid (show ¬ EqFd true ⟨nf, ⟨ba, st, rc⟩, af⟩ ⟨nf, ⟨ba', st', rc'⟩, ag⟩ from fun hE => (fun h => hne h.2.1) (eqFd_iff.1 hE))
               have n1 : (ba == ba') = false := beq_eq_false_iff_ne.mpr hne
               have n2 : (ba != ba') = true := bne_iff_ne.mpr hne
               clear hne
               clear HBWf HEQf HBW HEQ
               go_wp2
               go_ret
               exact ⟨by rw [sameB_false (fun h => EqL.no HX.out HY2.out (fun hS => EqL.no HXf.out HYf2.out HNE.out hS.fds) h.ss)] <;> rfl, HBv.out.trans ((HBL.out.trans (HBLf.out.mono HBL.out.size)).mono HBv.out.size)⟩
              case pos =>
               subst hne
               by_cases hne : st = st'
               case neg =>
                have HNE := Lib.hid (show ¬ EqFd true ⟨nf, ⟨ba, st, rc⟩, af⟩ ⟨nf, ⟨ba, st', rc'⟩, ag⟩ from fun hE => (fun h => hne h.2.2.1) (eqFd_iff.1 hE))
                have n1 : (st == st') = false := beq_eq_false_iff_ne.mpr hne
                have n2 : (st != st') = true := bne_iff_ne.mpr hne
                clear hne
                clear HBWf HEQf HBW HEQ
                go_wp2
                go_ret
                exact ⟨by rw [sameB_false (fun h => EqL.no HX.out HY2.out (fun hS => EqL.no HXf.out HYf2.out HNE.out hS.fds) h.ss)] <;> rfl, HBv.out.trans ((HBL.out.trans (HBLf.out.mono HBL.out.size)).mono HBv.out.size)⟩
               case pos =>
                subst hne
                by_cases hne : rc = rc'
                case neg =>
                 have HNE := Lib.hid (show ¬ EqFd true ⟨nf, ⟨ba, st, rc⟩, af⟩ ⟨nf, ⟨ba, st, rc'⟩, ag⟩ from fun hE => (fun h => hne h.2.2.2.1) (eqFd_iff.1 hE))
                 have n1 := strEqF hne
                 have n2 := strNeT hne
                 clear hne
                 clear HBWf HEQf HBW HEQ
                 go_wp2
                 go_ret
                 exact ⟨by rw [sameB_false (fun h => EqL.no HX.out HY2.out (fun hS => EqL.no HXf.out HYf2.out HNE.out hS.fds) h.ss)] <;> rfl, HBv.out.trans ((HBL.out.trans (HBLf.out.mono HBL.out.size)).mono HBv.out.size)⟩
                case pos =>
                 subst hne
                 by_cases hne : af = ag
                 case neg =>
                  have HNE := Lib.hid (show ¬ EqFd true ⟨nf, ⟨ba, st, rc⟩, af⟩ ⟨nf, ⟨ba, st, rc⟩, ag⟩ from fun hE => (fun h => hne (h.2.2.2.2 rfl)) (eqFd_iff.1 hE))
                  have n1 : ((af : Int) == (ag : Int)) = false := beq_eq_false_iff_ne.mpr (by omega)
                  have n2 : ((af : Int) != (ag : Int)) = true := bne_iff_ne.mpr (by omega)
                  clear hne
                  clear HBWf HEQf HBW HEQ
                  go_wp2
                  go_ret
                  exact ⟨by rw [sameB_false (fun h => EqL.no HX.out HY2.out (fun hS => EqL.no HXf.out HYf2.out HNE.out hS.fds) h.ss)] <;> rfl, HBv.out.trans ((HBL.out.trans (HBLf.out.mono HBL.out.size)).mono HBv.out.size)⟩
                 case pos =>
                  subst hne
                  have HOKf := Lib.hid (show EqFd true ⟨nf, ⟨ba, st, rc⟩, af⟩ ⟨nf, ⟨ba, st, rc⟩, af⟩ from eqFd_iff.2 ⟨rfl, rfl, rfl, rfl, fun _ => rfl⟩)
                  go_wp2
                  try simp only [Act.put]
                  go_roundw
                  case rel =>
                   refine ⟨kf + 1, by omega, by rw [HQ3f.out] <;> go_num, Lib.hid (HBLf.out), Lib.hid (fun i hi => ?_)⟩
                   by_cases hij : i = kf
                   ·rw [hij, getD_of HXf.out, getD_of HYf2.out]; exact HOKf.out
                   ·exact HEQf.out i (by omega)
                  case measure => rw [HQ3f.out]; simp [intOf]; omega
           case neg =>
            have d1f : decide ((kf : Int) < (fds.length : Int)) = false := decide_eq_false (by omega)
            have HOK := Lib.hid (show EqSr true ⟨nm, fds, ax⟩ ⟨nm, fds', ax⟩ from ⟨rfl, fun _ => rfl, HLENf.out, fun i hi => HEQf.out i (by have hi2 : i < fds.length := hi; omega)⟩)
            go_wp2
            try simp only [Act.put]
            go_roundw
            case rel =>
             refine ⟨j + 1, by omega, by rw [HQ3.out] <;> go_num, Lib.hid (HBL.out.trans (HBWf.out.mono HBL.out.size)), Lib.hid (fun i hi => ?_)⟩
             by_cases hij : i = j
             ·rw [hij, getD_of HX.out, getD_of HY2.out]; exact HOK.out
             ·exact HEQ.out i (by omega)
            case measure => rw [HQ3.out]; simp [intOf]; omega
      ·have HZ9 := Lib.hid (heap_alloc_new w3.drew (.cells srZ 75))
       go_simp
       refine hK.out _ _ (hHeld.alloc (hHeld.size) _) (fun hHeld => ?_)
       clear hK K
       try simp only [Act.put, sZa, sZb, sZc]
       refine wpAnyH_ready (rs := [10]) (by kernel_rfl) (by simp) ?_
       refine (AllReadyH.cons (i := 10) (o := ⟨some 8, .alloc 75, 0, "same.go:53", #[], none⟩) rfl (fun K hK => ?_) AllReadyH.nil)
       have HZo := Lib.hid (bl1 (w3.drew.alloc (.cells srZ 75)) (.cells srZ 75) HZ9.out (by rw [szA]; show w3.heap.size < w3.heap.size + 1; omega))
       have HZ8 := Lib.hid (bn (w3.drew.alloc (.cells srZ 75)) (.cells srZ 75) (k := w3.heap.size + 1) (by rw [szA]; rfl))
       go_simp
       refine hK.out _ _ (hHeld.alloc (hHeld.size) _) (fun hHeld => ?_)
       clear hK K
       try simp only [Act.put, sZa, sZb, sZc]
       refine wpAnyH_ready (rs := [12]) (by kernel_rfl) (by simp) ?_
       refine (AllReadyH.cons (i := 12) (o := ⟨none, .store 75 (.tmp 8) (.tmp 51), 0, "same.go:53", #[⟨10, .data⟩, ⟨4, .data⟩, ⟨0, .phase⟩, ⟨1, .phase⟩, ⟨2, .phase⟩, ⟨3, .phase⟩, ⟨4, .phase⟩, { on := 5, ground := Go.Ground.textOnly Go.Departure.lateStores }, { on := 6, ground := Go.Ground.textOnly Go.Departure.lateStores }, { on := 7, ground := Go.Ground.textOnly Go.Departure.lateStores }, { on := 8, ground := Go.Ground.textOnly Go.Departure.lateStores }, { on := 9, ground := Go.Ground.textOnly Go.Departure.lateStores }, ⟨10, .phase⟩, ⟨11, .phase⟩], none⟩) rfl (fun K hK => ?_) AllReadyH.nil)
       rw [if_pos (by rfl)]
       refine wp_stG 75 (w3.heap.size + 1) cx.toArray (by rfl) (by rfl) HZ8.out (by rw [List.size_toArray, HCX.out]; exact sizeSr) (by first | (rw [List.size_toArray, List.size_toArray, HCX.out] <;> rfl) | (rw [List.size_toArray, HCX.out] <;> rfl)) HOX.out ?_
       intro Y8 hY8
       have HY8 := Lib.hid hY8
       clear hY8
       have HB8 := Lib.hid HY8.out.at_
       have HZp := Lib.hid ((HY8.out.oth w3.heap.size (by omega)).trans HZo.out)
       refine hK.out _ _ (HY8.out.below hHeld (by omega)) (fun hHeld => ?_)
       clear hK K
       try simp only [Act.put, sZa, sZb, sZc]
       refine wpAnyH_ready (rs := [13]) (by kernel_rfl) (by simp) ?_
       refine (AllReadyH.cons (i := 13) (o := ⟨none, .store 75 (.tmp 9) (.tmp 56), 0, "same.go:53", #[⟨11, .data⟩, ⟨9, .data⟩, ⟨12, .chain⟩, ⟨0, .phase⟩, ⟨1, .phase⟩, ⟨2, .phase⟩, ⟨3, .phase⟩, ⟨4, .phase⟩, ⟨5, .phase⟩, ⟨6, .phase⟩, ⟨7, .phase⟩, ⟨8, .phase⟩, ⟨9, .phase⟩, ⟨10, .phase⟩, ⟨11, .phase⟩, ⟨12, .phase⟩], none⟩) rfl (fun K hK => ?_) AllReadyH.nil)
       rw [if_pos (by rfl)]
       refine wp_stG 75 w3.heap.size cy.toArray (by rfl) (by rfl) HZp.out (by rw [List.size_toArray, HCY.out]; exact sizeSr) (by first | (rw [List.size_toArray, List.size_toArray, HCY.out] <;> rfl) | (rw [List.size_toArray, HCY.out] <;> rfl)) HOY.out ?_
       intro Y9 hY9
       have HY9 := Lib.hid hY9
       clear hY9
       have hb8 := (HY9.out.oth (w3.heap.size + 1) (by omega)).trans HB8.out
       have hb9 := HY9.out.at_
       refine hK.out _ _ (HY9.out.below hHeld (by omega)) (fun hHeld => ?_)
       clear hK K
       try simp only [Act.put, sZa, sZb, sZc]
       refine wpAnyH_done (by kernel_rfl) ?_ _
       have HBL := Lib.hid (HBW.out.trans (hHeld.mono HBW.out.size))
       obtain ⟨vf1, hf1, hc1⟩ := srE.keep HEX.out (w' := Y9) (S' := S1) (fun g hg hl => ⟨hg, hHeld.block g hl⟩) hHeld.size
       obtain ⟨vf2, hf2, hc2⟩ := srE.keep HEY.out (w' := Y9) (S' := S2) (fun g hg hl => ⟨hg, hHeld.block g hl⟩) hHeld.size
       obtain ⟨Af, cf, rfl⟩ := hf1.slice
       obtain ⟨Af', cf', rfl⟩ := hf2.slice
       obtain ⟨nm, fds, ax⟩ := x
       obtain ⟨nm', fds', ay⟩ := y
       subst hc1 hc2
       have HF1 := Lib.hid (show LAt fdE Y9 S1 fds (.slice Af fds.length cf) from hf1)
       have HF2 := Lib.hid (show LAt fdE Y9 S2 fds' (.slice Af' fds'.length cf') from hf2)
       have fx0 : Y9.cell? ⟨(w3.heap.size + 1), 0, none⟩ = some (.string nm) := cell_of_row _ _ _ _ _ _ hb8
       have fx1 : Y9.cell? ⟨(w3.heap.size + 1), 1, none⟩ = some (.slice Af fds.length cf) := cell_of_row _ _ _ _ _ _ hb8
       have fx2 : Y9.cell? ⟨(w3.heap.size + 1), 2, none⟩ = some (.int .i64 ax) := cell_of_row _ _ _ _ _ _ hb8
       have fy0 : Y9.cell? ⟨w3.heap.size, 0, none⟩ = some (.string nm') := cell_of_row _ _ _ _ _ _ hb9
       have fy1 : Y9.cell? ⟨w3.heap.size, 1, none⟩ = some (.slice Af' fds'.length cf') := cell_of_row _ _ _ _ _ _ hb9
       have fy2 : Y9.cell? ⟨w3.heap.size, 2, none⟩ = some (.int .i64 ay) := cell_of_row _ _ _ _ _ _ hb9
       have HRX8 := Lib.hid fx1
       have HRY9 := Lib.hid fy1
       have HL8 := Lib.hid (Array.getElem?_eq_some_iff.1 hb8).1
       have HL9 := Lib.hid (Array.getElem?_eq_some_iff.1 hb9).1
       clear hf1 hf2 hb8 hb9 hHeld HEX HEY HRX HRY HCX HCY HOX HOY d1
       by_cases hne : nm = nm'
       case neg =>
        have HNE := Lib.hid (show ¬ EqSr true ⟨nm, fds, ax⟩ ⟨nm', fds', ay⟩ from fun hE => hne hE.nm)
        have n1 := strEqF hne
        have n2 := strNeT hne
        clear hne
        clear HBW HEQ
        go_wp2
        go_ret
        exact ⟨by rw [sameB_false (fun h => EqL.no HX.out HY2.out HNE.out h.ss)] <;> rfl, HBv.out.trans (HBL.out.mono HBv.out.size)⟩
       case pos =>
        subst hne
        by_cases hne : ax = ay
        case neg =>
         have HNE := Lib.hid (show ¬ EqSr true ⟨nm, fds, ax⟩ ⟨nm, fds', ay⟩ from fun hE => hne (hE.pa rfl))
         have n1 : ((ax : Int) == (ay : Int)) = false := beq_eq_false_iff_ne.mpr (by omega)
         have n2 : ((ax : Int) != (ay : Int)) = true := bne_iff_ne.mpr (by omega)
         clear hne
         clear HBW HEQ
         go_wp2
         go_ret
         exact ⟨by rw [sameB_false (fun h => EqL.no HX.out HY2.out HNE.out h.ss)] <;> rfl, HBv.out.trans (HBL.out.mono HBv.out.size)⟩
        case pos =>
         subst hne
         by_cases hfl : fds.length = fds'.length
         case neg =>
          have HNE := Lib.hid (show ¬ EqSr true ⟨nm, fds, ax⟩ ⟨nm, fds', ax⟩ from fun hE => hfl hE.fds.1)
          have n2 : ((fds.length : Int) != (fds'.length : Int)) = true := by simp; omega
          clear hfl
          clear HBW HEQ
          go_wp2
          go_ret
          exact ⟨by rw [sameB_false (fun h => EqL.no HX.out HY2.out HNE.out h.ss)] <;> rfl, HBv.out.trans (HBL.out.mono HBv.out.size)⟩
         case pos =>
          have HLENf := Lib.hid hfl
          have n2 : ((fds.length : Int) != (fds'.length : Int)) = false := by rw [hfl]; simp
          clear hfl
          go_wp2
          go_loopw [84] (fun vi wr => ∃ kf : Nat, kf ≤ fds.length ∧ vi = .int .i64 kf ∧ Hid (Below Y9.heap.size Y9 wr) ∧ Hid (∀ i, i < kf → EqFd true (fds.getD i fd0) (fds'.getD i fd0))) (fun vi _ => fds.length - (intOf vi).toNat)
          case atStart => exact ⟨0, by omega, rfl, Lib.hid (Below.refl _ _), Lib.hid (fun i hi => by omega)⟩
          case round =>
           obtain ⟨kf, hkf, rfl, HBWf, HEQf⟩ := hrel
           obtain ⟨w4, hw4⟩ : ∃ w4, w4 = wr := ⟨_, rfl⟩
           subst hw4
           by_cases hltf : kf < fds.length
           case pos =>
            have d1f : decide ((kf : Int) < (fds.length : Int)) = true := decide_eq_true (by omega)
            have hltf2 : kf < fds'.length := by rw [← HLENf.out]; exact hltf
            have hx : fds[kf]? = some (fds[kf]'hltf) := List.getElem?_eq_getElem hltf
            have hy : fds'[kf]? = some (fds'[kf]'hltf2) := List.getElem?_eq_getElem hltf2
            have hK1 := HF1.out.keep (w' := w4) (S' := S1) (fun g hg hl => ⟨hg, HBWf.out.block g hl⟩) HBWf.out.size
            have hK2 := HF2.out.keep (w' := w4) (S' := S2) (fun g hg hl => ⟨hg, HBWf.out.block g hl⟩) HBWf.out.size
            obtain ⟨g1f, o1f, cp1, cxf, e1, p1, m1, _, b1f, hX, r1⟩ := hK1.get kf hx
            obtain ⟨g2f, o2f, cp2, cyf, e2, p2, m2, _, b2f, hY', r2⟩ := hK2.get kf hy
            injection e1 with e1 _ e1'
            injection e2 with e2 _ e2'
            generalize hxx : fds[kf]'hltf = xf at *
            generalize hyy : fds'[kf]'hltf2 = yf at *
            have HXf := Lib.hid hx
            have HYf2 := Lib.hid hy
            have HCXf := Lib.hid (fdE.len hX)
            have HCYf := Lib.hid (fdE.len hY')
            have HOXf := Lib.hid (elem_one hX)
            have HOYf := Lib.hid (elem_one hY')
            have HEXf := Lib.hid hX
            have HEYf := Lib.hid hY'
            have RX : w4.rangeAt g1f (o1f + kf * 5) cxf := fun k u hu => by have := r1 k u hu; rw [show o1f + (kf * fdE.z + k) = o1f + kf * 5 + k from by show o1f + (kf * 5 + k) = _; omega] at this; exact this
            have RY : w4.rangeAt g2f (o2f + kf * 5) cyf := fun k u hu => by have := r2 k u hu; rw [show o2f + (kf * fdE.z + k) = o2f + kf * 5 + k from by show o2f + (kf * 5 + k) = _; omega] at this; exact this
            have HRXf := Lib.hid RX
            have HRYf := Lib.hid RY
            subst e1 e2 e1' e2'
            clear hX hY' r1 r2 hK1 hK2 RX RY hxx hyy hx hy
            have q1f : (kf : Int) < (fds.length : Int) := by omega
            have q2f : (kf : Int) < (fds'.length : Int) := by omega
            have q0f : (0 : Int) ≤ (kf : Int) := by omega
            have HQ3f : Hid (wrap64 ((kf : Int) + 1) = (kf : Int) + 1) := Lib.hid (by unfold maxLen at m1 m2; unfold wrap64; omega)
            clear p1 m1 p2 m2
            have HCAf := Lib.hid ((World.cell?_of_block (w := Y9) (HBWf.out.block _ HL8.out)).trans HRX8.out)
            have HCBf := Lib.hid ((World.cell?_of_block (w := Y9) (HBWf.out.block _ HL9.out)).trans HRY9.out)
            have HLAf := Lib.hid (Nat.lt_of_lt_of_le HL8.out HBWf.out.size)
            have HLBf := Lib.hid (Nat.lt_of_lt_of_le HL9.out HBWf.out.size)
            clear n2 fx0 fx1 fx2 fy0 fy1 fy2
            go_wp2_with fail
            refine wp_region_held_drew (S := fun W : World => Below w4.heap.size w4 W) (by kernel_rfl) ((Below.refl _ _).drew) (fun hHeld => ?_)
            refine wpAnyH_take (i := 0) (oi := ⟨some 87, .fieldAddr 75 (.tmp 8) 1, 0, "same.go:58", #[], none⟩) (v := .pointer (some ⟨(w3.heap.size + 1), 1, none⟩)) rfl (by kernel_rfl) (by kernel_rfl) (by kernel_rfl) (fun _ _ _ h => h) (Or.inl ⟨by rfl, ?hy11⟩) (by assumption) ?_
            case hy11 => ((intro W hSW; (try dsimp only at hSW); go_simp); (try with_reducible rfl); (try exact ⟨rfl, rfl, rfl⟩))
            simp only [Act.put, sZa, sZb, sZc]
            refine wpAnyH_take (i := 1) (oi := ⟨some 88, .load 73 (.tmp 87), 73, "same.go:58", #[⟨0, .data⟩], none⟩) (v := .slice (some ⟨g1f, o1f, none⟩) fds.length cf) rfl (by kernel_rfl) (by kernel_rfl) (by kernel_rfl) (fun _ _ _ h => h) (Or.inl ⟨by rfl, ?hy12⟩) (by assumption) ?_
            case hy12 => ((intro W hSW; (try dsimp only at hSW); have hcW := (World.cell?_of_block (w := w4) (hSW.block _ HLAf.out)).trans HCAf.out; clear hSW; go_simp); (try with_reducible rfl); (try exact ⟨rfl, rfl, rfl⟩))
            simp only [Act.put, sZa, sZb, sZc]
            refine wpAnyH_take (i := 2) (oi := ⟨some 89, .move (.tmp 10), 3, "same.go:58", #[], none⟩) (v := .int .i64 kf) rfl (by kernel_rfl) (by kernel_rfl) (by kernel_rfl) (fun _ _ _ h => h) (Or.inl ⟨by rfl, ?hy13⟩) (by assumption) ?_
            case hy13 => ((intro W hSW; (try dsimp only at hSW); go_simp); (try with_reducible rfl); (try exact ⟨rfl, rfl, rfl⟩))
            simp only [Act.put, sZa, sZb, sZc]
            refine wpAnyH_take (i := 3) (oi := ⟨some 90, .indexAddr 73 (.tmp 88) (.tmp 89), 0, "same.go:58", #[⟨1, .data⟩, ⟨2, .data⟩], none⟩) (v := .pointer (some ⟨g1f, o1f + kf * 5, none⟩)) rfl (by kernel_rfl) (by kernel_rfl) (by kernel_rfl) (fun _ _ _ h => h) (Or.inl ⟨by rfl, ?hy14⟩) (by assumption) ?_
            case hy14 => ((intro W hSW; (try dsimp only at hSW); go_simp); (try with_reducible rfl); (try exact ⟨rfl, rfl, rfl⟩))
            simp only [Act.put, sZa, sZb, sZc]
            refine wpAnyH_take (i := 4) (oi := ⟨some 91, .load 77 (.tmp 90), 77, "same.go:58", #[⟨3, .data⟩], none⟩) (v := .agg cxf.toArray) rfl (by kernel_rfl) (by kernel_rfl) (by kernel_rfl) (fun _ _ _ h => h) (yieldsIf_load_mid (by rfl) 77 (.tmp 90) rfl g1f (o1f + kf * 5) rfl cxf _ (fun W hW => (fun k u hu => (World.cell?_of_block (w := w4) (hW.block g1f b1f)).trans (HRXf.out k u hu))) Tryz.underlying77 rfl (by rw [HCXf.out]; exact sizeFd)) (by assumption) ?_
            simp only [Act.put, sZa, sZb, sZc]
            refine wpAnyH_take (i := 5) (oi := ⟨some 92, .fieldAddr 75 (.tmp 9) 1, 0, "same.go:58", #[{ on := 12, ground := Go.Ground.gcOnly Go.Departure.lateStores }], none⟩) (v := .pointer (some ⟨w3.heap.size, 1, none⟩)) rfl (by kernel_rfl) (by kernel_rfl) (by kernel_rfl) (fun _ _ _ h => h) (Or.inl ⟨by rfl, ?hy16⟩) (by assumption) ?_
            case hy16 => ((intro W hSW; (try dsimp only at hSW); go_simp); (try with_reducible rfl); (try exact ⟨rfl, rfl, rfl⟩))
            simp only [Act.put, sZa, sZb, sZc]
            refine wpAnyH_take (i := 6) (oi := ⟨some 93, .load 73 (.tmp 92), 73, "same.go:58", #[⟨5, .data⟩, { on := 12, ground := Go.Ground.gcOnly Go.Departure.lateStores }], none⟩) (v := .slice (some ⟨g2f, o2f, none⟩) fds'.length cf') rfl (by kernel_rfl) (by kernel_rfl) (by kernel_rfl) (fun _ _ _ h => h) (Or.inl ⟨by rfl, ?hy17⟩) (by assumption) ?_
            case hy17 => ((intro W hSW; (try dsimp only at hSW); have hcW := (World.cell?_of_block (w := w4) (hSW.block _ HLBf.out)).trans HCBf.out; clear hSW; go_simp); (try with_reducible rfl); (try exact ⟨rfl, rfl, rfl⟩))
            simp only [Act.put, sZa, sZb, sZc]
            refine wpAnyH_take (i := 7) (oi := ⟨some 94, .move (.tmp 10), 3, "same.go:58", #[{ on := 12, ground := Go.Ground.gcOnly Go.Departure.lateStores }], none⟩) (v := .int .i64 kf) rfl (by kernel_rfl) (by kernel_rfl) (by kernel_rfl) (fun _ _ _ h => h) (Or.inl ⟨by rfl, ?hy18⟩) (by assumption) ?_
            case hy18 => ((intro W hSW; (try dsimp only at hSW); go_simp); (try with_reducible rfl); (try exact ⟨rfl, rfl, rfl⟩))
            simp only [Act.put, sZa, sZb, sZc]
            refine wpAnyH_take (i := 8) (oi := ⟨some 95, .indexAddr 73 (.tmp 93) (.tmp 94), 0, "same.go:58", #[⟨6, .data⟩, ⟨7, .data⟩, { on := 12, ground := Go.Ground.gcOnly Go.Departure.lateStores }], none⟩) (v := .pointer (some ⟨g2f, o2f + kf * 5, none⟩)) rfl (by kernel_rfl) (by kernel_rfl) (by kernel_rfl) (fun _ _ _ h => h) (Or.inl ⟨by rfl, ?hy19⟩) (by assumption) ?_
            case hy19 => ((intro W hSW; (try dsimp only at hSW); go_simp); (try with_reducible rfl); (try exact ⟨rfl, rfl, rfl⟩))
            simp only [Act.put, sZa, sZb, sZc]
            refine wpAnyH_take (i := 9) (oi := ⟨some 96, .load 77 (.tmp 95), 77, "same.go:58", #[⟨8, .data⟩, { on := 12, ground := Go.Ground.gcOnly Go.Departure.lateStores }], none⟩) (v := .agg cyf.toArray) rfl (by kernel_rfl) (by kernel_rfl) (by kernel_rfl) (fun _ _ _ h => h) (yieldsIf_load_mid (by rfl) 77 (.tmp 95) rfl g2f (o2f + kf * 5) rfl cyf _ (fun W hW => (fun k u hu => (World.cell?_of_block (w := w4) (hW.block g2f b2f)).trans (HRYf.out k u hu))) Tryz.underlying77 rfl (by rw [HCYf.out]; exact sizeFd)) (by assumption) ?_
            simp only [Act.put, sZa, sZb, sZc]
            refine wpAnyH_ready (rs := [10, 11]) (by kernel_rfl) (by simp) ?_
            refine (AllReadyH.cons (i := 10) (o := ⟨some 11, .alloc 77, 0, "same.go:58", #[], none⟩) rfl (fun K hK => ?_) (AllReadyH.cons (i := 11) (o := ⟨some 12, .alloc 77, 0, "same.go:58", #[], none⟩) rfl (fun K hK => ?_) AllReadyH.nil))
            ·have HZ11 := Lib.hid (heap_alloc_new w4.drew (.cells fdZ 77))
             go_simp
             refine hK.out _ _ (hHeld.alloc (hHeld.size) _) (fun hHeld => ?_)
             clear hK K
             try simp only [Act.put, sZa, sZb, sZc]
             refine wpAnyH_ready (rs := [11]) (by kernel_rfl) (by simp) ?_
             refine (AllReadyH.cons (i := 11) (o := ⟨some 12, .alloc 77, 0, "same.go:58", #[], none⟩) rfl (fun K hK => ?_) AllReadyH.nil)
             have HZof := Lib.hid (bl1 (w4.drew.alloc (.cells fdZ 77)) (.cells fdZ 77) HZ11.out (by rw [szA]; show w4.heap.size < w4.heap.size + 1; omega))
             have HZ12 := Lib.hid (bn (w4.drew.alloc (.cells fdZ 77)) (.cells fdZ 77) (k := w4.heap.size + 1) (by rw [szA]; rfl))
             go_simp
             refine hK.out _ _ (hHeld.alloc (hHeld.size) _) (fun hHeld => ?_)
             clear hK K
             try simp only [Act.put, sZa, sZb, sZc]
             refine wpAnyH_ready (rs := [12]) (by kernel_rfl) (by simp) ?_
             refine (AllReadyH.cons (i := 12) (o := ⟨none, .store 77 (.tmp 11) (.tmp 91), 0, "same.go:58", #[⟨10, .data⟩, ⟨4, .data⟩, ⟨0, .phase⟩, ⟨1, .phase⟩, ⟨2, .phase⟩, ⟨3, .phase⟩, ⟨4, .phase⟩, { on := 5, ground := Go.Ground.textOnly Go.Departure.lateStores }, { on := 6, ground := Go.Ground.textOnly Go.Departure.lateStores }, { on := 7, ground := Go.Ground.textOnly Go.Departure.lateStores }, { on := 8, ground := Go.Ground.textOnly Go.Departure.lateStores }, { on := 9, ground := Go.Ground.textOnly Go.Departure.lateStores }, ⟨10, .phase⟩, ⟨11, .phase⟩], none⟩) rfl (fun K hK => ?_) AllReadyH.nil)
             rw [if_pos (by rfl)]
             refine wp_stG 77 w4.heap.size cxf.toArray (by rfl) (by rfl) HZof.out (by rw [List.size_toArray, HCXf.out]; exact sizeFd) (by first | (rw [List.size_toArray, List.size_toArray, HCXf.out] <;> rfl) | (rw [List.size_toArray, HCXf.out] <;> rfl)) HOXf.out ?_
             intro Y11 hY11
             have HY11 := Lib.hid hY11
             clear hY11
             have HB11 := Lib.hid HY11.out.at_
             have HZpf := Lib.hid ((HY11.out.oth (w4.heap.size + 1) (by omega)).trans HZ12.out)
             refine hK.out _ _ (HY11.out.below hHeld (by omega)) (fun hHeld => ?_)
             clear hK K
             try simp only [Act.put, sZa, sZb, sZc]
             refine wpAnyH_ready (rs := [13]) (by kernel_rfl) (by simp) ?_
             refine (AllReadyH.cons (i := 13) (o := ⟨none, .store 77 (.tmp 12) (.tmp 96), 0, "same.go:58", #[⟨11, .data⟩, ⟨9, .data⟩, ⟨12, .chain⟩, ⟨0, .phase⟩, ⟨1, .phase⟩, ⟨2, .phase⟩, ⟨3, .phase⟩, ⟨4, .phase⟩, ⟨5, .phase⟩, ⟨6, .phase⟩, ⟨7, .phase⟩, ⟨8, .phase⟩, ⟨9, .phase⟩, ⟨10, .phase⟩, ⟨11, .phase⟩, ⟨12, .phase⟩], none⟩) rfl (fun K hK => ?_) AllReadyH.nil)
             rw [if_pos (by rfl)]
             refine wp_stG 77 (w4.heap.size + 1) cyf.toArray (by rfl) (by rfl) HZpf.out (by rw [List.size_toArray, HCYf.out]; exact sizeFd) (by first | (rw [List.size_toArray, List.size_toArray, HCYf.out] <;> rfl) | (rw [List.size_toArray, HCYf.out] <;> rfl)) HOYf.out ?_
             intro Y12 hY12
             have HY12 := Lib.hid hY12
             clear hY12
             have hb11 := (HY12.out.oth w4.heap.size (by omega)).trans HB11.out
             have hb12 := HY12.out.at_
             refine hK.out _ _ (HY12.out.below hHeld (by omega)) (fun hHeld => ?_)
             clear hK K
             try simp only [Act.put, sZa, sZb, sZc]
             refine wpAnyH_done (by kernel_rfl) ?_ _
             have HBLf := Lib.hid (HBWf.out.trans (hHeld.mono HBWf.out.size))
             obtain rfl : cxf = fdL xf := HEXf.out
             obtain rfl : cyf = fdL yf := HEYf.out
             obtain ⟨nf, ⟨ba, st, rc⟩, af⟩ := xf
             obtain ⟨nf', ⟨ba', st', rc'⟩, ag⟩ := yf
             have gx0 : Y12.cell? ⟨w4.heap.size, 0, none⟩ = some (.string nf) := cell_of_row _ _ _ _ _ _ hb11
             have gx1 : Y12.cell? ⟨w4.heap.size, 1, none⟩ = some (.int .i64 ba) := cell_of_row _ _ _ _ _ _ hb11
             have gx2 : Y12.cell? ⟨w4.heap.size, 2, none⟩ = some (.int .i64 st) := cell_of_row _ _ _ _ _ _ hb11
             have gx3 : Y12.cell? ⟨w4.heap.size, 3, none⟩ = some (.string rc) := cell_of_row _ _ _ _ _ _ hb11
             have gx4 : Y12.cell? ⟨w4.heap.size, 4, none⟩ = some (.int .i64 af) := cell_of_row _ _ _ _ _ _ hb11
             have gy0 : Y12.cell? ⟨(w4.heap.size + 1), 0, none⟩ = some (.string nf') := cell_of_row _ _ _ _ _ _ hb12
             have gy1 : Y12.cell? ⟨(w4.heap.size + 1), 1, none⟩ = some (.int .i64 ba') := cell_of_row _ _ _ _ _ _ hb12
             have gy2 : Y12.cell? ⟨(w4.heap.size + 1), 2, none⟩ = some (.int .i64 st') := cell_of_row _ _ _ _ _ _ hb12
             have gy3 : Y12.cell? ⟨(w4.heap.size + 1), 3, none⟩ = some (.string rc') := cell_of_row _ _ _ _ _ _ hb12
             have gy4 : Y12.cell? ⟨(w4.heap.size + 1), 4, none⟩ = some (.int .i64 ag) := cell_of_row _ _ _ _ _ _ hb12
             clear hb11 hb12 hHeld HEXf HEYf HRXf HRYf HCXf HCYf HOXf HOYf d1f
             by_cases hne : nf = nf'
             case neg =>
              have HNE := Lib.hid (show ¬ EqFd true ⟨nf, ⟨ba, st, rc⟩, af⟩ ⟨nf', ⟨ba', st', rc'⟩, ag⟩ from fun hE => (fun h => hne h.1) (eqFd_iff.1 hE))
              have n1 := strEqF hne
              have n2 := strNeT hne
              clear hne
              clear HBWf HEQf HBW HEQ
              go_wp2
              go_ret
              exact ⟨by rw [sameB_false (fun h => EqL.no HX.out HY2.out (fun hS => EqL.no HXf.out HYf2.out HNE.out hS.fds) h.ss)] <;> rfl, HBv.out.trans ((HBL.out.trans (HBLf.out.mono HBL.out.size)).mono HBv.out.size)⟩
             case pos =>
              subst hne
              by_cases hne : ba = ba'
              case neg =>
               have HNE := Lib.hid (show ¬ EqFd true ⟨nf, ⟨ba, st, rc⟩, af⟩ ⟨nf, ⟨ba', st', rc'⟩, ag⟩ from fun hE => (fun h => hne h.2.1) (eqFd_iff.1 hE))
               have n1 : (ba == ba') = false := beq_eq_false_iff_ne.mpr hne
               have n2 : (ba != ba') = true := bne_iff_ne.mpr hne
               clear hne
               clear HBWf HEQf HBW HEQ
               go_wp2
               go_ret
               exact ⟨by rw [sameB_false (fun h => EqL.no HX.out HY2.out (fun hS => EqL.no HXf.out HYf2.out HNE.out hS.fds) h.ss)] <;> rfl, HBv.out.trans ((HBL.out.trans (HBLf.out.mono HBL.out.size)).mono HBv.out.size)⟩
              case pos =>
               subst hne
               by_cases hne : st = st'
               case neg =>
                have HNE := Lib.hid (show ¬ EqFd true ⟨nf, ⟨ba, st, rc⟩, af⟩ ⟨nf, ⟨ba, st', rc'⟩, ag⟩ from fun hE => (fun h => hne h.2.2.1) (eqFd_iff.1 hE))
                have n1 : (st == st') = false := beq_eq_false_iff_ne.mpr hne
                have n2 : (st != st') = true := bne_iff_ne.mpr hne
                clear hne
                clear HBWf HEQf HBW HEQ
                go_wp2
                go_ret
                exact ⟨by rw [sameB_false (fun h => EqL.no HX.out HY2.out (fun hS => EqL.no HXf.out HYf2.out HNE.out hS.fds) h.ss)] <;> rfl, HBv.out.trans ((HBL.out.trans (HBLf.out.mono HBL.out.size)).mono HBv.out.size)⟩
               case pos =>
                subst hne
                by_cases hne : rc = rc'
                case neg =>
                 have HNE := Lib.hid (show ¬ EqFd true ⟨nf, ⟨ba, st, rc⟩, af⟩ ⟨nf, ⟨ba, st, rc'⟩, ag⟩ from fun hE => (fun h => hne h.2.2.2.1) (eqFd_iff.1 hE))
                 have n1 := strEqF hne
                 have n2 := strNeT hne
                 clear hne
                 clear HBWf HEQf HBW HEQ
                 go_wp2
                 go_ret
                 exact ⟨by rw [sameB_false (fun h => EqL.no HX.out HY2.out (fun hS => EqL.no HXf.out HYf2.out HNE.out hS.fds) h.ss)] <;> rfl, HBv.out.trans ((HBL.out.trans (HBLf.out.mono HBL.out.size)).mono HBv.out.size)⟩
                case pos =>
                 subst hne
                 by_cases hne : af = ag
                 case neg =>
                  have HNE := Lib.hid (show ¬ EqFd true ⟨nf, ⟨ba, st, rc⟩, af⟩ ⟨nf, ⟨ba, st, rc⟩, ag⟩ from fun hE => (fun h => hne (h.2.2.2.2 rfl)) (eqFd_iff.1 hE))
                  have n1 : ((af : Int) == (ag : Int)) = false := beq_eq_false_iff_ne.mpr (by omega)
                  have n2 : ((af : Int) != (ag : Int)) = true := bne_iff_ne.mpr (by omega)
                  clear hne
                  clear HBWf HEQf HBW HEQ
                  go_wp2
                  go_ret
                  exact ⟨by rw [sameB_false (fun h => EqL.no HX.out HY2.out (fun hS => EqL.no HXf.out HYf2.out HNE.out hS.fds) h.ss)] <;> rfl, HBv.out.trans ((HBL.out.trans (HBLf.out.mono HBL.out.size)).mono HBv.out.size)⟩
                 case pos =>
                  subst hne
                  have HOKf := Lib.hid (show EqFd true ⟨nf, ⟨ba, st, rc⟩, af⟩ ⟨nf, ⟨ba, st, rc⟩, af⟩ from eqFd_iff.2 ⟨rfl, rfl, rfl, rfl, fun _ => rfl⟩)
                  go_wp2
                  try simp only [Act.put]
                  go_roundw
                  case rel =>
                   refine ⟨kf + 1, by omega, by rw [HQ3f.out] <;> go_num, Lib.hid (HBLf.out), Lib.hid (fun i hi => ?_)⟩
                   by_cases hij : i = kf
                   ·rw [hij, getD_of HXf.out, getD_of HYf2.out]; exact HOKf.out
                   ·exact HEQf.out i (by omega)
                  case measure => rw [HQ3f.out]; simp [intOf]; omega
            ·have HZ12 := Lib.hid (heap_alloc_new w4.drew (.cells fdZ 77))
             go_simp
             refine hK.out _ _ (hHeld.alloc (hHeld.size) _) (fun hHeld => ?_)
             clear hK K
             try simp only [Act.put, sZa, sZb, sZc]
             refine wpAnyH_ready (rs := [10]) (by kernel_rfl) (by simp) ?_
             refine (AllReadyH.cons (i := 10) (o := ⟨some 11, .alloc 77, 0, "same.go:58", #[], none⟩) rfl (fun K hK => ?_) AllReadyH.nil)
             have HZof := Lib.hid (bl1 (w4.drew.alloc (.cells fdZ 77)) (.cells fdZ 77) HZ12.out (by rw [szA]; show w4.heap.size < w4.heap.size + 1; omega))
             have HZ11 := Lib.hid (bn (w4.drew.alloc (.cells fdZ 77)) (.cells fdZ 77) (k := w4.heap.size + 1) (by rw [szA]; rfl))
             go_simp
             refine hK.out _ _ (hHeld.alloc (hHeld.size) _) (fun hHeld => ?_)
             clear hK K
             try simp only [Act.put, sZa, sZb, sZc]
             refine wpAnyH_ready (rs := [12]) (by kernel_rfl) (by simp) ?_
             refine (AllReadyH.cons (i := 12) (o := ⟨none, .store 77 (.tmp 11) (.tmp 91), 0, "same.go:58", #[⟨10, .data⟩, ⟨4, .data⟩, ⟨0, .phase⟩, ⟨1, .phase⟩, ⟨2, .phase⟩, ⟨3, .phase⟩, ⟨4, .phase⟩, { on := 5, ground := Go.Ground.textOnly Go.Departure.lateStores }, { on := 6, ground := Go.Ground.textOnly Go.Departure.lateStores }, { on := 7, ground := Go.Ground.textOnly Go.Departure.lateStores }, { on := 8, ground := Go.Ground.textOnly Go.Departure.lateStores }, { on := 9, ground := Go.Ground.textOnly Go.Departure.lateStores }, ⟨10, .phase⟩, ⟨11, .phase⟩], none⟩) rfl (fun K hK => ?_) AllReadyH.nil)
             rw [if_pos (by rfl)]
             refine wp_stG 77 (w4.heap.size + 1) cxf.toArray (by rfl) (by rfl) HZ11.out (by rw [List.size_toArray, HCXf.out]; exact sizeFd) (by first | (rw [List.size_toArray, List.size_toArray, HCXf.out] <;> rfl) | (rw [List.size_toArray, HCXf.out] <;> rfl)) HOXf.out ?_
             intro Y11 hY11
             have HY11 := Lib.hid hY11
             clear hY11
             have HB11 := Lib.hid HY11.out.at_
             have HZpf := Lib.hid ((HY11.out.oth w4.heap.size (by omega)).trans HZof.out)
             refine hK.out _ _ (HY11.out.below hHeld (by omega)) (fun hHeld => ?_)
             clear hK K
             try simp only [Act.put, sZa, sZb, sZc]
             refine wpAnyH_ready (rs := [13]) (by kernel_rfl) (by simp) ?_
             refine (AllReadyH.cons (i := 13) (o := ⟨none, .store 77 (.tmp 12) (.tmp 96), 0, "same.go:58", #[⟨11, .data⟩, ⟨9, .data⟩, ⟨12, .chain⟩, ⟨0, .phase⟩, ⟨1, .phase⟩, ⟨2, .phase⟩, ⟨3, .phase⟩, ⟨4, .phase⟩, ⟨5, .phase⟩, ⟨6, .phase⟩, ⟨7, .phase⟩, ⟨8, .phase⟩, ⟨9, .phase⟩, ⟨10, .phase⟩, ⟨11, .phase⟩, ⟨12, .phase⟩], none⟩) rfl (fun K hK => ?_) AllReadyH.nil)
             rw [if_pos (by rfl)]
             refine wp_stG 77 w4.heap.size cyf.toArray (by rfl) (by rfl) HZpf.out (by rw [List.size_toArray, HCYf.out]; exact sizeFd) (by first | (rw [List.size_toArray, List.size_toArray, HCYf.out] <;> rfl) | (rw [List.size_toArray, HCYf.out] <;> rfl)) HOYf.out ?_
             intro Y12 hY12
             have HY12 := Lib.hid hY12
             clear hY12
             have hb11 := (HY12.out.oth (w4.heap.size + 1) (by omega)).trans HB11.out
             have hb12 := HY12.out.at_
             refine hK.out _ _ (HY12.out.below hHeld (by omega)) (fun hHeld => ?_)
             clear hK K
             try simp only [Act.put, sZa, sZb, sZc]
             refine wpAnyH_done (by kernel_rfl) ?_ _
             have HBLf := Lib.hid (HBWf.out.trans (hHeld.mono HBWf.out.size))
             obtain rfl : cxf = fdL xf := HEXf.out
             obtain rfl : cyf = fdL yf := HEYf.out
             obtain ⟨nf, ⟨ba, st, rc⟩, af⟩ := xf
             obtain ⟨nf', ⟨ba', st', rc'⟩, ag⟩ := yf
             have gx0 : Y12.cell? ⟨(w4.heap.size + 1), 0, none⟩ = some (.string nf) := cell_of_row _ _ _ _ _ _ hb11
             have gx1 : Y12.cell? ⟨(w4.heap.size + 1), 1, none⟩ = some (.int .i64 ba) := cell_of_row _ _ _ _ _ _ hb11
             have gx2 : Y12.cell? ⟨(w4.heap.size + 1), 2, none⟩ = some (.int .i64 st) := cell_of_row _ _ _ _ _ _ hb11
             have gx3 : Y12.cell? ⟨(w4.heap.size + 1), 3, none⟩ = some (.string rc) := cell_of_row _ _ _ _ _ _ hb11
             have gx4 : Y12.cell? ⟨(w4.heap.size + 1), 4, none⟩ = some (.int .i64 af) := cell_of_row _ _ _ _ _ _ hb11
             have gy0 : Y12.cell? ⟨w4.heap.size, 0, none⟩ = some (.string nf') := cell_of_row _ _ _ _ _ _ hb12
             have gy1 : Y12.cell? ⟨w4.heap.size, 1, none⟩ = some (.int .i64 ba') := cell_of_row _ _ _ _ _ _ hb12
             have gy2 : Y12.cell? ⟨w4.heap.size, 2, none⟩ = some (.int .i64 st') := cell_of_row _ _ _ _ _ _ hb12
             have gy3 : Y12.cell? ⟨w4.heap.size, 3, none⟩ = some (.string rc') := cell_of_row _ _ _ _ _ _ hb12
             have gy4 : Y12.cell? ⟨w4.heap.size, 4, none⟩ = some (.int .i64 ag) := cell_of_row _ _ _ _ _ _ hb12
             clear hb11 hb12 hHeld HEXf HEYf HRXf HRYf HCXf HCYf HOXf HOYf d1f
             by_cases hne : nf = nf'
             case neg =>
              have HNE := Lib.hid (show ¬ EqFd true ⟨nf, ⟨ba, st, rc⟩, af⟩ ⟨nf', ⟨ba', st', rc'⟩, ag⟩ from fun hE => (fun h => hne h.1) (eqFd_iff.1 hE))
              have n1 := strEqF hne
              have n2 := strNeT hne
              clear hne
              clear HBWf HEQf HBW HEQ
              go_wp2
              go_ret
              exact ⟨by rw [sameB_false (fun h => EqL.no HX.out HY2.out (fun hS => EqL.no HXf.out HYf2.out HNE.out hS.fds) h.ss)] <;> rfl, HBv.out.trans ((HBL.out.trans (HBLf.out.mono HBL.out.size)).mono HBv.out.size)⟩
             case pos =>
              subst hne
              by_cases hne : ba = ba'
              case neg =>
               have HNE := Lib.hid (show ¬ EqFd true ⟨nf, ⟨ba, st, rc⟩, af⟩ ⟨nf, ⟨ba', st', rc'⟩, ag⟩ from fun hE => (fun h => hne h.2.1) (eqFd_iff.1 hE))
               have n1 : (ba == ba') = false := beq_eq_false_iff_ne.mpr hne
               have n2 : (ba != ba') = true := bne_iff_ne.mpr hne
               clear hne
               clear HBWf HEQf HBW HEQ
               go_wp2
               go_ret
               exact ⟨by rw [sameB_false (fun h => EqL.no HX.out HY2.out (fun hS => EqL.no HXf.out HYf2.out HNE.out hS.fds) h.ss)] <;> rfl, HBv.out.trans ((HBL.out.trans (HBLf.out.mono HBL.out.size)).mono HBv.out.size)⟩
              case pos =>
               subst hne
               by_cases hne : st = st'
               case neg =>
                have HNE := Lib.hid (show ¬ EqFd true ⟨nf, ⟨ba, st, rc⟩, af⟩ ⟨nf, ⟨ba, st', rc'⟩, ag⟩ from fun hE => (fun h => hne h.2.2.1) (eqFd_iff.1 hE))
                have n1 : (st == st') = false := beq_eq_false_iff_ne.mpr hne
                have n2 : (st != st') = true := bne_iff_ne.mpr hne
                clear hne
                clear HBWf HEQf HBW HEQ
                go_wp2
                go_ret
                exact ⟨by rw [sameB_false (fun h => EqL.no HX.out HY2.out (fun hS => EqL.no HXf.out HYf2.out HNE.out hS.fds) h.ss)] <;> rfl, HBv.out.trans ((HBL.out.trans (HBLf.out.mono HBL.out.size)).mono HBv.out.size)⟩
               case pos =>
                subst hne
                by_cases hne : rc = rc'
                case neg =>
                 have HNE := Lib.hid (show ¬ EqFd true ⟨nf, ⟨ba, st, rc⟩, af⟩ ⟨nf, ⟨ba, st, rc'⟩, ag⟩ from fun hE => (fun h => hne h.2.2.2.1) (eqFd_iff.1 hE))
                 have n1 := strEqF hne
                 have n2 := strNeT hne
                 clear hne
                 clear HBWf HEQf HBW HEQ
                 go_wp2
                 go_ret
                 exact ⟨by rw [sameB_false (fun h => EqL.no HX.out HY2.out (fun hS => EqL.no HXf.out HYf2.out HNE.out hS.fds) h.ss)] <;> rfl, HBv.out.trans ((HBL.out.trans (HBLf.out.mono HBL.out.size)).mono HBv.out.size)⟩
                case pos =>
                 subst hne
                 by_cases hne : af = ag
                 case neg =>
                  have HNE := Lib.hid (show ¬ EqFd true ⟨nf, ⟨ba, st, rc⟩, af⟩ ⟨nf, ⟨ba, st, rc⟩, ag⟩ from fun hE => (fun h => hne (h.2.2.2.2 rfl)) (eqFd_iff.1 hE))
                  have n1 : ((af : Int) == (ag : Int)) = false := beq_eq_false_iff_ne.mpr (by omega)
                  have n2 : ((af : Int) != (ag : Int)) = true := bne_iff_ne.mpr (by omega)
                  clear hne
                  clear HBWf HEQf HBW HEQ
                  go_wp2
                  go_ret
                  exact ⟨by rw [sameB_false (fun h => EqL.no HX.out HY2.out (fun hS => EqL.no HXf.out HYf2.out HNE.out hS.fds) h.ss)] <;> rfl, HBv.out.trans ((HBL.out.trans (HBLf.out.mono HBL.out.size)).mono HBv.out.size)⟩
                 case pos =>
                  subst hne
                  have HOKf := Lib.hid (show EqFd true ⟨nf, ⟨ba, st, rc⟩, af⟩ ⟨nf, ⟨ba, st, rc⟩, af⟩ from eqFd_iff.2 ⟨rfl, rfl, rfl, rfl, fun _ => rfl⟩)
                  go_wp2
                  try simp only [Act.put]
                  go_roundw
                  case rel =>
                   refine ⟨kf + 1, by omega, by rw [HQ3f.out] <;> go_num, Lib.hid (HBLf.out), Lib.hid (fun i hi => ?_)⟩
                   by_cases hij : i = kf
                   ·rw [hij, getD_of HXf.out, getD_of HYf2.out]; exact HOKf.out
                   ·exact HEQf.out i (by omega)
                  case measure => rw [HQ3f.out]; simp [intOf]; omega
           case neg =>
            have d1f : decide ((kf : Int) < (fds.length : Int)) = false := decide_eq_false (by omega)
            have HOK := Lib.hid (show EqSr true ⟨nm, fds, ax⟩ ⟨nm, fds', ax⟩ from ⟨rfl, fun _ => rfl, HLENf.out, fun i hi => HEQf.out i (by have hi2 : i < fds.length := hi; omega)⟩)
            go_wp2
            try simp only [Act.put]
            go_roundw
            case rel =>
             refine ⟨j + 1, by omega, by rw [HQ3.out] <;> go_num, Lib.hid (HBL.out.trans (HBWf.out.mono HBL.out.size)), Lib.hid (fun i hi => ?_)⟩
             by_cases hij : i = j
             ·rw [hij, getD_of HX.out, getD_of HY2.out]; exact HOK.out
             ·exact HEQ.out i (by omega)
            case measure => rw [HQ3.out]; simp [intOf]; omega
     case neg =>
      have d1 : decide ((j : Int) < (p.ss.length : Int)) = false := decide_eq_false (by omega)
      have HSS := Lib.hid (show EqL (EqSr true) sr0 p.ss q.ss from ⟨HLEN.out, fun i hi => HEQ.out i (by omega)⟩)
      have a2 : w3.cell? ⟨w.heap.size, 2, none⟩ = some (.slice A3 p.fs.length c3) := cell_of_row _ _ _ _ _ _ HVA3.out
      have HN1 := Lib.hid (HPv.out.f.keep (w' := w3) (S' := S1) (fun g hg hl => ⟨hg, HBW.out.block g hl⟩) HBW.out.size)
      have HN2 := Lib.hid (HQv.out.f.keep (w' := w3) (S' := S2) (fun g hg hl => ⟨hg, HBW.out.block g hl⟩) HBW.out.size)
      go_wp2
      go_loopw [124] (fun vi wr => ∃ m : Nat, m ≤ p.fs.length ∧ vi = .int .i64 m ∧ Hid (Below w3.heap.size w3 wr) ∧ Hid (∀ i, i < m → EqFn true (p.fs.getD i fn0) (q.fs.getD i fn0))) (fun vi _ => p.fs.length - (intOf vi).toNat)
      case atStart => exact ⟨0, by omega, rfl, Lib.hid (Below.refl _ _), Lib.hid (fun i hi => by omega)⟩
      case round =>
       clear a2
       obtain ⟨m, hm, rfl, HBWn, HEQn⟩ := hrel
       obtain ⟨w5, hw5⟩ : ∃ w5, w5 = wr := ⟨_, rfl⟩
       subst hw5
       have l5 := HBWn.out.size
       have HVA5 := Lib.hid ((HBWn.out.block _ (by omega)).trans HVA3.out)
       have HVB5 := Lib.hid ((HBWn.out.block _ (by omega)).trans HVB3.out)
       by_cases hltn : m < p.fs.length
       case pos =>
        have d1n : decide ((m : Int) < (p.fs.length : Int)) = true := decide_eq_true (by omega)
        have hltn2 : m < q.fs.length := by rw [← HLENn.out]; exact hltn
        have hx : p.fs[m]? = some (p.fs[m]'hltn) := List.getElem?_eq_getElem hltn
        have hy : q.fs[m]? = some (q.fs[m]'hltn2) := List.getElem?_eq_getElem hltn2
        have hK1 := HN1.out.keep (w' := w5) (S' := S1) (fun g hg hl => ⟨hg, HBWn.out.block g hl⟩) HBWn.out.size
        have hK2 := HN2.out.keep (w' := w5) (S' := S2) (fun g hg hl => ⟨hg, HBWn.out.block g hl⟩) HBWn.out.size
        obtain ⟨g1n, o1n, cp1, cxn, e1, p1, m1, _, b1n, hX, r1⟩ := hK1.get m hx
        obtain ⟨g2n, o2n, cp2, cyn, e2, p2, m2, _, b2n, hY', r2⟩ := hK2.get m hy
        injection e1 with e1 _ e1'
        injection e2 with e2 _ e2'
        generalize hxx : p.fs[m]'hltn = xn at *
        generalize hyy : q.fs[m]'hltn2 = yn at *
        have HXn := Lib.hid hx
        have HYn2 := Lib.hid hy
        have HCXn := Lib.hid (fnE.len hX)
        have HCYn := Lib.hid (fnE.len hY')
        have HOXn := Lib.hid (elem_one hX)
        have HOYn := Lib.hid (elem_one hY')
        have HEXn := Lib.hid hX
        have HEYn := Lib.hid hY'
        have RX : w5.rangeAt g1n (o1n + m * 16) cxn := fun k u hu => by have := r1 k u hu; rw [show o1n + (m * fnE.z + k) = o1n + m * 16 + k from by show o1n + (m * 16 + k) = _; omega] at this; exact this
        have RY : w5.rangeAt g2n (o2n + m * 16) cyn := fun k u hu => by have := r2 k u hu; rw [show o2n + (m * fnE.z + k) = o2n + m * 16 + k from by show o2n + (m * 16 + k) = _; omega] at this; exact this
        have HRXn := Lib.hid RX
        have HRYn := Lib.hid RY
        subst e1 e2 e1' e2'
        clear hX hY' r1 r2 hK1 hK2 RX RY hxx hyy hx hy
        have q1n : (m : Int) < (p.fs.length : Int) := by omega
        have q2n : (m : Int) < (q.fs.length : Int) := by omega
        have q0n : (0 : Int) ≤ (m : Int) := by omega
        have HQ3n : Hid (wrap64 ((m : Int) + 1) = (m : Int) + 1) := Lib.hid (by unfold maxLen at m1 m2; unfold wrap64; omega)
        clear p1 m1 p2 m2
        have HCAn := Lib.hid (show w5.cell? ⟨w.heap.size, 2, none⟩ = some (.slice (some ⟨g1n, o1n, none⟩) p.fs.length c3) from cell_of_row _ _ _ _ _ _ HVA5.out)
        have HCBn := Lib.hid (show w5.cell? ⟨w.heap.size + 1, 2, none⟩ = some (.slice (some ⟨g2n, o2n, none⟩) q.fs.length c6) from cell_of_row _ _ _ _ _ _ HVB5.out)
        have HLAn := Lib.hid (show w.heap.size < w5.heap.size by omega)
        have HLBn := Lib.hid (show w.heap.size + 1 < w5.heap.size by omega)
        go_wp2_with fail
        refine wp_region_held_drew (S := fun W : World => Below w5.heap.size w5 W) (by kernel_rfl) ((Below.refl _ _).drew) (fun hHeld => ?_)
        refine wpAnyH_take (i := 0) (oi := ⟨some 127, .fieldAddr 27 (.tmp 3) 2, 0, "same.go:65", #[], none⟩) (v := .pointer (some ⟨w.heap.size, 2, none⟩)) rfl (by kernel_rfl) (by kernel_rfl) (by kernel_rfl) (fun _ _ _ h => h) (Or.inl ⟨by rfl, ?hy11⟩) (by assumption) ?_
        case hy11 => ((intro W hSW; (try dsimp only at hSW); go_simp); (try with_reducible rfl); (try exact ⟨rfl, rfl, rfl⟩))
        simp only [Act.put, sZa, sZb, sZc]
        refine wpAnyH_take (i := 1) (oi := ⟨some 128, .load 25 (.tmp 127), 25, "same.go:65", #[⟨0, .data⟩], none⟩) (v := .slice (some ⟨g1n, o1n, none⟩) p.fs.length c3) rfl (by kernel_rfl) (by kernel_rfl) (by kernel_rfl) (fun _ _ _ h => h) (Or.inl ⟨by rfl, ?hy12⟩) (by assumption) ?_
        case hy12 => ((intro W hSW; (try dsimp only at hSW); have hcW := (World.cell?_of_block (w := w5) (hSW.block _ HLAn.out)).trans HCAn.out; clear hSW; go_simp); (try with_reducible rfl); (try exact ⟨rfl, rfl, rfl⟩))
        simp only [Act.put, sZa, sZb, sZc]
        refine wpAnyH_take (i := 2) (oi := ⟨some 129, .move (.tmp 13), 3, "same.go:65", #[], none⟩) (v := .int .i64 m) rfl (by kernel_rfl) (by kernel_rfl) (by kernel_rfl) (fun _ _ _ h => h) (Or.inl ⟨by rfl, ?hy13⟩) (by assumption) ?_
        case hy13 => ((intro W hSW; (try dsimp only at hSW); go_simp); (try with_reducible rfl); (try exact ⟨rfl, rfl, rfl⟩))
        simp only [Act.put, sZa, sZb, sZc]
        refine wpAnyH_take (i := 3) (oi := ⟨some 130, .indexAddr 25 (.tmp 128) (.tmp 129), 0, "same.go:65", #[⟨1, .data⟩, ⟨2, .data⟩], none⟩) (v := .pointer (some ⟨g1n, o1n + m * 16, none⟩)) rfl (by kernel_rfl) (by kernel_rfl) (by kernel_rfl) (fun _ _ _ h => h) (Or.inl ⟨by rfl, ?hy14⟩) (by assumption) ?_
        case hy14 => ((intro W hSW; (try dsimp only at hSW); go_simp); (try with_reducible rfl); (try exact ⟨rfl, rfl, rfl⟩))
        simp only [Act.put, sZa, sZb, sZc]
        refine wpAnyH_take (i := 4) (oi := ⟨some 131, .load 46 (.tmp 130), 46, "same.go:65", #[⟨3, .data⟩], none⟩) (v := .agg cxn.toArray) rfl (by kernel_rfl) (by kernel_rfl) (by kernel_rfl) (fun _ _ _ h => h) (yieldsIf_load_mid (by rfl) 46 (.tmp 130) rfl g1n (o1n + m * 16) rfl cxn _ (fun W hW => (fun k u hu => (World.cell?_of_block (w := w5) (hW.block g1n b1n)).trans (HRXn.out k u hu))) Tryz.underlying46 rfl (by rw [HCXn.out]; exact sizeFn)) (by assumption) ?_
        simp only [Act.put, sZa, sZb, sZc]
        refine wpAnyH_take (i := 5) (oi := ⟨some 132, .fieldAddr 27 (.tmp 4) 2, 0, "same.go:65", #[{ on := 12, ground := Go.Ground.gcOnly Go.Departure.lateStores }], none⟩) (v := .pointer (some ⟨(w.heap.size + 1), 2, none⟩)) rfl (by kernel_rfl) (by kernel_rfl) (by kernel_rfl) (fun _ _ _ h => h) (Or.inl ⟨by rfl, ?hy16⟩) (by assumption) ?_
        case hy16 => ((intro W hSW; (try dsimp only at hSW); go_simp); (try with_reducible rfl); (try exact ⟨rfl, rfl, rfl⟩))
        simp only [Act.put, sZa, sZb, sZc]
        refine wpAnyH_take (i := 6) (oi := ⟨some 133, .load 25 (.tmp 132), 25, "same.go:65", #[⟨5, .data⟩, { on := 12, ground := Go.Ground.gcOnly Go.Departure.lateStores }], none⟩) (v := .slice (some ⟨g2n, o2n, none⟩) q.fs.length c6) rfl (by kernel_rfl) (by kernel_rfl) (by kernel_rfl) (fun _ _ _ h => h) (Or.inl ⟨by rfl, ?hy17⟩) (by assumption) ?_
        case hy17 => ((intro W hSW; (try dsimp only at hSW); have hcW := (World.cell?_of_block (w := w5) (hSW.block _ HLBn.out)).trans HCBn.out; clear hSW; go_simp); (try with_reducible rfl); (try exact ⟨rfl, rfl, rfl⟩))
        simp only [Act.put, sZa, sZb, sZc]
        refine wpAnyH_take (i := 7) (oi := ⟨some 134, .move (.tmp 13), 3, "same.go:65", #[{ on := 12, ground := Go.Ground.gcOnly Go.Departure.lateStores }], none⟩) (v := .int .i64 m) rfl (by kernel_rfl) (by kernel_rfl) (by kernel_rfl) (fun _ _ _ h => h) (Or.inl ⟨by rfl, ?hy18⟩) (by assumption) ?_
        case hy18 => ((intro W hSW; (try dsimp only at hSW); go_simp); (try with_reducible rfl); (try exact ⟨rfl, rfl, rfl⟩))
        simp only [Act.put, sZa, sZb, sZc]
        refine wpAnyH_take (i := 8) (oi := ⟨some 135, .indexAddr 25 (.tmp 133) (.tmp 134), 0, "same.go:65", #[⟨6, .data⟩, ⟨7, .data⟩, { on := 12, ground := Go.Ground.gcOnly Go.Departure.lateStores }], none⟩) (v := .pointer (some ⟨g2n, o2n + m * 16, none⟩)) rfl (by kernel_rfl) (by kernel_rfl) (by kernel_rfl) (fun _ _ _ h => h) (Or.inl ⟨by rfl, ?hy19⟩) (by assumption) ?_
        case hy19 => ((intro W hSW; (try dsimp only at hSW); go_simp); (try with_reducible rfl); (try exact ⟨rfl, rfl, rfl⟩))
        simp only [Act.put, sZa, sZb, sZc]
        refine wpAnyH_take (i := 9) (oi := ⟨some 136, .load 46 (.tmp 135), 46, "same.go:65", #[⟨8, .data⟩, { on := 12, ground := Go.Ground.gcOnly Go.Departure.lateStores }], none⟩) (v := .agg cyn.toArray) rfl (by kernel_rfl) (by kernel_rfl) (by kernel_rfl) (fun _ _ _ h => h) (yieldsIf_load_mid (by rfl) 46 (.tmp 135) rfl g2n (o2n + m * 16) rfl cyn _ (fun W hW => (fun k u hu => (World.cell?_of_block (w := w5) (hW.block g2n b2n)).trans (HRYn.out k u hu))) Tryz.underlying46 rfl (by rw [HCYn.out]; exact sizeFn)) (by assumption) ?_
        simp only [Act.put, sZa, sZb, sZc]
        refine wpAnyH_ready (rs := [10, 11]) (by kernel_rfl) (by simp) ?_
        refine (AllReadyH.cons (i := 10) (o := ⟨some 14, .alloc 46, 0, "same.go:65", #[], none⟩) rfl (fun K hK => ?_) (AllReadyH.cons (i := 11) (o := ⟨some 15, .alloc 46, 0, "same.go:65", #[], none⟩) rfl (fun K hK => ?_) AllReadyH.nil))
        ·have HZ14 := Lib.hid (heap_alloc_new w5.drew (.cells fnZ 46))
         go_simp
         refine hK.out _ _ (hHeld.alloc (hHeld.size) _) (fun hHeld => ?_)
         clear hK K
         try simp only [Act.put, sZa, sZb, sZc]
         refine wpAnyH_ready (rs := [11]) (by kernel_rfl) (by simp) ?_
         refine (AllReadyH.cons (i := 11) (o := ⟨some 15, .alloc 46, 0, "same.go:65", #[], none⟩) rfl (fun K hK => ?_) AllReadyH.nil)
         have HZon := Lib.hid (bl1 (w5.drew.alloc (.cells fnZ 46)) (.cells fnZ 46) HZ14.out (by rw [szA]; show w5.heap.size < w5.heap.size + 1; omega))
         have HZ15 := Lib.hid (bn (w5.drew.alloc (.cells fnZ 46)) (.cells fnZ 46) (k := w5.heap.size + 1) (by rw [szA]; rfl))
         go_simp
         refine hK.out _ _ (hHeld.alloc (hHeld.size) _) (fun hHeld => ?_)
         clear hK K
         try simp only [Act.put, sZa, sZb, sZc]
         refine wpAnyH_ready (rs := [12]) (by kernel_rfl) (by simp) ?_
         refine (AllReadyH.cons (i := 12) (o := ⟨none, .store 46 (.tmp 14) (.tmp 131), 0, "same.go:65", #[⟨10, .data⟩, ⟨4, .data⟩, ⟨0, .phase⟩, ⟨1, .phase⟩, ⟨2, .phase⟩, ⟨3, .phase⟩, ⟨4, .phase⟩, { on := 5, ground := Go.Ground.textOnly Go.Departure.lateStores }, { on := 6, ground := Go.Ground.textOnly Go.Departure.lateStores }, { on := 7, ground := Go.Ground.textOnly Go.Departure.lateStores }, { on := 8, ground := Go.Ground.textOnly Go.Departure.lateStores }, { on := 9, ground := Go.Ground.textOnly Go.Departure.lateStores }, ⟨10, .phase⟩, ⟨11, .phase⟩], none⟩) rfl (fun K hK => ?_) AllReadyH.nil)
         rw [if_pos (by rfl)]
         refine wp_stG 46 w5.heap.size cxn.toArray (by rfl) (by rfl) HZon.out (by rw [List.size_toArray, HCXn.out]; exact sizeFn) (by first | (rw [List.size_toArray, List.size_toArray, HCXn.out] <;> rfl) | (rw [List.size_toArray, HCXn.out] <;> rfl)) HOXn.out ?_
         intro Y14 hY14
         have HY14 := Lib.hid hY14
         clear hY14
         have HB14 := Lib.hid HY14.out.at_
         have HZpn := Lib.hid ((HY14.out.oth (w5.heap.size + 1) (by omega)).trans HZ15.out)
         refine hK.out _ _ (HY14.out.below hHeld (by omega)) (fun hHeld => ?_)
         clear hK K
         try simp only [Act.put, sZa, sZb, sZc]
         refine wpAnyH_ready (rs := [13]) (by kernel_rfl) (by simp) ?_
         refine (AllReadyH.cons (i := 13) (o := ⟨none, .store 46 (.tmp 15) (.tmp 136), 0, "same.go:65", #[⟨11, .data⟩, ⟨9, .data⟩, ⟨12, .chain⟩, ⟨0, .phase⟩, ⟨1, .phase⟩, ⟨2, .phase⟩, ⟨3, .phase⟩, ⟨4, .phase⟩, ⟨5, .phase⟩, ⟨6, .phase⟩, ⟨7, .phase⟩, ⟨8, .phase⟩, ⟨9, .phase⟩, ⟨10, .phase⟩, ⟨11, .phase⟩, ⟨12, .phase⟩], none⟩) rfl (fun K hK => ?_) AllReadyH.nil)
         rw [if_pos (by rfl)]
         refine wp_stG 46 (w5.heap.size + 1) cyn.toArray (by rfl) (by rfl) HZpn.out (by rw [List.size_toArray, HCYn.out]; exact sizeFn) (by first | (rw [List.size_toArray, List.size_toArray, HCYn.out] <;> rfl) | (rw [List.size_toArray, HCYn.out] <;> rfl)) HOYn.out ?_
         intro Y15 hY15
         have HY15 := Lib.hid hY15
         clear hY15
         have hb14 := (HY15.out.oth w5.heap.size (by omega)).trans HB14.out
         have hb15 := HY15.out.at_
         refine hK.out _ _ (HY15.out.below hHeld (by omega)) (fun hHeld => ?_)
         clear hK K
         try simp only [Act.put, sZa, sZb, sZc]
         refine wpAnyH_done (by kernel_rfl) ?_ _
         have HBLn := Lib.hid (HBWn.out.trans (hHeld.mono HBWn.out.size))
         have hYs := hHeld.size
         obtain ⟨vp, db, hp, hd, hc⟩ := fnE.keep HEXn.out (w' := Y15) (S' := S1) (fun g hg hl => ⟨hg, hHeld.block g hl⟩) hHeld.size
         obtain ⟨Ap, cp, rfl⟩ := hp.slice
         obtain ⟨nm, ⟨ba, st, rc⟩, params, body, ax⟩ := xn
         have HD1 := Lib.hid (show StAt Y15 S1 body db from hd)
         obtain ⟨kb, xb, ks, vb, ab, A', cap', B', cap2', hbe, rfl, hxe, hxk⟩ := StAt.inv (show StAt Y15 S1 body db from hd)
         clear hxe hxk hd hbe
         subst hc
         obtain ⟨vp, db, hp', hd, hc'⟩ := fnE.keep HEYn.out (w' := Y15) (S' := S2) (fun g hg hl => ⟨hg, hHeld.block g hl⟩) hHeld.size
         obtain ⟨Ap', cp', rfl⟩ := hp'.slice
         obtain ⟨nm', ⟨ba', st', rc'⟩, params', body', ay⟩ := yn
         have HD2 := Lib.hid (show StAt Y15 S2 body' db from hd)
         obtain ⟨kb', xb', ks', vb', ab', A'', cap'', B'', cap2'', hbe', rfl, hxe, hxk⟩ := StAt.inv (show StAt Y15 S2 body' db from hd)
         clear hxe hxk hd hbe'
         subst hc'
         have fx0 : Y15.cell? ⟨w5.heap.size, 0, none⟩ = some (.string nm) := cell_of_row _ _ _ _ _ _ hb14
         have fx1 : Y15.cell? ⟨w5.heap.size, 1, none⟩ = some (.int .i64 ba) := cell_of_row _ _ _ _ _ _ hb14
         have fx2 : Y15.cell? ⟨w5.heap.size, 2, none⟩ = some (.int .i64 st) := cell_of_row _ _ _ _ _ _ hb14
         have fx3 : Y15.cell? ⟨w5.heap.size, 3, none⟩ = some (.string rc) := cell_of_row _ _ _ _ _ _ hb14
         have fx4 : Y15.cell? ⟨w5.heap.size, 4, none⟩ = some (.slice Ap params.length cp) := cell_of_row _ _ _ _ _ _ hb14
         have fx5 : Y15.cell? ⟨w5.heap.size, 5, none⟩ = some (.int .i64 kb) := cell_of_row _ _ _ _ _ _ hb14
         have fx6 : Y15.cell? ⟨w5.heap.size, 6, none⟩ = some (.slice A' xb.length cap') := cell_of_row _ _ _ _ _ _ hb14
         have fx7 : Y15.cell? ⟨w5.heap.size, 7, none⟩ = some (.slice B' ks.length cap2') := cell_of_row _ _ _ _ _ _ hb14
         have fx8 : Y15.cell? ⟨w5.heap.size, 8, none⟩ = some (.string vb.nm) := cell_of_row _ _ _ _ _ _ hb14
         have fx9 : Y15.cell? ⟨w5.heap.size, 9, none⟩ = some (.int .i64 vb.ty.ba) := cell_of_row _ _ _ _ _ _ hb14
         have fx10 : Y15.cell? ⟨w5.heap.size, 10, none⟩ = some (.int .i64 vb.ty.st) := cell_of_row _ _ _ _ _ _ hb14
         have fx11 : Y15.cell? ⟨w5.heap.size, 11, none⟩ = some (.string vb.ty.rc) := cell_of_row _ _ _ _ _ _ hb14
         have fx12 : Y15.cell? ⟨w5.heap.size, 12, none⟩ = some (.int .i64 vb.ln) := cell_of_row _ _ _ _ _ _ hb14
         have fx13 : Y15.cell? ⟨w5.heap.size, 13, none⟩ = some (.int .i64 vb.at_) := cell_of_row _ _ _ _ _ _ hb14
         have fx14 : Y15.cell? ⟨w5.heap.size, 14, none⟩ = some (.int .i64 ab) := cell_of_row _ _ _ _ _ _ hb14
         have fx15 : Y15.cell? ⟨w5.heap.size, 15, none⟩ = some (.int .i64 ax) := cell_of_row _ _ _ _ _ _ hb14
         have fy0 : Y15.cell? ⟨(w5.heap.size + 1), 0, none⟩ = some (.string nm') := cell_of_row _ _ _ _ _ _ hb15
         have fy1 : Y15.cell? ⟨(w5.heap.size + 1), 1, none⟩ = some (.int .i64 ba') := cell_of_row _ _ _ _ _ _ hb15
         have fy2 : Y15.cell? ⟨(w5.heap.size + 1), 2, none⟩ = some (.int .i64 st') := cell_of_row _ _ _ _ _ _ hb15
         have fy3 : Y15.cell? ⟨(w5.heap.size + 1), 3, none⟩ = some (.string rc') := cell_of_row _ _ _ _ _ _ hb15
         have fy4 : Y15.cell? ⟨(w5.heap.size + 1), 4, none⟩ = some (.slice Ap' params'.length cp') := cell_of_row _ _ _ _ _ _ hb15
         have fy5 : Y15.cell? ⟨(w5.heap.size + 1), 5, none⟩ = some (.int .i64 kb') := cell_of_row _ _ _ _ _ _ hb15
         have fy6 : Y15.cell? ⟨(w5.heap.size + 1), 6, none⟩ = some (.slice A'' xb'.length cap'') := cell_of_row _ _ _ _ _ _ hb15
         have fy7 : Y15.cell? ⟨(w5.heap.size + 1), 7, none⟩ = some (.slice B'' ks'.length cap2'') := cell_of_row _ _ _ _ _ _ hb15
         have fy8 : Y15.cell? ⟨(w5.heap.size + 1), 8, none⟩ = some (.string vb'.nm) := cell_of_row _ _ _ _ _ _ hb15
         have fy9 : Y15.cell? ⟨(w5.heap.size + 1), 9, none⟩ = some (.int .i64 vb'.ty.ba) := cell_of_row _ _ _ _ _ _ hb15
         have fy10 : Y15.cell? ⟨(w5.heap.size + 1), 10, none⟩ = some (.int .i64 vb'.ty.st) := cell_of_row _ _ _ _ _ _ hb15
         have fy11 : Y15.cell? ⟨(w5.heap.size + 1), 11, none⟩ = some (.string vb'.ty.rc) := cell_of_row _ _ _ _ _ _ hb15
         have fy12 : Y15.cell? ⟨(w5.heap.size + 1), 12, none⟩ = some (.int .i64 vb'.ln) := cell_of_row _ _ _ _ _ _ hb15
         have fy13 : Y15.cell? ⟨(w5.heap.size + 1), 13, none⟩ = some (.int .i64 vb'.at_) := cell_of_row _ _ _ _ _ _ hb15
         have fy14 : Y15.cell? ⟨(w5.heap.size + 1), 14, none⟩ = some (.int .i64 ab') := cell_of_row _ _ _ _ _ _ hb15
         have fy15 : Y15.cell? ⟨(w5.heap.size + 1), 15, none⟩ = some (.int .i64 ay) := cell_of_row _ _ _ _ _ _ hb15
         have HR14 := Lib.hid hb14
         have HR15 := Lib.hid hb15
         have l14 := (Array.getElem?_eq_some_iff.1 hb14).1
         have l15 := (Array.getElem?_eq_some_iff.1 hb15).1
         have HP1 := Lib.hid (show LAt vaE Y15 S1 params (.slice Ap params.length cp) from hp)
         have HP2 := Lib.hid (show LAt vaE Y15 S2 params' (.slice Ap' params'.length cp') from hp')
         clear hp hp' hb14 hb15 hHeld HEXn HEYn HRXn HRYn HCXn HCYn HOXn HOYn d1n
         by_cases hne : nm = nm'
         case neg =>
          have HNE := Lib.hid (show ¬ EqFn true ⟨nm, ⟨ba, st, rc⟩, params, body, ax⟩ ⟨nm', ⟨ba', st', rc'⟩, params', body', ay⟩ from fun hE => hne hE.nm)
          have n1 := strEqF hne
          have n2 := strNeT hne
          clear hne
          clear HBWn HEQn
          go_wp2
          go_ret
          exact ⟨by rw [sameB_false (fun h => EqL.no HXn.out HYn2.out HNE.out h.fs)] <;> rfl, HBv.out.trans ((HBW.out.trans ((HBLn.out).mono HBW.out.size)).mono HBv.out.size)⟩
         case pos =>
          subst hne
          by_cases hne : ba = ba'
          case neg =>
           have HNE := Lib.hid (show ¬ EqFn true ⟨nm, ⟨ba, st, rc⟩, params, body, ax⟩ ⟨nm, ⟨ba', st', rc'⟩, params', body', ay⟩ from fun hE => hne (by have := hE.ty; injection this))
           have n1 : (ba == ba') = false := beq_eq_false_iff_ne.mpr hne
           have n2 : (ba != ba') = true := bne_iff_ne.mpr hne
           clear hne
           clear HBWn HEQn
           go_wp2
           go_ret
           exact ⟨by rw [sameB_false (fun h => EqL.no HXn.out HYn2.out HNE.out h.fs)] <;> rfl, HBv.out.trans ((HBW.out.trans ((HBLn.out).mono HBW.out.size)).mono HBv.out.size)⟩
          case pos =>
           subst hne
           by_cases hne : st = st'
           case neg =>
            have HNE := Lib.hid (show ¬ EqFn true ⟨nm, ⟨ba, st, rc⟩, params, body, ax⟩ ⟨nm, ⟨ba, st', rc'⟩, params', body', ay⟩ from fun hE => hne (by have := hE.ty; injection this))
            have n1 : (st == st') = false := beq_eq_false_iff_ne.mpr hne
            have n2 : (st != st') = true := bne_iff_ne.mpr hne
            clear hne
            clear HBWn HEQn
            go_wp2
            go_ret
            exact ⟨by rw [sameB_false (fun h => EqL.no HXn.out HYn2.out HNE.out h.fs)] <;> rfl, HBv.out.trans ((HBW.out.trans ((HBLn.out).mono HBW.out.size)).mono HBv.out.size)⟩
           case pos =>
            subst hne
            by_cases hne : rc = rc'
            case neg =>
             have HNE := Lib.hid (show ¬ EqFn true ⟨nm, ⟨ba, st, rc⟩, params, body, ax⟩ ⟨nm, ⟨ba, st, rc'⟩, params', body', ay⟩ from fun hE => hne (by have := hE.ty; injection this))
             have n1 := strEqF hne
             have n2 := strNeT hne
             clear hne
             clear HBWn HEQn
             go_wp2
             go_ret
             exact ⟨by rw [sameB_false (fun h => EqL.no HXn.out HYn2.out HNE.out h.fs)] <;> rfl, HBv.out.trans ((HBW.out.trans ((HBLn.out).mono HBW.out.size)).mono HBv.out.size)⟩
            case pos =>
             subst hne
             by_cases hne : ax = ay
             case neg =>
              have HNE := Lib.hid (show ¬ EqFn true ⟨nm, ⟨ba, st, rc⟩, params, body, ax⟩ ⟨nm, ⟨ba, st, rc⟩, params', body', ay⟩ from fun hE => hne (hE.pa rfl))
              have n1 : ((ax : Int) == (ay : Int)) = false := beq_eq_false_iff_ne.mpr (by omega)
              have n2 : ((ax : Int) != (ay : Int)) = true := bne_iff_ne.mpr (by omega)
              clear hne
              clear HBWn HEQn
              go_wp2
              go_ret
              exact ⟨by rw [sameB_false (fun h => EqL.no HXn.out HYn2.out HNE.out h.fs)] <;> rfl, HBv.out.trans ((HBW.out.trans ((HBLn.out).mono HBW.out.size)).mono HBv.out.size)⟩
             case pos =>
              subst hne
              have hva := vars_any params true params' _ _ _ S1 S2 HP1.out HP2.out
              by_cases hv : EqVas true params params'
              case neg =>
               have HNE := Lib.hid (show ¬ EqFn true ⟨nm, ⟨ba, st, rc⟩, params, body, ax⟩ ⟨nm, ⟨ba, st, rc⟩, params', body', ax⟩ from fun hE => hv hE.params)
               rw [sameB_false hv] at hva
               clear hv HBWn HEQn
               go_wp2_with fail
               refine hva.mono ?_
               rintro e wz ⟨rfl, bz⟩
               go_wp2
               go_ret
               exact ⟨by rw [sameB_false (fun h => EqL.no HXn.out HYn2.out HNE.out h.fs)] <;> rfl, HBv.out.trans ((HBW.out.trans ((HBLn.out.trans (bz.mono HBLn.out.size)).mono HBW.out.size)).mono HBv.out.size)⟩
              case pos =>
               have HV := Lib.hid hv
               rw [sameB_true hv] at hva
               clear hv
               go_wp2_with fail
               refine hva.mono ?_
               rintro e wq ⟨rfl, bv⟩
               have HBq := Lib.hid (HBLn.out.trans (bv.mono HBLn.out.size))
               have lq := bv.size
               have HR14q := Lib.hid ((bv.block _ l14).trans HR14.out)
               have HR15q := Lib.hid ((bv.block _ l15).trans HR15.out)
               have HD1q := Lib.hid (HD1.out.keep (w' := wq) (S' := fun _ => True) (fun g hg hl => ⟨trivial, bv.block g hl⟩) bv.size)
               have HD2q := Lib.hid (HD2.out.keep (w' := wq) (S' := fun _ => True) (fun g hg hl => ⟨trivial, bv.block g hl⟩) bv.size)
               clear bv
               have gx5 : wq.cell? ⟨w5.heap.size, 5, none⟩ = some (.int .i64 kb) := cell_of_row _ _ _ _ _ _ HR14q.out
               have gx6 : wq.cell? ⟨w5.heap.size, 6, none⟩ = some (.slice A' xb.length cap') := cell_of_row _ _ _ _ _ _ HR14q.out
               have gx7 : wq.cell? ⟨w5.heap.size, 7, none⟩ = some (.slice B' ks.length cap2') := cell_of_row _ _ _ _ _ _ HR14q.out
               have gx8 : wq.cell? ⟨w5.heap.size, 8, none⟩ = some (.string vb.nm) := cell_of_row _ _ _ _ _ _ HR14q.out
               have gx9 : wq.cell? ⟨w5.heap.size, 9, none⟩ = some (.int .i64 vb.ty.ba) := cell_of_row _ _ _ _ _ _ HR14q.out
               have gx10 : wq.cell? ⟨w5.heap.size, 10, none⟩ = some (.int .i64 vb.ty.st) := cell_of_row _ _ _ _ _ _ HR14q.out
               have gx11 : wq.cell? ⟨w5.heap.size, 11, none⟩ = some (.string vb.ty.rc) := cell_of_row _ _ _ _ _ _ HR14q.out
               have gx12 : wq.cell? ⟨w5.heap.size, 12, none⟩ = some (.int .i64 vb.ln) := cell_of_row _ _ _ _ _ _ HR14q.out
               have gx13 : wq.cell? ⟨w5.heap.size, 13, none⟩ = some (.int .i64 vb.at_) := cell_of_row _ _ _ _ _ _ HR14q.out
               have gx14 : wq.cell? ⟨w5.heap.size, 14, none⟩ = some (.int .i64 ab) := cell_of_row _ _ _ _ _ _ HR14q.out
               have gy5 : wq.cell? ⟨(w5.heap.size + 1), 5, none⟩ = some (.int .i64 kb') := cell_of_row _ _ _ _ _ _ HR15q.out
               have gy6 : wq.cell? ⟨(w5.heap.size + 1), 6, none⟩ = some (.slice A'' xb'.length cap'') := cell_of_row _ _ _ _ _ _ HR15q.out
               have gy7 : wq.cell? ⟨(w5.heap.size + 1), 7, none⟩ = some (.slice B'' ks'.length cap2'') := cell_of_row _ _ _ _ _ _ HR15q.out
               have gy8 : wq.cell? ⟨(w5.heap.size + 1), 8, none⟩ = some (.string vb'.nm) := cell_of_row _ _ _ _ _ _ HR15q.out
               have gy9 : wq.cell? ⟨(w5.heap.size + 1), 9, none⟩ = some (.int .i64 vb'.ty.ba) := cell_of_row _ _ _ _ _ _ HR15q.out
               have gy10 : wq.cell? ⟨(w5.heap.size + 1), 10, none⟩ = some (.int .i64 vb'.ty.st) := cell_of_row _ _ _ _ _ _ HR15q.out
               have gy11 : wq.cell? ⟨(w5.heap.size + 1), 11, none⟩ = some (.string vb'.ty.rc) := cell_of_row _ _ _ _ _ _ HR15q.out
               have gy12 : wq.cell? ⟨(w5.heap.size + 1), 12, none⟩ = some (.int .i64 vb'.ln) := cell_of_row _ _ _ _ _ _ HR15q.out
               have gy13 : wq.cell? ⟨(w5.heap.size + 1), 13, none⟩ = some (.int .i64 vb'.at_) := cell_of_row _ _ _ _ _ _ HR15q.out
               have gy14 : wq.cell? ⟨(w5.heap.size + 1), 14, none⟩ = some (.int .i64 ab') := cell_of_row _ _ _ _ _ _ HR15q.out
               have l14q : w5.heap.size < wq.heap.size := by omega
               have l15q : (w5.heap.size + 1) < wq.heap.size := by omega
               have hza := heap_alloc_new wq (.cells (stL kb (.slice A' xb.length cap') (.slice B' ks.length cap2') vb ab).toArray 44)
               have hz1 := bl1 (wq.alloc (.cells (stL kb (.slice A' xb.length cap') (.slice B' ks.length cap2') vb ab).toArray 44)) (.cells (stL kb' (.slice A'' xb'.length cap'') (.slice B'' ks'.length cap2'') vb' ab').toArray 44) hza (by rw [szA]; omega)
               have hz2 := bn (wq.alloc (.cells (stL kb (.slice A' xb.length cap') (.slice B' ks.length cap2') vb ab).toArray 44)) (.cells (stL kb' (.slice A'' xb'.length cap'') (.slice B'' ks'.length cap2'') vb' ab').toArray 44) (k := wq.heap.size + 1) (by rw [szA])
               have HBz := Lib.hid ((HBq.out.alloc (HBq.out.size) (.cells (stL kb (.slice A' xb.length cap') (.slice B' ks.length cap2') vb ab).toArray 44)).alloc (Nat.le_trans HBq.out.size (by simp only [szA]; omega)) (.cells (stL kb' (.slice A'' xb'.length cap'') (.slice B'' ks'.length cap2'') vb' ab').toArray 44))
               have hk2 : ∀ g, g < wq.heap.size → ((wq.alloc (.cells (stL kb (.slice A' xb.length cap') (.slice B' ks.length cap2') vb ab).toArray 44)).alloc (.cells (stL kb' (.slice A'' xb'.length cap'') (.slice B'' ks'.length cap2'') vb' ab').toArray 44)).heap[g]? = wq.heap[g]? := fun g hg => bl1 (wq.alloc (.cells (stL kb (.slice A' xb.length cap') (.slice B' ks.length cap2') vb ab).toArray 44)) (.cells (stL kb' (.slice A'' xb'.length cap'') (.slice B'' ks'.length cap2'') vb' ab').toArray 44) (bl1 wq (.cells (stL kb (.slice A' xb.length cap') (.slice B' ks.length cap2') vb ab).toArray 44) rfl hg) (by rw [szA]; omega)
               have hs2 : wq.heap.size ≤ ((wq.alloc (.cells (stL kb (.slice A' xb.length cap') (.slice B' ks.length cap2') vb ab).toArray 44)).alloc (.cells (stL kb' (.slice A'' xb'.length cap'') (.slice B'' ks'.length cap2'') vb' ab').toArray 44)).heap.size := by simp only [szA]; omega
               have hst := stmts_any _ [body] (Nat.le_refl _) true [body'] _ _ _ (fun _ => True) (fun _ => True) (LAt.one' (E := stE') (g := wq.heap.size) (HD1q.out.keep (fun g hg hl => ⟨trivial, hk2 g hl⟩) hs2) (range_row hz1) (Array.getElem?_eq_some_iff.1 hz1).1 trivial) (LAt.one' (E := stE') (g := wq.heap.size + 1) (HD2q.out.keep (fun g hg hl => ⟨trivial, hk2 g hl⟩) hs2) (range_row hz2) (Array.getElem?_eq_some_iff.1 hz2).1 trivial)
               clear hza hz1 hz2 hk2 hs2
               by_cases hb : EqSs true [body] [body']
               case neg =>
                have HNE := Lib.hid (show ¬ EqFn true ⟨nm, ⟨ba, st, rc⟩, params, body, ax⟩ ⟨nm, ⟨ba, st, rc⟩, params', body', ax⟩ from fun hE => hb (eqS_one.2 hE.body))
                rw [sameB_false hb] at hst
                clear hb HBWn HEQn
                go_wp2_with (first | ((with_reducible refine bs1 40 44 (.agg stZ) 10 Tryz.underlying40 infoStz (by decide) (by decide) (stL kb (.slice A' xb.length cap') (.slice B' ks.length cap2') vb ab) rfl ?_ ?_); rfl) | ((with_reducible refine bs1 40 44 (.agg stZ) 10 Tryz.underlying40 infoStz (by decide) (by decide) (stL kb' (.slice A'' xb'.length cap'') (.slice B'' ks'.length cap2'') vb' ab') rfl ?_ ?_); rfl))
                refine hst.mono ?_
                rintro e wz ⟨rfl, bz⟩
                go_wp2
                go_ret
                exact ⟨by rw [sameB_false (fun h => EqL.no HXn.out HYn2.out HNE.out h.fs)] <;> rfl, HBv.out.trans ((HBW.out.trans ((HBz.out.trans (bz.mono HBz.out.size)).mono HBW.out.size)).mono HBv.out.size)⟩
               case pos =>
                have HB := Lib.hid (eqS_one.1 hb)
                rw [sameB_true hb] at hst
                clear hb
                go_wp2_with (first | ((with_reducible refine bs1 40 44 (.agg stZ) 10 Tryz.underlying40 infoStz (by decide) (by decide) (stL kb (.slice A' xb.length cap') (.slice B' ks.length cap2') vb ab) rfl ?_ ?_); rfl) | ((with_reducible refine bs1 40 44 (.agg stZ) 10 Tryz.underlying40 infoStz (by decide) (by decide) (stL kb' (.slice A'' xb'.length cap'') (.slice B'' ks'.length cap2'') vb' ab') rfl ?_ ?_); rfl))
                refine hst.mono ?_
                rintro e wk ⟨rfl, bk⟩
                have HBk := Lib.hid (HBz.out.trans (bk.mono HBz.out.size))
                have HOKn := Lib.hid (show EqFn true ⟨nm, ⟨ba, st, rc⟩, params, body, ax⟩ ⟨nm, ⟨ba, st, rc⟩, params', body', ax⟩ from ⟨rfl, rfl, fun _ => rfl, HV.out, HB.out⟩)
                go_wp2
                try simp only [Act.put]
                go_roundw
                case rel =>
                 refine ⟨m + 1, by omega, by rw [HQ3n.out] <;> go_num, Lib.hid (HBk.out), Lib.hid (fun i hi => ?_)⟩
                 by_cases hij : i = m
                 ·rw [hij, getD_of HXn.out, getD_of HYn2.out]; exact HOKn.out
                 ·exact HEQn.out i (by omega)
                case measure => rw [HQ3n.out]; simp [intOf]; omega
        ·have HZ15 := Lib.hid (heap_alloc_new w5.drew (.cells fnZ 46))
         go_simp
         refine hK.out _ _ (hHeld.alloc (hHeld.size) _) (fun hHeld => ?_)
         clear hK K
         try simp only [Act.put, sZa, sZb, sZc]
         refine wpAnyH_ready (rs := [10]) (by kernel_rfl) (by simp) ?_
         refine (AllReadyH.cons (i := 10) (o := ⟨some 14, .alloc 46, 0, "same.go:65", #[], none⟩) rfl (fun K hK => ?_) AllReadyH.nil)
         have HZon := Lib.hid (bl1 (w5.drew.alloc (.cells fnZ 46)) (.cells fnZ 46) HZ15.out (by rw [szA]; show w5.heap.size < w5.heap.size + 1; omega))
         have HZ14 := Lib.hid (bn (w5.drew.alloc (.cells fnZ 46)) (.cells fnZ 46) (k := w5.heap.size + 1) (by rw [szA]; rfl))
         go_simp
         refine hK.out _ _ (hHeld.alloc (hHeld.size) _) (fun hHeld => ?_)
         clear hK K
         try simp only [Act.put, sZa, sZb, sZc]
         refine wpAnyH_ready (rs := [12]) (by kernel_rfl) (by simp) ?_
         refine (AllReadyH.cons (i := 12) (o := ⟨none, .store 46 (.tmp 14) (.tmp 131), 0, "same.go:65", #[⟨10, .data⟩, ⟨4, .data⟩, ⟨0, .phase⟩, ⟨1, .phase⟩, ⟨2, .phase⟩, ⟨3, .phase⟩, ⟨4, .phase⟩, { on := 5, ground := Go.Ground.textOnly Go.Departure.lateStores }, { on := 6, ground := Go.Ground.textOnly Go.Departure.lateStores }, { on := 7, ground := Go.Ground.textOnly Go.Departure.lateStores }, { on := 8, ground := Go.Ground.textOnly Go.Departure.lateStores }, { on := 9, ground := Go.Ground.textOnly Go.Departure.lateStores }, ⟨10, .phase⟩, ⟨11, .phase⟩], none⟩) rfl (fun K hK => ?_) AllReadyH.nil)
         rw [if_pos (by rfl)]
         refine wp_stG 46 (w5.heap.size + 1) cxn.toArray (by rfl) (by rfl) HZ14.out (by rw [List.size_toArray, HCXn.out]; exact sizeFn) (by first | (rw [List.size_toArray, List.size_toArray, HCXn.out] <;> rfl) | (rw [List.size_toArray, HCXn.out] <;> rfl)) HOXn.out ?_
         intro Y14 hY14
         have HY14 := Lib.hid hY14
         clear hY14
         have HB14 := Lib.hid HY14.out.at_
         have HZpn := Lib.hid ((HY14.out.oth w5.heap.size (by omega)).trans HZon.out)
         refine hK.out _ _ (HY14.out.below hHeld (by omega)) (fun hHeld => ?_)
         clear hK K
         try simp only [Act.put, sZa, sZb, sZc]
         refine wpAnyH_ready (rs := [13]) (by kernel_rfl) (by simp) ?_
         refine (AllReadyH.cons (i := 13) (o := ⟨none, .store 46 (.tmp 15) (.tmp 136), 0, "same.go:65", #[⟨11, .data⟩, ⟨9, .data⟩, ⟨12, .chain⟩, ⟨0, .phase⟩, ⟨1, .phase⟩, ⟨2, .phase⟩, ⟨3, .phase⟩, ⟨4, .phase⟩, ⟨5, .phase⟩, ⟨6, .phase⟩, ⟨7, .phase⟩, ⟨8, .phase⟩, ⟨9, .phase⟩, ⟨10, .phase⟩, ⟨11, .phase⟩, ⟨12, .phase⟩], none⟩) rfl (fun K hK => ?_) AllReadyH.nil)
         rw [if_pos (by rfl)]
         refine wp_stG 46 w5.heap.size cyn.toArray (by rfl) (by rfl) HZpn.out (by rw [List.size_toArray, HCYn.out]; exact sizeFn) (by first | (rw [List.size_toArray, List.size_toArray, HCYn.out] <;> rfl) | (rw [List.size_toArray, HCYn.out] <;> rfl)) HOYn.out ?_
         intro Y15 hY15
         have HY15 := Lib.hid hY15
         clear hY15
         have hb14 := (HY15.out.oth (w5.heap.size + 1) (by omega)).trans HB14.out
         have hb15 := HY15.out.at_
         refine hK.out _ _ (HY15.out.below hHeld (by omega)) (fun hHeld => ?_)
         clear hK K
         try simp only [Act.put, sZa, sZb, sZc]
         refine wpAnyH_done (by kernel_rfl) ?_ _
         have HBLn := Lib.hid (HBWn.out.trans (hHeld.mono HBWn.out.size))
         have hYs := hHeld.size
         obtain ⟨vp, db, hp, hd, hc⟩ := fnE.keep HEXn.out (w' := Y15) (S' := S1) (fun g hg hl => ⟨hg, hHeld.block g hl⟩) hHeld.size
         obtain ⟨Ap, cp, rfl⟩ := hp.slice
         obtain ⟨nm, ⟨ba, st, rc⟩, params, body, ax⟩ := xn
         have HD1 := Lib.hid (show StAt Y15 S1 body db from hd)
         obtain ⟨kb, xb, ks, vb, ab, A', cap', B', cap2', hbe, rfl, hxe, hxk⟩ := StAt.inv (show StAt Y15 S1 body db from hd)
         clear hxe hxk hd hbe
         subst hc
         obtain ⟨vp, db, hp', hd, hc'⟩ := fnE.keep HEYn.out (w' := Y15) (S' := S2) (fun g hg hl => ⟨hg, hHeld.block g hl⟩) hHeld.size
         obtain ⟨Ap', cp', rfl⟩ := hp'.slice
         obtain ⟨nm', ⟨ba', st', rc'⟩, params', body', ay⟩ := yn
         have HD2 := Lib.hid (show StAt Y15 S2 body' db from hd)
         obtain ⟨kb', xb', ks', vb', ab', A'', cap'', B'', cap2'', hbe', rfl, hxe, hxk⟩ := StAt.inv (show StAt Y15 S2 body' db from hd)
         clear hxe hxk hd hbe'
         subst hc'
         have fx0 : Y15.cell? ⟨(w5.heap.size + 1), 0, none⟩ = some (.string nm) := cell_of_row _ _ _ _ _ _ hb14
         have fx1 : Y15.cell? ⟨(w5.heap.size + 1), 1, none⟩ = some (.int .i64 ba) := cell_of_row _ _ _ _ _ _ hb14
         have fx2 : Y15.cell? ⟨(w5.heap.size + 1), 2, none⟩ = some (.int .i64 st) := cell_of_row _ _ _ _ _ _ hb14
         have fx3 : Y15.cell? ⟨(w5.heap.size + 1), 3, none⟩ = some (.string rc) := cell_of_row _ _ _ _ _ _ hb14
         have fx4 : Y15.cell? ⟨(w5.heap.size + 1), 4, none⟩ = some (.slice Ap params.length cp) := cell_of_row _ _ _ _ _ _ hb14
         have fx5 : Y15.cell? ⟨(w5.heap.size + 1), 5, none⟩ = some (.int .i64 kb) := cell_of_row _ _ _ _ _ _ hb14
         have fx6 : Y15.cell? ⟨(w5.heap.size + 1), 6, none⟩ = some (.slice A' xb.length cap') := cell_of_row _ _ _ _ _ _ hb14
         have fx7 : Y15.cell? ⟨(w5.heap.size + 1), 7, none⟩ = some (.slice B' ks.length cap2') := cell_of_row _ _ _ _ _ _ hb14
         have fx8 : Y15.cell? ⟨(w5.heap.size + 1), 8, none⟩ = some (.string vb.nm) := cell_of_row _ _ _ _ _ _ hb14
         have fx9 : Y15.cell? ⟨(w5.heap.size + 1), 9, none⟩ = some (.int .i64 vb.ty.ba) := cell_of_row _ _ _ _ _ _ hb14
         have fx10 : Y15.cell? ⟨(w5.heap.size + 1), 10, none⟩ = some (.int .i64 vb.ty.st) := cell_of_row _ _ _ _ _ _ hb14
         have fx11 : Y15.cell? ⟨(w5.heap.size + 1), 11, none⟩ = some (.string vb.ty.rc) := cell_of_row _ _ _ _ _ _ hb14
         have fx12 : Y15.cell? ⟨(w5.heap.size + 1), 12, none⟩ = some (.int .i64 vb.ln) := cell_of_row _ _ _ _ _ _ hb14
         have fx13 : Y15.cell? ⟨(w5.heap.size + 1), 13, none⟩ = some (.int .i64 vb.at_) := cell_of_row _ _ _ _ _ _ hb14
         have fx14 : Y15.cell? ⟨(w5.heap.size + 1), 14, none⟩ = some (.int .i64 ab) := cell_of_row _ _ _ _ _ _ hb14
         have fx15 : Y15.cell? ⟨(w5.heap.size + 1), 15, none⟩ = some (.int .i64 ax) := cell_of_row _ _ _ _ _ _ hb14
         have fy0 : Y15.cell? ⟨w5.heap.size, 0, none⟩ = some (.string nm') := cell_of_row _ _ _ _ _ _ hb15
         have fy1 : Y15.cell? ⟨w5.heap.size, 1, none⟩ = some (.int .i64 ba') := cell_of_row _ _ _ _ _ _ hb15
         have fy2 : Y15.cell? ⟨w5.heap.size, 2, none⟩ = some (.int .i64 st') := cell_of_row _ _ _ _ _ _ hb15
         have fy3 : Y15.cell? ⟨w5.heap.size, 3, none⟩ = some (.string rc') := cell_of_row _ _ _ _ _ _ hb15
         have fy4 : Y15.cell? ⟨w5.heap.size, 4, none⟩ = some (.slice Ap' params'.length cp') := cell_of_row _ _ _ _ _ _ hb15
         have fy5 : Y15.cell? ⟨w5.heap.size, 5, none⟩ = some (.int .i64 kb') := cell_of_row _ _ _ _ _ _ hb15
         have fy6 : Y15.cell? ⟨w5.heap.size, 6, none⟩ = some (.slice A'' xb'.length cap'') := cell_of_row _ _ _ _ _ _ hb15
         have fy7 : Y15.cell? ⟨w5.heap.size, 7, none⟩ = some (.slice B'' ks'.length cap2'') := cell_of_row _ _ _ _ _ _ hb15
         have fy8 : Y15.cell? ⟨w5.heap.size, 8, none⟩ = some (.string vb'.nm) := cell_of_row _ _ _ _ _ _ hb15
         have fy9 : Y15.cell? ⟨w5.heap.size, 9, none⟩ = some (.int .i64 vb'.ty.ba) := cell_of_row _ _ _ _ _ _ hb15
         have fy10 : Y15.cell? ⟨w5.heap.size, 10, none⟩ = some (.int .i64 vb'.ty.st) := cell_of_row _ _ _ _ _ _ hb15
         have fy11 : Y15.cell? ⟨w5.heap.size, 11, none⟩ = some (.string vb'.ty.rc) := cell_of_row _ _ _ _ _ _ hb15
         have fy12 : Y15.cell? ⟨w5.heap.size, 12, none⟩ = some (.int .i64 vb'.ln) := cell_of_row _ _ _ _ _ _ hb15
         have fy13 : Y15.cell? ⟨w5.heap.size, 13, none⟩ = some (.int .i64 vb'.at_) := cell_of_row _ _ _ _ _ _ hb15
         have fy14 : Y15.cell? ⟨w5.heap.size, 14, none⟩ = some (.int .i64 ab') := cell_of_row _ _ _ _ _ _ hb15
         have fy15 : Y15.cell? ⟨w5.heap.size, 15, none⟩ = some (.int .i64 ay) := cell_of_row _ _ _ _ _ _ hb15
         have HR14 := Lib.hid hb14
         have HR15 := Lib.hid hb15
         have l14 := (Array.getElem?_eq_some_iff.1 hb14).1
         have l15 := (Array.getElem?_eq_some_iff.1 hb15).1
         have HP1 := Lib.hid (show LAt vaE Y15 S1 params (.slice Ap params.length cp) from hp)
         have HP2 := Lib.hid (show LAt vaE Y15 S2 params' (.slice Ap' params'.length cp') from hp')
         clear hp hp' hb14 hb15 hHeld HEXn HEYn HRXn HRYn HCXn HCYn HOXn HOYn d1n
         by_cases hne : nm = nm'
         case neg =>
          have HNE := Lib.hid (show ¬ EqFn true ⟨nm, ⟨ba, st, rc⟩, params, body, ax⟩ ⟨nm', ⟨ba', st', rc'⟩, params', body', ay⟩ from fun hE => hne hE.nm)
          have n1 := strEqF hne
          have n2 := strNeT hne
          clear hne
          clear HBWn HEQn
          go_wp2
          go_ret
          exact ⟨by rw [sameB_false (fun h => EqL.no HXn.out HYn2.out HNE.out h.fs)] <;> rfl, HBv.out.trans ((HBW.out.trans ((HBLn.out).mono HBW.out.size)).mono HBv.out.size)⟩
         case pos =>
          subst hne
          by_cases hne : ba = ba'
          case neg =>
           have HNE := Lib.hid (show ¬ EqFn true ⟨nm, ⟨ba, st, rc⟩, params, body, ax⟩ ⟨nm, ⟨ba', st', rc'⟩, params', body', ay⟩ from fun hE => hne (by have := hE.ty; injection this))
           have n1 : (ba == ba') = false := beq_eq_false_iff_ne.mpr hne
           have n2 : (ba != ba') = true := bne_iff_ne.mpr hne
           clear hne
           clear HBWn HEQn
           go_wp2
           go_ret
           exact ⟨by rw [sameB_false (fun h => EqL.no HXn.out HYn2.out HNE.out h.fs)] <;> rfl, HBv.out.trans ((HBW.out.trans ((HBLn.out).mono HBW.out.size)).mono HBv.out.size)⟩
          case pos =>
           subst hne
           by_cases hne : st = st'
           case neg =>
            have HNE := Lib.hid (show ¬ EqFn true ⟨nm, ⟨ba, st, rc⟩, params, body, ax⟩ ⟨nm, ⟨ba, st', rc'⟩, params', body', ay⟩ from fun hE => hne (by have := hE.ty; injection this))
            have n1 : (st == st') = false := beq_eq_false_iff_ne.mpr hne
            have n2 : (st != st') = true := bne_iff_ne.mpr hne
            clear hne
            clear HBWn HEQn
            go_wp2
            go_ret
            exact ⟨by rw [sameB_false (fun h => EqL.no HXn.out HYn2.out HNE.out h.fs)] <;> rfl, HBv.out.trans ((HBW.out.trans ((HBLn.out).mono HBW.out.size)).mono HBv.out.size)⟩
           case pos =>
            subst hne
            by_cases hne : rc = rc'
            case neg =>
             have HNE := Lib.hid (show ¬ EqFn true ⟨nm, ⟨ba, st, rc⟩, params, body, ax⟩ ⟨nm, ⟨ba, st, rc'⟩, params', body', ay⟩ from fun hE => hne (by have := hE.ty; injection this))
             have n1 := strEqF hne
             have n2 := strNeT hne
             clear hne
             clear HBWn HEQn
             go_wp2
             go_ret
             exact ⟨by rw [sameB_false (fun h => EqL.no HXn.out HYn2.out HNE.out h.fs)] <;> rfl, HBv.out.trans ((HBW.out.trans ((HBLn.out).mono HBW.out.size)).mono HBv.out.size)⟩
            case pos =>
             subst hne
             by_cases hne : ax = ay
             case neg =>
              have HNE := Lib.hid (show ¬ EqFn true ⟨nm, ⟨ba, st, rc⟩, params, body, ax⟩ ⟨nm, ⟨ba, st, rc⟩, params', body', ay⟩ from fun hE => hne (hE.pa rfl))
              have n1 : ((ax : Int) == (ay : Int)) = false := beq_eq_false_iff_ne.mpr (by omega)
              have n2 : ((ax : Int) != (ay : Int)) = true := bne_iff_ne.mpr (by omega)
              clear hne
              clear HBWn HEQn
              go_wp2
              go_ret
              exact ⟨by rw [sameB_false (fun h => EqL.no HXn.out HYn2.out HNE.out h.fs)] <;> rfl, HBv.out.trans ((HBW.out.trans ((HBLn.out).mono HBW.out.size)).mono HBv.out.size)⟩
             case pos =>
              subst hne
              have hva := vars_any params true params' _ _ _ S1 S2 HP1.out HP2.out
              by_cases hv : EqVas true params params'
              case neg =>
               have HNE := Lib.hid (show ¬ EqFn true ⟨nm, ⟨ba, st, rc⟩, params, body, ax⟩ ⟨nm, ⟨ba, st, rc⟩, params', body', ax⟩ from fun hE => hv hE.params)
               rw [sameB_false hv] at hva
               clear hv HBWn HEQn
               go_wp2_with fail
               refine hva.mono ?_
               rintro e wz ⟨rfl, bz⟩
               go_wp2
               go_ret
               exact ⟨by rw [sameB_false (fun h => EqL.no HXn.out HYn2.out HNE.out h.fs)] <;> rfl, HBv.out.trans ((HBW.out.trans ((HBLn.out.trans (bz.mono HBLn.out.size)).mono HBW.out.size)).mono HBv.out.size)⟩
              case pos =>
               have HV := Lib.hid hv
               rw [sameB_true hv] at hva
               clear hv
               go_wp2_with fail
               refine hva.mono ?_
               rintro e wq ⟨rfl, bv⟩
               have HBq := Lib.hid (HBLn.out.trans (bv.mono HBLn.out.size))
               have lq := bv.size
               have HR14q := Lib.hid ((bv.block _ l14).trans HR14.out)
               have HR15q := Lib.hid ((bv.block _ l15).trans HR15.out)
               have HD1q := Lib.hid (HD1.out.keep (w' := wq) (S' := fun _ => True) (fun g hg hl => ⟨trivial, bv.block g hl⟩) bv.size)
               have HD2q := Lib.hid (HD2.out.keep (w' := wq) (S' := fun _ => True) (fun g hg hl => ⟨trivial, bv.block g hl⟩) bv.size)
               clear bv
               have gx5 : wq.cell? ⟨(w5.heap.size + 1), 5, none⟩ = some (.int .i64 kb) := cell_of_row _ _ _ _ _ _ HR14q.out
               have gx6 : wq.cell? ⟨(w5.heap.size + 1), 6, none⟩ = some (.slice A' xb.length cap') := cell_of_row _ _ _ _ _ _ HR14q.out
               have gx7 : wq.cell? ⟨(w5.heap.size + 1), 7, none⟩ = some (.slice B' ks.length cap2') := cell_of_row _ _ _ _ _ _ HR14q.out
               have gx8 : wq.cell? ⟨(w5.heap.size + 1), 8, none⟩ = some (.string vb.nm) := cell_of_row _ _ _ _ _ _ HR14q.out
               have gx9 : wq.cell? ⟨(w5.heap.size + 1), 9, none⟩ = some (.int .i64 vb.ty.ba) := cell_of_row _ _ _ _ _ _ HR14q.out
               have gx10 : wq.cell? ⟨(w5.heap.size + 1), 10, none⟩ = some (.int .i64 vb.ty.st) := cell_of_row _ _ _ _ _ _ HR14q.out
               have gx11 : wq.cell? ⟨(w5.heap.size + 1), 11, none⟩ = some (.string vb.ty.rc) := cell_of_row _ _ _ _ _ _ HR14q.out
               have gx12 : wq.cell? ⟨(w5.heap.size + 1), 12, none⟩ = some (.int .i64 vb.ln) := cell_of_row _ _ _ _ _ _ HR14q.out
               have gx13 : wq.cell? ⟨(w5.heap.size + 1), 13, none⟩ = some (.int .i64 vb.at_) := cell_of_row _ _ _ _ _ _ HR14q.out
               have gx14 : wq.cell? ⟨(w5.heap.size + 1), 14, none⟩ = some (.int .i64 ab) := cell_of_row _ _ _ _ _ _ HR14q.out
               have gy5 : wq.cell? ⟨w5.heap.size, 5, none⟩ = some (.int .i64 kb') := cell_of_row _ _ _ _ _ _ HR15q.out
               have gy6 : wq.cell? ⟨w5.heap.size, 6, none⟩ = some (.slice A'' xb'.length cap'') := cell_of_row _ _ _ _ _ _ HR15q.out
               have gy7 : wq.cell? ⟨w5.heap.size, 7, none⟩ = some (.slice B'' ks'.length cap2'') := cell_of_row _ _ _ _ _ _ HR15q.out
               have gy8 : wq.cell? ⟨w5.heap.size, 8, none⟩ = some (.string vb'.nm) := cell_of_row _ _ _ _ _ _ HR15q.out
               have gy9 : wq.cell? ⟨w5.heap.size, 9, none⟩ = some (.int .i64 vb'.ty.ba) := cell_of_row _ _ _ _ _ _ HR15q.out
               have gy10 : wq.cell? ⟨w5.heap.size, 10, none⟩ = some (.int .i64 vb'.ty.st) := cell_of_row _ _ _ _ _ _ HR15q.out
               have gy11 : wq.cell? ⟨w5.heap.size, 11, none⟩ = some (.string vb'.ty.rc) := cell_of_row _ _ _ _ _ _ HR15q.out
               have gy12 : wq.cell? ⟨w5.heap.size, 12, none⟩ = some (.int .i64 vb'.ln) := cell_of_row _ _ _ _ _ _ HR15q.out
               have gy13 : wq.cell? ⟨w5.heap.size, 13, none⟩ = some (.int .i64 vb'.at_) := cell_of_row _ _ _ _ _ _ HR15q.out
               have gy14 : wq.cell? ⟨w5.heap.size, 14, none⟩ = some (.int .i64 ab') := cell_of_row _ _ _ _ _ _ HR15q.out
               have l14q : (w5.heap.size + 1) < wq.heap.size := by omega
               have l15q : w5.heap.size < wq.heap.size := by omega
               have hza := heap_alloc_new wq (.cells (stL kb (.slice A' xb.length cap') (.slice B' ks.length cap2') vb ab).toArray 44)
               have hz1 := bl1 (wq.alloc (.cells (stL kb (.slice A' xb.length cap') (.slice B' ks.length cap2') vb ab).toArray 44)) (.cells (stL kb' (.slice A'' xb'.length cap'') (.slice B'' ks'.length cap2'') vb' ab').toArray 44) hza (by rw [szA]; omega)
               have hz2 := bn (wq.alloc (.cells (stL kb (.slice A' xb.length cap') (.slice B' ks.length cap2') vb ab).toArray 44)) (.cells (stL kb' (.slice A'' xb'.length cap'') (.slice B'' ks'.length cap2'') vb' ab').toArray 44) (k := wq.heap.size + 1) (by rw [szA])
               have HBz := Lib.hid ((HBq.out.alloc (HBq.out.size) (.cells (stL kb (.slice A' xb.length cap') (.slice B' ks.length cap2') vb ab).toArray 44)).alloc (Nat.le_trans HBq.out.size (by simp only [szA]; omega)) (.cells (stL kb' (.slice A'' xb'.length cap'') (.slice B'' ks'.length cap2'') vb' ab').toArray 44))
               have hk2 : ∀ g, g < wq.heap.size → ((wq.alloc (.cells (stL kb (.slice A' xb.length cap') (.slice B' ks.length cap2') vb ab).toArray 44)).alloc (.cells (stL kb' (.slice A'' xb'.length cap'') (.slice B'' ks'.length cap2'') vb' ab').toArray 44)).heap[g]? = wq.heap[g]? := fun g hg => bl1 (wq.alloc (.cells (stL kb (.slice A' xb.length cap') (.slice B' ks.length cap2') vb ab).toArray 44)) (.cells (stL kb' (.slice A'' xb'.length cap'') (.slice B'' ks'.length cap2'') vb' ab').toArray 44) (bl1 wq (.cells (stL kb (.slice A' xb.length cap') (.slice B' ks.length cap2') vb ab).toArray 44) rfl hg) (by rw [szA]; omega)
               have hs2 : wq.heap.size ≤ ((wq.alloc (.cells (stL kb (.slice A' xb.length cap') (.slice B' ks.length cap2') vb ab).toArray 44)).alloc (.cells (stL kb' (.slice A'' xb'.length cap'') (.slice B'' ks'.length cap2'') vb' ab').toArray 44)).heap.size := by simp only [szA]; omega
               have hst := stmts_any _ [body] (Nat.le_refl _) true [body'] _ _ _ (fun _ => True) (fun _ => True) (LAt.one' (E := stE') (g := wq.heap.size) (HD1q.out.keep (fun g hg hl => ⟨trivial, hk2 g hl⟩) hs2) (range_row hz1) (Array.getElem?_eq_some_iff.1 hz1).1 trivial) (LAt.one' (E := stE') (g := wq.heap.size + 1) (HD2q.out.keep (fun g hg hl => ⟨trivial, hk2 g hl⟩) hs2) (range_row hz2) (Array.getElem?_eq_some_iff.1 hz2).1 trivial)
               clear hza hz1 hz2 hk2 hs2
               by_cases hb : EqSs true [body] [body']
               case neg =>
                have HNE := Lib.hid (show ¬ EqFn true ⟨nm, ⟨ba, st, rc⟩, params, body, ax⟩ ⟨nm, ⟨ba, st, rc⟩, params', body', ax⟩ from fun hE => hb (eqS_one.2 hE.body))
                rw [sameB_false hb] at hst
                clear hb HBWn HEQn
                go_wp2_with (first | ((with_reducible refine bs1 40 44 (.agg stZ) 10 Tryz.underlying40 infoStz (by decide) (by decide) (stL kb (.slice A' xb.length cap') (.slice B' ks.length cap2') vb ab) rfl ?_ ?_); rfl) | ((with_reducible refine bs1 40 44 (.agg stZ) 10 Tryz.underlying40 infoStz (by decide) (by decide) (stL kb' (.slice A'' xb'.length cap'') (.slice B'' ks'.length cap2'') vb' ab') rfl ?_ ?_); rfl))
                refine hst.mono ?_
                rintro e wz ⟨rfl, bz⟩
                go_wp2
                go_ret
                exact ⟨by rw [sameB_false (fun h => EqL.no HXn.out HYn2.out HNE.out h.fs)] <;> rfl, HBv.out.trans ((HBW.out.trans ((HBz.out.trans (bz.mono HBz.out.size)).mono HBW.out.size)).mono HBv.out.size)⟩
               case pos =>
                have HB := Lib.hid (eqS_one.1 hb)
                rw [sameB_true hb] at hst
                clear hb
                go_wp2_with (first | ((with_reducible refine bs1 40 44 (.agg stZ) 10 Tryz.underlying40 infoStz (by decide) (by decide) (stL kb (.slice A' xb.length cap') (.slice B' ks.length cap2') vb ab) rfl ?_ ?_); rfl) | ((with_reducible refine bs1 40 44 (.agg stZ) 10 Tryz.underlying40 infoStz (by decide) (by decide) (stL kb' (.slice A'' xb'.length cap'') (.slice B'' ks'.length cap2'') vb' ab') rfl ?_ ?_); rfl))
                refine hst.mono ?_
                rintro e wk ⟨rfl, bk⟩
                have HBk := Lib.hid (HBz.out.trans (bk.mono HBz.out.size))
                have HOKn := Lib.hid (show EqFn true ⟨nm, ⟨ba, st, rc⟩, params, body, ax⟩ ⟨nm, ⟨ba, st, rc⟩, params', body', ax⟩ from ⟨rfl, rfl, fun _ => rfl, HV.out, HB.out⟩)
                go_wp2
                try simp only [Act.put]
                go_roundw
                case rel =>
                 refine ⟨m + 1, by omega, by rw [HQ3n.out] <;> go_num, Lib.hid (HBk.out), Lib.hid (fun i hi => ?_)⟩
                 by_cases hij : i = m
                 ·rw [hij, getD_of HXn.out, getD_of HYn2.out]; exact HOKn.out
                 ·exact HEQn.out i (by omega)
                case measure => rw [HQ3n.out]; simp [intOf]; omega
       case neg =>
        have d1n : decide ((m : Int) < (p.fs.length : Int)) = false := decide_eq_false (by omega)
        go_wp2
        go_ret
        exact ⟨by rw [sameB_true ⟨HSS.out, HV.out, HLENn.out, fun i hi => HEQn.out i (by omega)⟩] <;> rfl, HBv.out.trans ((HBW.out.trans (HBWn.out.mono HBW.out.size)).mono HBv.out.size)⟩
end Go.Proofs.YtfjobnljdkiihaaGreatDoor
