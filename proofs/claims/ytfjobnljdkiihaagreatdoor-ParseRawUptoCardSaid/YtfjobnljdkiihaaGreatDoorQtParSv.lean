/- The document's comparison of variables. Conditions: each theorem's. -/
import Derived.Test.YtfjobnljdkiihaaGreatDoorQtParSm
namespace Go.Proofs.YtfjobnljdkiihaaGreatDoor
open Go.RowKit Go.Maps
set_option linter.unusedVariables false
set_option linter.unusedSimpArgs false
set_option maxRecDepth 100000
open Lx Pa
namespace Pa
structure EqVa (pl : Bool) (x y : PVa) : Prop where
 nm : x.nm = y.nm
 ty : x.ty = y.ty
 ln : x.ln = y.ln
 pa : pl = true → x.at_ = y.at_
def EqVas (pl : Bool) (l1 l2 : List PVa) : Prop := l1.length = l2.length ∧ ∀ i, i < l1.length → EqVa pl (l1.getD i va0) (l2.getD i va0)
theorem notVas {pl : Bool} {l1 l2 : List PVa} {j : Nat} {x y : PVa} (hx : l1[j]? = some x) (hy : l2[j]? = some y) (h : ¬ EqVa pl x y) : ¬ EqVas pl l1 l2 := fun hh => h (by
 have := hh.2 j (List.getElem?_eq_some_iff.1 hx).1
 rwa [getD_of hx, getD_of hy] at this)
theorem eqVa_iff {pl : Bool} {a a' b b' : ByteArray} {n n' m m' k k' : Int} {p p' : Nat} : EqVa pl ⟨a, ⟨n, m, b⟩, k, p⟩ ⟨a', ⟨n', m', b'⟩, k', p'⟩ ↔ a = a' ∧ n = n' ∧ m = m' ∧ b = b' ∧ k = k' ∧ (pl = true → p = p') := by
 constructor
 ·rintro ⟨h1, h2, h3, h4⟩
  injection h2 with h5 h6 h7
  exact ⟨h1, h5, h6, h7, h3, h4⟩
 ·rintro ⟨rfl, rfl, rfl, rfl, rfl, h⟩
  exact ⟨rfl, rfl, rfl, h⟩
end Pa
def VarsC (l1 : List PVa) : Prop := ∀ (pl : Bool) (l2 : List PVa) (v1 v2 : Value) (w : World) (S1 S2 : Nat → Prop), LAt vaE w S1 l1 v1 → LAt vaE w S2 l2 v2 →
 Calls Tryz.prog 18 #[v1, v2, .bool pl] w fun e w' => e = .returned (.bool (sameB (EqVas pl l1 l2))) ∧ Below w.heap.size w w'
set_option maxHeartbeats 32000000 in
theorem vars_any (l1 : List PVa) : VarsC l1 := by
 intro pl l2 v1 v2 w S1 S2 hL1 hL2
 obtain ⟨A1, c1, rfl⟩ := hL1.slice
 obtain ⟨A2, c2, rfl⟩ := hL2.slice
 have HL1 := Lib.hid hL1
 have HL2 := Lib.hid hL2
 clear hL1 hL2
 by_cases hlen : l1.length = l2.length
 ·have el : ((l1.length : Int) != (l2.length : Int)) = false := by rw [hlen]; simp
  have HLEN := Lib.hid hlen
  clear hlen
  go_enter Tryz.func18, Tryz.ntmps18
  go_wp2
  go_loopw [17] (fun vi wr => ∃ j : Nat, j ≤ l1.length ∧ vi = .int .i64 j ∧ Hid (Below w.heap.size w wr) ∧ Hid (∀ i, i < j → EqVa pl (l1.getD i va0) (l2.getD i va0))) (fun vi _ => l1.length - (intOf vi).toNat)
  case atStart => exact ⟨0, by omega, rfl, Lib.hid (Below.refl _ _), Lib.hid (fun i hi => by omega)⟩
  case round =>
   obtain ⟨j, hj, rfl, HBW, HEQ⟩ := hrel
   by_cases hlt : j < l1.length
   ·have d1 : decide ((j : Int) < (l1.length : Int)) = true := decide_eq_true (by omega)
    have hlt2 : j < l2.length := by rw [← HLEN.out]; exact hlt
    have hx : l1[j]? = some (l1[j]'hlt) := List.getElem?_eq_getElem hlt
    have hy : l2[j]? = some (l2[j]'hlt2) := List.getElem?_eq_getElem hlt2
    have hK1 : LAt vaE wr S1 l1 (.slice A1 l1.length c1) := HL1.out.keep (fun g hg hl => ⟨hg, HBW.out.block g hl⟩) HBW.out.size
    have hK2 : LAt vaE wr S2 l2 (.slice A2 l2.length c2) := HL2.out.keep (fun g hg hl => ⟨hg, HBW.out.block g hl⟩) HBW.out.size
    obtain ⟨g1, o1, cp1, cx, e1, p1, m1, _, b1, hX, r1⟩ := hK1.get j hx
    obtain ⟨g2, o2, cp2, cy, e2, p2, m2, _, b2, hY', r2⟩ := hK2.get j hy
    injection e1 with e1 _ e1'
    injection e2 with e2 _ e2'
    generalize hxx : l1[j]'hlt = x at *
    generalize hyy : l2[j]'hlt2 = y at *
    have HX := Lib.hid hx
    have HY2 := Lib.hid hy
    have HCX := Lib.hid (vaE.len hX)
    have HCY := Lib.hid (vaE.len hY')
    have HOX := Lib.hid (show cx.toArray.all (·.oneCell') = true from (show cx = vaL _ from hX) ▸ oneVa _)
    have HOY := Lib.hid (show cy.toArray.all (·.oneCell') = true from (show cy = vaL _ from hY') ▸ oneVa _)
    have HEX := Lib.hid hX
    have HEY := Lib.hid hY'
    have RX : wr.rangeAt g1 (o1 + j * 6) cx := fun k u hu => by have := r1 k u hu; rw [show o1 + (j * vaE.z + k) = o1 + j * 6 + k from by show o1 + (j * 6 + k) = _; omega] at this; exact this
    have RY : wr.rangeAt g2 (o2 + j * 6) cy := fun k u hu => by have := r2 k u hu; rw [show o2 + (j * vaE.z + k) = o2 + j * 6 + k from by show o2 + (j * 6 + k) = _; omega] at this; exact this
    have HRX := Lib.hid RX
    have HRY := Lib.hid RY
    subst e1 e2 e1' e2'
    clear hX hY' r1 r2 hK1 hK2 RX RY hxx hyy hx hy
    have q1 : (j : Int) < (l1.length : Int) := by omega
    have q2 : (j : Int) < (l2.length : Int) := by omega
    have q0 : (0 : Int) ≤ (j : Int) := by omega
    have HQ3 : Hid (wrap64 ((j : Int) + 1) = (j : Int) + 1) := Lib.hid (by unfold maxLen at m1 m2; unfold wrap64; omega)
    go_wp2_with fail
    refine wp_region_held_drew (S := fun W : World => Below wr.heap.size wr W) (by kernel_rfl) ((Below.refl _ _).drew) (fun hHeld => ?_)
    refine wpAnyH_take (i := 0) (oi := ⟨some 20, .move (.tmp 0), 24, "same.go:25", #[], none⟩) (v := .slice (some ⟨g1, o1, none⟩) l1.length c1) rfl (by kernel_rfl) (by kernel_rfl) (by kernel_rfl) (fun _ _ _ h => h) (Or.inl ⟨by rfl, ?hy1⟩) (by assumption) ?_
    case hy1 => ((intro W hSW; (try dsimp only at hSW); go_simp); (try with_reducible rfl); (try exact ⟨rfl, rfl, rfl⟩))
    simp only [Act.put, sZa, sZb, sZc]
    refine wpAnyH_take (i := 1) (oi := ⟨some 21, .move (.tmp 7), 3, "same.go:25", #[], none⟩) (v := .int .i64 j) rfl (by kernel_rfl) (by kernel_rfl) (by kernel_rfl) (fun _ _ _ h => h) (Or.inl ⟨by rfl, ?hy2⟩) (by assumption) ?_
    case hy2 => ((intro W hSW; (try dsimp only at hSW); go_simp); (try with_reducible rfl); (try exact ⟨rfl, rfl, rfl⟩))
    simp only [Act.put, sZa, sZb, sZc]
    refine wpAnyH_take (i := 2) (oi := ⟨some 22, .indexAddr 24 (.tmp 20) (.tmp 21), 0, "same.go:25", #[⟨0, .data⟩, ⟨1, .data⟩], none⟩) (v := .pointer (some ⟨g1, o1 + j * 6, none⟩)) rfl (by kernel_rfl) (by kernel_rfl) (by kernel_rfl) (fun _ _ _ h => h) (Or.inl ⟨by rfl, ?hy3⟩) (by assumption) ?_
    case hy3 => ((intro W hSW; (try dsimp only at hSW); go_simp); (try with_reducible rfl); (try exact ⟨rfl, rfl, rfl⟩))
    simp only [Act.put, sZa, sZb, sZc]
    refine wpAnyH_take (i := 3) (oi := ⟨some 23, .load 42 (.tmp 22), 42, "same.go:25", #[⟨2, .data⟩], none⟩) (v := .agg cx.toArray) rfl (by kernel_rfl) (by kernel_rfl) (by kernel_rfl) (fun _ _ _ h => h) (yieldsIf_load_mid (by rfl) 42 (.tmp 22) rfl g1 (o1 + j * 6) rfl cx _ (fun W hW => (fun k u hu => (World.cell?_of_block (w := wr) (hW.block g1 b1)).trans (HRX.out k u hu))) Tryz.underlying42 rfl (by rw [HCX.out]; exact sizeVa)) (by assumption) ?_
    simp only [Act.put, sZa, sZb, sZc]
    refine wpAnyH_take (i := 4) (oi := ⟨some 24, .move (.tmp 1), 24, "same.go:25", #[{ on := 10, ground := Go.Ground.gcOnly Go.Departure.lateStores }], none⟩) (v := .slice (some ⟨g2, o2, none⟩) l2.length c2) rfl (by kernel_rfl) (by kernel_rfl) (by kernel_rfl) (fun _ _ _ h => h) (Or.inl ⟨by rfl, ?hy5⟩) (by assumption) ?_
    case hy5 => ((intro W hSW; (try dsimp only at hSW); go_simp); (try with_reducible rfl); (try exact ⟨rfl, rfl, rfl⟩))
    simp only [Act.put, sZa, sZb, sZc]
    refine wpAnyH_take (i := 5) (oi := ⟨some 25, .move (.tmp 7), 3, "same.go:25", #[{ on := 10, ground := Go.Ground.gcOnly Go.Departure.lateStores }], none⟩) (v := .int .i64 j) rfl (by kernel_rfl) (by kernel_rfl) (by kernel_rfl) (fun _ _ _ h => h) (Or.inl ⟨by rfl, ?hy6⟩) (by assumption) ?_
    case hy6 => ((intro W hSW; (try dsimp only at hSW); go_simp); (try with_reducible rfl); (try exact ⟨rfl, rfl, rfl⟩))
    simp only [Act.put, sZa, sZb, sZc]
    refine wpAnyH_take (i := 6) (oi := ⟨some 26, .indexAddr 24 (.tmp 24) (.tmp 25), 0, "same.go:25", #[⟨4, .data⟩, ⟨5, .data⟩, { on := 10, ground := Go.Ground.gcOnly Go.Departure.lateStores }], none⟩) (v := .pointer (some ⟨g2, o2 + j * 6, none⟩)) rfl (by kernel_rfl) (by kernel_rfl) (by kernel_rfl) (fun _ _ _ h => h) (Or.inl ⟨by rfl, ?hy7⟩) (by assumption) ?_
    case hy7 => ((intro W hSW; (try dsimp only at hSW); go_simp); (try with_reducible rfl); (try exact ⟨rfl, rfl, rfl⟩))
    simp only [Act.put, sZa, sZb, sZc]
    refine wpAnyH_take (i := 7) (oi := ⟨some 27, .load 42 (.tmp 26), 42, "same.go:25", #[⟨6, .data⟩, { on := 10, ground := Go.Ground.gcOnly Go.Departure.lateStores }], none⟩) (v := .agg cy.toArray) rfl (by kernel_rfl) (by kernel_rfl) (by kernel_rfl) (fun _ _ _ h => h) (yieldsIf_load_mid (by rfl) 42 (.tmp 26) rfl g2 (o2 + j * 6) rfl cy _ (fun W hW => (fun k u hu => (World.cell?_of_block (w := wr) (hW.block g2 b2)).trans (HRY.out k u hu))) Tryz.underlying42 rfl (by rw [HCY.out]; exact sizeVa)) (by assumption) ?_
    simp only [Act.put, sZa, sZb, sZc]
    refine wpAnyH_ready (rs := [8, 9]) (by kernel_rfl) (by simp) ?_
    refine (AllReadyH.cons (i := 8) (o := ⟨some 8, .alloc 42, 0, "same.go:25", #[], none⟩) rfl (fun K hK => ?_) (AllReadyH.cons (i := 9) (o := ⟨some 9, .alloc 42, 0, "same.go:25", #[], none⟩) rfl (fun K hK => ?_) AllReadyH.nil))
    ·have HZ8 := Lib.hid (heap_alloc_new wr.drew (.cells vaZ 42))
     go_simp
     refine hK.out _ _ (hHeld.alloc (hHeld.size) _) (fun hHeld => ?_)
     clear hK K
     try simp only [Act.put, sZa, sZb, sZc]
     refine wpAnyH_ready (rs := [9]) (by kernel_rfl) (by simp) ?_
     refine (AllReadyH.cons (i := 9) (o := ⟨some 9, .alloc 42, 0, "same.go:25", #[], none⟩) rfl (fun K hK => ?_) AllReadyH.nil)
     have HZo := Lib.hid (bl1 (wr.drew.alloc (.cells vaZ 42)) (.cells vaZ 42) HZ8.out (by rw [szA]; show wr.heap.size < wr.heap.size + 1; omega))
     have HZ9 := Lib.hid (bn (wr.drew.alloc (.cells vaZ 42)) (.cells vaZ 42) (k := wr.heap.size + 1) (by rw [szA]; rfl))
     go_simp
     refine hK.out _ _ (hHeld.alloc (hHeld.size) _) (fun hHeld => ?_)
     clear hK K
     try simp only [Act.put, sZa, sZb, sZc]
     refine wpAnyH_ready (rs := [10]) (by kernel_rfl) (by simp) ?_
     refine (AllReadyH.cons (i := 10) (o := ⟨none, .store 42 (.tmp 8) (.tmp 23), 0, "same.go:25", #[⟨8, .data⟩, ⟨3, .data⟩, ⟨0, .phase⟩, ⟨1, .phase⟩, ⟨2, .phase⟩, ⟨3, .phase⟩, { on := 4, ground := Go.Ground.textOnly Go.Departure.lateStores }, { on := 5, ground := Go.Ground.textOnly Go.Departure.lateStores }, { on := 6, ground := Go.Ground.textOnly Go.Departure.lateStores }, { on := 7, ground := Go.Ground.textOnly Go.Departure.lateStores }, ⟨8, .phase⟩, ⟨9, .phase⟩], none⟩) rfl (fun K hK => ?_) AllReadyH.nil)
     rw [if_pos (by rfl)]
     refine wp_stG 42 wr.heap.size cx.toArray (by rfl) (by rfl) HZo.out (by rw [List.size_toArray, HCX.out]; exact sizeVa) (by rw [List.size_toArray, List.size_toArray, HCX.out] <;> rfl) HOX.out ?_
     intro Y8 hY8
     have HY8 := Lib.hid hY8
     clear hY8
     have HB8 := Lib.hid HY8.out.at_
     have HZp := Lib.hid ((HY8.out.oth (wr.heap.size + 1) (by omega)).trans HZ9.out)
     refine hK.out _ _ (HY8.out.below hHeld (by omega)) (fun hHeld => ?_)
     clear hK K
     try simp only [Act.put, sZa, sZb, sZc]
     refine wpAnyH_ready (rs := [11]) (by kernel_rfl) (by simp) ?_
     refine (AllReadyH.cons (i := 11) (o := ⟨none, .store 42 (.tmp 9) (.tmp 27), 0, "same.go:25", #[⟨9, .data⟩, ⟨7, .data⟩, ⟨10, .chain⟩, ⟨0, .phase⟩, ⟨1, .phase⟩, ⟨2, .phase⟩, ⟨3, .phase⟩, ⟨4, .phase⟩, ⟨5, .phase⟩, ⟨6, .phase⟩, ⟨7, .phase⟩, ⟨8, .phase⟩, ⟨9, .phase⟩, ⟨10, .phase⟩], none⟩) rfl (fun K hK => ?_) AllReadyH.nil)
     rw [if_pos (by rfl)]
     refine wp_stG 42 (wr.heap.size + 1) cy.toArray (by rfl) (by rfl) HZp.out (by rw [List.size_toArray, HCY.out]; exact sizeVa) (by rw [List.size_toArray, List.size_toArray, HCY.out] <;> rfl) HOY.out ?_
     intro Y9 hY9
     have HY9 := Lib.hid hY9
     clear hY9
     have hb8 := (HY9.out.oth wr.heap.size (by omega)).trans HB8.out
     have hb9 := HY9.out.at_
     refine hK.out _ _ (HY9.out.below hHeld (by omega)) (fun hHeld => ?_)
     clear hK K
     try simp only [Act.put, sZa, sZb, sZc]
     refine wpAnyH_done (by kernel_rfl) ?_ _
     have HBL := Lib.hid (HBW.out.trans (hHeld.mono HBW.out.size))
     obtain rfl : cx = vaL x := HEX.out
     obtain rfl : cy = vaL y := HEY.out
     obtain ⟨nm, ⟨ba, st, rc⟩, ln, ax⟩ := x
     obtain ⟨nm', ⟨ba', st', rc'⟩, ln', ay⟩ := y
     have fx0 : Y9.cell? ⟨wr.heap.size, 0, none⟩ = some (.string nm) := cell_of_row _ _ _ _ _ _ hb8
     have fx1 : Y9.cell? ⟨wr.heap.size, 1, none⟩ = some (.int .i64 ba) := cell_of_row _ _ _ _ _ _ hb8
     have fx2 : Y9.cell? ⟨wr.heap.size, 2, none⟩ = some (.int .i64 st) := cell_of_row _ _ _ _ _ _ hb8
     have fx3 : Y9.cell? ⟨wr.heap.size, 3, none⟩ = some (.string rc) := cell_of_row _ _ _ _ _ _ hb8
     have fx4 : Y9.cell? ⟨wr.heap.size, 4, none⟩ = some (.int .i64 ln) := cell_of_row _ _ _ _ _ _ hb8
     have fx5 : Y9.cell? ⟨wr.heap.size, 5, none⟩ = some (.int .i64 ax) := cell_of_row _ _ _ _ _ _ hb8
     have fy0 : Y9.cell? ⟨(wr.heap.size + 1), 0, none⟩ = some (.string nm') := cell_of_row _ _ _ _ _ _ hb9
     have fy1 : Y9.cell? ⟨(wr.heap.size + 1), 1, none⟩ = some (.int .i64 ba') := cell_of_row _ _ _ _ _ _ hb9
     have fy2 : Y9.cell? ⟨(wr.heap.size + 1), 2, none⟩ = some (.int .i64 st') := cell_of_row _ _ _ _ _ _ hb9
     have fy3 : Y9.cell? ⟨(wr.heap.size + 1), 3, none⟩ = some (.string rc') := cell_of_row _ _ _ _ _ _ hb9
     have fy4 : Y9.cell? ⟨(wr.heap.size + 1), 4, none⟩ = some (.int .i64 ln') := cell_of_row _ _ _ _ _ _ hb9
     have fy5 : Y9.cell? ⟨(wr.heap.size + 1), 5, none⟩ = some (.int .i64 ay) := cell_of_row _ _ _ _ _ _ hb9
     clear hb8 hb9 hHeld HEX HEY HRX HRY HCX HCY HOX HOY d1 el
     by_cases hne : nm = nm'
     case neg =>
      have HNE := Lib.hid (show ¬ EqVa pl ⟨nm, ⟨ba, st, rc⟩, ln, ax⟩ ⟨nm', ⟨ba', st', rc'⟩, ln', ay⟩ from fun hE => (fun h => hne h.1) (eqVa_iff.1 hE))
      have n1 := strEqF hne
      have n2 := strNeT hne
      clear hne
      clear HBW HEQ
      go_wp2
      go_ret
      exact ⟨by rw [sameB_false (notVas HX.out HY2.out HNE.out)] <;> rfl, HBL.out⟩
     case pos =>
      subst hne
      by_cases hne : ba = ba'
      case neg =>
       have HNE := Lib.hid (show ¬ EqVa pl ⟨nm, ⟨ba, st, rc⟩, ln, ax⟩ ⟨nm, ⟨ba', st', rc'⟩, ln', ay⟩ from fun hE => (fun h => hne h.2.1) (eqVa_iff.1 hE))
       have n1 : (ba == ba') = false := beq_eq_false_iff_ne.mpr hne
       have n2 : (ba != ba') = true := bne_iff_ne.mpr hne
       clear hne
       clear HBW HEQ
       go_wp2
       go_ret
       exact ⟨by rw [sameB_false (notVas HX.out HY2.out HNE.out)] <;> rfl, HBL.out⟩
      case pos =>
       subst hne
       by_cases hne : st = st'
       case neg =>
        have HNE := Lib.hid (show ¬ EqVa pl ⟨nm, ⟨ba, st, rc⟩, ln, ax⟩ ⟨nm, ⟨ba, st', rc'⟩, ln', ay⟩ from fun hE => (fun h => hne h.2.2.1) (eqVa_iff.1 hE))
        have n1 : (st == st') = false := beq_eq_false_iff_ne.mpr hne
        have n2 : (st != st') = true := bne_iff_ne.mpr hne
        clear hne
        clear HBW HEQ
        go_wp2
        go_ret
        exact ⟨by rw [sameB_false (notVas HX.out HY2.out HNE.out)] <;> rfl, HBL.out⟩
       case pos =>
        subst hne
        by_cases hne : rc = rc'
        case neg =>
         have HNE := Lib.hid (show ¬ EqVa pl ⟨nm, ⟨ba, st, rc⟩, ln, ax⟩ ⟨nm, ⟨ba, st, rc'⟩, ln', ay⟩ from fun hE => (fun h => hne h.2.2.2.1) (eqVa_iff.1 hE))
         have n1 := strEqF hne
         have n2 := strNeT hne
         clear hne
         clear HBW HEQ
         go_wp2
         go_ret
         exact ⟨by rw [sameB_false (notVas HX.out HY2.out HNE.out)] <;> rfl, HBL.out⟩
        case pos =>
         subst hne
         by_cases hne : ln = ln'
         case neg =>
          have HNE := Lib.hid (show ¬ EqVa pl ⟨nm, ⟨ba, st, rc⟩, ln, ax⟩ ⟨nm, ⟨ba, st, rc⟩, ln', ay⟩ from fun hE => (fun h => hne h.2.2.2.2.1) (eqVa_iff.1 hE))
          have n1 : (ln == ln') = false := beq_eq_false_iff_ne.mpr hne
          have n2 : (ln != ln') = true := bne_iff_ne.mpr hne
          clear hne
          clear HBW HEQ
          go_wp2
          go_ret
          exact ⟨by rw [sameB_false (notVas HX.out HY2.out HNE.out)] <;> rfl, HBL.out⟩
         case pos =>
          subst hne
          cases pl with
          | true =>
           by_cases hne : ax = ay
           case neg =>
            have HNE := Lib.hid (show ¬ EqVa true ⟨nm, ⟨ba, st, rc⟩, ln, ax⟩ ⟨nm, ⟨ba, st, rc⟩, ln, ay⟩ from fun hE => hne ((eqVa_iff.1 hE).2.2.2.2.2 rfl))
            have n1 : ((ax : Int) == (ay : Int)) = false := beq_eq_false_iff_ne.mpr (by omega)
            have n2 : ((ax : Int) != (ay : Int)) = true := bne_iff_ne.mpr (by omega)
            clear hne
            clear HBW HEQ
            go_wp2
            go_ret
            exact ⟨by rw [sameB_false (notVas HX.out HY2.out HNE.out)] <;> rfl, HBL.out⟩
           case pos =>
            subst hne
            have HOK : Hid (EqVa true ⟨nm, ⟨ba, st, rc⟩, ln, ax⟩ ⟨nm, ⟨ba, st, rc⟩, ln, ax⟩) := Lib.hid (eqVa_iff.2 ⟨rfl, rfl, rfl, rfl, rfl, fun _ => rfl⟩)
            go_wp2
            try simp only [Act.put]
            go_roundw
            case rel =>
             refine ⟨j + 1, by omega, by rw [HQ3.out] <;> go_num, Lib.hid HBL.out, Lib.hid (fun i hi => ?_)⟩
             by_cases hij : i = j
             ·rw [hij, getD_of HX.out, getD_of HY2.out]; exact HOK.out
             ·exact HEQ.out i (by omega)
            case measure => rw [HQ3.out]; simp [intOf]; omega
          | false =>
           have HOK : Hid (EqVa false ⟨nm, ⟨ba, st, rc⟩, ln, ax⟩ ⟨nm, ⟨ba, st, rc⟩, ln, ay⟩) := Lib.hid (eqVa_iff.2 ⟨rfl, rfl, rfl, rfl, rfl, fun h => Bool.noConfusion h⟩)
           go_wp2
           try simp only [Act.put]
           go_roundw
           case rel =>
            refine ⟨j + 1, by omega, by rw [HQ3.out] <;> go_num, Lib.hid HBL.out, Lib.hid (fun i hi => ?_)⟩
            by_cases hij : i = j
            ·rw [hij, getD_of HX.out, getD_of HY2.out]; exact HOK.out
            ·exact HEQ.out i (by omega)
           case measure => rw [HQ3.out]; simp [intOf]; omega
    ·have HZ9 := Lib.hid (heap_alloc_new wr.drew (.cells vaZ 42))
     go_simp
     refine hK.out _ _ (hHeld.alloc (hHeld.size) _) (fun hHeld => ?_)
     clear hK K
     try simp only [Act.put, sZa, sZb, sZc]
     refine wpAnyH_ready (rs := [8]) (by kernel_rfl) (by simp) ?_
     refine (AllReadyH.cons (i := 8) (o := ⟨some 8, .alloc 42, 0, "same.go:25", #[], none⟩) rfl (fun K hK => ?_) AllReadyH.nil)
     have HZo := Lib.hid (bl1 (wr.drew.alloc (.cells vaZ 42)) (.cells vaZ 42) HZ9.out (by rw [szA]; show wr.heap.size < wr.heap.size + 1; omega))
     have HZ8 := Lib.hid (bn (wr.drew.alloc (.cells vaZ 42)) (.cells vaZ 42) (k := wr.heap.size + 1) (by rw [szA]; rfl))
     go_simp
     refine hK.out _ _ (hHeld.alloc (hHeld.size) _) (fun hHeld => ?_)
     clear hK K
     try simp only [Act.put, sZa, sZb, sZc]
     refine wpAnyH_ready (rs := [10]) (by kernel_rfl) (by simp) ?_
     refine (AllReadyH.cons (i := 10) (o := ⟨none, .store 42 (.tmp 8) (.tmp 23), 0, "same.go:25", #[⟨8, .data⟩, ⟨3, .data⟩, ⟨0, .phase⟩, ⟨1, .phase⟩, ⟨2, .phase⟩, ⟨3, .phase⟩, { on := 4, ground := Go.Ground.textOnly Go.Departure.lateStores }, { on := 5, ground := Go.Ground.textOnly Go.Departure.lateStores }, { on := 6, ground := Go.Ground.textOnly Go.Departure.lateStores }, { on := 7, ground := Go.Ground.textOnly Go.Departure.lateStores }, ⟨8, .phase⟩, ⟨9, .phase⟩], none⟩) rfl (fun K hK => ?_) AllReadyH.nil)
     rw [if_pos (by rfl)]
     refine wp_stG 42 (wr.heap.size + 1) cx.toArray (by rfl) (by rfl) HZ8.out (by rw [List.size_toArray, HCX.out]; exact sizeVa) (by rw [List.size_toArray, List.size_toArray, HCX.out] <;> rfl) HOX.out ?_
     intro Y8 hY8
     have HY8 := Lib.hid hY8
     clear hY8
     have HB8 := Lib.hid HY8.out.at_
     have HZp := Lib.hid ((HY8.out.oth wr.heap.size (by omega)).trans HZo.out)
     refine hK.out _ _ (HY8.out.below hHeld (by omega)) (fun hHeld => ?_)
     clear hK K
     try simp only [Act.put, sZa, sZb, sZc]
     refine wpAnyH_ready (rs := [11]) (by kernel_rfl) (by simp) ?_
     refine (AllReadyH.cons (i := 11) (o := ⟨none, .store 42 (.tmp 9) (.tmp 27), 0, "same.go:25", #[⟨9, .data⟩, ⟨7, .data⟩, ⟨10, .chain⟩, ⟨0, .phase⟩, ⟨1, .phase⟩, ⟨2, .phase⟩, ⟨3, .phase⟩, ⟨4, .phase⟩, ⟨5, .phase⟩, ⟨6, .phase⟩, ⟨7, .phase⟩, ⟨8, .phase⟩, ⟨9, .phase⟩, ⟨10, .phase⟩], none⟩) rfl (fun K hK => ?_) AllReadyH.nil)
     rw [if_pos (by rfl)]
     refine wp_stG 42 wr.heap.size cy.toArray (by rfl) (by rfl) HZp.out (by rw [List.size_toArray, HCY.out]; exact sizeVa) (by rw [List.size_toArray, List.size_toArray, HCY.out] <;> rfl) HOY.out ?_
     intro Y9 hY9
     have HY9 := Lib.hid hY9
     clear hY9
     have hb8 := (HY9.out.oth (wr.heap.size + 1) (by omega)).trans HB8.out
     have hb9 := HY9.out.at_
     refine hK.out _ _ (HY9.out.below hHeld (by omega)) (fun hHeld => ?_)
     clear hK K
     try simp only [Act.put, sZa, sZb, sZc]
     refine wpAnyH_done (by kernel_rfl) ?_ _
     have HBL := Lib.hid (HBW.out.trans (hHeld.mono HBW.out.size))
     obtain rfl : cx = vaL x := HEX.out
     obtain rfl : cy = vaL y := HEY.out
     obtain ⟨nm, ⟨ba, st, rc⟩, ln, ax⟩ := x
     obtain ⟨nm', ⟨ba', st', rc'⟩, ln', ay⟩ := y
     have fx0 : Y9.cell? ⟨(wr.heap.size + 1), 0, none⟩ = some (.string nm) := cell_of_row _ _ _ _ _ _ hb8
     have fx1 : Y9.cell? ⟨(wr.heap.size + 1), 1, none⟩ = some (.int .i64 ba) := cell_of_row _ _ _ _ _ _ hb8
     have fx2 : Y9.cell? ⟨(wr.heap.size + 1), 2, none⟩ = some (.int .i64 st) := cell_of_row _ _ _ _ _ _ hb8
     have fx3 : Y9.cell? ⟨(wr.heap.size + 1), 3, none⟩ = some (.string rc) := cell_of_row _ _ _ _ _ _ hb8
     have fx4 : Y9.cell? ⟨(wr.heap.size + 1), 4, none⟩ = some (.int .i64 ln) := cell_of_row _ _ _ _ _ _ hb8
     have fx5 : Y9.cell? ⟨(wr.heap.size + 1), 5, none⟩ = some (.int .i64 ax) := cell_of_row _ _ _ _ _ _ hb8
     have fy0 : Y9.cell? ⟨wr.heap.size, 0, none⟩ = some (.string nm') := cell_of_row _ _ _ _ _ _ hb9
     have fy1 : Y9.cell? ⟨wr.heap.size, 1, none⟩ = some (.int .i64 ba') := cell_of_row _ _ _ _ _ _ hb9
     have fy2 : Y9.cell? ⟨wr.heap.size, 2, none⟩ = some (.int .i64 st') := cell_of_row _ _ _ _ _ _ hb9
     have fy3 : Y9.cell? ⟨wr.heap.size, 3, none⟩ = some (.string rc') := cell_of_row _ _ _ _ _ _ hb9
     have fy4 : Y9.cell? ⟨wr.heap.size, 4, none⟩ = some (.int .i64 ln') := cell_of_row _ _ _ _ _ _ hb9
     have fy5 : Y9.cell? ⟨wr.heap.size, 5, none⟩ = some (.int .i64 ay) := cell_of_row _ _ _ _ _ _ hb9
     clear hb8 hb9 hHeld HEX HEY HRX HRY HCX HCY HOX HOY d1 el
     by_cases hne : nm = nm'
     case neg =>
      have HNE := Lib.hid (show ¬ EqVa pl ⟨nm, ⟨ba, st, rc⟩, ln, ax⟩ ⟨nm', ⟨ba', st', rc'⟩, ln', ay⟩ from fun hE => (fun h => hne h.1) (eqVa_iff.1 hE))
      have n1 := strEqF hne
      have n2 := strNeT hne
      clear hne
      clear HBW HEQ
      go_wp2
      go_ret
      exact ⟨by rw [sameB_false (notVas HX.out HY2.out HNE.out)] <;> rfl, HBL.out⟩
     case pos =>
      subst hne
      by_cases hne : ba = ba'
      case neg =>
       have HNE := Lib.hid (show ¬ EqVa pl ⟨nm, ⟨ba, st, rc⟩, ln, ax⟩ ⟨nm, ⟨ba', st', rc'⟩, ln', ay⟩ from fun hE => (fun h => hne h.2.1) (eqVa_iff.1 hE))
       have n1 : (ba == ba') = false := beq_eq_false_iff_ne.mpr hne
       have n2 : (ba != ba') = true := bne_iff_ne.mpr hne
       clear hne
       clear HBW HEQ
       go_wp2
       go_ret
       exact ⟨by rw [sameB_false (notVas HX.out HY2.out HNE.out)] <;> rfl, HBL.out⟩
      case pos =>
       subst hne
       by_cases hne : st = st'
       case neg =>
        have HNE := Lib.hid (show ¬ EqVa pl ⟨nm, ⟨ba, st, rc⟩, ln, ax⟩ ⟨nm, ⟨ba, st', rc'⟩, ln', ay⟩ from fun hE => (fun h => hne h.2.2.1) (eqVa_iff.1 hE))
        have n1 : (st == st') = false := beq_eq_false_iff_ne.mpr hne
        have n2 : (st != st') = true := bne_iff_ne.mpr hne
        clear hne
        clear HBW HEQ
        go_wp2
        go_ret
        exact ⟨by rw [sameB_false (notVas HX.out HY2.out HNE.out)] <;> rfl, HBL.out⟩
       case pos =>
        subst hne
        by_cases hne : rc = rc'
        case neg =>
         have HNE := Lib.hid (show ¬ EqVa pl ⟨nm, ⟨ba, st, rc⟩, ln, ax⟩ ⟨nm, ⟨ba, st, rc'⟩, ln', ay⟩ from fun hE => (fun h => hne h.2.2.2.1) (eqVa_iff.1 hE))
         have n1 := strEqF hne
         have n2 := strNeT hne
         clear hne
         clear HBW HEQ
         go_wp2
         go_ret
         exact ⟨by rw [sameB_false (notVas HX.out HY2.out HNE.out)] <;> rfl, HBL.out⟩
        case pos =>
         subst hne
         by_cases hne : ln = ln'
         case neg =>
          have HNE := Lib.hid (show ¬ EqVa pl ⟨nm, ⟨ba, st, rc⟩, ln, ax⟩ ⟨nm, ⟨ba, st, rc⟩, ln', ay⟩ from fun hE => (fun h => hne h.2.2.2.2.1) (eqVa_iff.1 hE))
          have n1 : (ln == ln') = false := beq_eq_false_iff_ne.mpr hne
          have n2 : (ln != ln') = true := bne_iff_ne.mpr hne
          clear hne
          clear HBW HEQ
          go_wp2
          go_ret
          exact ⟨by rw [sameB_false (notVas HX.out HY2.out HNE.out)] <;> rfl, HBL.out⟩
         case pos =>
          subst hne
          cases pl with
          | true =>
           by_cases hne : ax = ay
           case neg =>
            have HNE := Lib.hid (show ¬ EqVa true ⟨nm, ⟨ba, st, rc⟩, ln, ax⟩ ⟨nm, ⟨ba, st, rc⟩, ln, ay⟩ from fun hE => hne ((eqVa_iff.1 hE).2.2.2.2.2 rfl))
            have n1 : ((ax : Int) == (ay : Int)) = false := beq_eq_false_iff_ne.mpr (by omega)
            have n2 : ((ax : Int) != (ay : Int)) = true := bne_iff_ne.mpr (by omega)
            clear hne
            clear HBW HEQ
            go_wp2
            go_ret
            exact ⟨by rw [sameB_false (notVas HX.out HY2.out HNE.out)] <;> rfl, HBL.out⟩
           case pos =>
            subst hne
            have HOK : Hid (EqVa true ⟨nm, ⟨ba, st, rc⟩, ln, ax⟩ ⟨nm, ⟨ba, st, rc⟩, ln, ax⟩) := Lib.hid (eqVa_iff.2 ⟨rfl, rfl, rfl, rfl, rfl, fun _ => rfl⟩)
            go_wp2
            try simp only [Act.put]
            go_roundw
            case rel =>
             refine ⟨j + 1, by omega, by rw [HQ3.out] <;> go_num, Lib.hid HBL.out, Lib.hid (fun i hi => ?_)⟩
             by_cases hij : i = j
             ·rw [hij, getD_of HX.out, getD_of HY2.out]; exact HOK.out
             ·exact HEQ.out i (by omega)
            case measure => rw [HQ3.out]; simp [intOf]; omega
          | false =>
           have HOK : Hid (EqVa false ⟨nm, ⟨ba, st, rc⟩, ln, ax⟩ ⟨nm, ⟨ba, st, rc⟩, ln, ay⟩) := Lib.hid (eqVa_iff.2 ⟨rfl, rfl, rfl, rfl, rfl, fun h => Bool.noConfusion h⟩)
           go_wp2
           try simp only [Act.put]
           go_roundw
           case rel =>
            refine ⟨j + 1, by omega, by rw [HQ3.out] <;> go_num, Lib.hid HBL.out, Lib.hid (fun i hi => ?_)⟩
            by_cases hij : i = j
            ·rw [hij, getD_of HX.out, getD_of HY2.out]; exact HOK.out
            ·exact HEQ.out i (by omega)
           case measure => rw [HQ3.out]; simp [intOf]; omega
   ·have d1 : decide ((j : Int) < (l1.length : Int)) = false := decide_eq_false (by omega)
    go_wp2
    go_ret
    exact ⟨by rw [sameB_true ⟨HLEN.out, fun i hi => HEQ.out i (by omega)⟩] <;> rfl, HBW.out⟩
 ·have el : ((l1.length : Int) != (l2.length : Int)) = true := by simp; omega
  have hn : ¬ EqVas pl l1 l2 := fun h => hlen h.1
  have HN := Lib.hid hn
  clear hlen hn
  go_enter Tryz.func18, Tryz.ntmps18
  go_wp2
  go_ret
  exact ⟨by rw [sameB_false HN.out] <;> rfl, Below.refl _ _⟩
end Go.Proofs.YtfjobnljdkiihaaGreatDoor
