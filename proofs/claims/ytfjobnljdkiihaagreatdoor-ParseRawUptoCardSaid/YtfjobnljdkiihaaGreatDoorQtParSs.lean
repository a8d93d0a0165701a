/- The document's comparison of statements. Conditions: each theorem's. -/
import Derived.Test.YtfjobnljdkiihaaGreatDoorQtParSv
namespace Go.Proofs.YtfjobnljdkiihaaGreatDoor
open Go.RowKit Go.Maps
set_option linter.unusedVariables false
set_option linter.unusedSimpArgs false
set_option maxRecDepth 100000
open Lx Pa
namespace Pa
inductive EqS (pl : Bool) : PSt → PSt → Prop
 | mk {k : Int} {xs ys : List PEx} {ks ls : List PSt} {u v : PVa} {a b : Nat} (ha : pl = true → a = b) (hv : EqVa pl u v) (he : EqEs pl xs ys) (hl : ks.length = ls.length) (hk : ∀ i, i < ks.length → EqS pl (ks.getD i st0) (ls.getD i st0)) : EqS pl (.mk k xs ks u a) (.mk k ys ls v b)
def EqSs (pl : Bool) (l1 l2 : List PSt) : Prop := l1.length = l2.length ∧ ∀ i, i < l1.length → EqS pl (l1.getD i st0) (l2.getD i st0)
theorem eqS_iff {pl : Bool} {k k' : Int} {xs ys : List PEx} {ks ls : List PSt} {u v : PVa} {a b : Nat} : EqS pl (.mk k xs ks u a) (.mk k' ys ls v b) ↔ k = k' ∧ (pl = true → a = b) ∧ EqVa pl u v ∧ EqEs pl xs ys ∧ EqSs pl ks ls := by
 constructor
 ·intro h
  cases h with
  | mk ha hv he hl hk => exact ⟨rfl, ha, hv, he, hl, hk⟩
 ·rintro ⟨rfl, ha, hv, he, hl, hk⟩
  exact .mk ha hv he hl hk
theorem notSs {pl : Bool} {l1 l2 : List PSt} {j : Nat} {x y : PSt} (hx : l1[j]? = some x) (hy : l2[j]? = some y) (h : ¬ EqS pl x y) : ¬ EqSs pl l1 l2 := fun hh => h (by
 have := hh.2 j (List.getElem?_eq_some_iff.1 hx).1
 rwa [getD_of hx, getD_of hy] at this)
theorem eqVa_one {pl : Bool} {u v : PVa} : EqVas pl [u] [v] ↔ EqVa pl u v := by
 constructor
 ·intro h
  exact h.2 0 (by simp)
 ·intro h
  refine ⟨rfl, fun i hi => ?_⟩
  have : i = 0 := by simp at hi; omega
  subst this
  exact h
theorem st_oneA {w : World} {S : Nat → Prop} {x : PSt} {c : List Value} (h : StAt w S x c) : c.toArray.all (·.oneCell') = true := Array.all_eq_true_iff_forall_mem.2 (fun v hv => StAt.one h v (by simpa using hv))
end Pa
theorem va_one (w : World) (v : PVa) (g : Nat) (t : TypeId) (h : w.heap[g]? = some (.cells (vaL v).toArray t)) : LAt vaE w (fun k => k = g) [v] (.slice (some ⟨g, 0, none⟩) 1 1) :=
 LAt.one' (E := vaE) (g := g) (show vaE.At w _ v (vaL v) from rfl) (range_row h) (Array.getElem?_eq_some_iff.1 h).1 rfl
def StmtsC (l1 : List PSt) : Prop := ∀ (pl : Bool) (l2 : List PSt) (v1 v2 : Value) (w : World) (S1 S2 : Nat → Prop), LAt stE' w S1 l1 v1 → LAt stE' w S2 l2 v2 →
 Calls Tryz.prog 19 #[v1, v2, .bool pl] w fun e w' => e = .returned (.bool (sameB (EqSs pl l1 l2))) ∧ Below w.heap.size w w'
set_option maxHeartbeats 32000000 in
theorem stmts_step (l1 : List PSt) (IH : ∀ k xs ks v a, PSt.mk k xs ks v a ∈ l1 → StmtsC ks) : StmtsC l1 := by
 intro pl l2 v1 v2 w S1 S2 hL1 hL2
 obtain ⟨A1, c1, rfl⟩ := hL1.slice
 obtain ⟨A2, c2, rfl⟩ := hL2.slice
 have HL1 := Lib.hid hL1
 have HL2 := Lib.hid hL2
 have HIH := Lib.hid IH
 clear hL1 hL2 IH
 by_cases hlen : l1.length = l2.length
 ·have el : ((l1.length : Int) != (l2.length : Int)) = false := by rw [hlen]; simp
  have HLEN := Lib.hid hlen
  clear hlen
  go_enter Tryz.func19, Tryz.ntmps19
  go_wp2
  go_loopw [17] (fun vi wr => ∃ j : Nat, j ≤ l1.length ∧ vi = .int .i64 j ∧ Hid (Below w.heap.size w wr) ∧ Hid (∀ i, i < j → EqS pl (l1.getD i st0) (l2.getD i st0))) (fun vi _ => l1.length - (intOf vi).toNat)
  case atStart => exact ⟨0, by omega, rfl, Lib.hid (Below.refl _ _), Lib.hid (fun i hi => by omega)⟩
  case round =>
   obtain ⟨j, hj, rfl, HBW, HEQ⟩ := hrel
   by_cases hlt : j < l1.length
   ·have d1 : decide ((j : Int) < (l1.length : Int)) = true := decide_eq_true (by omega)
    have hlt2 : j < l2.length := by rw [← HLEN.out]; exact hlt
    have hx : l1[j]? = some (l1[j]'hlt) := List.getElem?_eq_getElem hlt
    have hy : l2[j]? = some (l2[j]'hlt2) := List.getElem?_eq_getElem hlt2
    have hK1 : LAt stE' wr S1 l1 (.slice A1 l1.length c1) := HL1.out.keep (fun g hg hl => ⟨hg, HBW.out.block g hl⟩) HBW.out.size
    have hK2 : LAt stE' wr S2 l2 (.slice A2 l2.length c2) := HL2.out.keep (fun g hg hl => ⟨hg, HBW.out.block g hl⟩) HBW.out.size
    obtain ⟨g1, o1, cp1, cx, e1, p1, m1, _, b1, hX, r1⟩ := hK1.get j hx
    obtain ⟨g2, o2, cp2, cy, e2, p2, m2, _, b2, hY', r2⟩ := hK2.get j hy
    injection e1 with e1 _ e1'
    injection e2 with e2 _ e2'
    have HXM := Lib.hid (List.getElem_mem hlt)
    generalize hxx : l1[j]'hlt = x at *
    generalize hyy : l2[j]'hlt2 = y at *
    have HX := Lib.hid hx
    have HY2 := Lib.hid hy
    have HCX := Lib.hid (StAt.len hX)
    have HCY := Lib.hid (StAt.len hY')
    have HOX := Lib.hid (st_oneA hX)
    have HOY := Lib.hid (st_oneA hY')
    have HEX := Lib.hid hX
    have HEY := Lib.hid hY'
    have RX : wr.rangeAt g1 (o1 + j * 10) cx := fun k u hu => by have := r1 k u hu; rw [show o1 + (j * stE'.z + k) = o1 + j * 10 + k from by show o1 + (j * 10 + k) = _; omega] at this; exact this
    have RY : wr.rangeAt g2 (o2 + j * 10) cy := fun k u hu => by have := r2 k u hu; rw [show o2 + (j * stE'.z + k) = o2 + j * 10 + k from by show o2 + (j * 10 + k) = _; omega] at this; exact this
    have HRX := Lib.hid RX
    have HRY := Lib.hid RY
    subst e1 e2 e1' e2'
    clear hX hY' r1 r2 hK1 hK2 RX RY hxx hyy hx hy
    have q1 : (j : Int) < (l1.length : Int) := by omega
    have q2 : (j : Int) < (l2.length : Int) := by omega
    have q0 : (0 : Int) ≤ (j : Int) := by omega
    have HQ3 : Hid (wrap64 ((j : Int) + 1) = (j : Int) + 1) := Lib.hid (by unfold maxLen at m1 m2; unfold wrap64; omega)
    go_wp2_with fail
    refine wp_region_held_drew (S := fun W : World => Below wr.heap.size wr W) (by kernel_rfl) ((Below.refl _ _).drew) (fun hHeld => ?_)
    refine wpAnyH_take (i := 0) (oi := ⟨some 20, .move (.tmp 0), 40, "same.go:39", #[], none⟩) (v := .slice (some ⟨g1, o1, none⟩) l1.length c1) rfl (by kernel_rfl) (by kernel_rfl) (by kernel_rfl) (fun _ _ _ h => h) (Or.inl ⟨by rfl, ?hy1⟩) (by assumption) ?_
    case hy1 => ((intro W hSW; (try dsimp only at hSW); go_simp); (try with_reducible rfl); (try exact ⟨rfl, rfl, rfl⟩))
    simp only [Act.put, sZa, sZb, sZc]
    refine wpAnyH_take (i := 1) (oi := ⟨some 21, .move (.tmp 7), 3, "same.go:39", #[], none⟩) (v := .int .i64 j) rfl (by kernel_rfl) (by kernel_rfl) (by kernel_rfl) (fun _ _ _ h => h) (Or.inl ⟨by rfl, ?hy2⟩) (by assumption) ?_
    case hy2 => ((intro W hSW; (try dsimp only at hSW); go_simp); (try with_reducible rfl); (try exact ⟨rfl, rfl, rfl⟩))
    simp only [Act.put, sZa, sZb, sZc]
    refine wpAnyH_take (i := 2) (oi := ⟨some 22, .indexAddr 40 (.tmp 20) (.tmp 21), 0, "same.go:39", #[⟨0, .data⟩, ⟨1, .data⟩], none⟩) (v := .pointer (some ⟨g1, o1 + j * 10, none⟩)) rfl (by kernel_rfl) (by kernel_rfl) (by kernel_rfl) (fun _ _ _ h => h) (Or.inl ⟨by rfl, ?hy3⟩) (by assumption) ?_
    case hy3 => ((intro W hSW; (try dsimp only at hSW); go_simp); (try with_reducible rfl); (try exact ⟨rfl, rfl, rfl⟩))
    simp only [Act.put, sZa, sZb, sZc]
    refine wpAnyH_take (i := 3) (oi := ⟨some 23, .load 44 (.tmp 22), 44, "same.go:39", #[⟨2, .data⟩], none⟩) (v := .agg cx.toArray) rfl (by kernel_rfl) (by kernel_rfl) (by kernel_rfl) (fun _ _ _ h => h) (yieldsIf_load_mid (by rfl) 44 (.tmp 22) rfl g1 (o1 + j * 10) rfl cx _ (fun W hW => (fun k u hu => (World.cell?_of_block (w := wr) (hW.block g1 b1)).trans (HRX.out k u hu))) Tryz.underlying44 rfl (by rw [HCX.out]; exact sizeSt)) (by assumption) ?_
    simp only [Act.put, sZa, sZb, sZc]
    refine wpAnyH_take (i := 4) (oi := ⟨some 24, .move (.tmp 1), 40, "same.go:39", #[{ on := 10, ground := Go.Ground.gcOnly Go.Departure.lateStores }], none⟩) (v := .slice (some ⟨g2, o2, none⟩) l2.length c2) rfl (by kernel_rfl) (by kernel_rfl) (by kernel_rfl) (fun _ _ _ h => h) (Or.inl ⟨by rfl, ?hy5⟩) (by assumption) ?_
    case hy5 => ((intro W hSW; (try dsimp only at hSW); go_simp); (try with_reducible rfl); (try exact ⟨rfl, rfl, rfl⟩))
    simp only [Act.put, sZa, sZb, sZc]
    refine wpAnyH_take (i := 5) (oi := ⟨some 25, .move (.tmp 7), 3, "same.go:39", #[{ on := 10, ground := Go.Ground.gcOnly Go.Departure.lateStores }], none⟩) (v := .int .i64 j) rfl (by kernel_rfl) (by kernel_rfl) (by kernel_rfl) (fun _ _ _ h => h) (Or.inl ⟨by rfl, ?hy6⟩) (by assumption) ?_
    case hy6 => ((intro W hSW; (try dsimp only at hSW); go_simp); (try with_reducible rfl); (try exact ⟨rfl, rfl, rfl⟩))
    simp only [Act.put, sZa, sZb, sZc]
    refine wpAnyH_take (i := 6) (oi := ⟨some 26, .indexAddr 40 (.tmp 24) (.tmp 25), 0, "same.go:39", #[⟨4, .data⟩, ⟨5, .data⟩, { on := 10, ground := Go.Ground.gcOnly Go.Departure.lateStores }], none⟩) (v := .pointer (some ⟨g2, o2 + j * 10, none⟩)) rfl (by kernel_rfl) (by kernel_rfl) (by kernel_rfl) (fun _ _ _ h => h) (Or.inl ⟨by rfl, ?hy7⟩) (by assumption) ?_
    case hy7 => ((intro W hSW; (try dsimp only at hSW); go_simp); (try with_reducible rfl); (try exact ⟨rfl, rfl, rfl⟩))
    simp only [Act.put, sZa, sZb, sZc]
    refine wpAnyH_take (i := 7) (oi := ⟨some 27, .load 44 (.tmp 26), 44, "same.go:39", #[⟨6, .data⟩, { on := 10, ground := Go.Ground.gcOnly Go.Departure.lateStores }], none⟩) (v := .agg cy.toArray) rfl (by kernel_rfl) (by kernel_rfl) (by kernel_rfl) (fun _ _ _ h => h) (yieldsIf_load_mid (by rfl) 44 (.tmp 26) rfl g2 (o2 + j * 10) rfl cy _ (fun W hW => (fun k u hu => (World.cell?_of_block (w := wr) (hW.block g2 b2)).trans (HRY.out k u hu))) Tryz.underlying44 rfl (by rw [HCY.out]; exact sizeSt)) (by assumption) ?_
    simp only [Act.put, sZa, sZb, sZc]
    refine wpAnyH_ready (rs := [8, 9]) (by kernel_rfl) (by simp) ?_
    refine (AllReadyH.cons (i := 8) (o := ⟨some 8, .alloc 44, 0, "same.go:39", #[], none⟩) rfl (fun K hK => ?_) (AllReadyH.cons (i := 9) (o := ⟨some 9, .alloc 44, 0, "same.go:39", #[], none⟩) rfl (fun K hK => ?_) AllReadyH.nil))
    ·have HZ8 := Lib.hid (heap_alloc_new wr.drew (.cells stZ 44))
     go_simp
     refine hK.out _ _ (hHeld.alloc (hHeld.size) _) (fun hHeld => ?_)
     clear hK K
     try simp only [Act.put, sZa, sZb, sZc]
     refine wpAnyH_ready (rs := [9]) (by kernel_rfl) (by simp) ?_
     refine (AllReadyH.cons (i := 9) (o := ⟨some 9, .alloc 44, 0, "same.go:39", #[], none⟩) rfl (fun K hK => ?_) AllReadyH.nil)
     have HZo := Lib.hid (bl1 (wr.drew.alloc (.cells stZ 44)) (.cells stZ 44) HZ8.out (by rw [szA]; show wr.heap.size < wr.heap.size + 1; omega))
     have HZ9 := Lib.hid (bn (wr.drew.alloc (.cells stZ 44)) (.cells stZ 44) (k := wr.heap.size + 1) (by rw [szA]; rfl))
     go_simp
     refine hK.out _ _ (hHeld.alloc (hHeld.size) _) (fun hHeld => ?_)
     clear hK K
     try simp only [Act.put, sZa, sZb, sZc]
     refine wpAnyH_ready (rs := [10]) (by kernel_rfl) (by simp) ?_
     refine (AllReadyH.cons (i := 10) (o := ⟨none, .store 44 (.tmp 8) (.tmp 23), 0, "same.go:39", #[⟨8, .data⟩, ⟨3, .data⟩, ⟨0, .phase⟩, ⟨1, .phase⟩, ⟨2, .phase⟩, ⟨3, .phase⟩, { on := 4, ground := Go.Ground.textOnly Go.Departure.lateStores }, { on := 5, ground := Go.Ground.textOnly Go.Departure.lateStores }, { on := 6, ground := Go.Ground.textOnly Go.Departure.lateStores }, { on := 7, ground := Go.Ground.textOnly Go.Departure.lateStores }, ⟨8, .phase⟩, ⟨9, .phase⟩], none⟩) rfl (fun K hK => ?_) AllReadyH.nil)
     rw [if_pos (by rfl)]
     refine wp_stG 44 wr.heap.size cx.toArray (by rfl) (by rfl) HZo.out (by rw [List.size_toArray, HCX.out]; exact sizeSt) (by rw [List.size_toArray, List.size_toArray, HCX.out] <;> rfl) HOX.out ?_
     intro Y8 hY8
     have HY8 := Lib.hid hY8
     clear hY8
     have HB8 := Lib.hid HY8.out.at_
     have HZp := Lib.hid ((HY8.out.oth (wr.heap.size + 1) (by omega)).trans HZ9.out)
     refine hK.out _ _ (HY8.out.below hHeld (by omega)) (fun hHeld => ?_)
     clear hK K
     try simp only [Act.put, sZa, sZb, sZc]
     refine wpAnyH_ready (rs := [11]) (by kernel_rfl) (by simp) ?_
     refine (AllReadyH.cons (i := 11) (o := ⟨none, .store 44 (.tmp 9) (.tmp 27), 0, "same.go:39", #[⟨9, .data⟩, ⟨7, .data⟩, ⟨10, .chain⟩, ⟨0, .phase⟩, ⟨1, .phase⟩, ⟨2, .phase⟩, ⟨3, .phase⟩, ⟨4, .phase⟩, ⟨5, .phase⟩, ⟨6, .phase⟩, ⟨7, .phase⟩, ⟨8, .phase⟩, ⟨9, .phase⟩, ⟨10, .phase⟩], none⟩) rfl (fun K hK => ?_) AllReadyH.nil)
     rw [if_pos (by rfl)]
     refine wp_stG 44 (wr.heap.size + 1) cy.toArray (by rfl) (by rfl) HZp.out (by rw [List.size_toArray, HCY.out]; exact sizeSt) (by rw [List.size_toArray, List.size_toArray, HCY.out] <;> rfl) HOY.out ?_
     intro Y9 hY9
     have HY9 := Lib.hid hY9
     clear hY9
     have hb8 := (HY9.out.oth wr.heap.size (by omega)).trans HB8.out
     have hb9 := HY9.out.at_
     refine hK.out _ _ (HY9.out.below hHeld (by omega)) (fun hHeld => ?_)
     clear hK K
     try simp only [Act.put, sZa, sZb, sZc]
     refine wpAnyH_done (by kernel_rfl) ?_ _
     have HBL := Lib.hid (HBW.out.trans (hHeld.mono HBW.out.size))
     have hYs := hHeld.size
     obtain ⟨kd, exprs, kids, v, ax, A, cap, B, cap2, rfl, rfl, hxe, hxk⟩ := StAt.inv (HEX.out.keep (w' := Y9) (S' := S1) (fun g hg hl => ⟨hg, hHeld.block g hl⟩) hHeld.size)
     obtain ⟨kd', exprs', kids', v', ay, A', cap', B', cap2', rfl, rfl, hye, hyk⟩ := StAt.inv (HEY.out.keep (w' := Y9) (S' := S2) (fun g hg hl => ⟨hg, hHeld.block g hl⟩) hHeld.size)
     have HXE := Lib.hid hxe
     have HXK := Lib.hid hxk
     have HYE := Lib.hid hye
     have HYK := Lib.hid hyk
     clear hxe hxk hye hyk
     have HR8 := Lib.hid hb8
     have HR9 := Lib.hid hb9
     have fx0 : Y9.cell? ⟨wr.heap.size, 0, none⟩ = some (.int .i64 kd) := cell_of_row _ _ _ _ _ _ hb8
     have fx1 : Y9.cell? ⟨wr.heap.size, 1, none⟩ = some (.slice A exprs.length cap) := cell_of_row _ _ _ _ _ _ hb8
     have fx2 : Y9.cell? ⟨wr.heap.size, 2, none⟩ = some (.slice B kids.length cap2) := cell_of_row _ _ _ _ _ _ hb8
     have fx3 : Y9.cell? ⟨wr.heap.size, 3, none⟩ = some (.string v.nm) := cell_of_row _ _ _ _ _ _ hb8
     have fx4 : Y9.cell? ⟨wr.heap.size, 4, none⟩ = some (.int .i64 v.ty.ba) := cell_of_row _ _ _ _ _ _ hb8
     have fx5 : Y9.cell? ⟨wr.heap.size, 5, none⟩ = some (.int .i64 v.ty.st) := cell_of_row _ _ _ _ _ _ hb8
     have fx6 : Y9.cell? ⟨wr.heap.size, 6, none⟩ = some (.string v.ty.rc) := cell_of_row _ _ _ _ _ _ hb8
     have fx7 : Y9.cell? ⟨wr.heap.size, 7, none⟩ = some (.int .i64 v.ln) := cell_of_row _ _ _ _ _ _ hb8
     have fx8 : Y9.cell? ⟨wr.heap.size, 8, none⟩ = some (.int .i64 v.at_) := cell_of_row _ _ _ _ _ _ hb8
     have fx9 : Y9.cell? ⟨wr.heap.size, 9, none⟩ = some (.int .i64 ax) := cell_of_row _ _ _ _ _ _ hb8
     have fy0 : Y9.cell? ⟨(wr.heap.size + 1), 0, none⟩ = some (.int .i64 kd') := cell_of_row _ _ _ _ _ _ hb9
     have fy1 : Y9.cell? ⟨(wr.heap.size + 1), 1, none⟩ = some (.slice A' exprs'.length cap') := cell_of_row _ _ _ _ _ _ hb9
     have fy2 : Y9.cell? ⟨(wr.heap.size + 1), 2, none⟩ = some (.slice B' kids'.length cap2') := cell_of_row _ _ _ _ _ _ hb9
     have fy3 : Y9.cell? ⟨(wr.heap.size + 1), 3, none⟩ = some (.string v'.nm) := cell_of_row _ _ _ _ _ _ hb9
     have fy4 : Y9.cell? ⟨(wr.heap.size + 1), 4, none⟩ = some (.int .i64 v'.ty.ba) := cell_of_row _ _ _ _ _ _ hb9
     have fy5 : Y9.cell? ⟨(wr.heap.size + 1), 5, none⟩ = some (.int .i64 v'.ty.st) := cell_of_row _ _ _ _ _ _ hb9
     have fy6 : Y9.cell? ⟨(wr.heap.size + 1), 6, none⟩ = some (.string v'.ty.rc) := cell_of_row _ _ _ _ _ _ hb9
     have fy7 : Y9.cell? ⟨(wr.heap.size + 1), 7, none⟩ = some (.int .i64 v'.ln) := cell_of_row _ _ _ _ _ _ hb9
     have fy8 : Y9.cell? ⟨(wr.heap.size + 1), 8, none⟩ = some (.int .i64 v'.at_) := cell_of_row _ _ _ _ _ _ hb9
     have fy9 : Y9.cell? ⟨(wr.heap.size + 1), 9, none⟩ = some (.int .i64 ay) := cell_of_row _ _ _ _ _ _ hb9
     have l8 := (Array.getElem?_eq_some_iff.1 hb8).1
     have l9 := (Array.getElem?_eq_some_iff.1 hb9).1
     clear hb8 hb9 hHeld HEX HEY HRX HRY HCX HCY HOX HOY d1 el
     by_cases hne : kd = kd'
     case neg =>
      have HNE := Lib.hid (show ¬ EqS pl (.mk kd exprs kids v ax) (.mk kd' exprs' kids' v' ay) from fun hE => hne (eqS_iff.1 hE).1)
      have n1 : (kd == kd') = false := beq_eq_false_iff_ne.mpr hne
      have n2 : (kd != kd') = true := bne_iff_ne.mpr hne
      clear hne
      clear HBW HEQ
      go_wp2
      go_ret
      exact ⟨by rw [sameB_false (notSs HX.out HY2.out HNE.out)] <;> rfl, HBL.out⟩
     case pos =>
      subst hne
      cases pl with
      | true =>
       by_cases hne : ax = ay
       case neg =>
        have HNE := Lib.hid (show ¬ EqS true (.mk kd exprs kids v ax) (.mk kd exprs' kids' v' ay) from fun hE => hne ((eqS_iff.1 hE).2.1 rfl))
        have n1 : ((ax : Int) == (ay : Int)) = false := beq_eq_false_iff_ne.mpr (by omega)
        have n2 : ((ax : Int) != (ay : Int)) = true := bne_iff_ne.mpr (by omega)
        clear hne
        clear HBW HEQ
        go_wp2
        go_ret
        exact ⟨by rw [sameB_false (notSs HX.out HY2.out HNE.out)] <;> rfl, HBL.out⟩
       case pos =>
        subst hne
        have hza := heap_alloc_new Y9 (.cells (vaL v).toArray 42)
        have hz1 := bl1 (Y9.alloc (.cells (vaL v).toArray 42)) (.cells (vaL v').toArray 42) hza (by rw [szA]; omega)
        have hz2 := bn (Y9.alloc (.cells (vaL v).toArray 42)) (.cells (vaL v').toArray 42) (k := Y9.heap.size + 1) (by rw [szA])
        have HS2 := Lib.hid (show ((Y9.alloc (.cells (vaL v).toArray 42)).alloc (.cells (vaL v').toArray 42)).heap.size = Y9.heap.size + 2 by simp only [szA])
        have HBz := Lib.hid ((HBL.out.alloc (HBL.out.size) (.cells (vaL v).toArray 42)).alloc (Nat.le_trans HBL.out.size (by simp only [szA]; omega)) (.cells (vaL v').toArray 42))
        have HR8z := Lib.hid (bl1 (Y9.alloc (.cells (vaL v).toArray 42)) (.cells (vaL v').toArray 42) (bl1 Y9 (.cells (vaL v).toArray 42) HR8.out l8) (by rw [szA]; omega))
        have HR9z := Lib.hid (bl1 (Y9.alloc (.cells (vaL v).toArray 42)) (.cells (vaL v').toArray 42) (bl1 Y9 (.cells (vaL v).toArray 42) HR9.out l9) (by rw [szA]; omega))
        have hva := vars_any [v] true [v'] _ _ _ _ _ (va_one _ v _ _ hz1) (va_one _ v' _ _ hz2)
        clear hza hz1 hz2
        by_cases hv : EqVas true [v] [v']
        case neg =>
         have HNE := Lib.hid (show ¬ EqS true (.mk kd exprs kids v ax) (.mk kd exprs' kids' v' ax) from fun hE => hv (eqVa_one.2 (eqS_iff.1 hE).2.2.1))
         rw [sameB_false hv] at hva
         clear hv
         go_wp2_with (first | ((with_reducible refine bs1 24 42 (.agg vaZ) 6 Tryz.underlying24 infoVaz (by decide) (by decide) (vaL v) rfl ?_ ?_); rfl) | ((with_reducible refine bs1 24 42 (.agg vaZ) 6 Tryz.underlying24 infoVaz (by decide) (by decide) (vaL v') rfl ?_ ?_); rfl))
         refine hva.mono ?_
         rintro e wz ⟨rfl, bz⟩
         go_wp2
         go_ret
         exact ⟨by rw [sameB_false (notSs HX.out HY2.out HNE.out)] <;> rfl, HBz.out.trans (bz.mono HBz.out.size)⟩
        case pos =>
         have HV := Lib.hid (eqVa_one.1 hv)
         rw [sameB_true hv] at hva
         clear hv
         go_wp2_with (first | ((with_reducible refine bs1 24 42 (.agg vaZ) 6 Tryz.underlying24 infoVaz (by decide) (by decide) (vaL v) rfl ?_ ?_); rfl) | ((with_reducible refine bs1 24 42 (.agg vaZ) 6 Tryz.underlying24 infoVaz (by decide) (by decide) (vaL v') rfl ?_ ?_); rfl))
         refine hva.mono ?_
         rintro e wv ⟨rfl, bv⟩
         have HBv := Lib.hid (HBz.out.trans (bv.mono HBz.out.size))
         have HR8v := Lib.hid ((bv.block _ (by rw [HS2.out]; omega)).trans HR8z.out)
         have HR9v := Lib.hid ((bv.block _ (by rw [HS2.out]; omega)).trans HR9z.out)
         have lv : Y9.heap.size + 2 ≤ wv.heap.size := by have := bv.size; rw [HS2.out] at this; exact this
         have HKv : Hid (∀ g, g < Y9.heap.size → wv.heap[g]? = Y9.heap[g]?) := Lib.hid (fun g hg => (bv.block g (by rw [HS2.out]; omega)).trans (bl1 (Y9.alloc (.cells (vaL v).toArray 42)) (.cells (vaL v').toArray 42) (bl1 Y9 (.cells (vaL v).toArray 42) rfl hg) (by rw [szA]; omega)))
         clear bv
         have gx1 : wv.cell? ⟨wr.heap.size, 1, none⟩ = some (.slice A exprs.length cap) := cell_of_row _ _ _ _ _ _ HR8v.out
         have gy1 : wv.cell? ⟨(wr.heap.size + 1), 1, none⟩ = some (.slice A' exprs'.length cap') := cell_of_row _ _ _ _ _ _ HR9v.out
         have hex := exprs_any _ exprs (Nat.le_refl _) true exprs' _ _ wv S1 S2 (HXE.out.keep (fun g hg hl => ⟨hg, HKv.out g hl⟩) (by omega)) (HYE.out.keep (fun g hg hl => ⟨hg, HKv.out g hl⟩) (by omega))
         by_cases hes : EqEs true exprs exprs'
         case neg =>
          have HNE := Lib.hid (show ¬ EqS true (.mk kd exprs kids v ax) (.mk kd exprs' kids' v' ax) from fun hE => hes (eqS_iff.1 hE).2.2.2.1)
          rw [sameB_false hes] at hex
          clear hes
          go_wp2_with fail
          refine hex.mono ?_
          rintro e wz ⟨rfl, bz⟩
          go_wp2
          go_ret
          exact ⟨by rw [sameB_false (notSs HX.out HY2.out HNE.out)] <;> rfl, HBv.out.trans (bz.mono HBv.out.size)⟩
         case pos =>
          have HES := Lib.hid hes
          rw [sameB_true hes] at hex
          clear hes
          go_wp2_with fail
          refine hex.mono ?_
          rintro e we ⟨rfl, be⟩
          have HBe := Lib.hid (HBv.out.trans (be.mono HBv.out.size))
          have HR8e := Lib.hid ((be.block _ (by omega)).trans HR8v.out)
          have HR9e := Lib.hid ((be.block _ (by omega)).trans HR9v.out)
          have le := be.size
          have HKe : Hid (∀ g, g < Y9.heap.size → we.heap[g]? = Y9.heap[g]?) := Lib.hid (fun g hg => (be.block g (by omega)).trans (HKv.out g hg))
          clear be
          have kx2 : we.cell? ⟨wr.heap.size, 2, none⟩ = some (.slice B kids.length cap2) := cell_of_row _ _ _ _ _ _ HR8e.out
          have ky2 : we.cell? ⟨(wr.heap.size + 1), 2, none⟩ = some (.slice B' kids'.length cap2') := cell_of_row _ _ _ _ _ _ HR9e.out
          have hki := HIH.out _ _ _ _ _ HXM.out true kids' _ _ we S1 S2 (HXK.out.keep (fun g hg hl => ⟨hg, HKe.out g hl⟩) (by omega)) (HYK.out.keep (fun g hg hl => ⟨hg, HKe.out g hl⟩) (by omega))
          by_cases hks : EqSs true kids kids'
          case neg =>
           have HNE := Lib.hid (show ¬ EqS true (.mk kd exprs kids v ax) (.mk kd exprs' kids' v' ax) from fun hE => hks (eqS_iff.1 hE).2.2.2.2)
           rw [sameB_false hks] at hki
           clear hks
           go_wp2_with fail
           refine hki.mono ?_
           rintro e wz ⟨rfl, bz⟩
           go_wp2
           go_ret
           exact ⟨by rw [sameB_false (notSs HX.out HY2.out HNE.out)] <;> rfl, HBe.out.trans (bz.mono HBe.out.size)⟩
          case pos =>
           have HOK : Hid (EqS true (.mk kd exprs kids v ax) (.mk kd exprs' kids' v' ax)) := Lib.hid (eqS_iff.2 ⟨rfl, fun _ => rfl, HV.out, HES.out, hks⟩)
           rw [sameB_true hks] at hki
           clear hks
           go_wp2_with fail
           refine hki.mono ?_
           rintro e wk ⟨rfl, bk⟩
           have HBk := Lib.hid (HBe.out.trans (bk.mono HBe.out.size))
           go_wp2
           try simp only [Act.put]
           go_roundw
           case rel =>
            refine ⟨j + 1, by omega, by rw [HQ3.out] <;> go_num, Lib.hid HBk.out, Lib.hid (fun i hi => ?_)⟩
            by_cases hij : i = j
            ·rw [hij, getD_of HX.out, getD_of HY2.out]; exact HOK.out
            ·exact HEQ.out i (by omega)
           case measure => rw [HQ3.out]; simp [intOf]; omega
      | false =>
       have hza := heap_alloc_new Y9 (.cells (vaL v).toArray 42)
       have hz1 := bl1 (Y9.alloc (.cells (vaL v).toArray 42)) (.cells (vaL v').toArray 42) hza (by rw [szA]; omega)
       have hz2 := bn (Y9.alloc (.cells (vaL v).toArray 42)) (.cells (vaL v').toArray 42) (k := Y9.heap.size + 1) (by rw [szA])
       have HS2 := Lib.hid (show ((Y9.alloc (.cells (vaL v).toArray 42)).alloc (.cells (vaL v').toArray 42)).heap.size = Y9.heap.size + 2 by simp only [szA])
       have HBz := Lib.hid ((HBL.out.alloc (HBL.out.size) (.cells (vaL v).toArray 42)).alloc (Nat.le_trans HBL.out.size (by simp only [szA]; omega)) (.cells (vaL v').toArray 42))
       have HR8z := Lib.hid (bl1 (Y9.alloc (.cells (vaL v).toArray 42)) (.cells (vaL v').toArray 42) (bl1 Y9 (.cells (vaL v).toArray 42) HR8.out l8) (by rw [szA]; omega))
       have HR9z := Lib.hid (bl1 (Y9.alloc (.cells (vaL v).toArray 42)) (.cells (vaL v').toArray 42) (bl1 Y9 (.cells (vaL v).toArray 42) HR9.out l9) (by rw [szA]; omega))
       have hva := vars_any [v] false [v'] _ _ _ _ _ (va_one _ v _ _ hz1) (va_one _ v' _ _ hz2)
       clear hza hz1 hz2
       by_cases hv : EqVas false [v] [v']
       case neg =>
        have HNE := Lib.hid (show ¬ EqS false (.mk kd exprs kids v ax) (.mk kd exprs' kids' v' ay) from fun hE => hv (eqVa_one.2 (eqS_iff.1 hE).2.2.1))
        rw [sameB_false hv] at hva
        clear hv
        go_wp2_with (first | ((with_reducible refine bs1 24 42 (.agg vaZ) 6 Tryz.underlying24 infoVaz (by decide) (by decide) (vaL v) rfl ?_ ?_); rfl) | ((with_reducible refine bs1 24 42 (.agg vaZ) 6 Tryz.underlying24 infoVaz (by decide) (by decide) (vaL v') rfl ?_ ?_); rfl))
        refine hva.mono ?_
        rintro e wz ⟨rfl, bz⟩
        go_wp2
        go_ret
        exact ⟨by rw [sameB_false (notSs HX.out HY2.out HNE.out)] <;> rfl, HBz.out.trans (bz.mono HBz.out.size)⟩
       case pos =>
        have HV := Lib.hid (eqVa_one.1 hv)
        rw [sameB_true hv] at hva
        clear hv
        go_wp2_with (first | ((with_reducible refine bs1 24 42 (.agg vaZ) 6 Tryz.underlying24 infoVaz (by decide) (by decide) (vaL v) rfl ?_ ?_); rfl) | ((with_reducible refine bs1 24 42 (.agg vaZ) 6 Tryz.underlying24 infoVaz (by decide) (by decide) (vaL v') rfl ?_ ?_); rfl))
        refine hva.mono ?_
        rintro e wv ⟨rfl, bv⟩
        have HBv := Lib.hid (HBz.out.trans (bv.mono HBz.out.size))
        have HR8v := Lib.hid ((bv.block _ (by rw [HS2.out]; omega)).trans HR8z.out)
        have HR9v := Lib.hid ((bv.block _ (by rw [HS2.out]; omega)).trans HR9z.out)
        have lv : Y9.heap.size + 2 ≤ wv.heap.size := by have := bv.size; rw [HS2.out] at this; exact this
        have HKv : Hid (∀ g, g < Y9.heap.size → wv.heap[g]? = Y9.heap[g]?) := Lib.hid (fun g hg => (bv.block g (by rw [HS2.out]; omega)).trans (bl1 (Y9.alloc (.cells (vaL v).toArray 42)) (.cells (vaL v').toArray 42) (bl1 Y9 (.cells (vaL v).toArray 42) rfl hg) (by rw [szA]; omega)))
        clear bv
        have gx1 : wv.cell? ⟨wr.heap.size, 1, none⟩ = some (.slice A exprs.length cap) := cell_of_row _ _ _ _ _ _ HR8v.out
        have gy1 : wv.cell? ⟨(wr.heap.size + 1), 1, none⟩ = some (.slice A' exprs'.length cap') := cell_of_row _ _ _ _ _ _ HR9v.out
        have hex := exprs_any _ exprs (Nat.le_refl _) false exprs' _ _ wv S1 S2 (HXE.out.keep (fun g hg hl => ⟨hg, HKv.out g hl⟩) (by omega)) (HYE.out.keep (fun g hg hl => ⟨hg, HKv.out g hl⟩) (by omega))
        by_cases hes : EqEs false exprs exprs'
        case neg =>
         have HNE := Lib.hid (show ¬ EqS false (.mk kd exprs kids v ax) (.mk kd exprs' kids' v' ay) from fun hE => hes (eqS_iff.1 hE).2.2.2.1)
         rw [sameB_false hes] at hex
         clear hes
         go_wp2_with fail
         refine hex.mono ?_
         rintro e wz ⟨rfl, bz⟩
         go_wp2
         go_ret
         exact ⟨by rw [sameB_false (notSs HX.out HY2.out HNE.out)] <;> rfl, HBv.out.trans (bz.mono HBv.out.size)⟩
        case pos =>
         have HES := Lib.hid hes
         rw [sameB_true hes] at hex
         clear hes
         go_wp2_with fail
         refine hex.mono ?_
         rintro e we ⟨rfl, be⟩
         have HBe := Lib.hid (HBv.out.trans (be.mono HBv.out.size))
         have HR8e := Lib.hid ((be.block _ (by omega)).trans HR8v.out)
         have HR9e := Lib.hid ((be.block _ (by omega)).trans HR9v.out)
         have le := be.size
         have HKe : Hid (∀ g, g < Y9.heap.size → we.heap[g]? = Y9.heap[g]?) := Lib.hid (fun g hg => (be.block g (by omega)).trans (HKv.out g hg))
         clear be
         have kx2 : we.cell? ⟨wr.heap.size, 2, none⟩ = some (.slice B kids.length cap2) := cell_of_row _ _ _ _ _ _ HR8e.out
         have ky2 : we.cell? ⟨(wr.heap.size + 1), 2, none⟩ = some (.slice B' kids'.length cap2') := cell_of_row _ _ _ _ _ _ HR9e.out
         have hki := HIH.out _ _ _ _ _ HXM.out false kids' _ _ we S1 S2 (HXK.out.keep (fun g hg hl => ⟨hg, HKe.out g hl⟩) (by omega)) (HYK.out.keep (fun g hg hl => ⟨hg, HKe.out g hl⟩) (by omega))
         by_cases hks : EqSs false kids kids'
         case neg =>
          have HNE := Lib.hid (show ¬ EqS false (.mk kd exprs kids v ax) (.mk kd exprs' kids' v' ay) from fun hE => hks (eqS_iff.1 hE).2.2.2.2)
          rw [sameB_false hks] at hki
          clear hks
          go_wp2_with fail
          refine hki.mono ?_
          rintro e wz ⟨rfl, bz⟩
          go_wp2
          go_ret
          exact ⟨by rw [sameB_false (notSs HX.out HY2.out HNE.out)] <;> rfl, HBe.out.trans (bz.mono HBe.out.size)⟩
         case pos =>
          have HOK : Hid (EqS false (.mk kd exprs kids v ax) (.mk kd exprs' kids' v' ay)) := Lib.hid (eqS_iff.2 ⟨rfl, fun h => Bool.noConfusion h, HV.out, HES.out, hks⟩)
          rw [sameB_true hks] at hki
          clear hks
          go_wp2_with fail
          refine hki.mono ?_
          rintro e wk ⟨rfl, bk⟩
          have HBk := Lib.hid (HBe.out.trans (bk.mono HBe.out.size))
          go_wp2
          try simp only [Act.put]
          go_roundw
          case rel =>
           refine ⟨j + 1, by omega, by rw [HQ3.out] <;> go_num, Lib.hid HBk.out, Lib.hid (fun i hi => ?_)⟩
           by_cases hij : i = j
           ·rw [hij, getD_of HX.out, getD_of HY2.out]; exact HOK.out
           ·exact HEQ.out i (by omega)
          case measure => rw [HQ3.out]; simp [intOf]; omega
    ·have HZ9 := Lib.hid (heap_alloc_new wr.drew (.cells stZ 44))
     go_simp
     refine hK.out _ _ (hHeld.alloc (hHeld.size) _) (fun hHeld => ?_)
     clear hK K
     try simp only [Act.put, sZa, sZb, sZc]
     refine wpAnyH_ready (rs := [8]) (by kernel_rfl) (by simp) ?_
     refine (AllReadyH.cons (i := 8) (o := ⟨some 8, .alloc 44, 0, "same.go:39", #[], none⟩) rfl (fun K hK => ?_) AllReadyH.nil)
     have HZo := Lib.hid (bl1 (wr.drew.alloc (.cells stZ 44)) (.cells stZ 44) HZ9.out (by rw [szA]; show wr.heap.size < wr.heap.size + 1; omega))
     have HZ8 := Lib.hid (bn (wr.drew.alloc (.cells stZ 44)) (.cells stZ 44) (k := wr.heap.size + 1) (by rw [szA]; rfl))
     go_simp
     refine hK.out _ _ (hHeld.alloc (hHeld.size) _) (fun hHeld => ?_)
     clear hK K
     try simp only [Act.put, sZa, sZb, sZc]
     refine wpAnyH_ready (rs := [10]) (by kernel_rfl) (by simp) ?_
     refine (AllReadyH.cons (i := 10) (o := ⟨none, .store 44 (.tmp 8) (.tmp 23), 0, "same.go:39", #[⟨8, .data⟩, ⟨3, .data⟩, ⟨0, .phase⟩, ⟨1, .phase⟩, ⟨2, .phase⟩, ⟨3, .phase⟩, { on := 4, ground := Go.Ground.textOnly Go.Departure.lateStores }, { on := 5, ground := Go.Ground.textOnly Go.Departure.lateStores }, { on := 6, ground := Go.Ground.textOnly Go.Departure.lateStores }, { on := 7, ground := Go.Ground.textOnly Go.Departure.lateStores }, ⟨8, .phase⟩, ⟨9, .phase⟩], none⟩) rfl (fun K hK => ?_) AllReadyH.nil)
     rw [if_pos (by rfl)]
     refine wp_stG 44 (wr.heap.size + 1) cx.toArray (by rfl) (by rfl) HZ8.out (by rw [List.size_toArray, HCX.out]; exact sizeSt) (by rw [List.size_toArray, List.size_toArray, HCX.out] <;> rfl) HOX.out ?_
     intro Y8 hY8
     have HY8 := Lib.hid hY8
     clear hY8
     have HB8 := Lib.hid HY8.out.at_
     have HZp := Lib.hid ((HY8.out.oth wr.heap.size (by omega)).trans HZo.out)
     refine hK.out _ _ (HY8.out.below hHeld (by omega)) (fun hHeld => ?_)
     clear hK K
     try simp only [Act.put, sZa, sZb, sZc]
     refine wpAnyH_ready (rs := [11]) (by kernel_rfl) (by simp) ?_
     refine (AllReadyH.cons (i := 11) (o := ⟨none, .store 44 (.tmp 9) (.tmp 27), 0, "same.go:39", #[⟨9, .data⟩, ⟨7, .data⟩, ⟨10, .chain⟩, ⟨0, .phase⟩, ⟨1, .phase⟩, ⟨2, .phase⟩, ⟨3, .phase⟩, ⟨4, .phase⟩, ⟨5, .phase⟩, ⟨6, .phase⟩, ⟨7, .phase⟩, ⟨8, .phase⟩, ⟨9, .phase⟩, ⟨10, .phase⟩], none⟩) rfl (fun K hK => ?_) AllReadyH.nil)
     rw [if_pos (by rfl)]
     refine wp_stG 44 wr.heap.size cy.toArray (by rfl) (by rfl) HZp.out (by rw [List.size_toArray, HCY.out]; exact sizeSt) (by rw [List.size_toArray, List.size_toArray, HCY.out] <;> rfl) HOY.out ?_
     intro Y9 hY9
     have HY9 := Lib.hid hY9
     clear hY9
     have hb8 := (HY9.out.oth (wr.heap.size + 1) (by omega)).trans HB8.out
     have hb9 := HY9.out.at_
     refine hK.out _ _ (HY9.out.below hHeld (by omega)) (fun hHeld => ?_)
     clear hK K
     try simp only [Act.put, sZa, sZb, sZc]
     refine wpAnyH_done (by kernel_rfl) ?_ _
     have HBL := Lib.hid (HBW.out.trans (hHeld.mono HBW.out.size))
     have hYs := hHeld.size
     obtain ⟨kd, exprs, kids, v, ax, A, cap, B, cap2, rfl, rfl, hxe, hxk⟩ := StAt.inv (HEX.out.keep (w' := Y9) (S' := S1) (fun g hg hl => ⟨hg, hHeld.block g hl⟩) hHeld.size)
     obtain ⟨kd', exprs', kids', v', ay, A', cap', B', cap2', rfl, rfl, hye, hyk⟩ := StAt.inv (HEY.out.keep (w' := Y9) (S' := S2) (fun g hg hl => ⟨hg, hHeld.block g hl⟩) hHeld.size)
     have HXE := Lib.hid hxe
     have HXK := Lib.hid hxk
     have HYE := Lib.hid hye
     have HYK := Lib.hid hyk
     clear hxe hxk hye hyk
     have HR8 := Lib.hid hb8
     have HR9 := Lib.hid hb9
     have fx0 : Y9.cell? ⟨(wr.heap.size + 1), 0, none⟩ = some (.int .i64 kd) := cell_of_row _ _ _ _ _ _ hb8
     have fx1 : Y9.cell? ⟨(wr.heap.size + 1), 1, none⟩ = some (.slice A exprs.length cap) := cell_of_row _ _ _ _ _ _ hb8
     have fx2 : Y9.cell? ⟨(wr.heap.size + 1), 2, none⟩ = some (.slice B kids.length cap2) := cell_of_row _ _ _ _ _ _ hb8
     have fx3 : Y9.cell? ⟨(wr.heap.size + 1), 3, none⟩ = some (.string v.nm) := cell_of_row _ _ _ _ _ _ hb8
     have fx4 : Y9.cell? ⟨(wr.heap.size + 1), 4, none⟩ = some (.int .i64 v.ty.ba) := cell_of_row _ _ _ _ _ _ hb8
     have fx5 : Y9.cell? ⟨(wr.heap.size + 1), 5, none⟩ = some (.int .i64 v.ty.st) := cell_of_row _ _ _ _ _ _ hb8
     have fx6 : Y9.cell? ⟨(wr.heap.size + 1), 6, none⟩ = some (.string v.ty.rc) := cell_of_row _ _ _ _ _ _ hb8
     have fx7 : Y9.cell? ⟨(wr.heap.size + 1), 7, none⟩ = some (.int .i64 v.ln) := cell_of_row _ _ _ _ _ _ hb8
     have fx8 : Y9.cell? ⟨(wr.heap.size + 1), 8, none⟩ = some (.int .i64 v.at_) := cell_of_row _ _ _ _ _ _ hb8
     have fx9 : Y9.cell? ⟨(wr.heap.size + 1), 9, none⟩ = some (.int .i64 ax) := cell_of_row _ _ _ _ _ _ hb8
     have fy0 : Y9.cell? ⟨wr.heap.size, 0, none⟩ = some (.int .i64 kd') := cell_of_row _ _ _ _ _ _ hb9
     have fy1 : Y9.cell? ⟨wr.heap.size, 1, none⟩ = some (.slice A' exprs'.length cap') := cell_of_row _ _ _ _ _ _ hb9
     have fy2 : Y9.cell? ⟨wr.heap.size, 2, none⟩ = some (.slice B' kids'.length cap2') := cell_of_row _ _ _ _ _ _ hb9
     have fy3 : Y9.cell? ⟨wr.heap.size, 3, none⟩ = some (.string v'.nm) := cell_of_row _ _ _ _ _ _ hb9
     have fy4 : Y9.cell? ⟨wr.heap.size, 4, none⟩ = some (.int .i64 v'.ty.ba) := cell_of_row _ _ _ _ _ _ hb9
     have fy5 : Y9.cell? ⟨wr.heap.size, 5, none⟩ = some (.int .i64 v'.ty.st) := cell_of_row _ _ _ _ _ _ hb9
     have fy6 : Y9.cell? ⟨wr.heap.size, 6, none⟩ = some (.string v'.ty.rc) := cell_of_row _ _ _ _ _ _ hb9
     have fy7 : Y9.cell? ⟨wr.heap.size, 7, none⟩ = some (.int .i64 v'.ln) := cell_of_row _ _ _ _ _ _ hb9
     have fy8 : Y9.cell? ⟨wr.heap.size, 8, none⟩ = some (.int .i64 v'.at_) := cell_of_row _ _ _ _ _ _ hb9
     have fy9 : Y9.cell? ⟨wr.heap.size, 9, none⟩ = some (.int .i64 ay) := cell_of_row _ _ _ _ _ _ hb9
     have l8 := (Array.getElem?_eq_some_iff.1 hb8).1
     have l9 := (Array.getElem?_eq_some_iff.1 hb9).1
     clear hb8 hb9 hHeld HEX HEY HRX HRY HCX HCY HOX HOY d1 el
     by_cases hne : kd = kd'
     case neg =>
      have HNE := Lib.hid (show ¬ EqS pl (.mk kd exprs kids v ax) (.mk kd' exprs' kids' v' ay) from fun hE => hne (eqS_iff.1 hE).1)
      have n1 : (kd == kd') = false := beq_eq_false_iff_ne.mpr hne
      have n2 : (kd != kd') = true := bne_iff_ne.mpr hne
      clear hne
      clear HBW HEQ
      go_wp2
      go_ret
      exact ⟨by rw [sameB_false (notSs HX.out HY2.out HNE.out)] <;> rfl, HBL.out⟩
     case pos =>
      subst hne
      cases pl with
      | true =>
       by_cases hne : ax = ay
       case neg =>
        have HNE := Lib.hid (show ¬ EqS true (.mk kd exprs kids v ax) (.mk kd exprs' kids' v' ay) from fun hE => hne ((eqS_iff.1 hE).2.1 rfl))
        have n1 : ((ax : Int) == (ay : Int)) = false := beq_eq_false_iff_ne.mpr (by omega)
        have n2 : ((ax : Int) != (ay : Int)) = true := bne_iff_ne.mpr (by omega)
        clear hne
        clear HBW HEQ
        go_wp2
        go_ret
        exact ⟨by rw [sameB_false (notSs HX.out HY2.out HNE.out)] <;> rfl, HBL.out⟩
       case pos =>
        subst hne
        have hza := heap_alloc_new Y9 (.cells (vaL v).toArray 42)
        have hz1 := bl1 (Y9.alloc (.cells (vaL v).toArray 42)) (.cells (vaL v').toArray 42) hza (by rw [szA]; omega)
        have hz2 := bn (Y9.alloc (.cells (vaL v).toArray 42)) (.cells (vaL v').toArray 42) (k := Y9.heap.size + 1) (by rw [szA])
        have HS2 := Lib.hid (show ((Y9.alloc (.cells (vaL v).toArray 42)).alloc (.cells (vaL v').toArray 42)).heap.size = Y9.heap.size + 2 by simp only [szA])
        have HBz := Lib.hid ((HBL.out.alloc (HBL.out.size) (.cells (vaL v).toArray 42)).alloc (Nat.le_trans HBL.out.size (by simp only [szA]; omega)) (.cells (vaL v').toArray 42))
        have HR8z := Lib.hid (bl1 (Y9.alloc (.cells (vaL v).toArray 42)) (.cells (vaL v').toArray 42) (bl1 Y9 (.cells (vaL v).toArray 42) HR8.out l8) (by rw [szA]; omega))
        have HR9z := Lib.hid (bl1 (Y9.alloc (.cells (vaL v).toArray 42)) (.cells (vaL v').toArray 42) (bl1 Y9 (.cells (vaL v).toArray 42) HR9.out l9) (by rw [szA]; omega))
        have hva := vars_any [v] true [v'] _ _ _ _ _ (va_one _ v _ _ hz1) (va_one _ v' _ _ hz2)
        clear hza hz1 hz2
        by_cases hv : EqVas true [v] [v']
        case neg =>
         have HNE := Lib.hid (show ¬ EqS true (.mk kd exprs kids v ax) (.mk kd exprs' kids' v' ax) from fun hE => hv (eqVa_one.2 (eqS_iff.1 hE).2.2.1))
         rw [sameB_false hv] at hva
         clear hv
         go_wp2_with (first | ((with_reducible refine bs1 24 42 (.agg vaZ) 6 Tryz.underlying24 infoVaz (by decide) (by decide) (vaL v) rfl ?_ ?_); rfl) | ((with_reducible refine bs1 24 42 (.agg vaZ) 6 Tryz.underlying24 infoVaz (by decide) (by decide) (vaL v') rfl ?_ ?_); rfl))
         refine hva.mono ?_
         rintro e wz ⟨rfl, bz⟩
         go_wp2
         go_ret
         exact ⟨by rw [sameB_false (notSs HX.out HY2.out HNE.out)] <;> rfl, HBz.out.trans (bz.mono HBz.out.size)⟩
        case pos =>
         have HV := Lib.hid (eqVa_one.1 hv)
         rw [sameB_true hv] at hva
         clear hv
         go_wp2_with (first | ((with_reducible refine bs1 24 42 (.agg vaZ) 6 Tryz.underlying24 infoVaz (by decide) (by decide) (vaL v) rfl ?_ ?_); rfl) | ((with_reducible refine bs1 24 42 (.agg vaZ) 6 Tryz.underlying24 infoVaz (by decide) (by decide) (vaL v') rfl ?_ ?_); rfl))
         refine hva.mono ?_
         rintro e wv ⟨rfl, bv⟩
         have HBv := Lib.hid (HBz.out.trans (bv.mono HBz.out.size))
         have HR8v := Lib.hid ((bv.block _ (by rw [HS2.out]; omega)).trans HR8z.out)
         have HR9v := Lib.hid ((bv.block _ (by rw [HS2.out]; omega)).trans HR9z.out)
         have lv : Y9.heap.size + 2 ≤ wv.heap.size := by have := bv.size; rw [HS2.out] at this; exact this
         have HKv : Hid (∀ g, g < Y9.heap.size → wv.heap[g]? = Y9.heap[g]?) := Lib.hid (fun g hg => (bv.block g (by rw [HS2.out]; omega)).trans (bl1 (Y9.alloc (.cells (vaL v).toArray 42)) (.cells (vaL v').toArray 42) (bl1 Y9 (.cells (vaL v).toArray 42) rfl hg) (by rw [szA]; omega)))
         clear bv
         have gx1 : wv.cell? ⟨(wr.heap.size + 1), 1, none⟩ = some (.slice A exprs.length cap) := cell_of_row _ _ _ _ _ _ HR8v.out
         have gy1 : wv.cell? ⟨wr.heap.size, 1, none⟩ = some (.slice A' exprs'.length cap') := cell_of_row _ _ _ _ _ _ HR9v.out
         have hex := exprs_any _ exprs (Nat.le_refl _) true exprs' _ _ wv S1 S2 (HXE.out.keep (fun g hg hl => ⟨hg, HKv.out g hl⟩) (by omega)) (HYE.out.keep (fun g hg hl => ⟨hg, HKv.out g hl⟩) (by omega))
         by_cases hes : EqEs true exprs exprs'
         case neg =>
          have HNE := Lib.hid (show ¬ EqS true (.mk kd exprs kids v ax) (.mk kd exprs' kids' v' ax) from fun hE => hes (eqS_iff.1 hE).2.2.2.1)
          rw [sameB_false hes] at hex
          clear hes
          go_wp2_with fail
          refine hex.mono ?_
          rintro e wz ⟨rfl, bz⟩
          go_wp2
          go_ret
          exact ⟨by rw [sameB_false (notSs HX.out HY2.out HNE.out)] <;> rfl, HBv.out.trans (bz.mono HBv.out.size)⟩
         case pos =>
          have HES := Lib.hid hes
          rw [sameB_true hes] at hex
          clear hes
          go_wp2_with fail
          refine hex.mono ?_
          rintro e we ⟨rfl, be⟩
          have HBe := Lib.hid (HBv.out.trans (be.mono HBv.out.size))
          have HR8e := Lib.hid ((be.block _ (by omega)).trans HR8v.out)
          have HR9e := Lib.hid ((be.block _ (by omega)).trans HR9v.out)
          have le := be.size
          have HKe : Hid (∀ g, g < Y9.heap.size → we.heap[g]? = Y9.heap[g]?) := Lib.hid (fun g hg => (be.block g (by omega)).trans (HKv.out g hg))
          clear be
          have kx2 : we.cell? ⟨(wr.heap.size + 1), 2, none⟩ = some (.slice B kids.length cap2) := cell_of_row _ _ _ _ _ _ HR8e.out
          have ky2 : we.cell? ⟨wr.heap.size, 2, none⟩ = some (.slice B' kids'.length cap2') := cell_of_row _ _ _ _ _ _ HR9e.out
          have hki := HIH.out _ _ _ _ _ HXM.out true kids' _ _ we S1 S2 (HXK.out.keep (fun g hg hl => ⟨hg, HKe.out g hl⟩) (by omega)) (HYK.out.keep (fun g hg hl => ⟨hg, HKe.out g hl⟩) (by omega))
          by_cases hks : EqSs true kids kids'
          case neg =>
           have HNE := Lib.hid (show ¬ EqS true (.mk kd exprs kids v ax) (.mk kd exprs' kids' v' ax) from fun hE => hks (eqS_iff.1 hE).2.2.2.2)
           rw [sameB_false hks] at hki
           clear hks
           go_wp2_with fail
           refine hki.mono ?_
           rintro e wz ⟨rfl, bz⟩
           go_wp2
           go_ret
           exact ⟨by rw [sameB_false (notSs HX.out HY2.out HNE.out)] <;> rfl, HBe.out.trans (bz.mono HBe.out.size)⟩
          case pos =>
           have HOK : Hid (EqS true (.mk kd exprs kids v ax) (.mk kd exprs' kids' v' ax)) := Lib.hid (eqS_iff.2 ⟨rfl, fun _ => rfl, HV.out, HES.out, hks⟩)
           rw [sameB_true hks] at hki
           clear hks
           go_wp2_with fail
           refine hki.mono ?_
           rintro e wk ⟨rfl, bk⟩
           have HBk := Lib.hid (HBe.out.trans (bk.mono HBe.out.size))
           go_wp2
           try simp only [Act.put]
           go_roundw
           case rel =>
            refine ⟨j + 1, by omega, by rw [HQ3.out] <;> go_num, Lib.hid HBk.out, Lib.hid (fun i hi => ?_)⟩
            by_cases hij : i = j
            ·rw [hij, getD_of HX.out, getD_of HY2.out]; exact HOK.out
            ·exact HEQ.out i (by omega)
           case measure => rw [HQ3.out]; simp [intOf]; omega
      | false =>
       have hza := heap_alloc_new Y9 (.cells (vaL v).toArray 42)
       have hz1 := bl1 (Y9.alloc (.cells (vaL v).toArray 42)) (.cells (vaL v').toArray 42) hza (by rw [szA]; omega)
       have hz2 := bn (Y9.alloc (.cells (vaL v).toArray 42)) (.cells (vaL v').toArray 42) (k := Y9.heap.size + 1) (by rw [szA])
       have HS2 := Lib.hid (show ((Y9.alloc (.cells (vaL v).toArray 42)).alloc (.cells (vaL v').toArray 42)).heap.size = Y9.heap.size + 2 by simp only [szA])
       have HBz := Lib.hid ((HBL.out.alloc (HBL.out.size) (.cells (vaL v).toArray 42)).alloc (Nat.le_trans HBL.out.size (by simp only [szA]; omega)) (.cells (vaL v').toArray 42))
       have HR8z := Lib.hid (bl1 (Y9.alloc (.cells (vaL v).toArray 42)) (.cells (vaL v').toArray 42) (bl1 Y9 (.cells (vaL v).toArray 42) HR8.out l8) (by rw [szA]; omega))
       have HR9z := Lib.hid (bl1 (Y9.alloc (.cells (vaL v).toArray 42)) (.cells (vaL v').toArray 42) (bl1 Y9 (.cells (vaL v).toArray 42) HR9.out l9) (by rw [szA]; omega))
       have hva := vars_any [v] false [v'] _ _ _ _ _ (va_one _ v _ _ hz1) (va_one _ v' _ _ hz2)
       clear hza hz1 hz2
       by_cases hv : EqVas false [v] [v']
       case neg =>
        have HNE := Lib.hid (show ¬ EqS false (.mk kd exprs kids v ax) (.mk kd exprs' kids' v' ay) from fun hE => hv (eqVa_one.2 (eqS_iff.1 hE).2.2.1))
        rw [sameB_false hv] at hva
        clear hv
        go_wp2_with (first | ((with_reducible refine bs1 24 42 (.agg vaZ) 6 Tryz.underlying24 infoVaz (by decide) (by decide) (vaL v) rfl ?_ ?_); rfl) | ((with_reducible refine bs1 24 42 (.agg vaZ) 6 Tryz.underlying24 infoVaz (by decide) (by decide) (vaL v') rfl ?_ ?_); rfl))
        refine hva.mono ?_
        rintro e wz ⟨rfl, bz⟩
        go_wp2
        go_ret
        exact ⟨by rw [sameB_false (notSs HX.out HY2.out HNE.out)] <;> rfl, HBz.out.trans (bz.mono HBz.out.size)⟩
       case pos =>
        have HV := Lib.hid (eqVa_one.1 hv)
        rw [sameB_true hv] at hva
        clear hv
        go_wp2_with (first | ((with_reducible refine bs1 24 42 (.agg vaZ) 6 Tryz.underlying24 infoVaz (by decide) (by decide) (vaL v) rfl ?_ ?_); rfl) | ((with_reducible refine bs1 24 42 (.agg vaZ) 6 Tryz.underlying24 infoVaz (by decide) (by decide) (vaL v') rfl ?_ ?_); rfl))
        refine hva.mono ?_
        rintro e wv ⟨rfl, bv⟩
        have HBv := Lib.hid (HBz.out.trans (bv.mono HBz.out.size))
        have HR8v := Lib.hid ((bv.block _ (by rw [HS2.out]; omega)).trans HR8z.out)
        have HR9v := Lib.hid ((bv.block _ (by rw [HS2.out]; omega)).trans HR9z.out)
        have lv : Y9.heap.size + 2 ≤ wv.heap.size := by have := bv.size; rw [HS2.out] at this; exact this
        have HKv : Hid (∀ g, g < Y9.heap.size → wv.heap[g]? = Y9.heap[g]?) := Lib.hid (fun g hg => (bv.block g (by rw [HS2.out]; omega)).trans (bl1 (Y9.alloc (.cells (vaL v).toArray 42)) (.cells (vaL v').toArray 42) (bl1 Y9 (.cells (vaL v).toArray 42) rfl hg) (by rw [szA]; omega)))
        clear bv
        have gx1 : wv.cell? ⟨(wr.heap.size + 1), 1, none⟩ = some (.slice A exprs.length cap) := cell_of_row _ _ _ _ _ _ HR8v.out
        have gy1 : wv.cell? ⟨wr.heap.size, 1, none⟩ = some (.slice A' exprs'.length cap') := cell_of_row _ _ _ _ _ _ HR9v.out
        have hex := exprs_any _ exprs (Nat.le_refl _) false exprs' _ _ wv S1 S2 (HXE.out.keep (fun g hg hl => ⟨hg, HKv.out g hl⟩) (by omega)) (HYE.out.keep (fun g hg hl => ⟨hg, HKv.out g hl⟩) (by omega))
        by_cases hes : EqEs false exprs exprs'
        case neg =>
         have HNE := Lib.hid (show ¬ EqS false (.mk kd exprs kids v ax) (.mk kd exprs' kids' v' ay) from fun hE => hes (eqS_iff.1 hE).2.2.2.1)
         rw [sameB_false hes] at hex
         clear hes
         go_wp2_with fail
         refine hex.mono ?_
         rintro e wz ⟨rfl, bz⟩
         go_wp2
         go_ret
         exact ⟨by rw [sameB_false (notSs HX.out HY2.out HNE.out)] <;> rfl, HBv.out.trans (bz.mono HBv.out.size)⟩
        case pos =>
         have HES := Lib.hid hes
         rw [sameB_true hes] at hex
         clear hes
         go_wp2_with fail
         refine hex.mono ?_
         rintro e we ⟨rfl, be⟩
         have HBe := Lib.hid (HBv.out.trans (be.mono HBv.out.size))
         have HR8e := Lib.hid ((be.block _ (by omega)).trans HR8v.out)
         have HR9e := Lib.hid ((be.block _ (by omega)).trans HR9v.out)
         have le := be.size
         have HKe : Hid (∀ g, g < Y9.heap.size → we.heap[g]? = Y9.heap[g]?) := Lib.hid (fun g hg => (be.block g (by omega)).trans (HKv.out g hg))
         clear be
         have kx2 : we.cell? ⟨(wr.heap.size + 1), 2, none⟩ = some (.slice B kids.length cap2) := cell_of_row _ _ _ _ _ _ HR8e.out
         have ky2 : we.cell? ⟨wr.heap.size, 2, none⟩ = some (.slice B' kids'.length cap2') := cell_of_row _ _ _ _ _ _ HR9e.out
         have hki := HIH.out _ _ _ _ _ HXM.out false kids' _ _ we S1 S2 (HXK.out.keep (fun g hg hl => ⟨hg, HKe.out g hl⟩) (by omega)) (HYK.out.keep (fun g hg hl => ⟨hg, HKe.out g hl⟩) (by omega))
         by_cases hks : EqSs false kids kids'
         case neg =>
          have HNE := Lib.hid (show ¬ EqS false (.mk kd exprs kids v ax) (.mk kd exprs' kids' v' ay) from fun hE => hks (eqS_iff.1 hE).2.2.2.2)
          rw [sameB_false hks] at hki
          clear hks
          go_wp2_with fail
          refine hki.mono ?_
          rintro e wz ⟨rfl, bz⟩
          go_wp2
          go_ret
          exact ⟨by rw [sameB_false (notSs HX.out HY2.out HNE.out)] <;> rfl, HBe.out.trans (bz.mono HBe.out.size)⟩
         case pos =>
          have HOK : Hid (EqS false (.mk kd exprs kids v ax) (.mk kd exprs' kids' v' ay)) := Lib.hid (eqS_iff.2 ⟨rfl, fun h => Bool.noConfusion h, HV.out, HES.out, hks⟩)
          rw [sameB_true hks] at hki
          clear hks
          go_wp2_with fail
          refine hki.mono ?_
          rintro e wk ⟨rfl, bk⟩
          have HBk := Lib.hid (HBe.out.trans (bk.mono HBe.out.size))
          go_wp2
          try simp only [Act.put]
          go_roundw
          case rel =>
           refine ⟨j + 1, by omega, by rw [HQ3.out] <;> go_num, Lib.hid HBk.out, Lib.hid (fun i hi => ?_)⟩
           by_cases hij : i = j
           ·rw [hij, getD_of HX.out, getD_of HY2.out]; exact HOK.out
           ·exact HEQ.out i (by omega)
          case measure => rw [HQ3.out]; simp [intOf]; omega
   ·have d1 : decide ((j : Int) < (l1.length : Int)) = false := decide_eq_false (by omega)
    go_wp2
    go_ret
    exact ⟨by rw [sameB_true ⟨HLEN.out, fun i hi => HEQ.out i (by omega)⟩] <;> rfl, HBW.out⟩
 ·have el : ((l1.length : Int) != (l2.length : Int)) = true := by simp; omega
  have hn : ¬ EqSs pl l1 l2 := fun h => hlen h.1
  have HN := Lib.hid hn
  clear hlen hn
  go_enter Tryz.func19, Tryz.ntmps19
  go_wp2
  go_ret
  exact ⟨by rw [sameB_false HN.out] <;> rfl, Below.refl _ _⟩
theorem stmts_any : ∀ (n : Nat) (l : List PSt), SizeOf.sizeOf l ≤ n → StmtsC l := by
 intro n
 induction n with
 | zero => intro l h; cases l <;> simp at h
 | succ n ih =>
  intro l h
  refine stmts_step l fun k xs ks v a hmem => ih ks ?_
  have h1 := List.sizeOf_lt_of_mem hmem
  have h2 : SizeOf.sizeOf ks < SizeOf.sizeOf (PSt.mk k xs ks v a) := by simp; omega
  omega
end Go.Proofs.YtfjobnljdkiihaaGreatDoor
