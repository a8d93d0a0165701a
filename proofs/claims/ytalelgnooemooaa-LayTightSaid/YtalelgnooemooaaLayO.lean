/- Package lay: fields one behind the other. Conditions: each theorem's. -/
import Derived.Test.YtalelgnooemooaaLayN
namespace Go.Proofs.Ytalelgnooemooaa
open Go.RowKit Go.Maps
set_option linter.unusedVariables false
set_option linter.unusedSimpArgs false
set_option maxRecDepth 10000
open Py
namespace Py
structure Ly where
  offs : List Int
  size : Int
  line : Int
def ly0 : Ly := ⟨[], 0, 0⟩
def layStep (y : Ly) (f : Fe) : Ly := ⟨y.offs ++ [nextV y.size (sizeV f.ty)], nextV y.size (sizeV f.ty) + sizeV f.ty, if y.line < sizeV f.ty then sizeV f.ty else y.line⟩
def layN (fs : List Fe) (k : Nat) : Ly := (fs.take k).foldl layStep ly0
def layV (fs : List Fe) : Ly := { layN fs fs.length with size := nextV (layN fs fs.length).size (layN fs fs.length).line }
theorem layN_succ (fs : List Fe) (k : Nat) (h : k < fs.length) : layN fs (k + 1) = layStep (layN fs k) (fs.getD k fd0) := by
  unfold layN
  rw [List.take_succ_eq_append_getElem h, List.foldl_append]
  simp [List.getD, h]
theorem next_room (n z : Int) (h : 0 ≤ n) (hz : z = 0 ∨ z = 1 ∨ z = 4 ∨ z = 8) : 0 ≤ nextV n z ∧ nextV n z ≤ n + 7 := by
  unfold nextV
  rcases hz with rfl | rfl | rfl | rfl <;> simp <;> omega
theorem layN_ok (fs : List Fe) (k : Nat) (h : k ≤ fs.length) : (layN fs k).offs.length = k ∧ 0 ≤ (layN fs k).size ∧ (layN fs k).size ≤ 16 * k ∧ ((layN fs k).line = 0 ∨ (layN fs k).line = 1 ∨ (layN fs k).line = 4 ∨ (layN fs k).line = 8) := by
  induction k with
  | zero => simp [layN, ly0]
  | succ k ih =>
    obtain ⟨i1, i2, i3, i4⟩ := ih (by omega)
    rw [layN_succ fs k (by omega)]
    have hz := sizeV_cases (fs.getD k fd0).ty
    have hn := next_room (layN fs k).size (sizeV (fs.getD k fd0).ty) i2 hz
    refine ⟨by simp [layStep, i1], by simp only [layStep]; omega, by simp only [layStep]; omega, ?_⟩
    simp only [layStep]
    rcases i4 with e | e | e | e <;> rcases hz with e' | e' | e' | e' <;> rw [e, e'] <;> decide
end Py
def ints (l : List Int) : List Value := l.map (Value.int .i64)
theorem infoInt : (Try.prog.info? 3).map (fun i => (i.zero, i.size, i.bytes)) = some (some (.int .i64 0), 1, 8) := by kernel_rfl
theorem info_parts {e : TypeId} {z : Value} {s b : Nat} (h : (Try.prog.info? e).map (fun i => (i.zero, i.size, i.bytes)) = some (some z, s, b)) : ∃ i, Try.prog.info? e = some i ∧ i.zero = some z ∧ i.size = s ∧ i.bytes = b := by
  cases hi : Try.prog.info? e with
  | none => rw [hi] at h; cases h
  | some i =>
    rw [hi] at h
    simp at h
    exact ⟨i, rfl, h.1, h.2.1, h.2.2⟩
theorem own_base {w : World} {base size n g : Nat} {e : TypeId} {v : Value} {xs : List Value} (h : w.ownsRow base e size v n xs) (hg : g < base) : v.ownBlock ≠ some g := by
  rcases h.2 with ⟨rfl, _⟩ | ⟨g', cap, cur, rfl, hb, hh, _⟩
  · simp [Value.ownBlock]
  · intro he
    have : g' = g := by simpa [Value.ownBlock] using he
    omega
theorem own_type {w : World} {base size n g : Nat} {e t : TypeId} {v : Value} {xs : List Value} {cs : Array Value} (h : w.ownsRow base e size v n xs) (hg : w.heap[g]? = some (.cells cs t)) (hne : t ≠ e) : v.ownBlock ≠ some g := by
  rcases h.2 with ⟨rfl, _⟩ | ⟨g', cap, cur, rfl, hb, hh, _⟩
  · simp [Value.ownBlock]
  · intro he
    have : g' = g := by simpa [Value.ownBlock] using he
    subst this
    rw [hg] at hh
    injection hh with hh
    injection hh with _ hh
    exact hne hh
theorem own_slice {w : World} {base size n : Nat} {e : TypeId} {v : Value} {xs : List Value} (h : w.ownsRow base e size v n xs) : ∃ A m c, v = .slice A m c := by
  rcases h.2 with ⟨rfl, _⟩ | ⟨g', cap, cur, rfl, _⟩
  · exact ⟨_, _, _, rfl⟩
  · exact ⟨_, _, _, rfl⟩
theorem ownsRow_at {w w' : World} {base size n : Nat} {e : TypeId} {v : Value} {xs : List Value} (h : w.ownsRow base e size v n xs) (hk : ∀ g cur, base ≤ g → w.heap[g]? = some (.cells cur e) → w'.heap[g]? = some (.cells cur e)) : w'.ownsRow base e size v n xs := by
  obtain ⟨hl, h⟩ := h
  refine ⟨hl, ?_⟩
  rcases h with h | ⟨g, cap, cur, h1, h2, h3, h4⟩
  · exact .inl h
  · exact .inr ⟨g, cap, cur, h1, h2, hk g _ h2 h3, h4⟩
theorem sizeLay : (Try.prog.info? 50).map (·.size) = some 3 := by kernel_rfl
theorem row_below2 {w w' : World} {B b : Nat} {x : Obj} (hb : Below B w w') (h : w.heap[b]? = some x) (hlt : b < B) : w'.heap[b]? = some x := (hb.block b hlt).trans h
theorem lt_of_row {w : World} {g : Nat} {o : Obj} (h : w.heap[g]? = some o) : g < w.heap.size := (Array.getElem?_eq_some_iff.1 h).1
theorem sc_cells3 {w : World} {b : Nat} {x y z : Value} {t : TypeId} (h : w.heap[b]? = some (.cells #[x, y, z] t)) :
    w.cell? ⟨b, 0, none⟩ = some x ∧ w.cell? ⟨b, 1, none⟩ = some y ∧ w.cell? ⟨b, 2, none⟩ = some z :=
  ⟨by rw [cell_of_row w b 0 _ _ _ h]; rfl, by rw [cell_of_row w b 1 _ _ _ h]; rfl, by rw [cell_of_row w b 2 _ _ _ h]; rfl⟩
theorem sc_frozen3 {w : World} {b : Nat} {cs : Array Value} {t : TypeId} (h : w.heap[b]? = some (.cells cs t)) :
    w.frozen? ⟨b, 0, none⟩ = false ∧ w.frozen? ⟨b, 1, none⟩ = false ∧ w.frozen? ⟨b, 2, none⟩ = false :=
  ⟨frozen_of_row w b 0 _ _ h, frozen_of_row w b 1 _ _ h, frozen_of_row w b 2 _ _ h⟩
/-- While fields are laid: j of them are. -/
def LRel (w : World) (g5 : Nat) (fs : List Fe) (j : Nat) (wr : World) : Prop :=
  ∃ ov, wr.heap[g5]? = some (.cells #[.int .i64 (layN fs j).size, .int .i64 (layN fs j).line, ov] 50) ∧ wr.ownsRow w.heap.size 3 1 ov j (ints (layN fs j).offs) ∧ wr.heap[w.heap.size]? = some (.cells #[.int .i64 0, .int .i64 0, .slice none 0 0] 50) ∧ Below w.heap.size w wr
set_option maxHeartbeats 4000000 in
theorem lay_any {w : World} {B b : Nat} {fA : Option Addr} {fc : Nat} {fs : List Fe} (hN : NumsAt w b) (hFS : FdsAt w B fA fs) (hB : B ≤ w.heap.size) (hf40 : fs.length ≤ 1048576) (hok : ∀ k, k < fs.length → tyOk (fs.getD k fd0).ty) :
    Calls Try.prog 24 #[.map (some b), .slice fA fs.length fc] w fun e w' => ∃ ov, e = .returned (.agg #[.int .i64 (layV fs).size, .int .i64 (layV fs).line, ov]) ∧ w'.ownsRow w.heap.size 3 1 ov fs.length (ints (layV fs).offs) ∧ Below w.heap.size w w' := by
  obtain ⟨i0, hi0, hz0, hz1, hz2⟩ := info_parts infoInt
  have hbl := hN.lt
  obtain ⟨wm, hmk, hom, hgm⟩ := run_make_own (P := Try.prog) (w.alloc (.cells #[.int .i64 0, .int .i64 0, .slice none 0 0] 50)) (w.heap.size) 48 3 i0 (.int .i64 0) 1 Try.underlying48 hi0 hz0 hz1 .i64 .i64 fs.length (by rw [hz2]; omega) (by unfold maxLen; omega) (by simp)
  go_enter Try.func24, Try.ntmps24
  go_wp2_with fail
  have hbm : Below w.heap.size w wm := ((Below.refl _ _).alloc (Nat.le_refl _) (.cells #[.int .i64 0, .int .i64 0, .slice none 0 0] 50)).grown hgm (by simp) (fun k hk => by cases hk)
  have hzm : w.heap.size + 1 ≤ wm.heap.size := by have := hgm.size; simp only [szA] at this; omega
  have h4m : wm.heap[w.heap.size]? = some (.cells #[.int .i64 0, .int .i64 0, .slice none 0 0] 50) := (hgm.block _ (by simp) (by simp)).trans (heap_alloc_new w _)
  have hrel0 : LRel w wm.heap.size fs 0 (wm.alloc (.cells #[.int .i64 0, .int .i64 0, .slice (some ⟨w.heap.size + 1, 0, none⟩) 0 fs.length] 50)) := by
    refine ⟨.slice (some ⟨w.heap.size + 1, 0, none⟩) 0 fs.length, heap_alloc_new wm _, ?_, ?_, hbm.alloc hbm.size _⟩
    · rw [szA] at hom; exact hom.alloc _
    · rw [Below.heap_alloc _ _ _ (by omega)]; exact h4m
  have hg5 : w.heap.size < wm.heap.size := by omega
  have hfr := hbm.size
  generalize wm.heap.size = g5 at *
  clear hmk hom hgm hbm hzm h4m
  go_loopw [16] (fun k wr => ∃ j : Nat, j ≤ fs.length ∧ k = .int .i64 j ∧ LRel w g5 fs j wr) (fun k _ => fs.length - (intOf k).toNat)
  case atStart => exact ⟨0, Nat.zero_le _, rfl, hrel0⟩
  case round =>
    obtain ⟨j, hj, rfl, ov, h5, hov, h4, hbe⟩ := hrel
    have hl5 := lt_of_row h5
    have hl4 := lt_of_row h4
    by_cases hlt : j < fs.length
    · obtain ⟨g, o, rfl, hg, hrg⟩ := hFS (by omega)
      have hr' := range_keep (hrg j hlt) (Nat.lt_of_lt_of_le hg hB) hbe
      have hty := hok j hlt
      have hstep := layN_succ fs j hlt
      obtain ⟨y1, y2, y3, y4⟩ := layN_ok fs j hj
      have hz := sizeV_cases (fs.getD j fd0).ty
      have dj0 : (0 : Int) ≤ (j : Int) := by omega
      have dj1 : (j : Int) < (fs.length : Int) := by omega
      clear hrg
      generalize hs : fs.getD j fd0 = f at *
      obtain ⟨nm, t, fat⟩ := f
      obtain ⟨ba, st, sn⟩ := t
      have hbA : Below wr.heap.size wr (wr.alloc (.cells #[.string nm, .int .i64 ba, .int .i64 st, .string sn, .int .i64 fat] 47)) := (Below.refl _ _).alloc (Nat.le_refl _) _
      have hN1 := (hN.keep hbe hbl).keep hbA (by omega)
      clear hs
      dsimp only at *
      go_wp2_with (refine wpList_load_mid (op := ⟨some 19, _, _, _, _, _⟩) rfl 47 (.tmp 18) rfl g (o + j * 5) rfl [.string nm, .int .i64 ba, .int .i64 st, .string sn, .int .i64 fat] _ hr' Try.underlying47 rfl sizeFd ?_)
      refine (of_any ⟨ba, st, sn⟩ hN1 hty).mono ?_
      rintro e w2 ⟨rfl, h2⟩
      have hb12 : Below wr.heap.size wr w2 := hbA.trans (h2.mono (by simp only [szA]; omega))
      have h52 := row_below2 hb12 h5 hl5
      have h42 := row_below2 hb12 h4 hl4
      have hov2 := ownsRow_at hov (fun g' cur _ hg' => row_below2 hb12 hg' (lt_of_row hg'))
      have hbe2 := hbe.trans (hb12.mono hbe.size)
      obtain ⟨p0, p1, p2⟩ := sc_cells3 h52
      have hz52 := lt_of_row h52
      generalize hZ : sizeV ⟨ba, st, sn⟩ = z at *
      have hLS : layStep (layN fs j) ⟨nm, ⟨ba, st, sn⟩, fat⟩ = ⟨(layN fs j).offs ++ [nextV (layN fs j).size z], nextV (layN fs j).size z + z, if (layN fs j).line < z then z else (layN fs j).line⟩ := by unfold layStep; rw [hZ]
      rw [hLS] at hstep
      have HST := Lib.hid hstep
      have hnr := next_room (layN fs j).size z y2 hz
      clear hb12 hbA h2 hov h5 h4 hN1 hty hr' hstep hLS hZ
      generalize hs1 : (layN fs j).size = S at *
      generalize hs2 : (layN fs j).line = L at *
      generalize hs3 : (layN fs j).offs = O at *
      go_wp2_with fail
      refine (next_any S z w2 (by omega) hz).mono ?_
      rintro e w3 ⟨rfl, rfl⟩
      generalize nextV S z = off at *
      have hne5 := own_type hov2 h52 (by decide)
      have hne4 := own_type hov2 h42 (by decide)
      go_wp2_with (at_builtin; refine wpList_append_lies (o := ⟨some 32, _, _, _, _, _⟩) _ rfl (.tmp 29) (.tmp 31) 48 rfl w.heap.size 3 i0 (.int .i64 0) 1 8 Try.underlying48 hi0 hz0 hz1 hz2 rfl (by decide) _ _ _ rfl (hov2.alloc _) ⟨w2.heap.size, 0, none⟩ 1 1 [.int .i64 off] rfl rfl (World.news_of_block (cs := #[.int .i64 off]) (t := 3) (fr := (0, 0)) (heap_alloc_new w2 _)) (by simp [Value.oneCell']) (by omega) (by unfold maxLen; omega) (by omega) (by have := hbe2.size; simp only [szA]; omega) (w2.heap.size + 1) (szA _ _) ?_; intro ga cap w3 hown3 hgrow hat hlt3; have h53 : w3.heap[g5]? = some (.cells #[.int .i64 S, .int .i64 L, ov] 50) := (hgrow.block g5 (by simp only [szA]; omega) (fun e => hne5 e.symm)).trans ((Below.heap_alloc _ _ _ hz52).trans h52); obtain ⟨u0, u1, u2⟩ := sc_cells3 h53; obtain ⟨v0, v1, v2⟩ := sc_frozen3 h53; have hz3 := lt_of_row h53)
      refine ⟨⟨j + 1, by omega, by go_num, ?_⟩, by simp [intOf]; omega⟩
      have a1 := heap_setCell_same w3 g5 2 _ _ (.slice (some ⟨ga, 0, none⟩) (j + 1) cap) h53
      have a2 := heap_setCell_same _ g5 0 _ _ (.int .i64 (off + z)) a1
      have a3 := heap_setCell_same _ g5 1 _ _ (.int .i64 (if L < z then z else L)) a2
      have hoth : ∀ k, k ≠ g5 → (((w3.setCell ⟨g5, 2, none⟩ (.slice (some ⟨ga, 0, none⟩) (j + 1) cap)).setCell ⟨g5, 0, none⟩ (.int .i64 (off + z))).setCell ⟨g5, 1, none⟩ (.int .i64 (if L < z then z else L))).heap[k]? = w3.heap[k]? := fun k hk => by
        rw [heap_setCell_other _ _ _ _ (by simpa using hk), heap_setCell_other _ _ _ _ (by simpa using hk), heap_setCell_other _ _ _ _ (by simpa using hk)]
      have hst := HST.out
      have hb3 : Below w.heap.size w w3 := (hbe2.alloc hbe2.size (.cells #[.int .i64 off] 3)).grown hgrow (by simp only [szA]; have := hbe2.size; omega) (fun k hk => by
        rcases Nat.lt_or_ge k w.heap.size with hlt' | hge
        · exact absurd hk (own_base hov2 hlt')
        · exact hge)
      refine ⟨.slice (some ⟨ga, 0, none⟩) (j + 1) cap, ?_, ?_, ?_, ?_⟩
      · rw [hst]; exact a3
      · rw [hst]
        have e : ints (O ++ [off]) = ints O ++ [.int .i64 off] := by simp [ints]
        show World.ownsRow _ _ _ _ _ _ (ints (O ++ [off]))
        rw [e]
        refine ownsRow_at hown3 fun g' cur _ hg' => ?_
        rw [hoth g' (fun e => by subst e; rw [h53] at hg'; injection hg' with hg'; injection hg' with _ hg'; exact absurd hg' (by decide))]
        exact hg'
      · rw [hoth _ (by omega)]
        exact (hgrow.block w.heap.size (by simp only [szA]; have := hbe2.size; have := lt_of_row h42; omega) (fun e => hne4 e.symm)).trans ((Below.heap_alloc _ _ _ (lt_of_row h42)).trans h42)
      · exact ((hb3.setCell (by show w.heap.size ≤ g5; omega) _).setCell (by show w.heap.size ≤ g5; omega) _).setCell (by show w.heap.size ≤ g5; omega) _
    · obtain rfl : j = fs.length := by omega
      obtain ⟨y1, y2, y3, y4⟩ := layN_ok fs fs.length (Nat.le_refl _)
      obtain ⟨oA, on, oc, rfl⟩ := own_slice hov
      obtain ⟨p0, p1, p2⟩ := sc_cells3 h5
      obtain ⟨v0, v1, v2⟩ := sc_frozen3 h5
      have hLV : layV fs = ⟨(layN fs fs.length).offs, nextV (layN fs fs.length).size (layN fs fs.length).line, (layN fs fs.length).line⟩ := rfl
      generalize hs1 : (layN fs fs.length).size = S at *
      generalize hs2 : (layN fs fs.length).line = L at *
      generalize hs3 : (layN fs fs.length).offs = O at *
      go_wp2_with fail
      refine (next_any S L wr (by omega) y4).mono ?_
      rintro e w3 ⟨rfl, rfl⟩
      generalize nextV S L = off at *
      have HLV := Lib.hid hLV; clear hLV
      have a1 := heap_setCell_same wr g5 0 _ _ (.int .i64 off) h5
      have a4 : (wr.setCell ⟨g5, 0, none⟩ (.int .i64 off)).heap[w.heap.size]? = some (.cells #[.int .i64 0, .int .i64 0, .slice none 0 0] 50) := by rw [heap_setCell_other _ _ _ _ (by simp; omega)]; exact h4
      obtain ⟨q0, q1, q2⟩ := sc_cells3 (w := wr.setCell ⟨g5, 0, none⟩ (.int .i64 off)) (x := .int .i64 off) (y := .int .i64 L) (z := .slice oA on oc) a1
      obtain ⟨r0, r1, r2⟩ := sc_cells3 a4
      obtain ⟨s0, s1', s2'⟩ := sc_frozen3 a4
      go_wp2
      have b1 := heap_setCell_same _ w.heap.size 0 _ _ (.int .i64 off) a4
      have b2 := heap_setCell_same _ w.heap.size 1 _ _ (.int .i64 L) b1
      have b3 := heap_setCell_same _ w.heap.size 2 _ _ (.slice oA on oc) b2
      refine bodyPost_ret (v := .agg #[.int .i64 off, .int .i64 L, .slice oA on oc]) (results_cell_row Try.results24 _ _ w.heap.size 50 _ (0, 0) _ rfl b3 Try.underlying50 rfl sizeLay) rfl ⟨.slice oA on oc, by rw [HLV.out], ?_, ?_⟩
      · rw [HLV.out]
        refine ownsRow_at hov fun g' cur _ hg' => ?_
        have n5 : g' ≠ g5 := fun e => by subst e; rw [h5] at hg'; injection hg' with hg'; injection hg' with _ hg'; exact absurd hg' (by decide)
        have n4 : g' ≠ w.heap.size := fun e => by subst e; rw [h4] at hg'; injection hg' with hg'; injection hg' with _ hg'; exact absurd hg' (by decide)
        rw [heap_setCell_other _ _ _ _ (by simpa using n4), heap_setCell_other _ _ _ _ (by simpa using n4), heap_setCell_other _ _ _ _ (by simpa using n4), heap_setCell_other _ _ _ _ (by simpa using n5)]
        exact hg'
      · exact (((hbe.setCell (by show w.heap.size ≤ g5; omega) _).setCell (Nat.le_refl _) _).setCell (Nat.le_refl _) _).setCell (Nat.le_refl _) _
end Go.Proofs.Ytalelgnooemooaa
