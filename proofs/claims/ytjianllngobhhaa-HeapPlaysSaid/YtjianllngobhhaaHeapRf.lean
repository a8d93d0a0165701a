/- The document's End. Conditions: each theorem's. -/
import Derived.Test.YtjianllngobhhaaHeapRe
namespace Go.Proofs.Ytjianllngobhhaa
open Go.RowKit Go.Maps
set_option linter.unusedVariables false
set_option linter.unusedSimpArgs false
set_option maxRecDepth 100000
open Hp
namespace Hp
def Rb.gone (r : Rb) : Rb := ⟨r.size, r.free, false, .slice none 0 0, []⟩
def rEnd (l : List Rb) (b : Int) : List Rb := match rbOf l b with | none => l | some r => if r.live then l.set (b - 1).toNat r.gone else l
end Hp
theorem RDid.box {W w2 : World} {base : Nat} {v v' : Value} {l l' : List Rb} (hd : RDid W base v l v' l' w2) {j : Nat} {x : Obj} (hj : W.heap[j]? = some x) (hn : ¬ rOwn v l j) : w2.heap[j]? = some x := (hd.stays.block j (lt_of_at hj) hn).trans hj
theorem end_box {w W w2 : World} {base : Nat} {v : Value} {l l1 : List Rb} {o1 : Obj} (hW : Below w.heap.size w W) (H : RfAt w base v l) (hd : RDid W base v l v l1 w2) (g0 : W.heap[w.heap.size]? = some (.cells #[v] 28)) (g1 : W.heap[w.heap.size + 1]? = some o1) :
    w2.heap[w.heap.size]? = some (.cells #[v] 28) ∧ w2.heap[w.heap.size + 1]? = some o1 ∧ (w2.setCell ⟨w.heap.size, 0, none⟩ v).heap[w.heap.size]? = some (.cells #[v] 28) ∧ (w2.setCell ⟨w.heap.size, 0, none⟩ v).heap[w.heap.size + 1]? = some o1 ∧ RDid w base v l v l1 (w2.setCell ⟨w.heap.size, 0, none⟩ v) := by
  have n0 : ¬ rOwn v l w.heap.size := fun e => by have := H.lt0 _ e; omega
  have n1 : ¬ rOwn v l (w.heap.size + 1) := fun e => by have := H.lt0 _ e; omega
  have q0 := hd.box g0 n0
  have q1 := hd.box g1 n1
  have n0' : ¬ rOwn v l1 w.heap.size := fun e => (hd.stays.own _ e).elim n0 (fun h => by have := lt_of_at g0; omega)
  exact ⟨q0, q1, heap_setCell_same _ _ _ _ _ _ q0, (Below.heap_setCell w2 ⟨w.heap.size, 0, none⟩ v _ (fun e => by have e' : w.heap.size + 1 = w.heap.size := e; omega)).trans q1, ((RDid.refl H hW).trans hd).setCell n0' (Nat.le_refl _) _⟩
theorem new_box (W : World) (old new : Array Value) (t : TypeId) : ((W.alloc (.cells old t)).setRow W.heap.size new).heap[W.heap.size]? = some (.cells new t) ∧ Below W.heap.size W ((W.alloc (.cells old t)).setRow W.heap.size new) :=
  ⟨setRow_heap _ _ _ _ _ _ (row_new rfl _), ((Below.refl _ _).alloc (Nat.le_refl _) _).trans ((Onl.setRow _ _ _).toBelow (Nat.le_refl _) (by simp))⟩
set_option maxHeartbeats 2000000 in
theorem rend_any {w : World} {base : Nat} {v : Value} {l : List Rb} (b : Int) (hb : in64 b) (H : RfAt w base v l) :
    Calls Try.prog 21 #[.agg #[v], .int .i64 b] w fun e w' => e = .returned (.tuple #[.agg #[v], .int .i64 (rClearE l b)]) ∧ RDid w base v l v (rEnd l b) w' := by
  have hlen := rlen H.row
  unfold maxLen at hlen
  by_cases hE : rClearE l b = 0
  · have hx : ∃ k, ∃ hk : k < l.length, b = (k : Int) + 1 ∧ rbOf l b = some l[k] ∧ l[k].live = true := by
      by_cases h : 1 ≤ b ∧ b ≤ l.length
      · obtain ⟨k, hk, h1, h2⟩ := rbOf_some h.1 h.2
        refine ⟨k, hk, h1, h2, ?_⟩
        unfold rClearE at hE
        rw [h2] at hE
        cases hl : l[k].live
        · simp only [hl] at hE; simp at hE
        · rfl
      · unfold rClearE at hE; rw [rbOf_none h] at hE; simp at hE
    obtain ⟨k, hk, rfl, he, hlv⟩ := hx
    have hC : rClear l ((k : Int) + 1) = l.set k l[k].clear := by unfold rClear; rw [he, show ((k : Int) + 1 - 1).toNat = k by omega]; simp only [hlv]; rfl
    have hN : rEnd l ((k : Int) + 1) = (l.set k l[k].clear).set k l[k].gone := by unfold rEnd; rw [he, show ((k : Int) + 1 - 1).toNat = k by omega, List.set_set]; simp only [hlv]; rfl
    have HCl := Lib.hid (fun (X : World) (hX : Below w.heap.size w X) => rclear_any ((k : Int) + 1) hb (H.below hX))
    rw [hE, hC] at HCl
    rw [hE, hN]
    have hrow : ∀ h : k < (l.set k l[k].clear).length, (l.set k l[k].clear)[k]'h = l[k].clear := fun h => by simp
    obtain ⟨g, cap, cur, rfl, -⟩ := rb_at H k hk
    have HO := Lib.hid (fun (j : Nat) (hj : rOwn (.slice (some ⟨g, 0, none⟩) l.length cap) ((l.set k l[k].clear).set k l[k].gone) j) => H.lt0 j (rOwn_set (fun _ h => by cases h) (rOwn_set (fun _ h => by cases h) hj)))
    have hgl := H.lt0 g (.inl rfl)
    have hll : (l.set k l[k].clear).length = l.length := List.length_set ..
    generalize l[k] = r at *
    generalize hl1 : l.set k r.clear = l1 at *
    clear hl1 hC hN he hE hb
    have e1 : IntKind.i64.wrap ((k : Int) + 1 - 1) = k := by rw [show (k : Int) + 1 - 1 = k by omega]; exact IntWalk.i64_in _ (by omega)
    have dj0 : (0 : Int) ≤ (k : Int) := by omega
    have dj1 : (k : Int) < (l.length : Int) := by omega
    have hk1 : k < l1.length := by omega
    have HW := Lib.hid (fun (X : World) (hX : RfAt X base (.slice (some ⟨g, 0, none⟩) l1.length cap) l1) => rwith_any (w := X) k hk1 r.gone ⟨none, 0, 0, rfl⟩ hX ⟨⟨rfl, .inl ⟨rfl, rfl⟩⟩, .inl rfl⟩)
    have HD := Lib.hid (fun (Z X X2 : World) (hX : Below Z.heap.size Z X) (h2 : RfAt X2 base (.slice (some ⟨g, 0, none⟩) l1.length cap) (l1.set k r.gone)) (ho : Onl g X X2) => rdid_with hX h2 ho (fun j hj => by cases hj))
    have HRG := Lib.hid (fun (Z : World) (hZ : RfAt Z base (.slice (some ⟨g, 0, none⟩) l1.length cap) l1) => (show Z.rangeAt g (k * 4) (Rb.l r.clear) from hrow hk1 ▸ rb_range hZ k hk1))
    rw [hll] at HW HD HRG
    obtain ⟨rs, rf, rl, rr, rc⟩ := r
    unfold Rb.clear Rb.l at HRG
    unfold Rb.gone at *
    unfold Rb.a at HW
    dsimp only at *
    subst hlv
    clear hrow hll hk1
    have hB2 : Below w.heap.size w ((w.alloc (.cells #[.slice (some ⟨g, 0, none⟩) l.length cap] 28)).alloc (.cells #[.slice none 0 0] 28)) := ((Below.refl _ _).alloc (Nat.le_refl _) _).alloc (by simp) _
    have HEB := Lib.hid (fun (w2 : World) hd => end_box (w2 := w2) (l1 := l1) hB2 H hd (row_up (row_new rfl _) _) (row_new (by simp) _))
    have HC2 := Lib.hid (HCl.out _ hB2)
    have HLT := Lib.hid H.lt0
    clear H hB2 HCl
    go_enter Try.func21, Try.ntmps21
    go_wp2_with (first
      | (go_at_call 23; refine HC2.out.mono ?_; rintro e w2 ⟨rfl, hd⟩; obtain ⟨q0, q1, q2, q3, q4⟩ := HEB.out _ hd; have z0 := frozen_of_row _ _ 0 _ _ q0; have d0 := cell_of_row _ _ 0 _ _ _ q0; have d2 := cell_of_row _ _ 0 _ _ _ q2)
      | ((with_reducible show wpList _ _ _ (Oper.mk (some 23) _ _ _ _ _ :: _) _ _); revert q2 q3 q4; generalize World.setCell _ _ _ = Z; intro q2 q3 q4; have d3 := cell_of_row _ _ 0 _ _ _ q2; have l3 := lt_of_at q2; have l4 := lt_of_at q3; refine wpList_load_mid (op := ⟨some 23, _, _, _, _, _⟩) rfl 77 (.tmp 22) rfl g (k * 4) rfl _ _ (HRG.out _ q4.at_) Try.underlying77 rfl sizeRB ?_)
      | (go_at_call 31; have bZ := (Below.refl Z.heap.size Z).alloc (Nat.le_refl _) (.cells #[.int .i64 rs, .bool rf, .bool false, .slice none 0 0] 77); refine (HW.out _ (q4.at_.below bZ)).mono ?_; rintro e w3 ⟨rfl, h3, ho⟩; have g3 := (ho.block (w.heap.size + 1) (by simp; omega) (by omega)).trans (row_up q3 _); have hd3 := q4.trans (HD.out _ _ _ bZ h3 ho); have d5 := cell_of_row _ _ 0 _ _ _ g3; have z5 := frozen_of_row _ _ 0 _ _ g3))
    have hx : (w3.setCell ⟨w.heap.size + 1, 0, none⟩ (.slice (some ⟨g, 0, none⟩) l.length cap)).heap[w.heap.size + 1]? = some (.cells #[.slice (some ⟨g, 0, none⟩) l.length cap] 28) := heap_setCell_same _ _ _ _ _ _ g3
    exact bodyPost_ret (v := .tuple #[.agg #[.slice (some ⟨g, 0, none⟩) l.length cap], .int .i64 0]) (res_cell_tmp Try.results21 _ _ (w.heap.size + 1) 28 #[.slice (some ⟨g, 0, none⟩) l.length cap] (0, 0) _ _ rfl rfl hx Try.underlying28 rfl sizeRH) rfl ⟨rfl, hd3.setCell (fun e => by have := HO.out _ e; omega) (by omega) _⟩
  · have hC : rClear l b = l := by
      unfold rClear
      unfold rClearE at hE
      cases he : rbOf l b
      · rfl
      · rename_i r
        rw [he] at hE
        simp only at hE ⊢
        cases hl : r.live
        · rfl
        · rw [hl] at hE; simp at hE
    have hN : rEnd l b = l := by
      unfold rEnd
      unfold rClearE at hE
      cases he : rbOf l b
      · rfl
      · rename_i r
        rw [he] at hE
        simp only at hE ⊢
        cases hl : r.live
        · rfl
        · rw [hl] at hE; simp at hE
    obtain ⟨A, c, rfl⟩ := rsl H.row
    have hB2 : Below w.heap.size w ((w.alloc (.cells #[.slice A l.length c] 28)).alloc (.cells #[.slice none 0 0] 28)) := ((Below.refl _ _).alloc (Nat.le_refl _) _).alloc (by simp) _
    have HC2 := Lib.hid (rclear_any b hb (H.below hB2))
    rw [hC] at HC2
    rw [hN]
    have HEB := Lib.hid (fun (w2 : World) hd => end_box (w2 := w2) (l1 := l) hB2 H hd (row_up (row_new rfl _) _) (row_new (by simp) _))
    have HLT := Lib.hid H.lt0
    clear H hB2 hC hN
    generalize rClearE l b = E at *
    have hE' : (E != 0) = true := by simpa using hE
    clear hE
    go_enter Try.func21, Try.ntmps21
    go_wp2_with (first
      | (go_at_call 23; refine HC2.out.mono ?_; rintro e w2 ⟨rfl, hd⟩; obtain ⟨q0, q1, q2, q3, q4⟩ := HEB.out _ hd; have z0 := frozen_of_row _ _ 0 _ _ q0; have d0 := cell_of_row _ _ 0 _ _ _ q0; have d2 := cell_of_row _ _ 0 _ _ _ q2; have d3 := cell_of_row _ _ 0 _ _ _ q3; have z3 := frozen_of_row _ _ 0 _ _ q3)
      | ((with_reducible show wpList _ _ _ (Oper.mk (some 16) _ _ _ _ _ :: _) _ _); revert d2 d3 z3 q2 q3 q4; generalize World.setCell _ _ _ = Z; intro d2 d3 z3 q2 q3 q4; fail))
    have hx : ((w2.setCell ⟨w.heap.size, 0, none⟩ (.slice A l.length c)).setCell ⟨w.heap.size + 1, 0, none⟩ (.slice A l.length c)).heap[w.heap.size + 1]? = some (.cells #[.slice A l.length c] 28) := heap_setCell_same _ _ _ _ _ _ q3
    exact bodyPost_ret (v := .tuple #[.agg #[.slice A l.length c], .int .i64 E]) (res_cell_tmp Try.results21 _ _ (w.heap.size + 1) 28 #[.slice A l.length c] (0, 0) _ _ rfl rfl hx Try.underlying28 rfl sizeRH) rfl ⟨rfl, q4.setCell (fun e => by have := HLT.out _ e; omega) (by omega) _⟩
end Go.Proofs.Ytjianllngobhhaa
