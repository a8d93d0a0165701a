/- The document's Clear. Conditions: each theorem's. -/
import Derived.Test.YtjianllngobhhaaHeapRd
namespace Go.Proofs.Ytjianllngobhhaa
open Go.RowKit Go.Maps
set_option linter.unusedVariables false
set_option linter.unusedSimpArgs false
set_option maxRecDepth 100000
open Hp
namespace Hp
def rClearE (l : List Rb) (b : Int) : Int := match rbOf l b with | none => 1 | some r => if r.live then 0 else 20
def Rb.clear (r : Rb) : Rb := ⟨r.size, r.free, r.live, .slice none 0 0, []⟩
def rClear (l : List Rb) (b : Int) : List Rb := match rbOf l b with | none => l | some r => if r.live then l.set (b - 1).toNat r.clear else l
end Hp
theorem RfAt.lt0 {w : World} {base : Nat} {v : Value} {l : List Rb} (h : RfAt w base v l) : ∀ j, rOwn v l j → j < w.heap.size := fun j hj => (h.lt j hj).1
theorem rb_range {w : World} {base g cap : Nat} {l : List Rb} (h : RfAt w base (.slice (some ⟨g, 0, none⟩) l.length cap) l) (k : Nat) (hk : k < l.length) : w.rangeAt g (k * 4) (Rb.l l[k]) := by
  obtain ⟨g', cap', cur, hve, -, -, -, -, -, hc⟩ := own_get (n := 0) Rb.l (fun _ => rfl) h.row k hk
  injection hve with hA _ hC
  injection hA with hA
  injection hA with hA
  subst hA hC
  intro j u hu
  have hj : j < 4 := by
    have := (List.getElem?_eq_some_iff.1 hu).1
    simpa [Rb.l] using this
  rw [hc j hj, hu]
theorem rb_row {w : World} {base : Nat} {v : Value} {l : List Rb} (h : RfAt w base v l) (k : Nat) (hk : k < l.length) : ∃ A n c, l[k].row = .slice A n c := by
  obtain ⟨A, c, e⟩ := rsl (h.cels _ (List.getElem_mem hk)).1
  exact ⟨A, _, c, e⟩
theorem rOwn_set {v : Value} {l : List Rb} {k : Nat} {r : Rb} (hr : ∀ j, r.row.ownBlock = some j → rOwn v l j) {j : Nat} (h : rOwn v (l.set k r) j) : rOwn v l j := by
  rcases h with h | ⟨b, m, h⟩
  · exact .inl h
  · rcases List.mem_or_eq_of_mem_set m with h' | h'
    · exact .inr ⟨b, h', h⟩
    · subst h'; exact hr _ h
/-- What a call of the document's leaves: its heap, and what is its own. -/
structure RDid (w : World) (base : Nat) (v : Value) (l : List Rb) (v' : Value) (l' : List Rb) (w' : World) : Prop where
  at_ : RfAt w' base v' l'
  stays : Stays (rOwn v l) w (rOwn v' l') w'
theorem RDid.refl {w w' : World} {base : Nat} {v : Value} {l : List Rb} (H : RfAt w base v l) (hb : Below w.heap.size w w') : RDid w base v l v l w' := ⟨H.below hb, Stays.below hb⟩
theorem RDid.trans {w w1 w2 : World} {base : Nat} {v v1 v2 : Value} {l l1 l2 : List Rb} (h : RDid w base v l v1 l1 w1) (g : RDid w1 base v1 l1 v2 l2 w2) : RDid w base v l v2 l2 w2 := ⟨g.at_, h.stays.trans g.stays⟩
theorem RDid.setCell {w w' : World} {base : Nat} {v v' : Value} {l l' : List Rb} (h : RDid w base v l v' l' w') {j k : Nat} (hj : ¬ rOwn v' l' j) (hw : w.heap.size ≤ j) (u : Value) : RDid w base v l v' l' (w'.setCell ⟨j, k, none⟩ u) := by
  refine ⟨h.at_.keep fun i hi => Below.heap_setCell w' _ u i (fun e => hj (by have e' : i = j := e; exact e' ▸ hi)), ?_⟩
  have s := h.stays
  exact ⟨s.os, s.tape, s.output, by simpa [World.setCell] using s.size, fun i hi hn => (Below.heap_setCell w' ⟨j, k, none⟩ u i (fun e => by have e' : i = j := e; omega)).trans (s.block i hi hn), s.own⟩
theorem rdid_with {w w1 w2 : World} {base g cap : Nat} {l : List Rb} {k : Nat} {r : Rb} (hb : Below w.heap.size w w1) (h2 : RfAt w2 base (.slice (some ⟨g, 0, none⟩) l.length cap) (l.set k r)) (ho : Onl g w1 w2) (hr : ∀ j, r.row.ownBlock = some j → rOwn (.slice (some ⟨g, 0, none⟩) l.length cap) l j ∨ w.heap.size ≤ j) :
    RDid w base (.slice (some ⟨g, 0, none⟩) l.length cap) l (.slice (some ⟨g, 0, none⟩) l.length cap) (l.set k r) w2 := by
  refine ⟨h2, ho.os.trans hb.os, ho.tape.trans hb.tape, ho.output.trans hb.output, Nat.le_trans hb.size ho.size, fun j hj hn => ?_, fun j hj => ?_⟩
  · have hs := hb.size
    exact (ho.block j (by omega) (fun e => hn (.inl (by rw [e]; rfl)))).trans (hb.block j hj)
  · rcases hj with h | ⟨b, m, h⟩
    · exact .inl (.inl h)
    · rcases List.mem_or_eq_of_mem_set m with h' | h'
      · exact .inl (.inr ⟨b, h', h⟩)
      · subst h'; exact hr _ h
/-- The boxes of Clear and End, the third just written. -/
theorem clear_box (w : World) (o1 o2 : Obj) (old new : Array Value) (t : TypeId) :
    ((((w.alloc o1).alloc o2).alloc (.cells old t)).setRow (w.heap.size + 1 + 1) new).heap[w.heap.size]? = some o1 ∧ ((((w.alloc o1).alloc o2).alloc (.cells old t)).setRow (w.heap.size + 1 + 1) new).heap[w.heap.size + 1]? = some o2 ∧
    ((((w.alloc o1).alloc o2).alloc (.cells old t)).setRow (w.heap.size + 1 + 1) new).heap[w.heap.size + 1 + 1]? = some (.cells new t) ∧ Below w.heap.size w ((((w.alloc o1).alloc o2).alloc (.cells old t)).setRow (w.heap.size + 1 + 1) new) := by
  have hB : Below w.heap.size w (((w.alloc o1).alloc o2).alloc (.cells old t)) := (((Below.refl _ _).alloc (Nat.le_refl _) _).alloc (by simp) _).alloc (by simp; omega) _
  have hs := hB.size
  refine ⟨(setRow_other _ _ _ _ (by omega)).trans (row_up (row_up (row_new rfl _) _) _), (setRow_other _ _ _ _ (by omega)).trans (row_up (row_new (by simp) _) _), setRow_heap _ _ _ _ _ _ (row_new (by simp) _), hB.trans ((Onl.setRow _ _ _).toBelow (by omega) (by omega))⟩
set_option maxHeartbeats 2000000 in
theorem rclear_any {w : World} {base : Nat} {v : Value} {l : List Rb} (b : Int) (hb : in64 b) (H : RfAt w base v l) :
    Calls Try.prog 23 #[.agg #[v], .int .i64 b] w fun e w' => e = .returned (.tuple #[.agg #[v], .int .i64 (rClearE l b)]) ∧ RDid w base v l v (rClear l b) w' := by
  have hlen := rlen H.row
  unfold maxLen at hlen
  have HR := Lib.hid (fun (X : World) (hX : Below w.heap.size w X) => RDid.refl H hX)
  by_cases h : 1 ≤ b ∧ b ≤ l.length
  · obtain ⟨k, hk, rfl, he⟩ := rbOf_some h.1 h.2
    obtain ⟨g, cap, cur, rfl, hg, hh, hs, hn, hm, -⟩ := rb_at H k hk
    have hrow := rb_row H k hk
    have hE : rClearE l ((k : Int) + 1) = if l[k].live then 0 else 20 := by unfold rClearE; rw [he]
    have hC : rClear l ((k : Int) + 1) = if l[k].live then l.set k l[k].clear else l := by unfold rClear; rw [he, show ((k : Int) + 1 - 1).toNat = k by omega]
    rw [hE, hC]
    have HW := Lib.hid (fun (X : World) (hX : Below w.heap.size w X) => rwith_any (w := X) k hk l[k].clear ⟨none, 0, 0, rfl⟩ (H.below hX) ⟨⟨rfl, .inl ⟨rfl, rfl⟩⟩, .inl rfl⟩)
    have HD := Lib.hid (fun (X X2 : World) (hX : Below w.heap.size w X) (h2 : RfAt X2 base (.slice (some ⟨g, 0, none⟩) l.length cap) (l.set k l[k].clear)) (ho : Onl g X X2) => rdid_with hX h2 ho (fun j hj => by cases hj))
    have HLT := Lib.hid H.lt0
    have hrg : ∀ X : World, Below w.heap.size w X → X.rangeAt g (k * 4) (Rb.a l[k]).toList := fun X hX => rb_range (H.below hX) k hk
    have e1 : IntKind.i64.wrap ((k : Int) + 1 - 1) = k := by rw [show (k : Int) + 1 - 1 = k by omega]; exact IntWalk.i64_in _ (by omega)
    have dj0 : (0 : Int) ≤ (k : Int) := by omega
    have dj1 : (k : Int) < (l.length : Int) := by omega
    have t1 : decide ((k : Int) + 1 < 1) = false := by simp; omega
    have t2 : decide ((k : Int) + 1 > (l.length : Int)) = false := by simp; omega
    have hgl := lt_of_at hh
    clear H hE hC he h hb
    generalize l[k] = r at *
    obtain ⟨rs, rf, rl, rr, rc⟩ := r
    obtain ⟨A2, n2, cp2, hro⟩ := hrow
    dsimp only at hro
    subst hro
    unfold Rb.clear Rb.a at *
    dsimp only at *
    have hrg2 := hrg ((w.alloc (.cells #[.slice (some ⟨g, 0, none⟩) l.length cap] 28)).alloc (.cells #[.slice none 0 0] 28)) (((Below.refl _ _).alloc (Nat.le_refl _) _).alloc (by simp) _)
    clear hrg
    have HO : Hid (∀ j, rOwn (.slice (some ⟨g, 0, none⟩) l.length cap) (l.set k ⟨rs, rf, rl, .slice none 0 0, []⟩) j → j < w.heap.size) := Lib.hid fun j hj => HLT.out j (rOwn_set (fun _ hj => by cases hj) hj)
    cases rl
    · simp only [Bool.false_eq_true, if_false]
      go_enter Try.func23, Try.ntmps23
      go_wp2_with (first
      | ((with_reducible show wpList _ _ _ (Oper.mk (some 22) _ _ _ _ _ :: _) _ _); refine wpList_load_mid (op := ⟨some 22, _, _, _, _, _⟩) rfl 77 (.tmp 21) rfl g (k * 4) rfl _ _ hrg2 Try.underlying77 rfl sizeRB ?_)
      | ((with_reducible show wpList _ _ _ (Oper.mk none (Op.store _ (Operand.tmp 6) (Operand.tmp 22)) _ _ _ _ :: _) _ _); refine wpList_store_row (o := ⟨none, .store 77 (.tmp 6) (.tmp 22), _, _, _, _⟩) rfl 77 (.tmp 6) (.tmp 22) rfl (w.heap.size + 1 + 1) #[.int .i64 rs, .bool rf, .bool false, .slice A2 n2 cp2] rfl rfl 77 _ (row_new (by simp) _) sizeRB rfl (by simp [Value.oneCell']) ?_; have HB := clear_box w (.cells #[.slice (some ⟨g, 0, none⟩) l.length cap] 28) (.cells #[.slice none 0 0] 28) #[.int .i64 0, .bool false, .bool false, .slice none 0 0] #[.int .i64 rs, .bool rf, .bool false, .slice A2 n2 cp2] 77; revert HB; generalize World.setRow _ _ _ = X; rintro ⟨f1, f2, f3, fb⟩; have d1 := cell_of_row _ _ 0 _ _ _ f1; have d2 := cell_of_row _ _ 0 _ _ _ f2; have z2 := frozen_of_row _ _ 0 _ _ f2; have d3 := cell_of_row _ _ 2 _ _ _ f3; have d4 := cell_of_row _ _ 3 _ _ _ f3; have z4 := frozen_of_row _ _ 3 _ _ f3))
      have hx : (X.setCell ⟨w.heap.size + 1, 0, none⟩ (.slice (some ⟨g, 0, none⟩) l.length cap)).heap[w.heap.size + 1]? = some (.cells #[.slice (some ⟨g, 0, none⟩) l.length cap] 28) := heap_setCell_same _ _ _ _ _ _ f2
      exact bodyPost_ret (v := .tuple #[.agg #[.slice (some ⟨g, 0, none⟩) l.length cap], .int .i64 20]) (res_cell_tmp Try.results23 _ _ (w.heap.size + 1) 28 #[.slice (some ⟨g, 0, none⟩) l.length cap] (0, 0) _ _ rfl rfl hx Try.underlying28 rfl sizeRH) rfl ⟨rfl, HR.out _ (fb.setCell (by show _ ≤ w.heap.size + 1; omega) _)⟩
    · simp only [if_true]
      go_enter Try.func23, Try.ntmps23
      go_wp2_with (first
      | ((with_reducible show wpList _ _ _ (Oper.mk (some 22) _ _ _ _ _ :: _) _ _); refine wpList_load_mid (op := ⟨some 22, _, _, _, _, _⟩) rfl 77 (.tmp 21) rfl g (k * 4) rfl _ _ hrg2 Try.underlying77 rfl sizeRB ?_)
      | ((with_reducible show wpList _ _ _ (Oper.mk none (Op.store _ (Operand.tmp 6) (Operand.tmp 22)) _ _ _ _ :: _) _ _); refine wpList_store_row (o := ⟨none, .store 77 (.tmp 6) (.tmp 22), _, _, _, _⟩) rfl 77 (.tmp 6) (.tmp 22) rfl (w.heap.size + 1 + 1) #[.int .i64 rs, .bool rf, .bool true, .slice A2 n2 cp2] rfl rfl 77 _ (row_new (by simp) _) sizeRB rfl (by simp [Value.oneCell']) ?_; have HB := clear_box w (.cells #[.slice (some ⟨g, 0, none⟩) l.length cap] 28) (.cells #[.slice none 0 0] 28) #[.int .i64 0, .bool false, .bool false, .slice none 0 0] #[.int .i64 rs, .bool rf, .bool true, .slice A2 n2 cp2] 77; revert HB; generalize World.setRow _ _ _ = X; rintro ⟨f1, f2, f3, fb⟩; have d1 := cell_of_row _ _ 0 _ _ _ f1; have d2 := cell_of_row _ _ 0 _ _ _ f2; have z2 := frozen_of_row _ _ 0 _ _ f2; have d3 := cell_of_row _ _ 2 _ _ _ f3; have d4 := cell_of_row _ _ 3 _ _ _ f3; have z4 := frozen_of_row _ _ 3 _ _ f3)
      | ((with_reducible show wpList _ _ _ (Oper.mk (some 30) _ _ _ _ _ :: _) _ _); refine wpList_load_row (o := ⟨some 30, .load 77 (.tmp 6), _, _, _, _⟩) rfl 77 (.tmp 6) rfl (w.heap.size + 1 + 1) rfl 77 #[.int .i64 rs, .bool rf, .bool true, .slice none 0 0] (0, 0) _ (heap_setCell_same _ _ _ _ _ _ f3) Try.underlying77 rfl sizeRB ?_)
      | (go_at_call 31; have hbX := fb.setCell (p := ⟨w.heap.size + 1 + 1, 3, none⟩) (by show _ ≤ w.heap.size + 1 + 1; omega) (Value.slice none 0 0); have g2 := (Below.heap_setCell X ⟨w.heap.size + 1 + 1, 3, none⟩ (Value.slice none 0 0) (w.heap.size + 1) (fun e => by have e' : w.heap.size + 1 = w.heap.size + 1 + 1 := e; omega)).trans f2; refine (HW.out _ hbX).mono ?_; rintro e w2 ⟨rfl, h2, ho⟩; have g3 := (ho.block (w.heap.size + 1) (lt_of_at g2) (by omega)).trans g2; have hd := HD.out _ _ hbX h2 ho; have d5 := cell_of_row _ _ 0 _ _ _ g3; have z5 := frozen_of_row _ _ 0 _ _ g3; clear d1 d2 z2 d3 d4 z4 f1 f2 f3 g2 hbX h2 ho))
      have hx : (w2.setCell ⟨w.heap.size + 1, 0, none⟩ (.slice (some ⟨g, 0, none⟩) l.length cap)).heap[w.heap.size + 1]? = some (.cells #[.slice (some ⟨g, 0, none⟩) l.length cap] 28) := heap_setCell_same _ _ _ _ _ _ g3
      exact bodyPost_ret (v := .tuple #[.agg #[.slice (some ⟨g, 0, none⟩) l.length cap], .int .i64 0]) (res_cell_tmp Try.results23 _ _ (w.heap.size + 1) 28 #[.slice (some ⟨g, 0, none⟩) l.length cap] (0, 0) _ _ rfl rfl hx Try.underlying28 rfl sizeRH) rfl ⟨rfl, hd.setCell (fun e => by have := HO.out _ e; omega) (by omega) _⟩
  · have hE : rClearE l b = 1 := by unfold rClearE; rw [rbOf_none h]
    have hC : rClear l b = l := by unfold rClear; rw [rbOf_none h]
    rw [hE, hC]
    obtain ⟨A, c, rfl⟩ := rsl H.row
    have hb0 := hb
    unfold in64 at hb
    have hx : decide (b < 1) = true ∨ (decide (b < 1) = false ∧ decide (b > (l.length : Int)) = true) := by
      by_cases h1 : b < 1
      · exact .inl (by simpa using h1)
      · exact .inr ⟨by simpa using h1, by simp; omega⟩
    clear H hE hC h hb hb0
    rcases hx with h1 | ⟨h1, h2⟩
    all_goals
      go_enter Try.func23, Try.ntmps23
      go_wp2
      exact bodyPost_ret (v := .tuple #[.agg #[.slice A l.length c], .int .i64 1]) (res_cell_tmp Try.results23 _ _ (w.heap.size + 1) 28 #[.slice A l.length c] (0, 0) _ _ rfl rfl (row_new (by simp) _) Try.underlying28 rfl sizeRH) rfl ⟨rfl, HR.out _ (((Below.refl _ _).alloc (Nat.le_refl _) _).alloc (by simp) _)⟩
end Go.Proofs.Ytjianllngobhhaa
