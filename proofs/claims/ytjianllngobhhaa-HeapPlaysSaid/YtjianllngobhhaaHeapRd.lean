/- The document's with: a block of its heap written anew. Conditions: each theorem's. -/
import Derived.Test.YtjianllngobhhaaHeapRc
namespace Go.Proofs.Ytjianllngobhhaa
open Go.RowKit Go.Maps
set_option linter.unusedVariables false
set_option linter.unusedSimpArgs false
set_option maxRecDepth 100000
open Hp
namespace Hp
def putL (cur : Array Value) (o : Nat) : List Value → Array Value
  | [] => cur
  | v :: vs => putL (cur.setIfInBounds o v) (o + 1) vs
theorem putL_size (vs : List Value) : ∀ (cur : Array Value) (o : Nat), (putL cur o vs).size = cur.size := by
  induction vs with
  | nil => intro cur o; rfl
  | cons v vs ih => intro cur o; unfold putL; rw [ih]; simp
theorem putL_out (vs : List Value) : ∀ (cur : Array Value) (o i : Nat), (i < o ∨ o + vs.length ≤ i) → (putL cur o vs)[i]? = cur[i]? := by
  induction vs with
  | nil => intro cur o i h; rfl
  | cons v vs ih =>
    intro cur o i h
    unfold putL
    rw [ih _ _ _ (by simp only [List.length_cons] at h; omega)]
    rw [Array.getElem?_setIfInBounds_ne (by simp only [List.length_cons] at h; omega)]
theorem putL_in (vs : List Value) : ∀ (cur : Array Value) (o j : Nat), j < vs.length → o + vs.length ≤ cur.size → (putL cur o vs)[o + j]? = vs[j]? := by
  induction vs with
  | nil => intro cur o j h; simp at h
  | cons v vs ih =>
    intro cur o j h hs
    simp only [List.length_cons] at h hs
    unfold putL
    cases j with
    | zero =>
      rw [putL_out _ _ _ _ (.inl (by omega)), Nat.add_zero, Array.getElem?_setIfInBounds_self_of_lt (by omega)]
      rfl
    | succ j =>
      rw [show o + (j + 1) = o + 1 + j by omega, ih _ _ _ (by omega) (by simp; omega)]
      simp
end Hp
theorem heap_setCells_row (b : Nat) (t : TypeId) (vs : List Value) : ∀ (o : Nat) (w : World) (cur : Array Value), w.heap[b]? = some (.cells cur t (0, 0)) → (w.setCells b o vs).heap[b]? = some (.cells (putL cur o vs) t (0, 0)) := by
  induction vs with
  | nil => intro o w cur h; exact h
  | cons v vs ih =>
    intro o w cur h
    rw [World.setCells]
    unfold putL
    exact ih _ _ _ (heap_setCell_same _ _ _ _ _ _ h)
theorem rbsL_get {l : List Rb} {q j : Nat} (hq : q < l.length) (hj : j < 4) : (rbsL l)[q * 4 + j]? = (Rb.l l[q])[j]? := flat_get Rb.l 4 (fun _ => rfl) l q hq j hj
theorem rbsL_len (l : List Rb) : (rbsL l).length = l.length * 4 := by
  unfold rbsL
  induction l with
  | nil => rfl
  | cons a l ih => rw [List.flatMap_cons, List.length_append, ih, List.length_cons]; simp [Rb.l]; omega
/-- A row with one of its blocks written anew. -/
theorem row_with {w w' : World} {base g cap : Nat} {l : List Rb} {cur : Array Value} (k : Nat) (hk : k < l.length) (r : Rb)
    (H : w.ownsRow base 77 4 (.slice (some ⟨g, 0, none⟩) l.length cap) l.length (rbsL l)) (hh : w.heap[g]? = some (.cells cur 77 (0, 0)))
    (hw : w'.heap[g]? = some (.cells (putL cur (k * 4) r.l) 77 (0, 0))) :
    w'.ownsRow base 77 4 (.slice (some ⟨g, 0, none⟩) l.length cap) (l.set k r).length (rbsL (l.set k r)) := by
  rcases H.2 with ⟨hn, _⟩ | ⟨g', cap', cur', hve, hb, hh', hn, hm, hsz, htk⟩
  · cases hn
  · injection hve with hA _ hC
    injection hA with hA
    injection hA with hA
    subst hA hC
    rw [hh] at hh'
    injection hh' with hh'
    injection hh' with hh'
    subst hh'
    refine ⟨rbsL_len _, .inr ⟨g, cap, _, by rw [List.length_set], hb, hw, by rw [List.length_set]; exact hn, hm, by rw [putL_size]; exact hsz, ?_⟩⟩
    rw [List.length_set]
    apply List.ext_getElem?
    intro i
    by_cases hi : i < l.length * 4
    · rw [List.getElem?_take, if_pos hi, Array.getElem?_toList]
      obtain ⟨q, j, hj, rfl⟩ : ∃ q j, j < 4 ∧ i = q * 4 + j := ⟨i / 4, i % 4, Nat.mod_lt _ (by omega), by omega⟩
      have hq : q < l.length := by omega
      rw [rbsL_get (by rw [List.length_set]; exact hq) hj, List.getElem_set]
      by_cases hqk : k = q
      · subst hqk
        rw [if_pos rfl]
        exact putL_in _ _ _ _ (by simpa [Rb.l] using hj) (by simp [Rb.l]; omega)
      · rw [if_neg hqk, ← rbsL_get hq hj, ← htk, List.getElem?_take, if_pos hi, Array.getElem?_toList]
        exact putL_out _ _ _ _ (by simp [Rb.l]; omega)
    · rw [List.getElem?_take, if_neg hi, List.getElem?_eq_none (by rw [rbsL_len, List.length_set]; omega)]
theorem heap_setCells (b : Nat) : ∀ (vs : List Value) (o : Nat) (w : World) (j : Nat), j ≠ b → (w.setCells b o vs).heap[j]? = w.heap[j]?
  | [], o, w, j, h => rfl
  | v :: r, o, w, j, h => by
    rw [World.setCells, heap_setCells b r (o + 1) _ j h]
    exact Below.heap_setCell w _ v j (fun e => h e)
theorem size_setCells (b : Nat) : ∀ (vs : List Value) (o : Nat) (w : World), (w.setCells b o vs).heap.size = w.heap.size
  | [], o, w => rfl
  | v :: r, o, w => by
    rw [World.setCells, size_setCells b r (o + 1) _]
    simp [World.setCell]
theorem same_setCells (b : Nat) : ∀ (vs : List Value) (o : Nat) (w : World), (w.setCells b o vs).os = w.os ∧ (w.setCells b o vs).tape = w.tape ∧ (w.setCells b o vs).output = w.output
  | [], o, w => ⟨rfl, rfl, rfl⟩
  | v :: r, o, w => by
    rw [World.setCells]
    exact same_setCells b r (o + 1) _
theorem Onl.setCells (b o : Nat) (vs : List Value) (w : World) : Onl b w (w.setCells b o vs) :=
  ⟨(same_setCells b vs o w).1, (same_setCells b vs o w).2.1, (same_setCells b vs o w).2.2, Nat.le_of_eq (size_setCells b vs o w).symm, fun k _ hn => heap_setCells b vs o w k hn⟩
/-- The document's heap with a block written anew. -/
theorem rf_with {w w' : World} {base g cap : Nat} {l : List Rb} {cur : Array Value} (k : Nat) (hk : k < l.length) (r : Rb)
    (H : RfAt w base (.slice (some ⟨g, 0, none⟩) l.length cap) l) (hr : CelsAt w base r.row r.cs ∧ (r.row.ownBlock = none ∨ r.row.ownBlock ≠ some g)) (hh : w.heap[g]? = some (.cells cur 77 (0, 0)))
    (hw : w'.heap[g]? = some (.cells (putL cur (k * 4) r.l) 77 (0, 0))) (ho : Onl g w w') : RfAt w' base (.slice (some ⟨g, 0, none⟩) l.length cap) (l.set k r) := by
  have keep : ∀ b : Rb, CelsAt w base b.row b.cs ∧ (b.row.ownBlock = none ∨ b.row.ownBlock ≠ some g) → CelsAt w' base b.row b.cs ∧ (b.row.ownBlock = none ∨ b.row.ownBlock ≠ some g) := fun b ⟨h1, h2⟩ =>
    ⟨h1.keep fun j hj => ho.block j (h1.lt j hj).2 (fun e => by subst e; rcases h2 with h2 | h2 <;> simp_all), h2⟩
  refine ⟨row_with k hk r H.row hh hw, fun b m => ?_⟩
  rcases List.mem_or_eq_of_mem_set m with h | h
  · exact keep b (H.cels b h)
  · rw [h]; exact keep r hr
def Rb.a (r : Rb) : Array Value := #[.int .i64 r.size, .bool r.free, .bool r.live, r.row]
theorem Onl.newCell {b j k : Nat} {w X : World} (h : Onl b w X) (hj : w.heap.size ≤ j) (v : Value) : Onl b w (X.setCell ⟨j, k, none⟩ v) :=
  ⟨h.os, h.tape, h.output, by simpa [World.setCell] using h.size, fun i hi hn => (Below.heap_setCell X ⟨j, k, none⟩ v i (fun e => by have e' : i = j := e; omega)).trans (h.block i hi hn)⟩
theorem there_of_row {w : World} {g o n : Nat} {cur : Array Value} {t : TypeId} (h : w.heap[g]? = some (.cells cur t (0, 0))) (hs : o + n ≤ cur.size) : w.there g o n := fun j hj =>
  ⟨by rw [cell_of_row _ _ _ _ _ _ h]; simp; omega, frozen_of_row _ _ _ _ _ h⟩
theorem with_box {w : World} {g : Nat} {cur : Array Value} {t : TypeId} (h : w.heap[g]? = some (.cells cur t (0, 0))) (o : Nat) (vs : List Value) (o1 o2 o3 : Obj) :
    ((((w.alloc o1).alloc o2).alloc o3).setCells g o vs).heap[w.heap.size]? = some o1 ∧ ((((w.alloc o1).alloc o2).alloc o3).setCells g o vs).heap[w.heap.size + 1 + 1]? = some o3 ∧
    ((((w.alloc o1).alloc o2).alloc o3).setCells g o vs).heap[g]? = some (.cells (putL cur o vs) t (0, 0)) ∧ Onl g w ((((w.alloc o1).alloc o2).alloc o3).setCells g o vs) := by
  have hg := lt_of_at h
  have hB : Below w.heap.size w (((w.alloc o1).alloc o2).alloc o3) := (((Below.refl _ _).alloc (Nat.le_refl _) _).alloc (by simp) _).alloc (by simp; omega) _
  exact ⟨(heap_setCells _ _ _ _ _ (by omega)).trans (row_up (row_up (row_new rfl _) _) _), (heap_setCells _ _ _ _ _ (by omega)).trans (row_new (by simp) _), heap_setCells_row _ _ _ _ _ _ (row_up (row_up (row_up h _) _) _), Onl.of hB (Nat.le_refl _) (Onl.setCells _ _ _ _)⟩
set_option maxHeartbeats 2000000 in
theorem rwith_any {w : World} {base g cap : Nat} {l : List Rb} (k : Nat) (hk : k < l.length) (r : Rb) (hrow : ∃ A n c, r.row = .slice A n c)
    (H : RfAt w base (.slice (some ⟨g, 0, none⟩) l.length cap) l) (hr : CelsAt w base r.row r.cs ∧ (r.row.ownBlock = none ∨ r.row.ownBlock ≠ some g)) :
    Calls Try.prog 31 #[.agg #[.slice (some ⟨g, 0, none⟩) l.length cap], .int .i64 ((k : Int) + 1), .agg (Rb.a r)] w fun e w' => e = .returned (.agg #[.slice (some ⟨g, 0, none⟩) l.length cap]) ∧ RfAt w' base (.slice (some ⟨g, 0, none⟩) l.length cap) (l.set k r) ∧ Onl g w w' := by
  obtain ⟨g', cap', cur, hve, hg, hh, hs, hn, hm, c0, c1, c2, c3⟩ := rb_at H k hk
  injection hve with hA _ hC
  injection hA with hA
  injection hA with hA
  subst hA hC
  have hlen := rlen H.row
  unfold maxLen at hlen
  obtain ⟨A2, n2, cp2, hro⟩ := hrow
  have HF := Lib.hid (fun (w' : World) (hw : w'.heap[g]? = some (.cells (putL cur (k * 4) r.l) 77 (0, 0))) (ho : Onl g w w') => rf_with k hk r H hr hh hw ho)
  have hgl := lt_of_at hh
  have e1 : IntKind.i64.wrap ((k : Int) + 1 - 1) = k := by rw [show (k : Int) + 1 - 1 = k by omega]; exact IntWalk.i64_in _ (by omega)
  have dj0 : (0 : Int) ≤ (k : Int) := by omega
  have dj1 : (k : Int) < (l.length : Int) := by omega
  obtain ⟨rs, rf, rl, rr, rc⟩ := r
  dsimp only at hro
  subst hro
  unfold Rb.a at *
  unfold Rb.l at HF
  dsimp only at *
  clear H hr
  go_enter Try.func31, Try.ntmps31
  go_wp2_with (refine wpList_store_mid (op := ⟨none, .store 77 (.tmp 12) (.tmp 11), _, _, _, _⟩) rfl 77 (.tmp 12) (.tmp 11) rfl g (k * 4) #[.int .i64 rs, .bool rf, .bool rl, .slice A2 n2 cp2] rfl rfl (there_of_row (row_up (row_up (row_up hh _) _) _) (by simp; omega)) sizeRB (by simp [Value.oneCell']) ?_; have HW := with_box hh (k * 4) (#[Value.int .i64 rs, .bool rf, .bool rl, .slice A2 n2 cp2]).toList (.cells #[.slice (some ⟨g, 0, none⟩) l.length cap] 28) (.cells #[.int .i64 rs, .bool rf, .bool rl, .slice A2 n2 cp2] 77) (.cells #[.slice none 0 0] 28); revert HW; generalize World.setCells _ _ _ _ = X; rintro ⟨f1, f3, fg, fo⟩; have d1 := cell_of_row _ _ 0 _ _ _ f1; have d3 := cell_of_row _ _ 0 _ _ _ f3; have z3 := frozen_of_row _ _ 0 _ _ f3)
  have hX : (X.setCell ⟨w.heap.size + 1 + 1, 0, none⟩ (.slice (some ⟨g, 0, none⟩) l.length cap)).heap[g]? = X.heap[g]? := Below.heap_setCell X _ _ g (fun e => by have e' : g = w.heap.size + 1 + 1 := e; omega)
  have ho : Onl g w (X.setCell ⟨w.heap.size + 1 + 1, 0, none⟩ (.slice (some ⟨g, 0, none⟩) l.length cap)) := fo.newCell (by omega) _
  exact bodyPost_ret (v := .agg #[.slice (some ⟨g, 0, none⟩) l.length cap]) (results_cell_row Try.results31 _ _ (w.heap.size + 1 + 1) 28 #[.slice (some ⟨g, 0, none⟩) l.length cap] (0, 0) _ rfl (heap_setCell_same _ _ _ _ _ _ f3) Try.underlying28 rfl sizeRH) rfl ⟨rfl, HF.out _ (hX.trans fg) ho, ho⟩
end Go.Proofs.Ytjianllngobhhaa
