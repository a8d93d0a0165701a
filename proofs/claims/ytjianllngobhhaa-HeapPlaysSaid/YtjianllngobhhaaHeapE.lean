/- Package heap: reach, Load. Conditions: each theorem's. -/
import Derived.Test.YtjianllngobhhaaHeapD
namespace Go.Proofs.Ytjianllngobhhaa
open Go.RowKit Go.Maps
set_option linter.unusedVariables false
set_option linter.unusedSimpArgs false
set_option maxRecDepth 100000
open Hp
namespace Hp
def wid (n : Int) : Bool := decide (n = 1) || decide (n = 4) || decide (n = 8)
def Ab.at_ (A : Ab) (p : Ptr) (n : Int) : Int := if wid n = false then 1 else if p.bl = 0 then 22 else if (A.room p.bl).isNone then 20 else if fits p n then 0 else 21
theorem wid_or {n : Int} (h : wid n = true) : n = 1 ∨ n = 4 ∨ n = 8 := by unfold wid at h; simp at h; omega
theorem G.at_ok {g : G} {p : Ptr} {n : Int} (h : g.ab.at_ p n = 0) : wid n = true ∧ p.bl ≠ 0 ∧ (∃ r, g.room p.bl = some r) ∧ fits p n = true := by
  unfold Ab.at_ at h
  cases hw : wid n
  · rw [hw] at h; simp at h
  · rw [hw] at h
    simp only [Bool.true_eq_false, if_false] at h
    split at h
    · simp at h
    · next hb =>
      split at h
      · simp at h
      · next hr =>
        split at h
        · next hf =>
          refine ⟨rfl, hb, ?_, hf⟩
          simp only [G.ab, Option.isNone_map, Bool.not_eq_true, Option.isNone_eq_false_iff] at hr
          exact Option.isSome_iff_exists.1 hr
        · simp at h
end Hp
theorem cells4 {w : World} {b : Nat} {x0 x1 x2 x3 : Value} {t : TypeId} {fr : Nat × Nat} (h : w.heap[b]? = some (.cells #[x0, x1, x2, x3] t fr)) : w.cell? ⟨b, 0, none⟩ = some x0 ∧ w.cell? ⟨b, 1, none⟩ = some x1 ∧ w.cell? ⟨b, 2, none⟩ = some x2 ∧ w.cell? ⟨b, 3, none⟩ = some x3 := by
  rw [cell_of_row _ _ _ _ _ _ h, cell_of_row _ _ _ _ _ _ h, cell_of_row _ _ _ _ _ _ h, cell_of_row _ _ _ _ _ _ h]
  exact ⟨rfl, rfl, rfl, rfl⟩
set_option maxHeartbeats 1000000 in
theorem reach_bad {w : World} {g : G} {h : Nat} (p : Ptr) (hp : p.ok) (H : HeapAt w g) (hh : g.h = h) (n : Int) (fv : Value) (hE : g.ab.at_ p n ≠ 0) :
    Calls Try.prog 27 #[.pointer (some ⟨h, 0, none⟩), p.v, .int .i64 n, fv] w fun e w' => e = .returned (.int .i64 (g.ab.at_ p n)) ∧ Below w.heap.size w w' := by
  obtain ⟨E, hEE⟩ : ∃ E, E = g.ab.at_ p n := ⟨_, rfl⟩
  rw [← hEE]
  rw [← hEE] at hE
  have hB : Below w.heap.size w (w.alloc (.cells #[.int .i64 p.bl, .int .i64 p.off, .int .i64 p.lo, .int .i64 p.hi] 31)) := (Below.refl _ _).alloc (Nat.le_refl _) _
  have ht := target_any p hp (H.below hB) hh
  cases hw : wid n
  · have e1 : E = 1 := by rw [hEE]; unfold Ab.at_; rw [hw]; rfl
    subst e1
    have h1 : (n != 1) = true ∧ (n != 4) = true ∧ (n != 8) = true := by unfold wid at hw; simpa [and_assoc] using hw
    obtain ⟨h1, h2, h3⟩ := h1
    clear ht hEE hE
    obtain ⟨b, o, l, hi⟩ := p
    simp only [Ptr.v] at *
    go_enter Try.func27, Try.ntmps27
    go_wp2
    go_ret
    exact ⟨rfl, (Below.refl _ _).alloc (Nat.le_refl _) _⟩
  · have hn := wid_or hw
    have hwi := fun W => within_any p n W hp hn
    by_cases hz : E = 21
    · have hT : tgE g p = 0 ∧ fits p n = false := by
        rw [hz] at hEE
        unfold Ab.at_ at hEE
        rw [hw] at hEE
        unfold tgE
        simp only [Bool.true_eq_false, if_false] at hEE
        split at hEE
        · simp at hEE
        · next hb =>
          rw [if_neg hb]
          simp only [G.ab, Option.isNone_map] at hEE
          split at hEE
          · simp at hEE
          · next hr =>
            rw [if_neg hr]
            split at hEE
            · simp at hEE
            · next hf => exact ⟨rfl, by simpa using hf⟩
      rw [hT.1] at ht
      simp only [hT.2] at hwi
      subst hz
      clear hEE hE hT
      generalize tgV g p = tv at *
      obtain ⟨b, o, l, hi⟩ := p
      simp only [Ptr.v] at *
      go_enter Try.func27, Try.ntmps27
      rcases hn with rfl | rfl | rfl
      all_goals
        go_wp2_with (first | (go_at_call 32; refine ht.mono ?_; rintro e w2 ⟨rfl, hb2⟩; have c0 : ∀ j, w2.cell? ⟨w.heap.size, j, none⟩ = _ := fun j => hb2.cell (p := ⟨w.heap.size, j, none⟩) (by simp)) | (go_at_call 38; refine (hwi _).mono ?_; rintro e w3 ⟨rfl, hb3⟩))
        go_ret
        exact ⟨rfl, hB.trans ((hb2.mono (by simp)).trans (hb3.mono (Nat.le_trans hB.size hb2.size)))⟩
    · have hT : tgE g p = E := by
        rw [hEE] at hz hE ⊢
        unfold Ab.at_ at hz hE ⊢
        rw [hw] at hz hE ⊢
        unfold tgE
        simp only [Bool.true_eq_false, if_false, G.ab, Option.isNone_map] at hz hE ⊢
        split
        · rfl
        · next hb =>
          rw [if_neg hb] at hz hE
          split
          · rfl
          · next hr =>
            rw [if_neg hr] at hz hE
            split at hz
            · next hf => rw [if_pos hf] at hE; exact absurd rfl hE
            · exact absurd rfl hz
      rw [hT] at ht
      have hE' : (E == 0) = false := by simpa using hE
      clear hEE hT hwi hz hE
      generalize tgV g p = tv at *
      obtain ⟨b, o, l, hi⟩ := p
      simp only [Ptr.v] at *
      go_enter Try.func27, Try.ntmps27
      rcases hn with rfl | rfl | rfl
      all_goals
        go_wp2_with (go_at_call 32; refine ht.mono ?_; rintro e w2 ⟨rfl, hb2⟩)
        go_ret
        exact ⟨rfl, hB.trans (hb2.mono (by simp))⟩
set_option maxHeartbeats 1000000 in
theorem reach_Load {w : World} {g : G} {h : Nat} (p : Ptr) (hp : p.ok) (H : HeapAt w g) (hh : g.h = h) (n : Int) (x y : Value) (Q : World → Prop) (hE : g.ab.at_ p n = 0)
    (hd : ∀ w1, Below w.heap.size w w1 → Calls Try.prog 28 #[roomP (g.room p.bl), plV p.bl p.off, x, y] w1 fun e w2 => e = .returned (.tuple #[]) ∧ Q w2) :
    Calls Try.prog 27 #[.pointer (some ⟨h, 0, none⟩), p.v, .int .i64 n, .func (.func 28) #[] #[x, y]] w fun e w' => e = .returned (.int .i64 0) ∧ Q w' := by
  obtain ⟨hw, hb, ⟨r, hr⟩, hf⟩ := G.at_ok hE
  have hn := wid_or hw
  have hwi := fun W => within_any p n W hp hn
  have hB : Below w.heap.size w (w.alloc (.cells #[.int .i64 p.bl, .int .i64 p.off, .int .i64 p.lo, .int .i64 p.hi] 31)) := (Below.refl _ _).alloc (Nat.le_refl _) _
  have ht := target_any p hp (H.below hB) hh
  have hT : tgE g p = 0 ∧ tgV g p = roomP (g.room p.bl) := by
    unfold tgE tgV
    rw [if_neg hb, if_neg hb, hr]
    exact ⟨rfl, rfl⟩
  rw [hT.1, hT.2] at ht
  simp only [hf] at hwi
  clear hE hT hw hf hr
  generalize roomP (g.room p.bl) = tv at *
  obtain ⟨b, o, l, hi⟩ := p
  simp only [Ptr.v, plV] at *
  go_enter Try.func27, Try.ntmps27
  rcases hn with rfl | rfl | rfl
  all_goals
    go_wp2_with (first | (go_at_call 32; refine ht.mono ?_; rintro e w2 ⟨rfl, hb2⟩; have r2 : w2.heap[w.heap.size]? = some (.cells #[.int .i64 b, .int .i64 o, .int .i64 l, .int .i64 hi] 31) := (hb2.block _ (by simp)).trans (heap_alloc_new w _); have z2 : w.heap.size < w2.heap.size := lt_of_at r2; obtain ⟨q20, q21, q22, q23⟩ := cells4 r2) | (go_at_call 38; refine (hwi _).mono ?_; rintro e w3 ⟨rfl, hb3⟩; have r3 : w3.heap[w.heap.size]? = some (.cells #[.int .i64 b, .int .i64 o, .int .i64 l, .int .i64 hi] 31) := (hb3.block _ z2).trans r2; obtain ⟨q30, q31, q32, q33⟩ := cells4 r3) | (go_at_call 28; refine (hd _ (hB.trans ((hb2.mono (by simp)).trans (hb3.mono (Nat.le_trans hB.size hb2.size))))).mono ?_; rintro e w4 ⟨rfl, hq⟩))
    go_ret
    exact ⟨rfl, hq⟩
set_option maxHeartbeats 1000000 in
theorem reach_Store {w : World} {g : G} {h : Nat} (p : Ptr) (hp : p.ok) (H : HeapAt w g) (hh : g.h = h) (n : Int) (x y : Value) (Q : World → Prop) (hE : g.ab.at_ p n = 0)
    (hd : ∀ w1, Below w.heap.size w w1 → Calls Try.prog 30 #[roomP (g.room p.bl), plV p.bl p.off, x, y] w1 fun e w2 => e = .returned (.tuple #[]) ∧ Q w2) :
    Calls Try.prog 27 #[.pointer (some ⟨h, 0, none⟩), p.v, .int .i64 n, .func (.func 30) #[] #[x, y]] w fun e w' => e = .returned (.int .i64 0) ∧ Q w' := by
  obtain ⟨hw, hb, ⟨r, hr⟩, hf⟩ := G.at_ok hE
  have hn := wid_or hw
  have hwi := fun W => within_any p n W hp hn
  have hB : Below w.heap.size w (w.alloc (.cells #[.int .i64 p.bl, .int .i64 p.off, .int .i64 p.lo, .int .i64 p.hi] 31)) := (Below.refl _ _).alloc (Nat.le_refl _) _
  have ht := target_any p hp (H.below hB) hh
  have hT : tgE g p = 0 ∧ tgV g p = roomP (g.room p.bl) := by
    unfold tgE tgV
    rw [if_neg hb, if_neg hb, hr]
    exact ⟨rfl, rfl⟩
  rw [hT.1, hT.2] at ht
  simp only [hf] at hwi
  clear hE hT hw hf hr
  generalize roomP (g.room p.bl) = tv at *
  obtain ⟨b, o, l, hi⟩ := p
  simp only [Ptr.v, plV] at *
  go_enter Try.func27, Try.ntmps27
  rcases hn with rfl | rfl | rfl
  all_goals
    go_wp2_with (first | (go_at_call 32; refine ht.mono ?_; rintro e w2 ⟨rfl, hb2⟩; have r2 : w2.heap[w.heap.size]? = some (.cells #[.int .i64 b, .int .i64 o, .int .i64 l, .int .i64 hi] 31) := (hb2.block _ (by simp)).trans (heap_alloc_new w _); have z2 : w.heap.size < w2.heap.size := lt_of_at r2; obtain ⟨q20, q21, q22, q23⟩ := cells4 r2) | (go_at_call 38; refine (hwi _).mono ?_; rintro e w3 ⟨rfl, hb3⟩; have r3 : w3.heap[w.heap.size]? = some (.cells #[.int .i64 b, .int .i64 o, .int .i64 l, .int .i64 hi] 31) := (hb3.block _ z2).trans r2; obtain ⟨q30, q31, q32, q33⟩ := cells4 r3) | (go_at_call 30; refine (hd _ (hB.trans ((hb2.mono (by simp)).trans (hb3.mono (Nat.le_trans hB.size hb2.size))))).mono ?_; rintro e w4 ⟨rfl, hq⟩))
    go_ret
    exact ⟨rfl, hq⟩
end Go.Proofs.Ytjianllngobhhaa
