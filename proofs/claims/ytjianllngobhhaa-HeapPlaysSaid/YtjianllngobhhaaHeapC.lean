/- Package heap: the target of a pointer, New, Live. Conditions: each theorem's. -/
import Derived.Test.YtjianllngobhhaaHeapB
import Derived.StillTailTactics
namespace Go.Proofs.Ytjianllngobhhaa
open Go.RowKit Go.Maps
set_option linter.unusedVariables false
set_option linter.unusedSimpArgs false
set_option maxRecDepth 100000
open Hp
theorem own_at {w w' : World} {base : Nat} {e : TypeId} {size n : Nat} {v : Value} {xs : List Value} (h : w.ownsRow base e size v n xs) (hb : ∀ j, v.ownBlock = some j → w'.heap[j]? = w.heap[j]?) : w'.ownsRow base e size v n xs := by
  refine ⟨h.1, h.2.imp id ?_⟩
  rintro ⟨q, cap, cur, e1, e2, e3, e4⟩
  exact ⟨q, cap, cur, e1, e2, (hb _ (by rw [e1]; rfl)).trans e3, e4⟩
theorem HeapAt.keep {w w' : World} {g : G} (H : HeapAt w g) (hb : ∀ j, g.own j → w'.heap[j]? = w.heap[j]?) : HeapAt w' g := by
  obtain ⟨hbox, ⟨fl, hl, hfl⟩, ⟨fs, hs, hfs⟩, hms, hr, hap, hinv, hmk⟩ := H
  refine ⟨(hb _ (.inl rfl)).trans hbox, ⟨fl, hl.keep (hb _ (.inr (.inl rfl))), hfl⟩, ⟨fs, hs.keep (hb _ (.inr (.inr (.inl rfl)))), hfs⟩, hms, fun b r e => ?_, hap, hinv, hmk⟩
  obtain ⟨h1, h2, h3⟩ := hr b r e
  exact ⟨(hb _ (.inr (.inr (.inr ⟨b, r, e, .inl rfl⟩)))).trans h1, own_at h2 (fun j hj => hb _ (.inr (.inr (.inr ⟨b, r, e, .inr hj⟩)))), h3⟩
theorem HeapAt.lt {w : World} {g : G} (H : HeapAt w g) : ∀ j, g.own j → j < w.heap.size := by
  intro j hj
  rcases hj with rfl | rfl | rfl | ⟨b, r, e, h | h⟩
  · exact lt_of_at H.box
  · obtain ⟨f, hf, _⟩ := H.live; exact hf.lt
  · obtain ⟨f, hf, _⟩ := H.stands; exact hf.lt
  · rw [h]; exact lt_of_at (H.room b r e).1
  · exact ((H.room b r e).2.1.lt j h).2
theorem HeapAt.below {w w' : World} {g : G} (H : HeapAt w g) (hb : Below w.heap.size w w') : HeapAt w' g := H.keep fun j hj => hb.block j (H.lt j hj)
theorem belowN {B : Nat} {w w' : World} {n : Nat} (h : Below B w w') : Below B w (w'.drewN n) := by
  induction n generalizing w' with
  | zero => exact h
  | succ n ih => exact (ih h).drew
theorem row_up {w : World} {b : Nat} {x : Obj} (h : w.heap[b]? = some x) (o : Obj) : (w.alloc o).heap[b]? = some x := (heap_alloc_old w o (Array.getElem?_eq_some_iff.1 h).1).trans h
theorem row_new {w : World} {n : Nat} (h : w.heap.size = n) (o : Obj) : (w.alloc o).heap[n]? = some o := by subst h; exact heap_alloc_new w o
namespace Hp
def roomP (r : Option Room) : Value := match r with | some r => .pointer (some ⟨r.rb, 0, none⟩) | none => .pointer none
end Hp
theorem zeroRm (w : World) : (zeroValue 70).run Try.prog w = .ok (.pointer none) w := by kernel_rfl
theorem zeroVl (w : World) : (zeroValue 35).run Try.prog w = .ok v0.v w := by kernel_rfl
theorem look_live {w : World} {g : G} (H : HeapAt w g) {b : Int} (hb : in64 b) : (Instr.lookup 66 (.map (some g.lb)) (.int .i64 b) false).run Try.prog w = .ok (roomP (g.room b)) w := by
  obtain ⟨f, hf, hfe⟩ := H.live
  rw [hf.look lawInt Try.underlying66 (zeroRm w) (key_int hb) false, hfe b hb]
  cases g.room b <;> rfl
theorem look_st {w : World} {g : G} (H : HeapAt w g) {b o : Int} (hb : in64 b) (ho : in64 o) (c : Bool) : (Instr.lookup 67 (.map (some g.sb)) (plV b o) c).run Try.prog w = .ok (if c then .tuple #[((g.st b o).getD v0).v, .bool (g.st b o).isSome] else ((g.st b o).getD v0).v) w := by
  obtain ⟨f, hf, hfe⟩ := H.stands
  rw [hf.look lawPlace Try.underlying67 (zeroVl w) (key_pl hb ho) c, hfe b o hb ho]
  cases g.st b o <;> cases c <;> rfl
theorem box_cells {w : World} {g : G} (H : HeapAt w g) : w.cell? ⟨g.h, 0, none⟩ = some (.int .i64 g.made) ∧ w.cell? ⟨g.h, 1, none⟩ = some (.map (some g.lb)) ∧ w.cell? ⟨g.h, 2, none⟩ = some (.map (some g.sb)) :=
  ⟨cell_of_row _ _ _ _ _ _ H.box, cell_of_row _ _ _ _ _ _ H.box, cell_of_row _ _ _ _ _ _ H.box⟩
namespace Hp
def tgE (g : G) (p : Ptr) : Int := if p.bl = 0 then 22 else if (g.room p.bl).isNone then 20 else 0
def tgV (g : G) (p : Ptr) : Value := if p.bl = 0 then .pointer none else roomP (g.room p.bl)
end Hp
set_option maxHeartbeats 1000000 in
theorem target_any {w : World} {g : G} {h : Nat} (p : Ptr) (hp : p.ok) (H : HeapAt w g) (hh : g.h = h) :
    Calls Try.prog 32 #[.pointer (some ⟨h, 0, none⟩), p.v] w fun e w' => e = .returned (.tuple #[tgV g p, .int .i64 (tgE g p)]) ∧ Below w.heap.size w w' := by
  obtain ⟨b, o, l, hi⟩ := p
  have hb := hp.1
  unfold tgE tgV
  subst hh
  simp only [Ptr.v] at *
  by_cases hz : b = 0
  · subst hz
    go_enter Try.func32, Try.ntmps32
    go_wp2
    refine bodyPost_ret (by simp [results, Try.results32, go_sem]; rfl) rfl ⟨?_, (Below.refl _ _).alloc (Nat.le_refl _) _⟩
    rfl
  · have hz' : (b == 0) = false := by simpa using hz
    rw [if_neg hz, if_neg hz]
    have hB : Below w.heap.size w (w.alloc (.cells #[.int .i64 b, .int .i64 o, .int .i64 l, .int .i64 hi] 31)) := (Below.refl _ _).alloc (Nat.le_refl _) _
    obtain ⟨-, c1, -⟩ := box_cells H
    have hlt := lt_of_at H.box
    have hlk : ∀ k, (Instr.lookup 66 (.map (some g.lb)) (.int .i64 b) false).run Try.prog ((w.alloc (.cells #[.int .i64 b, .int .i64 o, .int .i64 l, .int .i64 hi] 31)).drewN k) = .ok (roomP (g.room b)) ((w.alloc (.cells #[.int .i64 b, .int .i64 o, .int .i64 l, .int .i64 hi] 31)).drewN k) := fun k => look_live (H.below (belowN hB)) hb
    generalize g.room b = r at *
    clear hz
    go_enter Try.func32, Try.ntmps32
    go_wp2
    go_quiet (fail)
    cases r
    · simp only [roomP]
      go_wp2
      refine bodyPost_ret (by simp [results, Try.results32, go_sem]; rfl) rfl ⟨?_, belowN hB⟩
      rfl
    · simp only [roomP]
      go_wp2
      refine bodyPost_ret (by simp [results, Try.results32, go_sem]; rfl) rfl ⟨?_, belowN hB⟩
      rfl
theorem run_mm1 (w : World) : (Instr.makeMap 66 none).run Try.prog w = .ok (.map (some w.heap.size)) (w.alloc (.map #[] 0)) := by
  simp [Instr.makeMap, Try.underlying66]
theorem run_mm2 (w : World) : (Instr.makeMap 67 none).run Try.prog w = .ok (.map (some w.heap.size)) (w.alloc (.map #[] 0)) := by
  simp [Instr.makeMap, Try.underlying67]
namespace Hp
def ab0 : Ab := ⟨0, fun _ => none, fun _ _ => v0⟩
end Hp
set_option maxHeartbeats 1000000 in
theorem new_any (w : World) :
    Calls Try.prog 5 #[] w fun e w' => ∃ h o, e = .returned (.pointer (some ⟨h, 0, none⟩)) ∧ HpIs w' h o 0 ab0 ∧ (∀ j, o j → w.heap.size ≤ j) ∧ Below w.heap.size w w' := by
  have m1 := run_mm1
  have m2 := run_mm2
  go_enter Try.func5, Try.ntmps5
  go_wp2
  go_ret
  refine ⟨w.heap.size + 1 + 1, G.own ⟨w.heap.size + 1 + 1, w.heap.size, w.heap.size + 1, 0, 0, fun _ => none, fun _ _ => none⟩, rfl, ⟨_, ?_, rfl, rfl, Nat.le_refl _, rfl⟩, ?_, (((Below.refl _ _).alloc (Nat.le_refl _) _).alloc (by simp) _).alloc (by simp; omega) _⟩
  · refine ⟨?_, ⟨fun _ => none, ?_, fun _ _ => rfl⟩, ⟨fun _ => none, ?_, fun _ _ _ _ => rfl⟩, ?_, ?_, ?_, ?_, ?_⟩
    · exact row_new (by simp only [World.size_alloc]) _
    · exact (mp_new w _).keep ((heap_alloc_old _ _ (by simp only [World.size_alloc]; omega)).trans (heap_alloc_old _ _ (by simp only [World.size_alloc]; omega)))
    · have := mp_new (w.alloc (.map #[] 0)) 80
      simp only [World.size_alloc] at this
      exact this.keep (heap_alloc_old _ _ (by simp only [World.size_alloc]; omega))
    · simp
    · intro b r e; cases e
    · intro b r b' r' e; cases e
    · intro b o x e; cases e
    · simp
  · rintro j (rfl | rfl | rfl | ⟨b, r, e, _⟩)
    · simp; omega
    · simp
    · simp
    · cases e
set_option maxHeartbeats 1000000 in
theorem live_any {w : World} {h : Nat} {o : Nat → Prop} {c : Nat} {A : Ab} (H : HpIs w h o c A) (b : Int) (hb : in64 b) :
    Calls Try.prog 24 #[.pointer (some ⟨h, 0, none⟩), .int .i64 b] w fun e w' => e = .returned (.bool (A.room b).isSome) ∧ Below w.heap.size w w' := by
  obtain ⟨g, H, rfl, rfl, _, rfl⟩ := H
  obtain ⟨-, c1, -⟩ := box_cells H
  have hlk := look_live H hb
  have e : (g.ab.room b).isSome = (g.room b).isSome := by simp [G.ab]
  rw [e]
  generalize g.room b = r at *
  clear e
  go_enter Try.func24, Try.ntmps24
  cases r
  all_goals
    simp only [roomP] at hlk
    go_wp2
    go_ret
    exact ⟨rfl, Below.refl _ _⟩
end Go.Proofs.Ytjianllngobhhaa
