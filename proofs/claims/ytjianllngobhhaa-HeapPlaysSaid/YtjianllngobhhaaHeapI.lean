/- Package heap: Store. Conditions: each theorem's. -/
import Derived.Test.YtjianllngobhhaaHeapH
namespace Go.Proofs.Ytjianllngobhhaa
open Go.RowKit Go.Maps
set_option linter.unusedVariables false
set_option linter.unusedSimpArgs false
set_option maxRecDepth 100000
open Hp
namespace Hp
def Ab.store (A : Ab) (p : Ptr) (n : Int) (x : Val) : Ab := if A.at_ p n = 0 then A.put p.bl p.off x else A
end Hp
def W3 (w : World) (h : Nat) (p : Ptr) (x : Val) : World := ((w.alloc (.cells #[.pointer (some ⟨h, 0, none⟩)] 23)).alloc (.cells #[.int .i64 p.bl, .int .i64 p.off, .int .i64 p.lo, .int .i64 p.hi] 31)).alloc (.cells (valA x) 35)
theorem W3_size (w : World) (h : Nat) (p : Ptr) (x : Val) : (W3 w h p x).heap.size = w.heap.size + 3 := by simp [W3]
theorem W3_below (w : World) (h : Nat) (p : Ptr) (x : Val) : Below w.heap.size w (W3 w h p x) := (((Below.refl _ _).alloc (Nat.le_refl _) _).alloc (by simp) _).alloc (by simp; omega) _
theorem W3_0 (w : World) (h : Nat) (p : Ptr) (x : Val) : (W3 w h p x).heap[w.heap.size]? = some (.cells #[.pointer (some ⟨h, 0, none⟩)] 23) := row_up (row_up (row_new rfl _) _) _
theorem W3_2 (w : World) (h : Nat) (p : Ptr) (x : Val) : (W3 w h p x).heap[w.heap.size + 1 + 1]? = some (vlB x) := row_new (by simp) _
def SrTo (w : World) (g : G) (h : Nat) (p : Ptr) (n : Int) (x : Val) (e : Ending) (w' : World) : Prop :=
  e = .returned (.int .i64 (g.ab.at_ p n)) ∧ ∃ g', HeapAt w' g' ∧ g'.h = h ∧ g'.ab = g.ab.store p n x ∧ g'.cnt ≤ g.cnt + 2 ∧ Stays g.own w g'.own w'
theorem stReach {w : World} {g : G} {h : Nat} (p : Ptr) (hp : p.ok) (H : HeapAt w g) (hh : g.h = h) (hc : g.cnt < 1073741822) (n : Int) (x : Val) :
    Calls Try.prog 27 #[.pointer (some ⟨h, 0, none⟩), p.v, .int .i64 n, .func (.func 30) #[] #[.pointer (some ⟨w.heap.size, 0, none⟩), .pointer (some ⟨w.heap.size + 1 + 1, 0, none⟩)]] (W3 w h p x) (SrTo w g h p n x) := by
  have H4 := H.below (W3_below w h p x)
  have z4 := W3_size w h p x
  have hst : Stays g.own w g.own (W3 w h p x) := Stays.below (W3_below w h p x)
  by_cases hE : g.ab.at_ p n = 0
  · obtain ⟨-, -, ⟨r, hr⟩, -⟩ := G.at_ok hE
    refine (reach_Store p hp H4 hh n _ _ (fun w' => SrTo w g h p n x (.returned (.int .i64 (g.ab.at_ p n))) w') hE fun w1 hb1 => ?_).mono (fun e w' ⟨he, hq⟩ => by subst he; exact ⟨by rw [hE], hq.2⟩)
    rw [hr]
    rw [z4] at hb1
    have h1 := H4.below (by rw [z4]; exact hb1)
    have q0 := row_in hb1 (by rw [hh]; exact W3_0 w h p x : (W3 w h p x).heap[w.heap.size]? = some (.cells #[.pointer (some ⟨g.h, 0, none⟩)] 23)) (by omega)
    have q2 := row_in hb1 (W3_2 w h p x) (by omega)
    have hs1 : Stays g.own w g.own w1 := hst.trans (Stays.below (by rw [z4]; exact hb1))
    have fin : ∀ e w2, StTo w1 g p.bl p.off x e w2 → e = .returned (.tuple #[]) ∧ SrTo w g h p n x (.returned (.int .i64 (g.ab.at_ p n))) w2 := by
      rintro e w2 ⟨rfl, g', e1, e2, e3, e4, e5⟩
      exact ⟨rfl, rfl, g', e1, e2.trans hh, by rw [e3]; unfold Ab.store; rw [if_pos hE], e4, hs1.trans e5⟩
    rcases hy : g.st p.bl p.off with _ | y
    · exact (store1_new x h1 hp.1 hp.2.1 hc hr hy q0 q2).mono fin
    · exact (store1_old x y h1 hp.1 hp.2.1 hc hr hy q0 q2).mono fin
  · refine (reach_bad p hp H4 hh n _ hE).mono ?_
    rintro e w' ⟨rfl, hb⟩
    exact ⟨rfl, g, H4.below hb, hh, by unfold Ab.store; rw [if_neg hE], by omega, hst.trans (Stays.below hb)⟩
set_option maxHeartbeats 1000000 in
theorem store_any {w : World} {h : Nat} {o : Nat → Prop} {c : Nat} {A : Ab} (H : HpIs w h o c A) (hc : c < 1073741822) (p : Ptr) (hp : p.ok) (n : Int) (x : Val) :
    Calls Try.prog 16 #[.pointer (some ⟨h, 0, none⟩), p.v, .int .i64 n, x.v] w fun e w' => ∃ o', e = .returned (.int .i64 (A.at_ p n)) ∧ HpIs w' h o' (c + 2) (A.store p n x) ∧ Stays o w o' w' := by
  obtain ⟨g, H, hh, rfl, hg, rfl⟩ := H
  have hr := stReach p hp H hh (by omega) n x
  have HG := Lib.hid hg
  clear H hp hg hh
  obtain ⟨b, of, l, hi⟩ := p
  obtain ⟨nm, xb, xo, xl, xh⟩ := x
  unfold W3 at hr
  simp only [valA] at hr
  simp only [Ptr.v, Val.v] at *
  go_enter Try.func16, Try.ntmps16
  go_wp2_with (go_at_call 27; refine hr.mono ?_; rintro e w2 ⟨rfl, hq⟩)
  go_ret
  obtain ⟨g', e1, e2, e3, e4, e5⟩ := hq
  exact ⟨g'.own, rfl, ⟨g', e1, e2, rfl, by have := HG.out; omega, e3.symm⟩, e5⟩
end Go.Proofs.Ytjianllngobhhaa
