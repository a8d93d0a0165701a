/- What is read of a program in memory. Conditions: each theorem's. -/
import Derived.Test.YtgedikdcnhkmdaaParMu
import Derived.Test.YtgedikdcnhkmdaaParPu
namespace Go.Proofs.Ytgedikdcnhkmdaa
open Go.RowKit Go.Maps
set_option linter.unusedVariables false
set_option linter.unusedSimpArgs false
set_option maxRecDepth 100000
open Lx Pa
theorem flat_get {z : Nat} : ∀ (rows : List (List Value)) (i j : Nat) (c : List Value) (u : Value), (∀ r ∈ rows, r.length = z) → rows[i]? = some c → c[j]? = some u → rows.flatten[i * z + j]? = some u := by
  intro rows
  induction rows with
  | nil => intro i j c u _ h; simp at h
  | cons r rows ih =>
    intro i j c u hz hc hu
    have hr := hz r (by simp)
    cases i with
    | zero =>
      simp at hc
      subst hc
      rw [List.flatten_cons, Nat.zero_mul, Nat.zero_add, List.getElem?_append_left (List.getElem?_eq_some_iff.1 hu).1]
      exact hu
    | succ i =>
      simp at hc
      rw [List.flatten_cons, List.getElem?_append_right (by rw [hr, Nat.succ_mul]; omega), hr, show (i + 1) * z + j - z = i * z + j by rw [Nat.succ_mul]; omega]
      exact ih i j c u (fun r' hr' => hz r' (by simp [hr'])) hc hu
theorem LAt.get {α : Type} {E : Elem α} {w : World} {S : Nat → Prop} {l : List α} {v : Value} (h : LAt E w S l v) (i : Nat) {x : α} (hi : l[i]? = some x) :
    ∃ g o cap c, v = .slice (some ⟨g, o, none⟩) l.length cap ∧ l.length ≤ cap ∧ cap ≤ maxLen ∧ S g ∧ g < w.heap.size ∧ E.At w S x c ∧ ∀ j u, c[j]? = some u → w.cell? ⟨g, o + (i * E.z + j), none⟩ = some u := by
  obtain ⟨rows, h1, ⟨A, cap, rfl, h2, h3, h4⟩, h5⟩ := h
  have hl := (List.getElem?_eq_some_iff.1 hi).1
  obtain ⟨g, o, rfl, hS, hg, hr⟩ := h4 (by omega)
  have hri : rows[i]? = some (rows[i]'(by omega)) := List.getElem?_eq_getElem (by omega)
  refine ⟨g, o, cap, _, rfl, h2, h3, hS, hg, h5 i x _ hi hri, fun j u hu => hr _ u (flat_get rows i j _ u (fun r hr' => ?_) hri hu)⟩
  obtain ⟨k, hk, rfl⟩ := List.getElem_of_mem hr'
  exact E.len (h5 k (l[k]'(by omega)) _ (List.getElem?_eq_getElem (by omega)) (List.getElem?_eq_getElem hk))
/-- The first expression of the first statement of the only function. -/
theorem prog_view {w : World} {S : Nat → Prop} {p : PPr} {vs vv vf : Value} (h : PrAt w S p vs vv vf) {f : PFn} {kb : Int} {xb : List PEx} {vb : PVa} {ab : Nat} {kk : Int} {x : PEx} {ks : List PSt} {vk : PVa} {ak : Nat} (hf : p.fs = [f]) (hb : f.body = .mk kb xb [.mk kk [x] ks vk ak] vb ab) :
    ∃ gf of' cf gk ok ck gx ox cx c, vf = .slice (some ⟨gf, of', none⟩) 1 cf ∧ 1 ≤ cf ∧ w.cell? ⟨gf, of' + 7, none⟩ = some (.slice (some ⟨gk, ok, none⟩) 1 ck) ∧ 1 ≤ ck ∧ w.cell? ⟨gk, ok + 1, none⟩ = some (.slice (some ⟨gx, ox, none⟩) 1 cx) ∧ 1 ≤ cx ∧ ExAt w S x c ∧ (∀ j u, c[j]? = some u → w.cell? ⟨gx, ox + j, none⟩ = some u) ∧ gf < w.heap.size ∧ gk < w.heap.size ∧ gx < w.heap.size := by
  have h1 := h.f
  rw [hf] at h1
  obtain ⟨gf, of', cf, c1, e1, l1, _, _, g1, ⟨pv, d, _, hd, rfl⟩, r1⟩ := h1.get 0 rfl
  rw [hb] at hd
  obtain ⟨kd, xs, kids, va, at_, A, ca, B, cb, e2, rfl, _, hk⟩ := hd.inv
  injection e2 with e2a e2b e2c e2d e2e
  subst e2c
  obtain ⟨gk, ok, ck, c2, e3, l3, _, _, g3, hst, r3⟩ := hk.get 0 rfl
  obtain ⟨kd', xs', kids', va', at', A', ca', B', cb', e4, rfl, hx, _⟩ := StAt.inv hst
  injection e4 with e4a e4b e4c e4d e4e
  subst e4b
  obtain ⟨gx, ox, cx, c3, e5, l5, _, _, g5, hx', r5⟩ := hx.get 0 rfl
  have q1 := r1 7 _ rfl
  have q3 := r3 1 _ rfl
  simp only [Nat.zero_mul, Nat.zero_add] at q1 q3 r5
  rw [e3] at q1
  rw [e5] at q3
  exact ⟨gf, of', cf, gk, ok, ck, gx, ox, cx, c3, e1, l1, q1, l3, q3, l5, hx', r5, g1, g3, g5⟩
end Go.Proofs.Ytgedikdcnhkmdaa
/- The laws' fixed fact. Conditions: each theorem's. -/
namespace Go.Proofs.Ytgedikdcnhkmdaa
open Go.RowKit Go.Maps
set_option linter.unusedVariables false
set_option linter.unusedSimpArgs false
set_option maxRecDepth 100000
open Lx Pa
set_option maxHeartbeats 8000000 in
theorem awake_any {w : World} (hM : MaxIs w) :
    Calls Try.prog 7 #[] w fun e w' => e = .returned (.bool true) ∧ Below w.heap.size w w' := by
  have hp := parse_any txA w (by decide) hM
  unfold ParseP at hp
  rw [pv_A] at hp
  go_enter Try.func7, Try.ntmps7
  go_wp2_with fail
  refine hp.mono ?_
  rintro e w1 ⟨vs, vv, vf, rfl, hpa, b1⟩
  clear hp
  obtain ⟨gf, of', cf, gk, ok, ck, gx, ox, cx, c, rfl, lf, q1, lk, q2, lx, hx, q3, g1, g2, g3⟩ := prog_view hpa (f := fnA) rfl rfl
  obtain ⟨kd, op, nm, num, kids, ty, A, cap, e1, rfl, hk⟩ := hx.inv
  injection e1 with a1 a2 a3 a4 a5 a6 a7
  clear a7
  subst a1 a2 a3 a4 a5 a6
  obtain ⟨gq, oq, cq, c2, e2, lq, _, _, g4, hq, q4⟩ := (list_exs hk).get 0 rfl
  injection e2 with e2 e3 e4
  subst e2 e4
  obtain ⟨kd', op', nm', num', kids', ty', A', cap', e1', rfl, hk'⟩ := ExAt.inv hq
  injection e1' with a1 a2 a3 a4 a5 a6 a7
  clear a2 a3 a4 a5 a6 a7
  subst a1
  have k0 := q4 0 _ rfl
  have hM1 := hM.keep b1
  have hbA := b1.alloc b1.size (.cells #[vs, vv, .slice (some ⟨gf, of', none⟩) 1 cf] 27)
  have hp2 := parse_any txB (w1.alloc (.cells #[vs, vv, .slice (some ⟨gf, of', none⟩) 1 cf] 27)) (by decide) (hM1.keep (belowA _ _))
  unfold ParseP at hp2
  rw [show (parseV txB).2.1 = 6 from by rw [pv_B], show (parseV txB).2.2 = 1 from by rw [pv_B]] at hp2
  have hrow := heap_alloc_new w1 (.cells #[vs, vv, .slice (some ⟨gf, of', none⟩) 1 cf] 27)
  have HROW := Lib.hid hrow
  have HPA := Lib.hid hpa
  have HONE := Lib.hid hpa.one
  clear hrow hpa hM1
  have HQ := Lib.hid (And.intro q1 (And.intro q2 (And.intro (q3 0 _ rfl) (And.intro (q3 1 _ rfl) (And.intro (q3 2 _ rfl) (And.intro (q3 3 _ rfl) (And.intro (q3 4 _ rfl) (And.intro (q3 5 _ rfl) (And.intro (q3 6 _ rfl) (And.intro (q3 7 _ rfl) (And.intro (q3 8 _ rfl) k0)))))))))))
  clear q1 q2 q3 q4 k0
  go_wp2_with (((with_reducible refine stN 27 w1.heap.size #[vs, vv, .slice (some ⟨gf, of', none⟩) 1 cf] rfl ?_ ?_ ?_ ?_ ?_ ?_); rfl; rfl; exact sizePr; rfl; exact HONE.out))
  refine hp2.mono ?_
  rintro e w2 ⟨us, uv, uf, rfl, hpb, b2⟩
  clear hp2
  have hS := szA w1 (.cells #[vs, vv, .slice (some ⟨gf, of', none⟩) 1 cf] 27)
  have z2 : w1.heap.size + 1 ≤ w2.heap.size := by have := b2.size; omega
  have hb3 := hbA.trans (b2.mono (by have := b1.size; omega))
  have hb4 := hb3.alloc (by have := b1.size; omega) (.cells #[us, uv, uf] 27)
  have old : ∀ (g o : Nat), g < w1.heap.size → (w2.alloc (.cells #[us, uv, uf] 27)).cell? ⟨g, o, none⟩ = w1.cell? ⟨g, o, none⟩ := fun g o hg =>
    World.cell?_of_block (w := w1) ((Below.heap_alloc _ _ _ (show g < w2.heap.size by omega)).trans ((b2.block g (by omega)).trans (Below.heap_alloc _ _ _ hg)))
  have p2 : (w2.alloc (.cells #[us, uv, uf] 27)).cell? ⟨w1.heap.size, 2, none⟩ = some (.slice (some ⟨gf, of', none⟩) 1 cf) := by
    rw [World.cell?_of_block (w := w2) (Below.heap_alloc _ _ _ (show w1.heap.size < w2.heap.size by omega)), cell_of_row _ _ _ _ _ _ ((b2.block w1.heap.size (by omega)).trans HROW.out)]
    rfl
  obtain ⟨q1, q2, x0, x1, x2, x3, x4, x5, x6, x7, x8, k0⟩ := HQ.out
  have q1' := (old _ _ g1).trans q1
  have q2' := (old _ _ g2).trans q2
  have x0' := (old _ _ g3).trans x0
  have x1' := (old _ _ g3).trans x1
  have x2' := (old _ _ g3).trans x2
  have x3' := (old _ _ g3).trans x3
  have x4' := (old _ _ g3).trans x4
  have x5' := (old _ _ g3).trans x5
  have x6' := (old _ _ g3).trans x6
  have x7' := (old _ _ g3).trans x7
  have x8' := (old _ _ g3).trans x8
  have k0' := (old _ _ g4).trans k0
  have g1' : gf < w2.heap.size + 1 := by omega
  have g2' : gk < w2.heap.size + 1 := by omega
  have g3' : gx < w2.heap.size + 1 := by omega
  have g4' : gq < w2.heap.size + 1 := by omega
  have HB4 := Lib.hid hb4
  have HONB := Lib.hid hpb.one
  clear old q1 q2 x0 x1 x2 x3 x4 x5 x6 x7 x8 k0 hb3 hb4 b1 b2 hbA hpb
  simp only [Nat.zero_mul, Nat.zero_add, Nat.add_zero] at *
  go_wp2_with (((with_reducible refine stN 27 w2.heap.size #[us, uv, uf] rfl ?_ ?_ ?_ ?_ ?_ ?_); rfl; rfl; exact sizePr; rfl; exact HONB.out))
  go_ret
  exact ⟨rfl, (HB4.out.alloc (by simp only [szA]; omega) _)⟩
end Go.Proofs.Ytgedikdcnhkmdaa
