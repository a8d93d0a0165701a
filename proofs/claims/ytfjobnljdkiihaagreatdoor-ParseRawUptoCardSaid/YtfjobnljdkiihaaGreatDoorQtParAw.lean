/- The laws' fixed fact. Conditions: each theorem's. -/
import Derived.Test.YtfjobnljdkiihaaGreatDoorQtParAk
namespace Go.Proofs.YtfjobnljdkiihaaGreatDoor
open Go.RowKit Go.Maps
set_option linter.unusedVariables false
set_option linter.unusedSimpArgs false
set_option maxRecDepth 100000
open Lx Pa
set_option maxHeartbeats 8000000 in
theorem awake_any {w : World} (hM : MaxIs w) :
  Calls Tryz.prog 6 #[] w fun e w' => e = .returned (.bool true) ∧ Below w.heap.size w w' := by
 have hp := parse_any txA w (by decide) hM
 unfold ParseP at hp
 rw [pv_A] at hp
 go_enter Tryz.func6, Tryz.ntmps6
 go_wp2_with fail
 refine hp.mono ?_
 rintro e w1 ⟨vs, vv, vf, rfl, hpa, b1⟩
 clear hp
 obtain ⟨gf, of', cf, gk, ok, ck, gx, ox, cx, c, rfl, lf, q1, lk, q2, lx, hx, q3, g1, g2, g3⟩ := prog_view hpa (f := fnA) rfl rfl
 obtain ⟨kd, op, nm, num, kids, ty, A, cap, e1, rfl, hk⟩ := hx.inv
 injection e1 with a1 a2 a3 a4 a5 a6 a7
 clear a7
 subst a1 a2 a3 a4 a5 a6
 obtain ⟨gq, oq, cq, c2, e2, lq, _, _, g4, hq, q4⟩ := (list_exs hk).get 0 rfl
 injection e2 with e2 e3 e4
 subst e2 e4
 obtain ⟨kd', op', nm', num', kids', ty', A', cap', e1', rfl, hk'⟩ := ExAt.inv hq
 injection e1' with a1 a2 a3 a4 a5 a6 a7
 clear a2 a3 a4 a5 a6 a7
 subst a1
 have k0 := q4 0 _ rfl
 have hM1 := hM.keep b1
 have hbA := b1.alloc b1.size (.cells #[vs, vv, .slice (some ⟨gf, of', none⟩) 1 cf] 27)
 have hp2 := parse_any txB (w1.alloc (.cells #[vs, vv, .slice (some ⟨gf, of', none⟩) 1 cf] 27)) (by decide) (hM1.keep (belowA _ _))
 unfold ParseP at hp2
 rw [show (parseV txB).2.1 = 6 from by rw [pv_B], show (parseV txB).2.2 = 1 from by rw [pv_B]] at hp2
 have hrow := heap_alloc_new w1 (.cells #[vs, vv, .slice (some ⟨gf, of', none⟩) 1 cf] 27)
 have HROW := Lib.hid hrow
 have HPA := Lib.hid hpa
 have HONE := Lib.hid hpa.one
 clear hrow hpa hM1
 have HQ := Lib.hid (And.intro q1 (And.intro q2 (And.intro (q3 0 _ rfl) (And.intro (q3 1 _ rfl) (And.intro (q3 2 _ rfl) (And.intro (q3 3 _ rfl) (And.intro (q3 4 _ rfl) (And.intro (q3 5 _ rfl) (And.intro (q3 6 _ rfl) (And.intro (q3 7 _ rfl) (And.intro (q3 8 _ rfl) k0)))))))))))
 clear q1 q2 q3 q4 k0
 go_wp2_with (((with_reducible refine stN 27 w1.heap.size #[vs, vv, .slice (some ⟨gf, of', none⟩) 1 cf] rfl ?_ ?_ ?_ ?_ ?_ ?_); rfl; rfl; exact sizePr; rfl; exact HONE.out))
 refine hp2.mono ?_
 rintro e w2 ⟨us, uv, uf, rfl, hpb, b2⟩
 clear hp2
 have hS := szA w1 (.cells #[vs, vv, .slice (some ⟨gf, of', none⟩) 1 cf] 27)
 have z2 : w1.heap.size + 1 ≤ w2.heap.size := by have := b2.size; omega
 have hb3 := hbA.trans (b2.mono (by have := b1.size; omega))
 have hb4 := hb3.alloc (by have := b1.size; omega) (.cells #[us, uv, uf] 27)
 have old : ∀ (g o : Nat), g < w1.heap.size → (w2.alloc (.cells #[us, uv, uf] 27)).cell? ⟨g, o, none⟩ = w1.cell? ⟨g, o, none⟩ := fun g o hg =>
  World.cell?_of_block (w := w1) ((Below.heap_alloc _ _ _ (show g < w2.heap.size by omega)).trans ((b2.block g (by omega)).trans (Below.heap_alloc _ _ _ hg)))
 have p2 : (w2.alloc (.cells #[us, uv, uf] 27)).cell? ⟨w1.heap.size, 2, none⟩ = some (.slice (some ⟨gf, of', none⟩) 1 cf) := by
  rw [World.cell?_of_block (w := w2) (Below.heap_alloc _ _ _ (show w1.heap.size < w2.heap.size by omega)), cell_of_row _ _ _ _ _ _ ((b2.block w1.heap.size (by omega)).trans HROW.out)]
  rfl
 obtain ⟨q1, q2, x0, x1, x2, x3, x4, x5, x6, x7, x8, k0⟩ := HQ.out
 have q1' := (old _ _ g1).trans q1
 have q2' := (old _ _ g2).trans q2
 have x0' := (old _ _ g3).trans x0
 have x1' := (old _ _ g3).trans x1
 have x2' := (old _ _ g3).trans x2
 have x3' := (old _ _ g3).trans x3
 have x4' := (old _ _ g3).trans x4
 have x5' := (old _ _ g3).trans x5
 have x6' := (old _ _ g3).trans x6
 have x7' := (old _ _ g3).trans x7
 have x8' := (old _ _ g3).trans x8
 have k0' := (old _ _ g4).trans k0
 have g1' : gf < w2.heap.size + 1 := by omega
 have g2' : gk < w2.heap.size + 1 := by omega
 have g3' : gx < w2.heap.size + 1 := by omega
 have g4' : gq < w2.heap.size + 1 := by omega
 have HB4 := Lib.hid hb4
 have HONB := Lib.hid hpb.one
 clear old q1 q2 x0 x1 x2 x3 x4 x5 x6 x7 x8 k0 hb3 hb4 b1 b2 hbA hpb
 simp only [Nat.zero_mul, Nat.zero_add, Nat.add_zero] at *
 go_wp2_with (((with_reducible refine stN 27 w2.heap.size #[us, uv, uf] rfl ?_ ?_ ?_ ?_ ?_ ?_); rfl; rfl; exact sizePr; rfl; exact HONB.out))
 go_ret
 exact ⟨rfl, (HB4.out.alloc (by simp only [szA]; omega) _)⟩
end Go.Proofs.YtfjobnljdkiihaaGreatDoor
