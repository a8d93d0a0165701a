/- ParseRaw answers true. Conditions: each theorem's. -/
import Derived.Test.YtfjobnljdkiihaaGreatDoorQtRwD
namespace Go.Proofs.YtfjobnljdkiihaaGreatDoor
open Go.RowKit Go.Maps
set_option linter.unusedVariables false
set_option linter.unusedSimpArgs false
set_option maxRecDepth 100000
open Lx Pa Go.Lib Qi
set_option maxHeartbeats 16000000 in
theorem parseRaw_walk {w : World} (x y : PEx) (cx cy : List Value) (hx : ExA w (Bl w.heap.size) x cx) (hy : ExA w (Bl w.heap.size) y cy) (hM : MaxIs w) (T : PrintTabs) (hT : Tb T w.heap.size w) (fx : fE x) (fy : fE y) (lx : (treeT T (raw x)).length ≤ 1000000000000) (ly : (treeT T (raw y)).length ≤ 1000000000000) :
    Calls Tryz.prog 4 #[.agg cx.toArray, .agg cy.toArray] w fun e w' => e = .returned (.bool true) ∧ Below w.heap.size w w' := by
  obtain ⟨kd, op, nm, num, kids, ty, a, z, A, cap, hex, rfl, hL⟩ := ExA.inv hx
  obtain ⟨kd', op', nm', num', kids', ty', a', z', A', cap', hey, rfl, hL'⟩ := ExA.inv hy
  go_enter Tryz.func4, Tryz.ntmps4
  go_wp2_with fail
  obtain ⟨Y, hYe⟩ : ∃ Y, (w.alloc (.cells (exQ kd op nm num (.slice A kids.length cap) ty z).toArray 39)).alloc (.cells (exQ kd' op' nm' num' (.slice A' kids'.length cap') ty' z').toArray 39) = Y := ⟨_, rfl⟩
  have hb : Below w.heap.size w Y := by
    rw [← hYe]
    exact ((Below.refl _ _).alloc (Nat.le_refl _) _).alloc (by simp) _
  have hY : RY T Y w.heap.size (w.heap.size + 1) x y (exQ kd op nm num (.slice A kids.length cap) ty z) (exQ kd' op' nm' num' (.slice A' kids'.length cap') ty' z') := by
    refine ⟨?_, ?_, hx.keep (fun g _ hl => ⟨trivial, hb.block g hl⟩) hb.size, hy.keep (fun g _ hl => ⟨trivial, hb.block g hl⟩) hb.size, hM.keep hb, fun W hW => ?_, fx, fy, lx, ly⟩
    · rw [← hYe]
      exact bl1 _ _ (bn _ _ rfl) (by simp only [szA]; omega)
    · rw [← hYe]
      exact bn _ _ (by simp only [szA])
    · have h1 := hb.trans (hW.mono hb.size)
      exact fun w' h' => hT w' (h1.trans (h'.mono h1.size))
  rw [hYe]
  refine wp_region_inv (ops := rwOps) (by kernel_rfl) (fun _ => RI Y w.heap.size (w.heap.size + 1) x y (exQ kd op nm num (.slice A kids.length cap) ty z) (exQ kd' op' nm' num' (.slice A' kids'.length cap') ty' z') ⟨(treeT T (raw x)).toArray⟩ ⟨(treeT T (raw y)).toArray⟩ (sameB (EqEs false [x] [y]))) rw_lt ?_ (fun f l a W i o hl hI ho _ he => rw_step hY l a W i o hI ho he) ?_
  · refine ⟨(Below.refl _ _).drew, rfl, rfl, rfl, rfl, rfl, fun i hi h => ?_, fun h => ?_⟩
    all_goals
      rw [rw_size] at h
      simp only [Array.getD_eq_getD_getElem?, Array.getElem?_replicate] at h
      split at h <;> cases h
  · intro f l a W hs hI hall
    rename_i K hK
    have h4 := hI.r (getD_ff (by rw [hs, rw_size]; omega) (hall 18 (by rw [rw_size]; omega)))
    have h4 : a.tmps.getD 4 undef = .bool true := h4
    refine hK a W (wp_ret (show bodyPost Tryz.prog Tryz.f4 (fun e w'' => e = .returned (.bool true) ∧ Below w.heap.size w w'') .ret a W from ?_))
    refine bodyPost_ret (v := .bool true) ?_ hI.df ⟨rfl, hb.trans (hI.bl.mono hb.size)⟩
    rw [Array.getD_eq_getD_getElem?] at h4
    simp [results, Tryz.results4, go_sem, h4]
end Go.Proofs.YtfjobnljdkiihaaGreatDoor
