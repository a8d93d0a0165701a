/- The document's Free. Conditions: each theorem's. -/
import Derived.Test.YtjianllngobhhaaHeapRf
namespace Go.Proofs.Ytjianllngobhhaa
open Go.RowKit Go.Maps
set_option linter.unusedVariables false
set_option linter.unusedSimpArgs false
set_option maxRecDepth 100000
open Hp
namespace Hp
/-- May the block r be freed by the pointer p? -/
def rFits (r : Rb) (p : Ptr) : Bool := r.free && p.off == 0 && p.lo == 0 && p.hi == r.size
def rFreeE (l : List Rb) (p : Ptr) : Int := if p.bl = 0 then 22 else match rbOf l p.bl with | none => 20 | some r => if r.live then (if rFits r p then 0 else 23) else 20
def rFree (l : List Rb) (p : Ptr) : List Rb := if rFreeE l p = 0 then rEnd l p.bl else l
end Hp
/-- The boxes of Free. -/
theorem free_box {w w2 : World} {o1 o2 o3 : Obj} (hb : Below (w.heap.size + 1 + 1 + 1) (((w.alloc o1).alloc o2).alloc o3) w2) :
    w2.heap[w.heap.size]? = some o1 ∧ w2.heap[w.heap.size + 1]? = some o2 ∧ w2.heap[w.heap.size + 1 + 1]? = some o3 ∧ Below w.heap.size w w2 :=
  ⟨row_in hb (row_up (row_up (row_new rfl _) _) _) (by omega), row_in hb (row_up (row_new (by simp) _) _) (by omega), row_in hb (row_new (by simp) _) (by omega), ((((Below.refl _ _).alloc (Nat.le_refl _) _).alloc (by simp) _).alloc (by simp; omega) _).trans (hb.mono (by omega))⟩
set_option maxHeartbeats 2000000 in
theorem rfree_any {w : World} {base : Nat} {v : Value} {l : List Rb} (p : Ptr) (hp : p.ok) (H : RfAt w base v l) :
    Calls Try.prog 19 #[.agg #[v], p.v] w fun e w' => e = .returned (.tuple #[.agg #[v], .int .i64 (rFreeE l p)]) ∧ RDid w base v l v (rFree l p) w' := by
  have hlen := rlen H.row
  unfold maxLen at hlen
  have HLT := Lib.hid H.lt0
  have HR := Lib.hid (fun (X : World) (hX : Below w.heap.size w X) => RDid.refl H hX)
  have HL := Lib.hid (fun (X : World) (hX : Below w.heap.size w X) => rlive_any p.bl hp.1 (H.below hX))
  have HE := Lib.hid (fun (X : World) (hX : Below w.heap.size w X) => rend_any p.bl hp.1 (H.below hX))
  obtain ⟨E, hE⟩ : ∃ E, E = rFreeE l p := ⟨_, rfl⟩
  obtain ⟨l', hl'⟩ : ∃ l', l' = rFree l p := ⟨_, rfl⟩
  rw [← hE, ← hl']
  unfold rFree at hl'
  rw [← hE] at hl'
  unfold rFreeE at hE
  have hB3 : ∀ A c, Below w.heap.size w (((w.alloc (.cells #[.slice A l.length c] 28)).alloc (.cells #[.int .i64 p.bl, .int .i64 p.off, .int .i64 p.lo, .int .i64 p.hi] 39)).alloc (.cells #[.slice none 0 0] 28)) := fun A c => (((Below.refl _ _).alloc (Nat.le_refl _) _).alloc (by simp) _).alloc (by simp; omega) _
  by_cases hz : p.bl = 0
  · rw [if_pos hz] at hE
    subst hE
    rw [if_neg (by decide)] at hl'
    subst hl'
    obtain ⟨A, c, rfl⟩ := rsl H.row
    obtain ⟨b, o, lo, hi⟩ := p
    dsimp only at hz
    subst hz
    simp only [Ptr.v] at *
    clear H HE HL
    go_enter Try.func19, Try.ntmps19
    go_wp2
    exact bodyPost_ret (v := .tuple #[.agg #[.slice A l'.length c], .int .i64 22]) (res_cell_tmp Try.results19 _ _ (w.heap.size + 1 + 1) 28 #[.slice A l'.length c] (0, 0) _ _ rfl rfl (row_new (by simp) _) Try.underlying28 rfl sizeRH) rfl ⟨rfl, HR.out _ ((((Below.refl _ _).alloc (Nat.le_refl _) _).alloc (by simp) _).alloc (by simp; omega) _)⟩
  · rw [if_neg hz] at hE
    have hz' : (p.bl == 0) = false := by simpa using hz
    cases hL : rLiv l p.bl
    · have hE' : E = 20 := by
        unfold rLiv at hL
        cases he : rbOf l p.bl
        · rw [he] at hE; exact hE
        · rw [he] at hE hL; simp only at hE hL; rw [hL] at hE; simpa using hE
      clear hE
      subst hE'
      rw [if_neg (by decide)] at hl'
      subst hl'
      rw [hL] at HL
      obtain ⟨A, c, rfl⟩ := rsl H.row
      obtain ⟨b, o, lo, hi⟩ := p
      dsimp only at *
      simp only [Ptr.v] at *
      have HL2 := Lib.hid (HL.out _ (hB3 A c))
      clear H HE HL hB3 hz hL
      go_enter Try.func19, Try.ntmps19
      go_wp2_with (go_at_call 25; refine HL2.out.mono ?_; rintro e w2 ⟨rfl, hb⟩; simp only [World.size_alloc] at hb; obtain ⟨q0, q1, q2, hbb⟩ := free_box hb; have d0 := cell_of_row _ _ 0 _ _ _ q0; have d2 := cell_of_row _ _ 0 _ _ _ q2; have z2 := frozen_of_row _ _ 0 _ _ q2)
      exact bodyPost_ret (v := .tuple #[.agg #[.slice A l'.length c], .int .i64 20]) (res_cell_tmp Try.results19 _ _ (w.heap.size + 1 + 1) 28 #[.slice A l'.length c] (0, 0) _ _ rfl rfl (heap_setCell_same _ _ _ _ _ _ q2) Try.underlying28 rfl sizeRH) rfl ⟨rfl, (HR.out _ hbb).setCell (fun e => by have := HLT.out _ e; omega) (by omega) _⟩
    · have hx : ∃ k, ∃ hk : k < l.length, p.bl = (k : Int) + 1 ∧ rbOf l p.bl = some l[k] ∧ l[k].live = true := by
        by_cases h : 1 ≤ p.bl ∧ p.bl ≤ l.length
        · obtain ⟨k, hk, h1, h2⟩ := rbOf_some h.1 h.2
          refine ⟨k, hk, h1, h2, ?_⟩
          unfold rLiv at hL
          rw [h2] at hL
          exact hL
        · unfold rLiv at hL; rw [rbOf_none h] at hL; cases hL
      obtain ⟨k, hk, hpk, he, hlv⟩ := hx
      rw [he] at hE
      simp only [hlv, if_true] at hE
      have hCE : rClearE l p.bl = 0 := by unfold rClearE; rw [he]; simp only [hlv, if_true]
      rw [hL] at HL
      rw [hCE] at HE
      obtain ⟨g, cap, cur, rfl, hg, hh, -⟩ := rb_at H k hk
      have HRG := Lib.hid (fun (Z : World) (hZ : Below w.heap.size w Z) => (show Z.rangeAt g (k * 4) (Rb.l l[k]) from rb_range (H.below hZ) k hk))
      have hrow := rb_row H k hk
      obtain ⟨b, o, lo, hi⟩ := p
      dsimp only at *
      subst hpk
      simp only [Ptr.v] at *
      have HL2 := Lib.hid (HL.out _ (hB3 (some ⟨g, 0, none⟩) cap))
      have e1 : IntKind.i64.wrap ((k : Int) + 1 - 1) = k := by rw [show (k : Int) + 1 - 1 = k by omega]; exact IntWalk.i64_in _ (by omega)
      have dj0 : (0 : Int) ≤ (k : Int) := by omega
      have dj1 : (k : Int) < (l.length : Int) := by omega
      clear H HL hB3 hL he hCE hz hh
      generalize l[k] = r at *
      obtain ⟨rs, rf, rl, rr, rc⟩ := r
      obtain ⟨A2, n2, cp2, hro⟩ := hrow
      dsimp only at hro
      subst hro
      unfold Rb.l at HRG
      unfold rFits at hE
      dsimp only at *
      subst hlv
      have hEE := Lib.hid hE
      have hll := Lib.hid hl'
      clear hE hl'
      go_enter Try.func19, Try.ntmps19
      go_wp2_with (first
        | (go_at_call 25; refine HL2.out.mono ?_; rintro e w2 ⟨rfl, hb⟩; simp only [World.size_alloc] at hb; obtain ⟨q0, q1, q2, hbb⟩ := free_box hb; have d0 := cell_of_row _ _ 0 _ _ _ q0; obtain ⟨y0, y1, y2, y3⟩ := cells4 q1; have d2 := cell_of_row _ _ 0 _ _ _ q2; have z2 := frozen_of_row _ _ 0 _ _ q2; have l0 := lt_of_at q0; have l1 := lt_of_at q1; have l2 := lt_of_at q2)
        | ((with_reducible show wpList _ _ _ (Oper.mk (some 23) _ _ _ _ _ :: _) _ _); refine wpList_load_mid (op := ⟨some 23, _, _, _, _, _⟩) rfl 77 (.tmp 22) rfl g (k * 4) rfl _ _ (HRG.out _ hbb) Try.underlying77 rfl sizeRB ?_)
        | (go_at_call 21; have bZ : ∀ O, Below w.heap.size w (w2.alloc O) := (fun O => hbb.trans ((Below.refl _ _).alloc (Nat.le_refl _) O |>.mono hbb.size)); refine (HE.out _ (bZ _)).mono ?_; rintro e w3 ⟨rfl, hd⟩; have q3 := hd.box (row_up q2 _) (fun e => by have := HLT.out _ e; omega); have d5 := cell_of_row _ _ 0 _ _ _ q3; have z5 := frozen_of_row _ _ 0 _ _ q3; have hd3 := (HR.out _ (bZ _)).trans hd))
      all_goals first
        | (have hE0 : E = 0 := by
             rw [hEE.out, if_pos]
             simp_all
           have hx : (w3.setCell ⟨w.heap.size + 1 + 1, 0, none⟩ (.slice (some ⟨g, 0, none⟩) l.length cap)).heap[w.heap.size + 1 + 1]? = some (.cells #[.slice (some ⟨g, 0, none⟩) l.length cap] 28) := heap_setCell_same _ _ _ _ _ _ q3
           have hl := hll.out
           rw [hE0, if_pos rfl] at hl
           rw [hE0, hl]
           refine bodyPost_ret (v := .tuple #[.agg #[.slice (some ⟨g, 0, none⟩) l.length cap], .int .i64 0]) (res_cell_tmp Try.results19 _ _ (w.heap.size + 1 + 1) 28 #[.slice (some ⟨g, 0, none⟩) l.length cap] (0, 0) _ _ rfl rfl hx Try.underlying28 rfl sizeRH) rfl ⟨rfl, hd3.setCell (fun e => ?_) (by omega) _⟩
           have h1 := hd.stays.own _ e
           rcases h1 with h1 | h1
           · have := HLT.out _ h1; omega
           · simp only [World.size_alloc] at h1; omega)
        | (have hE0 : E = 23 := by
             rw [hEE.out, if_neg]
             intro hh
             simp_all
           have hl := hll.out
           rw [hE0, if_neg (by decide)] at hl
           rw [hE0, hl]
           have hx0 : (w2.setCell ⟨w.heap.size + 1 + 1, 0, none⟩ (.slice (some ⟨g, 0, none⟩) l.length cap)).heap[w.heap.size + 1 + 1]? = some (.cells #[.slice (some ⟨g, 0, none⟩) l.length cap] 28) := heap_setCell_same _ _ _ _ _ _ q2
           have hx := fun O => row_up hx0 O
           have hd3 := (HR.out _ hbb).setCell (j := w.heap.size + 1 + 1) (k := 0) (fun e => by have := HLT.out _ e; omega) (by omega) (Value.slice (some ⟨g, 0, none⟩) l.length cap)
           exact bodyPost_ret (v := .tuple #[.agg #[.slice (some ⟨g, 0, none⟩) l.length cap], .int .i64 23]) (res_cell_tmp Try.results19 _ _ (w.heap.size + 1 + 1) 28 #[.slice (some ⟨g, 0, none⟩) l.length cap] (0, 0) _ _ rfl rfl (hx _) Try.underlying28 rfl sizeRH) rfl ⟨rfl, hd3.trans (RDid.refl hd3.at_ ((Below.refl _ _).alloc (Nat.le_refl _) _))⟩)
end Go.Proofs.Ytjianllngobhhaa
