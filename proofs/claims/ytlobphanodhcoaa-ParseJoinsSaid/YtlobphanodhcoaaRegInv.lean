/- A region that draws its order, by what holds of the operations that are done, whatever their order. Conditions: each theorem's. -/
import Derived.Orders
import Derived.WalkKit
import Derived.ProofKit
namespace Go.Proofs.Ytlobphanodhcoaa
open Go.RowKit
set_option linter.unusedVariables false
set_option linter.unusedSimpArgs false
def unl (l : Array Bool) : Nat := l.toList.countP (fun b => !b)
theorem unl_set {l : Array Bool} {i : Nat} (hi : i < l.size) (h : l.getD i true = false) : unl (l.setIfInBounds i true) + 1 = unl l := by
  obtain ⟨xs⟩ := l
  simp only [List.size_toArray] at hi
  have h' : xs[i] = false := by simpa [Array.getD, hi] using h
  unfold unl
  simp only [List.setIfInBounds_toArray]
  clear h
  induction xs generalizing i with
  | nil => simp at hi
  | cons x xs ih =>
    cases i with
    | zero =>
      have : x = false := by simpa using h'
      subst this
      simp
    | succ i =>
      have := ih (i := i) (by simpa using hi) (by simpa using h')
      simp only [List.set_cons_succ, List.countP_cons]
      omega
theorem unl_zero {l : Array Bool} (h : unl l = 0) (i : Nat) (hi : i < l.size) : l.getD i true = true := by
  obtain ⟨xs⟩ := l
  simp only [List.size_toArray] at hi
  unfold unl at h
  rw [List.countP_eq_zero] at h
  have := h xs[i] (by simp)
  simp [Array.getD, hi]
  simpa using this
theorem getD_ff {l : Array Bool} {i : Nat} (hi : i < l.size) (h : l.getD i true = true) : l.getD i false = true := by
  simpa [Array.getD, hi] using h
theorem ready_nil {md : Region.Mode} {ops : Array Oper} {l : Array Bool} (hs : l.size = ops.size) (hlt : ∀ (i : Nat) (o : Oper), ops[i]? = some o → ∀ e ∈ o.after, e.on < i) (h : Region.ready md ops l = []) : ∀ i, i < ops.size → l.getD i true = true := by
  intro i
  induction i using Nat.strongRecOn with
  | ind i ih =>
    intro hi
    cases hl : l.getD i true with
    | true => rfl
    | false =>
      exfalso
      have hm : i ∈ Region.ready md ops l := by
        unfold Region.ready
        rw [List.mem_filter]
        refine ⟨List.mem_range.2 hi, ?_⟩
        have ho : ops[i]? = some ops[i] := by simp [hi]
        rw [hl, ho]
        simp only [Bool.not_false, Bool.true_and, Option.map_some, Option.getD_some]
        rw [Array.all_eq_true_iff_forall_mem]
        intro e he
        have h1 := hlt i _ ho e he
        rw [getD_ff (by omega) (ih e.on h1 (by omega))]
        simp
      rw [h] at hm
      cases hm
theorem wpAny_inv {P : Program} {md : Region.Mode} {ops : Array Oper} {Q : Exit → Act → World → Prop} (I : Nat → Array Bool → Act → World → Prop) (hlt : ∀ (i : Nat) (o : Oper), ops[i]? = some o → ∀ e ∈ o.after, e.on < i)
    (hstep : ∀ (f : Nat) (l : Array Bool) (a : Act) (w : World) (i : Nat) (o : Oper), l.size = ops.size → I (f + 1) l a w → ops[i]? = some o → l.getD i true = false → (∀ e ∈ o.after, Region.binds md e = true → l.getD e.on false = true) → wpOp P ops Q i (I f (l.setIfInBounds i true)) a w)
    (hend : ∀ (f : Nat) (l : Array Bool) (a : Act) (w : World), l.size = ops.size → I f l a w → (∀ i, i < ops.size → l.getD i true = true) → Q .normal a w) :
    ∀ f l a w, l.size = ops.size → unl l ≤ f → I f l a w → wpAny P md ops Q f l a w := by
  intro f
  induction f with
  | zero =>
    intro l a w hs hu hI
    have hall : ∀ i, i < ops.size → l.getD i true = true := fun i hi => unl_zero (l := l) (by omega) i (by rw [hs]; exact hi)
    refine ⟨?_, hend 0 l a w hs hI hall⟩
    unfold Region.ready
    rw [List.filter_eq_nil_iff]
    intro i hi
    rw [hall i (List.mem_range.1 hi)]
    simp
  | succ f ih =>
    intro l a w hs hu hI
    refine ⟨fun h => hend _ l a w hs hI (ready_nil hs hlt h), fun i hi => ?_⟩
    unfold Region.ready at hi
    rw [List.mem_filter] at hi
    obtain ⟨hi1, hi2⟩ := hi
    have hi1 := List.mem_range.1 hi1
    have ho : ops[i]? = some ops[i] := by simp [hi1]
    rw [ho] at hi2
    simp only [Option.map_some, Option.getD_some, Bool.and_eq_true, Bool.not_eq_true'] at hi2
    obtain ⟨h1, h2⟩ := hi2
    rw [Array.all_eq_true_iff_forall_mem] at h2
    have hst := hstep f l a w i _ hs hI ho h1 (fun e he hb => by have := h2 e he; rw [hb] at this; simpa using this)
    have hc := unl_set (l := l) (i := i) (by omega) h1
    exact wpOp_mono (fun a w hI' => ih _ a w (by simpa using hs) (by omega) hI') hst
theorem wp_region_inv {P : Program} {id : Nat} {ops : Array Oper} {Q : Exit → Act → World → Prop} {a : Act} {w : World} (hm : P.follows .mixedOrders = true) (I : Nat → Array Bool → Act → World → Prop) (hlt : ∀ (i : Nat) (o : Oper), ops[i]? = some o → ∀ e ∈ o.after, e.on < i)
    (h0 : I ops.size (Array.replicate ops.size false) a w.drew)
    (hstep : ∀ (f : Nat) (l : Array Bool) (a : Act) (w : World) (i : Nat) (o : Oper), l.size = ops.size → I (f + 1) l a w → ops[i]? = some o → l.getD i true = false → (∀ e ∈ o.after, Region.binds .any e = true → l.getD e.on false = true) → wpOp P ops Q i (I f (l.setIfInBounds i true)) a w)
    (hend : ∀ (f : Nat) (l : Array Bool) (a : Act) (w : World), l.size = ops.size → I f l a w → (∀ i, i < ops.size → l.getD i true = true) → Q .normal a w) :
    (Code.region id ops true).wp P Q a w :=
  wp_region_any hm (wpAny_inv I hlt hstep hend _ _ a _ (by simp) (by unfold unl; exact Nat.le_trans List.countP_le_length (by simp)) h0)
theorem wpOp_plain {P : Program} {ops : Array Oper} {Q : Exit → Act → World → Prop} {i : Nat} {o : Oper} {K : Act → World → Prop} {a : Act} {w : World} (hi : ops[i]? = some o) (hg : o.guard = none) (h : o.wp P a w K Q) : wpOp P ops Q i K a w := by
  unfold wpOp
  rw [hi]
  simp only [Region.wanted, hg, if_true]
  exact .inl h
theorem wpOp_value {P : Program} {ops : Array Oper} {Q : Exit → Act → World → Prop} {i : Nat} {o : Oper} {v : Value} {K : Act → World → Prop} {a : Act} {w w' : World} (hi : ops[i]? = some o) (hg : o.guard = none) (hr : (execOp a.eval o).run P w = .ok (.value v) w') (h : K (a.put o.dst v) w') : wpOp P ops Q i K a w := by
  refine wpOp_plain hi hg ?_
  unfold Oper.wp
  rw [hr]
  exact h
theorem wpOp_skip {P : Program} {ops : Array Oper} {Q : Exit → Act → World → Prop} {i : Nat} {o : Oper} {K : Act → World → Prop} {a : Act} {w w' : World} (hi : ops[i]? = some o) (hg : o.guard = none) (hr : (execOp a.eval o).run P w = .ok .skip w') (h : K (a.put o.dst undef) w') : wpOp P ops Q i K a w := by
  refine wpOp_plain hi hg ?_
  unfold Oper.wp
  rw [hr]
  exact h
end Go.Proofs.Ytlobphanodhcoaa
