/- The signs of package lex: the map is made. No condition. -/
import Derived.Orders
import Derived.WalkKit
import Derived.ProofKit
import Derived.Test.YtfjobnljdkiihaaGreatDoorQtLexC
import Derived.Maps.OwnSet
import Derived.Maps.OwnOps
import Derived.Maps.Own
import Derived.DeepKeys5
namespace Go.Proofs.YtfjobnljdkiihaaGreatDoor
open Go.RowKit
set_option linter.unusedVariables false
set_option linter.unusedSimpArgs false
def unl (l : Array Bool) : Nat := l.toList.countP (fun b => !b)
theorem unl_set {l : Array Bool} {i : Nat} (hi : i < l.size) (h : l.getD i true = false) : unl (l.setIfInBounds i true) + 1 = unl l := by
 obtain ⟨xs⟩ := l
 simp only [List.size_toArray] at hi
 have h' : xs[i] = false := by simpa [Array.getD, hi] using h
 unfold unl
 simp only [List.setIfInBounds_toArray]
 clear h
 induction xs generalizing i with
 | nil => simp at hi
 | cons x xs ih =>
  cases i with
  | zero =>
   have : x = false := by simpa using h'
   subst this
   simp
  | succ i =>
   have := ih (i := i) (by simpa using hi) (by simpa using h')
   simp only [List.set_cons_succ, List.countP_cons]
   omega
theorem unl_zero {l : Array Bool} (h : unl l = 0) (i : Nat) (hi : i < l.size) : l.getD i true = true := by
 obtain ⟨xs⟩ := l
 simp only [List.size_toArray] at hi
 unfold unl at h
 rw [List.countP_eq_zero] at h
 have := h xs[i] (by simp)
 simp [Array.getD, hi]
 simpa using this
theorem getD_ff {l : Array Bool} {i : Nat} (hi : i < l.size) (h : l.getD i true = true) : l.getD i false = true := by
 simpa [Array.getD, hi] using h
theorem ready_nil {md : Region.Mode} {ops : Array Oper} {l : Array Bool} (hs : l.size = ops.size) (hlt : ∀ (i : Nat) (o : Oper), ops[i]? = some o → ∀ e ∈ o.after, e.on < i) (h : Region.ready md ops l = []) : ∀ i, i < ops.size → l.getD i true = true := by
 intro i
 induction i using Nat.strongRecOn with
 | ind i ih =>
  intro hi
  cases hl : l.getD i true with
  | true => rfl
  | false =>
   exfalso
   have hm : i ∈ Region.ready md ops l := by
    unfold Region.ready
    rw [List.mem_filter]
    refine ⟨List.mem_range.2 hi, ?_⟩
    have ho : ops[i]? = some ops[i] := by simp [hi]
    rw [hl, ho]
    simp only [Bool.not_false, Bool.true_and, Option.map_some, Option.getD_some]
    rw [Array.all_eq_true_iff_forall_mem]
    intro e he
    have h1 := hlt i _ ho e he
    rw [getD_ff (by omega) (ih e.on h1 (by omega))]
    simp
   rw [h] at hm
   cases hm
theorem wpAny_inv {P : Program} {md : Region.Mode} {ops : Array Oper} {Q : Exit → Act → World → Prop} (I : Nat → Array Bool → Act → World → Prop) (hlt : ∀ (i : Nat) (o : Oper), ops[i]? = some o → ∀ e ∈ o.after, e.on < i)
  (hstep : ∀ (f : Nat) (l : Array Bool) (a : Act) (w : World) (i : Nat) (o : Oper), l.size = ops.size → I (f + 1) l a w → ops[i]? = some o → l.getD i true = false → (∀ e ∈ o.after, Region.binds md e = true → l.getD e.on false = true) → wpOp P ops Q i (I f (l.setIfInBounds i true)) a w)
  (hend : ∀ (f : Nat) (l : Array Bool) (a : Act) (w : World), l.size = ops.size → I f l a w → (∀ i, i < ops.size → l.getD i true = true) → Q .normal a w) :
  ∀ f l a w, l.size = ops.size → unl l ≤ f → I f l a w → wpAny P md ops Q f l a w := by
 intro f
 induction f with
 | zero =>
  intro l a w hs hu hI
  have hall : ∀ i, i < ops.size → l.getD i true = true := fun i hi => unl_zero (l := l) (by omega) i (by rw [hs]; exact hi)
  refine ⟨?_, hend 0 l a w hs hI hall⟩
  unfold Region.ready
  rw [List.filter_eq_nil_iff]
  intro i hi
  rw [hall i (List.mem_range.1 hi)]
  simp
 | succ f ih =>
  intro l a w hs hu hI
  refine ⟨fun h => hend _ l a w hs hI (ready_nil hs hlt h), fun i hi => ?_⟩
  unfold Region.ready at hi
  rw [List.mem_filter] at hi
  obtain ⟨hi1, hi2⟩ := hi
  have hi1 := List.mem_range.1 hi1
  have ho : ops[i]? = some ops[i] := by simp [hi1]
  rw [ho] at hi2
  simp only [Option.map_some, Option.getD_some, Bool.and_eq_true, Bool.not_eq_true'] at hi2
  obtain ⟨h1, h2⟩ := hi2
  rw [Array.all_eq_true_iff_forall_mem] at h2
  have hst := hstep f l a w i _ hs hI ho h1 (fun e he hb => by have := h2 e he; rw [hb] at this; simpa using this)
  have hc := unl_set (l := l) (i := i) (by omega) h1
  exact wpOp_mono (fun a w hI' => ih _ a w (by simpa using hs) (by omega) hI') hst
theorem wp_region_inv {P : Program} {id : Nat} {ops : Array Oper} {Q : Exit → Act → World → Prop} {a : Act} {w : World} (hm : P.follows .mixedOrders = true) (I : Nat → Array Bool → Act → World → Prop) (hlt : ∀ (i : Nat) (o : Oper), ops[i]? = some o → ∀ e ∈ o.after, e.on < i)
  (h0 : I ops.size (Array.replicate ops.size false) a w.drew)
  (hstep : ∀ (f : Nat) (l : Array Bool) (a : Act) (w : World) (i : Nat) (o : Oper), l.size = ops.size → I (f + 1) l a w → ops[i]? = some o → l.getD i true = false → (∀ e ∈ o.after, Region.binds .any e = true → l.getD e.on false = true) → wpOp P ops Q i (I f (l.setIfInBounds i true)) a w)
  (hend : ∀ (f : Nat) (l : Array Bool) (a : Act) (w : World), l.size = ops.size → I f l a w → (∀ i, i < ops.size → l.getD i true = true) → Q .normal a w) :
  (Code.region id ops true).wp P Q a w :=
 wp_region_any hm (wpAny_inv I hlt hstep hend _ _ a _ (by simp) (by unfold unl; exact Nat.le_trans List.countP_le_length (by simp)) h0)
theorem wpOp_plain {P : Program} {ops : Array Oper} {Q : Exit → Act → World → Prop} {i : Nat} {o : Oper} {K : Act → World → Prop} {a : Act} {w : World} (hi : ops[i]? = some o) (hg : o.guard = none) (h : o.wp P a w K Q) : wpOp P ops Q i K a w := by
 unfold wpOp
 rw [hi]
 simp only [Region.wanted, hg, if_true]
 exact .inl h
theorem wpOp_value {P : Program} {ops : Array Oper} {Q : Exit → Act → World → Prop} {i : Nat} {o : Oper} {v : Value} {K : Act → World → Prop} {a : Act} {w w' : World} (hi : ops[i]? = some o) (hg : o.guard = none) (hr : (execOp a.eval o).run P w = .ok (.value v) w') (h : K (a.put o.dst v) w') : wpOp P ops Q i K a w := by
 refine wpOp_plain hi hg ?_
 unfold Oper.wp
 rw [hr]
 exact h
theorem wpOp_skip {P : Program} {ops : Array Oper} {Q : Exit → Act → World → Prop} {i : Nat} {o : Oper} {K : Act → World → Prop} {a : Act} {w w' : World} (hi : ops[i]? = some o) (hg : o.guard = none) (hr : (execOp a.eval o).run P w = .ok .skip w') (h : K (a.put o.dst undef) w') : wpOp P ops Q i K a w := by
 refine wpOp_plain hi hg ?_
 unfold Oper.wp
 rw [hr]
 exact h
open Go.RowKit Go.Maps
set_option maxRecDepth 100000
open Lx
theorem laidOut : laidOutB Tryz.prog = true := by kernel_rfl
theorem lawPair : Keyed Tryz.prog 101 := Keyed.of_law (deep_law_laid laidOut (m := 4) (by omega) (by decide +kernel) (by kernel_rfl) (by kernel_rfl))
theorem keyT2 : Tryz.prog.keyType 101 = true := by kernel_rfl
theorem cellsB : Tryz.prog.cellsOf 5 = 1 := by kernel_rfl
theorem cellsP : Tryz.prog.cellsOf 101 = 2 := by kernel_rfl
theorem sizeTys : ∃ m, Tryz.prog.types.size + 1 = m + 2 := ⟨Tryz.prog.types.size - 1, by decide +kernel⟩
def pairV (x y : Int) : Value := .agg #[.int .u8 x, .int .u8 y]
def keyP (x y : Int) : Lit := .string (keyBytes [.int .u8 x, .int .u8 y])
theorem wfB {n : Int} (h0 : 0 ≤ n) (h1 : n ≤ 255) : (Lit.int .u8 n).wf = true := by
 show (decide (IntKind.u8.min ≤ n) && decide (n ≤ IntKind.u8.max)) = true
 rw [show IntKind.u8.min = 0 from by decide, show IntKind.u8.max = 255 from by decide]
 simp
 omega
theorem litsB {m : Nat} {n : Int} (h : (Lit.int .u8 n).wf = true) : Tryz.prog.keyLits (m + 1) 5 [.int .u8 n] = some [.int .u8 n] := by
 unfold Program.keyLits
 simp [Tryz.underlying5, h]
theorem formedP (x y : Int) : Value.formed Tryz.prog 101 (pairV x y) = true := by
 simp [Value.formed, pairV, Tryz.underlying101, cellsP, cellsB]
theorem key_pair {x y : Int} (x0 : 0 ≤ x) (x1 : x ≤ 255) (y0 : 0 ≤ y) (y1 : y ≤ 255) : keyOf Tryz.prog 101 (pairV x y) = some (keyP x y) := by
 obtain ⟨m, hm⟩ := sizeTys
 have hl : Tryz.prog.keyLits (Tryz.prog.types.size + 1) 101 [.int .u8 x, .int .u8 y] = some [.int .u8 x, .int .u8 y] := by
  rw [hm]
  unfold Program.keyLits
  simp only [Tryz.underlying101]
  simp [cellsB, cellsP, litsB (wfB x0 x1), litsB (wfB y0 y1), List.range, List.range.loop]
 unfold keyOf
 have hf := formedP x y
 simp only [pairV] at hf ⊢
 simp only [Tryz.underlying101, keyT2, hf, Value.cells, hl]
 rfl
theorem keyP_inj {x y x' y' : Int} (x0 : 0 ≤ x) (x1 : x ≤ 255) (y0 : 0 ≤ y) (y1 : y ≤ 255) (x0' : 0 ≤ x') (x1' : x' ≤ 255) (y0' : 0 ≤ y') (y1' : y' ≤ 255) (e : keyP x y = keyP x' y') : x = x' ∧ y = y' := by
 have := lawPair.inj (key_pair x0 x1 y0 y1) (e ▸ key_pair x0' x1' y0' y1')
 simpa [pairV] using this
def sgTab : List (Int × Int × Int) := [(45, 62, 2), (60, 60, 2), (62, 62, 2), (60, 61, 2), (62, 61, 2), (61, 61, 2), (33, 61, 2), (38, 38, 2), (124, 124, 2), (43, 0, 1), (45, 0, 1), (42, 0, 1), (47, 0, 1), (37, 0, 1), (38, 0, 1), (94, 0, 1), (126, 0, 1), (33, 0, 1), (60, 0, 1), (62, 0, 1), (61, 0, 1), (40, 0, 1), (41, 0, 1), (123, 0, 1), (125, 0, 1), (91, 0, 1), (93, 0, 1), (59, 0, 1), (44, 0, 1), (46, 0, 1), (124, 0, 1)]
def sgA (k : Nat) : Int := (sgTab.getD k (0, 0, 0)).1
def sgB (k : Nat) : Int := (sgTab.getD k (0, 0, 0)).2.1
def sgN (k : Nat) : Int := (sgTab.getD k (0, 0, 0)).2.2
def sgV (x y : Int) : Int := ((sgTab.find? fun e => decide (e.1 = x) && decide (e.2.1 = y)).map (·.2.2)).getD 0
theorem sg_range : ∀ k, k < 31 → 0 ≤ sgA k ∧ sgA k ≤ 255 ∧ 0 ≤ sgB k ∧ sgB k ≤ 255 ∧ (sgN k = 1 ∨ sgN k = 2) ∧ sgV (sgA k) (sgB k) = sgN k := by decide
theorem sg_apart : ∀ j, j < 31 → ∀ k, k < 31 → j ≠ k → ¬ (sgA j = sgA k ∧ sgB j = sgB k) := by decide
theorem sg_none {x y : Int} (h : ∀ k, k < 31 → ¬ (sgA k = x ∧ sgB k = y)) : sgV x y = 0 := by
 unfold sgV
 rw [List.find?_eq_none.2]
 ·rfl
 ·intro e he
  obtain ⟨k, hk, rfl⟩ := List.mem_iff_getElem.1 he
  have hk' : k < 31 := hk
  have := h k hk'
  unfold sgA sgB at this
  have e : sgTab.getD k (0, 0, 0) = sgTab[k]'hk := by rw [List.getD_eq_getElem?_getD, List.getElem?_eq_getElem hk]; rfl
  rw [e] at this
  generalize sgTab[k]'hk = z at *
  simpa using this
abbrev zI : DataW Unit := .lit (.int .i64 0)
def SgAt (w : World) (b : Nat) : Prop := ∃ (D : DataW Unit) (n : Nat), w.ownsMap Tryz.prog 101 (plainElem Tryz.prog 3) b n D ∧ ∀ x y : Int, 0 ≤ x → x ≤ 255 → 0 ≤ y → y ≤ 255 → D.atKey (keyP x y) zI = .lit (.int .i64 (sgV x y))
theorem SgAt.lt {w : World} {b : Nat} (h : SgAt w b) : b < w.heap.size := by
 obtain ⟨D, n, ⟨es, clock, hb, _⟩, _⟩ := h
 exact (Array.getElem?_eq_some_iff.1 hb).1
theorem SgAt.keep {w w' : World} {b B : Nat} (h : SgAt w b) (hb : Below B w w') (hlt : b < B) : SgAt w' b := by
 obtain ⟨D, n, ⟨es, clock, hh, r⟩, h2⟩ := h
 exact ⟨D, n, ⟨es, clock, (hb.block b hlt).trans hh, r⟩, h2⟩
theorem run_makeMap2 (w : World) : (Instr.makeMap 81 none).run Tryz.prog w = .ok (.map (some w.heap.size)) (w.alloc (.map #[] 0)) := by
 simp [Instr.makeMap, Tryz.underlying81]
theorem put_run {w : World} {b n : Nat} {D : DataW Unit} {x y : Int} (v : Int) (x0 : 0 ≤ x) (x1 : x ≤ 255) (y0 : 0 ≤ y) (y1 : y ≤ 255) (hv : v = 1 ∨ v = 2) (h : w.ownsMap Tryz.prog 101 (plainElem Tryz.prog 3) b n D) (hn : n < 100) :
  ∃ w', (Instr.mapUpdate 81 (.map (some b)) (pairV x y) (.int .i64 v)).run Tryz.prog w = .ok () w' ∧ w'.ownsMap Tryz.prog 101 (plainElem Tryz.prog 3) b (n + 1) (D.put (keyP x y) (.lit (.int .i64 v))) ∧ w.grownBy w' (some b) :=
 h.update lawPair Tryz.underlying81 (by unfold maxLen; omega) (key_pair x0 x1 y0 y1) (plainElem_int Tryz.underlying3 (by rcases hv with rfl | rfl <;> decide))
noncomputable def sgOps : Array Oper := match Tryz.f21.body with
 | some (.seq _ (.seq (.region _ ops _) _)) => ops
 | _ => #[]
theorem sgOps_size : sgOps.size = 65 := by kernel_rfl
theorem sgOp_make : ∃ o, sgOps[0]? = some o ∧ o.guard = none ∧ o.dst = some 1 ∧ o.op = .makeMap 81 none := ⟨_, rfl, rfl, rfl, rfl⟩
theorem sgOp_build : ∀ k, k < 31 → ∃ o, sgOps[1 + 2 * k]? = some o ∧ o.guard = none ∧ o.dst = some (2 + k) ∧ ∀ (a : Act) (w : World), (execOp a.eval o).run Tryz.prog w = .ok (.value (pairV (sgA k) (sgB k))) w := by
 intro k hk
 have : k = 0 ∨ k = 1 ∨ k = 2 ∨ k = 3 ∨ k = 4 ∨ k = 5 ∨ k = 6 ∨ k = 7 ∨ k = 8 ∨ k = 9 ∨ k = 10 ∨ k = 11 ∨ k = 12 ∨ k = 13 ∨ k = 14 ∨ k = 15 ∨ k = 16 ∨ k = 17 ∨ k = 18 ∨ k = 19 ∨ k = 20 ∨ k = 21 ∨ k = 22 ∨ k = 23 ∨ k = 24 ∨ k = 25 ∨ k = 26 ∨ k = 27 ∨ k = 28 ∨ k = 29 ∨ k = 30 := by omega
 rcases this with rfl | rfl | rfl | rfl | rfl | rfl | rfl | rfl | rfl | rfl | rfl | rfl | rfl | rfl | rfl | rfl | rfl | rfl | rfl | rfl | rfl | rfl | rfl | rfl | rfl | rfl | rfl | rfl | rfl | rfl | rfl
 all_goals exact ⟨_, rfl, rfl, rfl, fun _ _ => by kernel_rfl⟩
theorem sgOp_put : ∀ k, k < 31 → ∃ o, sgOps[2 + 2 * k]? = some o ∧ o.guard = none ∧ o.dst = none ∧ o.op = .insert 81 (.tmp 1) (.tmp (2 + k)) (.const (.int .i64 (sgN k))) ∧ (∃ e ∈ o.after, e.on = 0 ∧ Region.binds .any e = true) ∧ (∃ e ∈ o.after, e.on = 1 + 2 * k ∧ Region.binds .any e = true) := by
 intro k hk
 have : k = 0 ∨ k = 1 ∨ k = 2 ∨ k = 3 ∨ k = 4 ∨ k = 5 ∨ k = 6 ∨ k = 7 ∨ k = 8 ∨ k = 9 ∨ k = 10 ∨ k = 11 ∨ k = 12 ∨ k = 13 ∨ k = 14 ∨ k = 15 ∨ k = 16 ∨ k = 17 ∨ k = 18 ∨ k = 19 ∨ k = 20 ∨ k = 21 ∨ k = 22 ∨ k = 23 ∨ k = 24 ∨ k = 25 ∨ k = 26 ∨ k = 27 ∨ k = 28 ∨ k = 29 ∨ k = 30 := by omega
 rcases this with rfl | rfl | rfl | rfl | rfl | rfl | rfl | rfl | rfl | rfl | rfl | rfl | rfl | rfl | rfl | rfl | rfl | rfl | rfl | rfl | rfl | rfl | rfl | rfl | rfl | rfl | rfl | rfl | rfl | rfl | rfl
 all_goals exact ⟨_, rfl, rfl, rfl, rfl, ⟨⟨0, .data⟩, Array.mem_of_getElem? (i := 0) (by kernel_rfl), rfl, rfl⟩, ⟨⟨_, .data⟩, Array.mem_of_getElem? (i := 1) (by kernel_rfl), rfl, rfl⟩⟩
theorem sgOps_lt : ∀ (i : Nat) (o : Oper), sgOps[i]? = some o → ∀ e ∈ o.after, e.on < i := by
 have h : (List.range 65).all (fun i => ((sgOps[i]?).map fun o => o.after.toList.all fun e => decide (e.on < i)).getD true) = true := by kernel_rfl
 intro i o ho e he
 have hi : i < 65 := by have := (Array.getElem?_eq_some_iff.1 ho).1; rw [sgOps_size] at this; exact this
 rw [List.all_eq_true] at h
 have := h i (List.mem_range.2 hi)
 rw [ho] at this
 simp only [Option.map_some, Option.getD_some, List.all_eq_true] at this
 simpa using this e (by simpa using he)
theorem sgOp_63 : ∃ o, sgOps[63]? = some o ∧ o.guard = none ∧ o.dst = some 33 ∧ o.op = .move (.tmp 1) ∧ (∃ e ∈ o.after, e.on = 0 ∧ Region.binds .any e = true) := ⟨_, rfl, rfl, rfl, rfl, ⟨⟨0, .data⟩, Array.mem_of_getElem? (i := 0) (by kernel_rfl), rfl, rfl⟩⟩
theorem sgOp_64 : ∃ o, sgOps[64]? = some o ∧ o.guard = none ∧ o.dst = some 0 ∧ o.op = .assign (.tmp 33) ∧ (∃ e ∈ o.after, e.on = 63 ∧ Region.binds .any e = true) := ⟨_, rfl, rfl, rfl, rfl, ⟨⟨63, .data⟩, Array.mem_of_getElem? (i := 0) (by kernel_rfl), rfl, rfl⟩⟩
def SgInv (w0 : World) (f : Nat) (l : Array Bool) (a : Act) (w : World) : Prop :=
 f ≤ 65 ∧ a.defers = [] ∧ a.tmps.size = 34 ∧ (∀ k, k < 31 → l.getD (1 + 2 * k) false = true → a.tmps.getD (2 + k) undef = pairV (sgA k) (sgB k)) ∧
 (l.getD 0 true = false → w = w0.drew ∧ ∀ k, k < 31 → l.getD (2 + 2 * k) false = false) ∧
 (l.getD 0 false = true → a.tmps.getD 1 undef = .map (some w0.heap.size) ∧ ∃ (D : DataW Unit) (n : Nat), w.ownsMap Tryz.prog 101 (plainElem Tryz.prog 3) w0.heap.size n D ∧ n + f ≤ 65 ∧ Below w0.heap.size w0 w ∧ IsMap D ∧
  (∀ k, k < 31 → l.getD (2 + 2 * k) false = true → D.atKey (keyP (sgA k) (sgB k)) zI = .lit (.int .i64 (sgN k))) ∧ (∀ x y : Int, (∀ k, k < 31 → l.getD (2 + 2 * k) false = true → keyP x y ≠ keyP (sgA k) (sgB k)) → D.atKey (keyP x y) zI = zI)) ∧
 (l.getD 63 false = true → a.tmps.getD 33 undef = .map (some w0.heap.size)) ∧ (l.getD 64 false = true → a.tmps.getD 0 undef = .map (some w0.heap.size))
theorem gset {l : Array Bool} {i j : Nat} {d : Bool} (hi : i < l.size) : (l.setIfInBounds i true).getD j d = if j = i then true else l.getD j d := by
 simp only [Array.getD_eq_getD_getElem?, Array.getElem?_setIfInBounds]
 by_cases h : i = j
 ·subst h; simp [hi]
 ·rw [if_neg h, if_neg (fun e => h e.symm)]
theorem tput {a : Act} {d j : Nat} {v : Value} (hd : d < a.tmps.size) : (a.put (some d) v).tmps.getD j undef = if j = d then v else a.tmps.getD j undef := by
 simp only [Act.put, Array.getD_eq_getD_getElem?, Array.getElem?_setIfInBounds]
 by_cases h : d = j
 ·subst h; simp [hd]
 ·rw [if_neg h, if_neg (fun e => h e.symm)]
theorem i64of (i : Nat) (h : i < 65) : i = 0 ∨ (∃ k, k < 31 ∧ i = 1 + 2 * k) ∨ (∃ k, k < 31 ∧ i = 2 + 2 * k) ∨ i = 63 ∨ i = 64 := by
 by_cases h1 : i = 0
 ·exact .inl h1
 by_cases h2 : i = 63
 ·exact .inr (.inr (.inr (.inl h2)))
 by_cases h3 : i = 64
 ·exact .inr (.inr (.inr (.inr h3)))
 by_cases h4 : i % 2 = 1
 ·exact .inr (.inl ⟨i / 2, by omega, by omega⟩)
 ·exact .inr (.inr (.inl ⟨i / 2 - 1, by omega, by omega⟩))
theorem sg_step (w0 : World) (Q : Exit → Act → World → Prop) (f : Nat) (l : Array Bool) (a : Act) (w : World) (i : Nat) (o : Oper) (hs : l.size = sgOps.size) (hI : SgInv w0 (f + 1) l a w) (ho : sgOps[i]? = some o) (hl : l.getD i true = false)
  (hb : ∀ e ∈ o.after, Region.binds .any e = true → l.getD e.on false = true) : wpOp Tryz.prog sgOps Q i (SgInv w0 f (l.setIfInBounds i true)) a w := by
 have hi : i < 65 := by have := (Array.getElem?_eq_some_iff.1 ho).1; rw [sgOps_size] at this; exact this
 rw [sgOps_size] at hs
 have hil : i < l.size := by omega
 obtain ⟨hf, h1, h2, h3, h4, h5, h6, h7⟩ := hI
 rcases i64of i hi with rfl | ⟨k, hk, rfl⟩ | ⟨k, hk, rfl⟩ | rfl | rfl
 ·obtain ⟨o', ho', hg, hd, hop⟩ := sgOp_make
  obtain ⟨rfl, hno⟩ := h4 hl
  refine wpOp_value (v := .map (some w0.heap.size)) (w' := w0.drew.alloc (.map #[] 0)) ho' hg ?_ ?_
  ·rw [show execOp a.eval o' = execOp a.eval { o' with op := o'.op } from rfl]
   simp [execOp, hop, run_makeMap2, Result.andThen]
  ·have hm := World.ownsMap_made (H := Unit) w0.drew Tryz.prog 101 (plainElem Tryz.prog 3)
   rw [hd]
   refine ⟨by omega, h1, by simpa [Act.put] using h2, fun k hk hlk => ?_, fun h => ?_, fun _ => ?_, fun h => ?_, fun h => ?_⟩
   ·rw [gset hil, if_neg (by omega)] at hlk
    rw [tput (by omega), if_neg (by omega)]
    exact h3 k hk hlk
   ·rw [gset hil, if_pos rfl] at h; cases h
   ·rw [tput (by omega), if_pos rfl]
    refine ⟨rfl, .map [], 0, hm, by omega, ((Below.refl _ _).drew).alloc (Nat.le_refl _) _, isMap_empty, fun k hk hlk => ?_, fun x y _ => rfl⟩
    rw [gset hil, if_neg (by omega), hno k hk] at hlk
    cases hlk
   ·rw [gset hil, if_neg (by omega)] at h
    rw [tput (by omega), if_neg (by omega)]
    exact h6 h
   ·rw [gset hil, if_neg (by omega)] at h
    rw [tput (by omega), if_neg (by omega)]
    exact h7 h
 ·obtain ⟨o', ho', hg, hd, hr⟩ := sgOp_build k hk
  refine wpOp_value ho' hg (hr a w) ?_
  rw [hd]
  refine ⟨by omega, h1, by simpa [Act.put] using h2, fun j hj hlj => ?_, fun h => ?_, fun h => ?_, fun h => ?_, fun h => ?_⟩
  ·rw [gset hil] at hlj
   rw [tput (by omega)]
   by_cases e : j = k
   ·subst e; rw [if_pos rfl]
   ·rw [if_neg (by omega)] at hlj
    rw [if_neg (by omega)]
    exact h3 j hj hlj
  ·rw [gset hil, if_neg (by omega)] at h
   obtain ⟨e1, e2⟩ := h4 h
   exact ⟨e1, fun j hj => by rw [gset hil, if_neg (by omega)]; exact e2 j hj⟩
  ·rw [gset hil, if_neg (by omega)] at h
   obtain ⟨e1, D, n, e2, e3, e4, e5, e6, e7⟩ := h5 h
   rw [tput (by omega), if_neg (by omega)]
   refine ⟨e1, D, n, e2, by omega, e4, e5, fun j hj hlj => ?_, fun x y hxy => ?_⟩
   ·rw [gset hil, if_neg (by omega)] at hlj
    exact e6 j hj hlj
   ·exact e7 x y fun j hj hlj => hxy j hj (by rw [gset hil, if_neg (by omega)]; exact hlj)
  ·rw [gset hil, if_neg (by omega)] at h
   rw [tput (by omega), if_neg (by omega)]
   exact h6 h
  ·rw [gset hil, if_neg (by omega)] at h
   rw [tput (by omega), if_neg (by omega)]
   exact h7 h
 ·obtain ⟨o', ho', hg, hd, hop, ⟨x1, x2, x3, x4⟩, ⟨y1, y2, y3, y4⟩⟩ := sgOp_put k hk
  rw [ho] at ho'
  injection ho' with ho'
  subst ho'
  have p0 := hb x1 x2 x4
  rw [x3] at p0
  have pk := hb y1 y2 y4
  rw [y3] at pk
  obtain ⟨e1, D, n, e2, e3, e4, e5, e6, e7⟩ := h5 p0
  have ek := h3 k hk pk
  obtain ⟨r1, r2, r3, r4, r5, r6⟩ := sg_range k hk
  obtain ⟨w', hrun, hown, hgr⟩ := put_run (sgN k) r1 r2 r3 r4 r5 e2 (by omega)
  have hl0 : l.getD 0 true = true := by
   rw [Array.getD_eq_getD_getElem?] at p0 ⊢
   cases hx : l[0]? with
   | none => rfl
   | some b => rw [hx] at p0; simpa using p0
  have hbelow : Below w0.heap.size w0 w' := e4.grown hgr e4.size (fun j hj => by cases hj; exact Nat.le_refl _)
  refine wpOp_skip (w' := w') ho hg ?_ ?_
  ·rw [show execOp a.eval o = execOp a.eval { o with op := o.op } from rfl]
   have ev1 : a.eval (.tmp 1) = .map (some w0.heap.size) := e1
   have ev2 : a.eval (.tmp (2 + k)) = pairV (sgA k) (sgB k) := ek
   have ev3 : a.eval (.const (.int .i64 (sgN k))) = .int .i64 (sgN k) := rfl
   simp [execOp, hop, ev1, ev2, ev3, hrun, Result.andThen]
  ·rw [hd]
   refine ⟨by omega, h1, h2, fun j hj hlj => ?_, fun h => ?_, fun _ => ?_, fun h => ?_, fun h => ?_⟩
   ·rw [gset hil, if_neg (by omega)] at hlj
    exact h3 j hj hlj
   ·rw [gset hil, if_neg (by omega), hl0] at h
    cases h
   ·refine ⟨e1, _, n + 1, hown, by omega, hbelow, e5.put _ _, fun j hj hlj => ?_, fun x y hxy => ?_⟩
    ·by_cases e : j = k
     ·subst e
      rw [atKey_put_same e5 (show WideAt.IsKeyLit (keyP (sgA j) (sgB j)) from trivial)]
     ·rw [gset hil, if_neg (by omega)] at hlj
      obtain ⟨q1, q2, q3, q4, q5, q6⟩ := sg_range j hj
      rw [atKey_put_other]
      ·exact e6 j hj hlj
      ·intro he
       have := keyP_inj q1 q2 q3 q4 r1 r2 r3 r4 he
       exact sg_apart j hj k hk e this
    ·rw [atKey_put_other]
     ·exact e7 x y fun j hj hlj => hxy j hj (by rw [gset hil]; split <;> first | rfl | exact hlj)
     ·exact hxy k hk (by rw [gset hil, if_pos rfl])
   ·rw [gset hil, if_neg (by omega)] at h
    exact h6 h
   ·rw [gset hil, if_neg (by omega)] at h
    exact h7 h
 ·obtain ⟨o', ho', hg, hd, hop, ⟨x1, x2, x3, x4⟩⟩ := sgOp_63
  rw [ho] at ho'
  injection ho' with ho'
  subst ho'
  have p0 := hb x1 x2 x4
  rw [x3] at p0
  obtain ⟨e1, D, n, e2, e3, e4, e5, e6, e7⟩ := h5 p0
  refine wpOp_value (v := .map (some w0.heap.size)) (w' := w) ho hg ?_ ?_
  ·rw [show execOp a.eval o = execOp a.eval { o with op := o.op } from rfl]
   have ev1 : a.eval (.tmp 1) = .map (some w0.heap.size) := e1
   simp [execOp, hop, ev1, Result.andThen]
  ·rw [hd]
   refine ⟨by omega, h1, by simpa [Act.put] using h2, fun j hj hlj => ?_, fun h => ?_, fun h => ?_, fun h => ?_, fun h => ?_⟩
   ·rw [gset hil, if_neg (by omega)] at hlj
    rw [tput (by omega), if_neg (by omega)]
    exact h3 j hj hlj
   ·rw [gset hil, if_neg (by omega)] at h
    obtain ⟨e1, e2⟩ := h4 h
    exact ⟨e1, fun j hj => by rw [gset hil, if_neg (by omega)]; exact e2 j hj⟩
   ·rw [tput (by omega), if_neg (by omega)]
    exact ⟨e1, D, n, e2, by omega, e4, e5, fun j hj hlj => e6 j hj (by rwa [gset hil, if_neg (by omega)] at hlj), fun x y hxy => e7 x y fun j hj hlj => hxy j hj (by rw [gset hil, if_neg (by omega)]; exact hlj)⟩
   ·rw [tput (by omega), if_pos rfl]
   ·rw [gset hil, if_neg (by omega)] at h
    rw [tput (by omega), if_neg (by omega)]
    exact h7 h
 ·obtain ⟨o', ho', hg, hd, hop, ⟨x1, x2, x3, x4⟩⟩ := sgOp_64
  rw [ho] at ho'
  injection ho' with ho'
  subst ho'
  have p0 := hb x1 x2 x4
  rw [x3] at p0
  have e1 := h6 p0
  refine wpOp_value (v := .map (some w0.heap.size)) (w' := w) ho hg ?_ ?_
  ·rw [show execOp a.eval o = execOp a.eval { o with op := o.op } from rfl]
   have ev1 : a.eval (.tmp 33) = .map (some w0.heap.size) := e1
   simp [execOp, hop, ev1, Result.andThen]
  ·rw [hd]
   refine ⟨by omega, h1, by simpa [Act.put] using h2, fun j hj hlj => ?_, fun h => ?_, fun h => ?_, fun h => ?_, fun h => ?_⟩
   ·rw [gset hil, if_neg (by omega)] at hlj
    rw [tput (by omega), if_neg (by omega)]
    exact h3 j hj hlj
   ·rw [gset hil, if_neg (by omega)] at h
    obtain ⟨e1, e2⟩ := h4 h
    exact ⟨e1, fun j hj => by rw [gset hil, if_neg (by omega)]; exact e2 j hj⟩
   ·rw [gset hil, if_neg (by omega)] at h
    obtain ⟨e1, D, n, e2, e3, e4, e5, e6, e7⟩ := h5 h
    rw [tput (by omega), if_neg (by omega)]
    exact ⟨e1, D, n, e2, by omega, e4, e5, fun j hj hlj => e6 j hj (by rwa [gset hil, if_neg (by omega)] at hlj), fun x y hxy => e7 x y fun j hj hlj => hxy j hj (by rw [gset hil, if_neg (by omega)]; exact hlj)⟩
   ·rw [gset hil, if_neg (by omega)] at h
    rw [tput (by omega), if_neg (by omega)]
    exact h6 h
   ·rw [tput (by omega), if_pos rfl]
theorem SgInv.done {w0 : World} {f : Nat} {l : Array Bool} {a : Act} {w : World} (hs : l.size = sgOps.size) (hI : SgInv w0 f l a w) (hall : ∀ i, i < sgOps.size → l.getD i true = true) : a.defers = [] ∧ a.tmps.getD 0 undef = .map (some w0.heap.size) ∧ SgAt w w0.heap.size ∧ Below w0.heap.size w0 w := by
 rw [sgOps_size] at hs hall
 have hf : ∀ i, i < 65 → l.getD i false = true := fun i hi => getD_ff (by omega) (hall i hi)
 obtain ⟨hf', h1, h2, h3, h4, h5, h6, h7⟩ := hI
 obtain ⟨e1, D, n, e2, e3, e4, e5, e6, e7⟩ := h5 (hf 0 (by omega))
 refine ⟨h1, h7 (hf 64 (by omega)), ⟨D, n, e2, fun x y x0 x1 y0 y1 => ?_⟩, e4⟩
 by_cases hx : ∃ k, k < 31 ∧ sgA k = x ∧ sgB k = y
 ·obtain ⟨k, hk, rfl, rfl⟩ := hx
  obtain ⟨r1, r2, r3, r4, r5, r6⟩ := sg_range k hk
  rw [r6]
  exact e6 k hk (hf _ (by omega))
 ·rw [sg_none (fun k hk e => hx ⟨k, hk, e.1, e.2⟩)]
  refine e7 x y fun k hk _ he => hx ⟨k, hk, ?_⟩
  obtain ⟨r1, r2, r3, r4, r5, r6⟩ := sg_range k hk
  have := keyP_inj x0 x1 y0 y1 r1 r2 r3 r4 he
  exact ⟨this.1.symm, this.2.symm⟩
set_option maxHeartbeats 1000000 in
theorem allSigns_any (w : World) : Calls Tryz.prog 21 #[] w fun e w' => e = .returned (.map (some w.heap.size)) ∧ SgAt w' w.heap.size ∧ Below w.heap.size w w' := by
 go_enter Tryz.func21, Tryz.ntmps21
 go_wp2_with fail
 refine wp_region_inv (ops := sgOps) (by kernel_rfl) (SgInv w) sgOps_lt ?_ (fun f l a w' i o => sg_step w _ f l a w' i o) ?_
 ·refine ⟨by rw [sgOps_size]; exact Nat.le_refl _, rfl, rfl, fun k hk h => ?_, fun _ => ⟨rfl, fun k hk => by simp [Array.getD_eq_getD_getElem?, Array.getElem?_replicate]; split <;> rfl⟩, fun h => ?_, fun h => ?_, fun h => ?_⟩
  all_goals
   rw [sgOps_size] at h
   simp only [Array.getD_eq_getD_getElem?, Array.getElem?_replicate] at h
   split at h <;> cases h
 ·intro f l a w' hs hI hall
  obtain ⟨r1, r2, r3, r4⟩ := hI.done hs hall
  rename_i K hK
  refine hK a w' (wp_ret (show bodyPost Tryz.prog Tryz.f21 (fun e w'' => e = .returned (.map (some w.heap.size)) ∧ SgAt w'' w.heap.size ∧ Below w.heap.size w w'') .ret a w' from ?_))
  rw [Array.getD_eq_getD_getElem?] at r2
  refine bodyPost_ret (v := .map (some w.heap.size)) ?_ r1 ⟨rfl, r3, r4⟩
  simp [results, Tryz.results21, go_sem, r2]
end Go.Proofs.YtfjobnljdkiihaaGreatDoor
