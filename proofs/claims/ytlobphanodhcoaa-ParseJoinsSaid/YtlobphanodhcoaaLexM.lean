/- The signs of package lex: its map. Conditions: each theorem's. -/
import Derived.Test.YtlobphanodhcoaaLexH
import Derived.Test.YtlobphanodhcoaaRegInv
import Derived.Maps.OwnSet
import Derived.Maps.OwnOps
import Derived.Maps.Own
import Derived.DeepKeys5
namespace Go.Proofs.Ytlobphanodhcoaa
open Go.RowKit Go.Maps
set_option linter.unusedVariables false
set_option linter.unusedSimpArgs false
set_option maxRecDepth 100000
open Lx
theorem laidOut : laidOutB Try.prog = true := by kernel_rfl
theorem lawPair : Keyed Try.prog 77 := Keyed.of_law (deep_law_laid laidOut (m := 4) (by omega) (by decide +kernel) (by kernel_rfl) (by kernel_rfl))
theorem keyT2 : Try.prog.keyType 77 = true := by kernel_rfl
theorem cellsB : Try.prog.cellsOf 5 = 1 := by kernel_rfl
theorem cellsP : Try.prog.cellsOf 77 = 2 := by kernel_rfl
theorem sizeTys : ∃ m, Try.prog.types.size + 1 = m + 2 := ⟨Try.prog.types.size - 1, by decide +kernel⟩
def pairV (x y : Int) : Value := .agg #[.int .u8 x, .int .u8 y]
def keyP (x y : Int) : Lit := .string (keyBytes [.int .u8 x, .int .u8 y])
theorem wfB {n : Int} (h0 : 0 ≤ n) (h1 : n ≤ 255) : (Lit.int .u8 n).wf = true := by
  show (decide (IntKind.u8.min ≤ n) && decide (n ≤ IntKind.u8.max)) = true
  rw [show IntKind.u8.min = 0 from by decide, show IntKind.u8.max = 255 from by decide]
  simp
  omega
theorem litsB {m : Nat} {n : Int} (h : (Lit.int .u8 n).wf = true) : Try.prog.keyLits (m + 1) 5 [.int .u8 n] = some [.int .u8 n] := by
  unfold Program.keyLits
  simp [Try.underlying5, h]
theorem formedP (x y : Int) : Value.formed Try.prog 77 (pairV x y) = true := by
  simp [Value.formed, pairV, Try.underlying77, cellsP, cellsB]
theorem key_pair {x y : Int} (x0 : 0 ≤ x) (x1 : x ≤ 255) (y0 : 0 ≤ y) (y1 : y ≤ 255) : keyOf Try.prog 77 (pairV x y) = some (keyP x y) := by
  obtain ⟨m, hm⟩ := sizeTys
  have hl : Try.prog.keyLits (Try.prog.types.size + 1) 77 [.int .u8 x, .int .u8 y] = some [.int .u8 x, .int .u8 y] := by
    rw [hm]
    unfold Program.keyLits
    simp only [Try.underlying77]
    simp [cellsB, cellsP, litsB (wfB x0 x1), litsB (wfB y0 y1), List.range, List.range.loop]
  unfold keyOf
  have hf := formedP x y
  simp only [pairV] at hf ⊢
  simp only [Try.underlying77, keyT2, hf, Value.cells, hl]
  rfl
theorem keyP_inj {x y x' y' : Int} (x0 : 0 ≤ x) (x1 : x ≤ 255) (y0 : 0 ≤ y) (y1 : y ≤ 255) (x0' : 0 ≤ x') (x1' : x' ≤ 255) (y0' : 0 ≤ y') (y1' : y' ≤ 255) (e : keyP x y = keyP x' y') : x = x' ∧ y = y' := by
  have := lawPair.inj (key_pair x0 x1 y0 y1) (e ▸ key_pair x0' x1' y0' y1')
  simpa [pairV] using this
/-- The signs: two bytes, the second 0 if there is one, and how many there are. -/
def sgTab : List (Int × Int × Int) := [(45, 62, 2), (60, 60, 2), (62, 62, 2), (60, 61, 2), (62, 61, 2), (61, 61, 2), (33, 61, 2), (38, 38, 2), (124, 124, 2), (43, 0, 1), (45, 0, 1), (42, 0, 1), (47, 0, 1), (37, 0, 1), (38, 0, 1), (94, 0, 1), (126, 0, 1), (33, 0, 1), (60, 0, 1), (62, 0, 1), (61, 0, 1), (40, 0, 1), (41, 0, 1), (123, 0, 1), (125, 0, 1), (91, 0, 1), (93, 0, 1), (59, 0, 1), (44, 0, 1), (46, 0, 1), (124, 0, 1)]
def sgA (k : Nat) : Int := (sgTab.getD k (0, 0, 0)).1
def sgB (k : Nat) : Int := (sgTab.getD k (0, 0, 0)).2.1
def sgN (k : Nat) : Int := (sgTab.getD k (0, 0, 0)).2.2
def sgV (x y : Int) : Int := ((sgTab.find? fun e => decide (e.1 = x) && decide (e.2.1 = y)).map (·.2.2)).getD 0
theorem sg_range : ∀ k, k < 31 → 0 ≤ sgA k ∧ sgA k ≤ 255 ∧ 0 ≤ sgB k ∧ sgB k ≤ 255 ∧ (sgN k = 1 ∨ sgN k = 2) ∧ sgV (sgA k) (sgB k) = sgN k := by decide
theorem sg_apart : ∀ j, j < 31 → ∀ k, k < 31 → j ≠ k → ¬ (sgA j = sgA k ∧ sgB j = sgB k) := by decide
theorem sg_none {x y : Int} (h : ∀ k, k < 31 → ¬ (sgA k = x ∧ sgB k = y)) : sgV x y = 0 := by
  unfold sgV
  rw [List.find?_eq_none.2]
  · rfl
  · intro e he
    obtain ⟨k, hk, rfl⟩ := List.mem_iff_getElem.1 he
    have hk' : k < 31 := hk
    have := h k hk'
    unfold sgA sgB at this
    have e : sgTab.getD k (0, 0, 0) = sgTab[k]'hk := by rw [List.getD_eq_getElem?_getD, List.getElem?_eq_getElem hk]; rfl
    rw [e] at this
    generalize sgTab[k]'hk = z at *
    simpa using this
abbrev zI : DataW Unit := .lit (.int .i64 0)
/-- The map in memory. -/
def SgAt (w : World) (b : Nat) : Prop := ∃ (D : DataW Unit) (n : Nat), w.ownsMap Try.prog 77 (plainElem Try.prog 3) b n D ∧ ∀ x y : Int, 0 ≤ x → x ≤ 255 → 0 ≤ y → y ≤ 255 → D.atKey (keyP x y) zI = .lit (.int .i64 (sgV x y))
theorem SgAt.lt {w : World} {b : Nat} (h : SgAt w b) : b < w.heap.size := by
  obtain ⟨D, n, ⟨es, clock, hb, _⟩, _⟩ := h
  exact (Array.getElem?_eq_some_iff.1 hb).1
theorem SgAt.keep {w w' : World} {b B : Nat} (h : SgAt w b) (hb : Below B w w') (hlt : b < B) : SgAt w' b := by
  obtain ⟨D, n, ⟨es, clock, hh, r⟩, h2⟩ := h
  exact ⟨D, n, ⟨es, clock, (hb.block b hlt).trans hh, r⟩, h2⟩
theorem run_makeMap2 (w : World) : (Instr.makeMap 67 none).run Try.prog w = .ok (.map (some w.heap.size)) (w.alloc (.map #[] 0)) := by
  simp [Instr.makeMap, Try.underlying67]
theorem put_run {w : World} {b n : Nat} {D : DataW Unit} {x y : Int} (v : Int) (x0 : 0 ≤ x) (x1 : x ≤ 255) (y0 : 0 ≤ y) (y1 : y ≤ 255) (hv : v = 1 ∨ v = 2) (h : w.ownsMap Try.prog 77 (plainElem Try.prog 3) b n D) (hn : n < 100) :
    ∃ w', (Instr.mapUpdate 67 (.map (some b)) (pairV x y) (.int .i64 v)).run Try.prog w = .ok () w' ∧ w'.ownsMap Try.prog 77 (plainElem Try.prog 3) b (n + 1) (D.put (keyP x y) (.lit (.int .i64 v))) ∧ w.grownBy w' (some b) :=
  h.update lawPair Try.underlying67 (by unfold maxLen; omega) (key_pair x0 x1 y0 y1) (plainElem_int Try.underlying3 (by rcases hv with rfl | rfl <;> decide))
/-- The operations of the region in which the signs are put down. -/
noncomputable def sgOps : Array Oper := match Try.f14.body with
  | some (.seq _ (.seq (.region _ ops _) _)) => ops
  | _ => #[]
def mkOp (o : Oper) (d : Option Tmp) (af : List Nat) : Prop := o.guard = none ∧ o.dst = d ∧ o.after.toList.map (·.on) = af
theorem sgOps_size : sgOps.size = 65 := by kernel_rfl
theorem sgOp_make : ∃ o, sgOps[0]? = some o ∧ o.guard = none ∧ o.dst = some 1 ∧ o.op = .makeMap 67 none := ⟨_, rfl, rfl, rfl, rfl⟩
theorem sgOp_build : ∀ k, k < 31 → ∃ o, sgOps[1 + 2 * k]? = some o ∧ o.guard = none ∧ o.dst = some (2 + k) ∧ ∀ (a : Act) (w : World), (execOp a.eval o).run Try.prog w = .ok (.value (pairV (sgA k) (sgB k))) w := by
  intro k hk
  have : k = 0 ∨ k = 1 ∨ k = 2 ∨ k = 3 ∨ k = 4 ∨ k = 5 ∨ k = 6 ∨ k = 7 ∨ k = 8 ∨ k = 9 ∨ k = 10 ∨ k = 11 ∨ k = 12 ∨ k = 13 ∨ k = 14 ∨ k = 15 ∨ k = 16 ∨ k = 17 ∨ k = 18 ∨ k = 19 ∨ k = 20 ∨ k = 21 ∨ k = 22 ∨ k = 23 ∨ k = 24 ∨ k = 25 ∨ k = 26 ∨ k = 27 ∨ k = 28 ∨ k = 29 ∨ k = 30 := by omega
  rcases this with rfl | rfl | rfl | rfl | rfl | rfl | rfl | rfl | rfl | rfl | rfl | rfl | rfl | rfl | rfl | rfl | rfl | rfl | rfl | rfl | rfl | rfl | rfl | rfl | rfl | rfl | rfl | rfl | rfl | rfl | rfl
  all_goals exact ⟨_, rfl, rfl, rfl, fun _ _ => by kernel_rfl⟩
theorem sgOp_put : ∀ k, k < 31 → ∃ o, sgOps[2 + 2 * k]? = some o ∧ o.guard = none ∧ o.dst = none ∧ o.op = .insert 67 (.tmp 1) (.tmp (2 + k)) (.const (.int .i64 (sgN k))) ∧ (∃ e ∈ o.after, e.on = 0 ∧ Region.binds .any e = true) ∧ (∃ e ∈ o.after, e.on = 1 + 2 * k ∧ Region.binds .any e = true) := by
  intro k hk
  have : k = 0 ∨ k = 1 ∨ k = 2 ∨ k = 3 ∨ k = 4 ∨ k = 5 ∨ k = 6 ∨ k = 7 ∨ k = 8 ∨ k = 9 ∨ k = 10 ∨ k = 11 ∨ k = 12 ∨ k = 13 ∨ k = 14 ∨ k = 15 ∨ k = 16 ∨ k = 17 ∨ k = 18 ∨ k = 19 ∨ k = 20 ∨ k = 21 ∨ k = 22 ∨ k = 23 ∨ k = 24 ∨ k = 25 ∨ k = 26 ∨ k = 27 ∨ k = 28 ∨ k = 29 ∨ k = 30 := by omega
  rcases this with rfl | rfl | rfl | rfl | rfl | rfl | rfl | rfl | rfl | rfl | rfl | rfl | rfl | rfl | rfl | rfl | rfl | rfl | rfl | rfl | rfl | rfl | rfl | rfl | rfl | rfl | rfl | rfl | rfl | rfl | rfl
  all_goals exact ⟨_, rfl, rfl, rfl, rfl, ⟨⟨0, .data⟩, Array.mem_of_getElem? (i := 0) (by kernel_rfl), rfl, rfl⟩, ⟨⟨_, .data⟩, Array.mem_of_getElem? (i := 1) (by kernel_rfl), rfl, rfl⟩⟩
theorem sgOps_lt : ∀ (i : Nat) (o : Oper), sgOps[i]? = some o → ∀ e ∈ o.after, e.on < i := by
  have h : (List.range 65).all (fun i => ((sgOps[i]?).map fun o => o.after.toList.all fun e => decide (e.on < i)).getD true) = true := by kernel_rfl
  intro i o ho e he
  have hi : i < 65 := by have := (Array.getElem?_eq_some_iff.1 ho).1; rw [sgOps_size] at this; exact this
  rw [List.all_eq_true] at h
  have := h i (List.mem_range.2 hi)
  rw [ho] at this
  simp only [Option.map_some, Option.getD_some, List.all_eq_true] at this
  simpa using this e (by simpa using he)
theorem sgOp_63 : ∃ o, sgOps[63]? = some o ∧ o.guard = none ∧ o.dst = some 33 ∧ o.op = .move (.tmp 1) ∧ (∃ e ∈ o.after, e.on = 0 ∧ Region.binds .any e = true) := ⟨_, rfl, rfl, rfl, rfl, ⟨⟨0, .data⟩, Array.mem_of_getElem? (i := 0) (by kernel_rfl), rfl, rfl⟩⟩
theorem sgOp_64 : ∃ o, sgOps[64]? = some o ∧ o.guard = none ∧ o.dst = some 0 ∧ o.op = .assign (.tmp 33) ∧ (∃ e ∈ o.after, e.on = 63 ∧ Region.binds .any e = true) := ⟨_, rfl, rfl, rfl, rfl, ⟨⟨63, .data⟩, Array.mem_of_getElem? (i := 0) (by kernel_rfl), rfl, rfl⟩⟩
end Go.Proofs.Ytlobphanodhcoaa
