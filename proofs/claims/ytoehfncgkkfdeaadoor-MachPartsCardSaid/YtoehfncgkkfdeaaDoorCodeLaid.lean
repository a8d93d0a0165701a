/- From what the row lists of the table of forms to its cells; the door's own heap meets that; an instruction that comes in by value. No condition. -/
import Derived.Test.YtoehfncgkkfdeaaDoorCodeLawsH
import Derived.Test.YtoehfncgkkfdeaaDoorRows
import Derived.ProofKit
import Derived.LaidMore
import Derived.OpenShut
import Derived.MapViews
import Derived.DeepKeys2
import Derived.Stop.Joined
import Derived.Below
import Derived.ChangeSame
namespace Go.Proofs.YtoehfncgkkfdeaaDoor
open Go.ChangeShapes Go.WideShapes Go.ChangeAt Go.WideMaps Go.WideElems Go.RowKit
set_option linter.unusedVariables false
set_option linter.unusedSimpArgs false
set_option maxRecDepth 10000

/-- The end of a row whose arguments lead to no memory: only new blocks were made. -/
theorem post_plain {H : Type} {enc : TypeId × Value → H} {P : Program} {f : Func} {s : ChangeSpec} {W W' : World} {args : Array Value} {v : Value} {ds gs : List (DataW H)}
    (hW : DataW.Whole enc P f.params.toList s.vars false W args.toList ds gs [])
    (hres : ∀ b : Nat, DataW.TrodAll enc P W' b (fun _ => false) false f.resultTypes.toList (v.resultList f.resultTypes.size) (s.fn H (ds ++ gs)).results [])
    (hargs : ∀ sp : Nat → Bool, DataW.TrodAll enc P W' 0 sp true f.params.toList args.toList (s.fn H (ds ++ gs)).args [])
    (hvars : ∀ sp : Nat → Bool, DataW.TrodVars enc P W' sp s.vars (s.fn H (ds ++ gs)).vars []) (hb : Below W.heap.size W W') : s.post enc P f false true false false W args v W' :=
  ⟨ds, gs, [], [], [], [], hW, hres _, hargs _, hvars _, hb.frame _, fun h => by cases h⟩

theorem gForms : Tryd.prog.globalNamed "hauberk/code.forms" = some 1 := by kernel_rfl
theorem tForms : (Tryd.prog.globals[1]?).map (·.type) = some 135 := by kernel_rfl
theorem keyForms : Tryd.prog.keyTypeAt 10 135 = true := by kernel_rfl
theorem tiledForms : Tryd.prog.tiled 10 135 = true := by kernel_rfl
theorem flatForms {H : Type} : (Rows.laid_hauberk_code_forms (H := H)).flat.map Lit.toCell = formCells := by kernel_rfl
abbrev laidF {H : Type} : List (String × DataW H) := [("hauberk/code.forms", Rows.laid_hauberk_code_forms)]

theorem forms_of_laid {W : World} (h : laidMetH Tryd.prog laidF W) : FormsIn W := by
  rw [MakeChecks.laidMetH_plain _ _ _ (by kernel_rfl)] at h
  obtain ⟨ps, ⟨g0, t0, cs0, f0, p0, q0, hg0, ht0, hv0, hd0, _⟩, _⟩ := h
  obtain rfl := Option.some.inj (gForms.symm.trans hg0)
  obtain rfl := Option.some.inj (tForms.symm.trans ht0)
  have k := (keyLits_of_trod 10 _ keyForms _ _ _ hd0).1
  have c := cells_of_lits 10 _ tiledForms _ _ _ k
  have e : cs0.toList = formCells := c.trans flatForms
  have hc : ∀ j, W.cell? ⟨1, j, none⟩ = formCells[j]? := fun j => by
    have := World.var?_cell hg0 hv0 j
    rw [← e]
    simpa using this
  refine ⟨?_, fun j v hv => by rw [Nat.zero_add, hc]; exact hv⟩
  have h0 : W.cell? ⟨1, 0, none⟩ = some (.bool true) := (hc 0).trans rfl
  exact World.block_lt_of_cell? W _ h0

/-- The door's own heap meets the condition. -/
theorem door_met (os : Os) (args : Array Value) : laidMetH Tryd.prog laidF ((World.doorLaid Tryd.prog 41 os).forCall (fun _ _ => 0) ⟨#[], args, []⟩).memory :=
  laidMetH_of_parts3 (fuel := 8) (laidMet_of_run' 8 (by kernel_rfl) (by kernel_rfl)) (by kernel_rfl) (by kernel_rfl)

theorem cellsInstr : Tryd.prog.cellsOf 49 = 5 := by kernel_rfl
theorem runsInstr : ∃ fs : Array Field, Tryd.prog.underlying 49 = some (.struct fs) ∧ fs.toList.map (fun f => (f.type, f.offset)) = [(3, 0), (3, 1), (3, 2), (3, 3), (3, 4)] := ⟨_, Tryd.underlying49, by kernel_rfl⟩
theorem list5 (l : List Value) (h : l.length = 5) : ∃ a b c d e, l = [a, b, c, d, e] := by
  match l, h with
  | [a, b, c, d, e], _ => exact ⟨a, b, c, d, e, rfl⟩
/-- An instruction by value, opened. -/
theorem open_instr {H : Type} {enc : TypeId × Value → H} {W : World} {base B : Nat} {sp : Nat → Bool} {held : Bool} {v : Value} {d : DataW H} {ps : List MemPlace}
    (hv : Value.okWide Tryd.prog W .any B 49 v) (h : DataW.Trod enc Tryd.prog W base sp held 49 v d ps) :
    ∃ a0 a1 a2 a3 a4 : Int, v = ins a0 a1 a2 a3 a4 ∧ d = .agg [.lit (.int .i64 a0), .lit (.int .i64 a1), .lit (.int .i64 a2), .lit (.int .i64 a3), .lit (.int .i64 a4)] ∧ ps = [] ∧
      (Lit.int .i64 a0).wf = true ∧ (Lit.int .i64 a1).wf = true ∧ (Lit.int .i64 a2).wf = true ∧ (Lit.int .i64 a3).wf = true ∧ (Lit.int .i64 a4).wf = true := by
  obtain ⟨cs, rfl, hsz, _⟩ : ∃ cs, v = .agg cs ∧ cs.size = Tryd.prog.cellsOf 49 ∧ Row.okWide Tryd.prog W .any B 49 cs := by
    simpa [Value.okWide, Tryd.underlying49] using hv
  rw [cellsInstr] at hsz
  obtain ⟨l⟩ := cs
  obtain ⟨c0, c1, c2, c3, c4, rfl⟩ := list5 l hsz
  obtain ⟨fuel, hf⟩ := h
  obtain ⟨fs, hu, hfs⟩ := runsInstr
  obtain ⟨xs, n, rfl, hx, hl, hxs, hall⟩ := DataW.trod_struct hu hf
  have hsize : fs.size = 5 := by have := congrArg List.length hfs; simpa using this
  have ci : Tryd.prog.cellsOf 3 = 1 := by kernel_rfl
  have get : ∀ (i : Nat) (c : Value), i < 5 → ((([c0, c1, c2, c3, c4] : List Value).drop i).take 1 = [c]) → ∃ a, c = .int .i64 a ∧ xs[i]? = some (.lit (.int .i64 a), []) ∧ (Lit.int .i64 a).wf = true := by
    intro i c hi hc
    have hi' : i < fs.size := by omega
    have hfi : (fs[i].type, fs[i].offset) = ((3 : TypeId), i) := by
      have h1 : (fs.toList.map (fun f => (f.type, f.offset)))[i]? = some (fs[i].type, fs[i].offset) := by
        rw [List.getElem?_map]; simp [hi']
      rw [hfs] at h1
      have : i = 0 ∨ i = 1 ∨ i = 2 ∨ i = 3 ∨ i = 4 := by omega
      rcases this with rfl | rfl | rfl | rfl | rfl <;> (simp at h1; simp [← h1])
    simp only [Prod.mk.injEq] at hfi
    have hr := hall i fs[i] (by simp [hi'])
    rw [hfi.1, hfi.2, ci] at hr
    simp only [Value.cells] at hr
    rw [hc] at hr
    cases hxi : xs[i]? with
    | none => rw [List.getElem?_eq_none_iff] at hxi; omega
    | some y =>
      rw [hxi] at hr
      obtain ⟨a, e1, rfl, hw⟩ := DataW.trod_int Tryd.underlying3 hr
      simp at e1
      exact ⟨a, e1, rfl, hw⟩
  obtain ⟨a0, rfl, x0, w0⟩ := get 0 c0 (by omega) rfl
  obtain ⟨a1, rfl, x1, w1⟩ := get 1 c1 (by omega) rfl
  obtain ⟨a2, rfl, x2, w2⟩ := get 2 c2 (by omega) rfl
  obtain ⟨a3, rfl, x3, w3⟩ := get 3 c3 (by omega) rfl
  obtain ⟨a4, rfl, x4, w4⟩ := get 4 c4 (by omega) rfl
  have hxl : xs = [(.lit (.int .i64 a0), []), (.lit (.int .i64 a1), []), (.lit (.int .i64 a2), []), (.lit (.int .i64 a3), []), (.lit (.int .i64 a4), [])] := by
    rw [hsize] at hxs
    match xs, hxs, x0, x1, x2, x3, x4 with
    | [y0, y1, y2, y3, y4], _, x0, x1, x2, x3, x4 => simp at x0 x1 x2 x3 x4; simp [x0, x1, x2, x3, x4]
  subst hxl
  simp only [Prod.mk.injEq] at hx
  obtain ⟨rfl, rfl⟩ := hx
  exact ⟨a0, a1, a2, a3, a4, rfl, rfl, rfl, w0, w1, w2, w3, w4⟩
/-- .. and read again, in whatever world. -/
theorem shut_instr {H : Type} (enc : TypeId × Value → H) (W : World) (base : Nat) (sp : Nat → Bool) (held : Bool) (a0 a1 a2 a3 a4 : Int) (w0 : (Lit.int .i64 a0).wf = true) (w1 : (Lit.int .i64 a1).wf = true) (w2 : (Lit.int .i64 a2).wf = true) (w3 : (Lit.int .i64 a3).wf = true) (w4 : (Lit.int .i64 a4).wf = true) :
    DataW.Trod enc Tryd.prog W base sp held 49 (ins a0 a1 a2 a3 a4) (.agg [.lit (.int .i64 a0), .lit (.int .i64 a1), .lit (.int .i64 a2), .lit (.int .i64 a3), .lit (.int .i64 a4)]) [] := by
  have ci : Tryd.prog.cellsOf 3 = 1 := by kernel_rfl
  exact ⟨2, by simp [DataW.trod, Value.cells, Tryd.underlying49, Tryd.underlying3, cellsInstr, ci, w0, w1, w2, w3, w4]⟩
end Go.Proofs.YtoehfncgkkfdeaaDoor
