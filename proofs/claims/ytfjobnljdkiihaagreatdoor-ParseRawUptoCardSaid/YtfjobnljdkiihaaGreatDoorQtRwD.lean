/- ParseRaw's drawn region, by what holds of the operations that are done. Conditions: each theorem's. -/
import Derived.Test.YtfjobnljdkiihaaGreatDoorQtRwC
import Derived.Test.YtfjobnljdkiihaaGreatDoorQtLexN
namespace Go.Proofs.YtfjobnljdkiihaaGreatDoor
open Go.RowKit Go.Maps
set_option linter.unusedVariables false
set_option linter.unusedSimpArgs false
set_option maxRecDepth 100000
open Lx Pa Go.Lib Qi
def rwOps : Array Oper := #[
  ⟨some 6, .call { callee := .value (.func 6), args := #[], argTypes := #[] }, 4, "law.go:60", #[], none⟩,
  ⟨some 7, .move (.tmp 6), 4, "law.go:60", #[⟨0, .data⟩, ⟨0, .chain⟩], none⟩,
  ⟨some 8, .move (.tmp 5), 47, "law.go:60", #[⟨1, .guard⟩], some (1, true)⟩,
  ⟨some 9, .load 39 (.tmp 2), 39, "law.go:60", #[⟨1, .guard⟩], some (1, true)⟩,
  ⟨some 10, .call { callee := .value (.tmp 8), args := #[.tmp 9], argTypes := #[39] }, 27, "law.go:60", #[⟨2, .data⟩, ⟨3, .data⟩, ⟨1, .chain⟩, ⟨1, .guard⟩], some (1, true)⟩,
  ⟨some 11, .call { callee := .value (.func 8), args := #[.tmp 10], argTypes := #[27] }, 9, "law.go:60", #[⟨4, .data⟩, ⟨4, .chain⟩, ⟨1, .guard⟩], some (1, true)⟩,
  ⟨some 12, .move (.tmp 5), 47, "law.go:60", #[⟨1, .guard⟩], some (1, true)⟩,
  ⟨some 13, .load 39 (.tmp 3), 39, "law.go:60", #[⟨1, .guard⟩], some (1, true)⟩,
  ⟨some 14, .call { callee := .value (.tmp 12), args := #[.tmp 13], argTypes := #[39] }, 27, "law.go:60", #[⟨6, .data⟩, ⟨7, .data⟩, ⟨5, .chain⟩, ⟨1, .guard⟩], some (1, true)⟩,
  ⟨some 15, .call { callee := .value (.func 8), args := #[.tmp 14], argTypes := #[27] }, 9, "law.go:60", #[⟨8, .data⟩, ⟨8, .chain⟩, ⟨1, .guard⟩], some (1, true)⟩,
  ⟨some 16, .binOp .eql 9 (.tmp 11) (.tmp 15) 9, 4, "law.go:60", #[⟨5, .data⟩, ⟨9, .data⟩, ⟨1, .guard⟩], some (1, true)⟩,
  ⟨some 17, .load 39 (.tmp 2), 39, "law.go:60", #[⟨1, .guard⟩], some (1, true)⟩,
  ⟨some 18, .buildSlice 35 1 #[(0, .tmp 17)], 35, "law.go:60", #[⟨11, .data⟩, ⟨1, .guard⟩], some (1, true)⟩,
  ⟨some 19, .load 39 (.tmp 3), 39, "law.go:60", #[⟨1, .guard⟩], some (1, true)⟩,
  ⟨some 20, .buildSlice 35 1 #[(0, .tmp 19)], 35, "law.go:60", #[⟨13, .data⟩, ⟨1, .guard⟩], some (1, true)⟩,
  ⟨some 21, .call { callee := .value (.func 11), args := #[.tmp 18, .tmp 20, .const (.bool false)], argTypes := #[35, 35, 4] }, 4, "law.go:60", #[⟨12, .data⟩, ⟨14, .data⟩, ⟨9, .chain⟩, ⟨1, .guard⟩], some (1, true)⟩,
  ⟨some 22, .binOp .eql 4 (.tmp 16) (.tmp 21) 4, 4, "law.go:60", #[⟨10, .data⟩, ⟨15, .data⟩, ⟨1, .guard⟩], some (1, true)⟩,
  ⟨some 23, .pick (.tmp 7) (.tmp 22) (.const (.bool false)), 4, "law.go:60", #[⟨1, .data⟩, ⟨16, .data⟩], none⟩,
  ⟨some 4, .assign (.tmp 23), 4, "law.go:60", #[⟨17, .data⟩, ⟨15, .chain⟩, ⟨0, .phase⟩, ⟨1, .phase⟩, ⟨2, .phase⟩, ⟨3, .phase⟩, ⟨4, .phase⟩, ⟨5, .phase⟩, ⟨6, .phase⟩, ⟨7, .phase⟩, ⟨8, .phase⟩, ⟨9, .phase⟩, ⟨10, .phase⟩, ⟨11, .phase⟩, ⟨12, .phase⟩, ⟨13, .phase⟩, ⟨14, .phase⟩, ⟨15, .phase⟩, ⟨16, .phase⟩, ⟨17, .phase⟩], none⟩]
theorem rw_lt' : (List.range 19).all (fun i => ((rwOps[i]?).map fun o => o.after.all fun e => decide (e.on < i)).getD true) = true := by kernel_rfl
theorem rw_size : rwOps.size = 19 := by kernel_rfl
theorem rw_lt (i : Nat) (o : Oper) (h : rwOps[i]? = some o) : ∀ e ∈ o.after, e.on < i := by
  have hi : i < 19 := by have := (Array.getElem?_eq_some_iff.1 h).1; rwa [rw_size] at this
  have := (List.all_eq_true.1 rw_lt') i (List.mem_range.2 hi)
  rw [h] at this
  simp only [Option.map_some, Option.getD_some] at this
  intro e he
  have := (Array.all_eq_true_iff_forall_mem.1 this) e he
  simpa using this
/-- What the value of an operation is. -/
def rwV (x y : PEx) (cx cy : List Value) (va vb : ByteArray) (vs : Bool) (W : World) : Nat → Value → Prop
  | 0, v => v = .bool true
  | 1, v => v = .bool true
  | 2, v => v = .func (.func 10) #[] #[]
  | 3, v => v = .agg cx.toArray
  | 4, v => ∃ vf, v = .agg #[.slice none 0 0, .slice none 0 0, vf] ∧ LAt fnA W (fun _ => True) (raw x).fs vf
  | 5, v => v = .string va
  | 6, v => v = .func (.func 10) #[] #[]
  | 7, v => v = .agg cy.toArray
  | 8, v => ∃ vf, v = .agg #[.slice none 0 0, .slice none 0 0, vf] ∧ LAt fnA W (fun _ => True) (raw y).fs vf
  | 9, v => v = .string vb
  | 10, v => v = .bool vs
  | 11, v => v = .agg cx.toArray
  | 12, v => LAt exA W (fun _ => True) [x] v
  | 13, v => v = .agg cy.toArray
  | 14, v => LAt exA W (fun _ => True) [y] v
  | 15, v => v = .bool vs
  | 16, v => v = .bool true
  | 17, v => v = .bool true
  | _, _ => True
theorem rwV_keep {x y : PEx} {cx cy : List Value} {va vb : ByteArray} {vs : Bool} {W W' : World} (hB : Below W.heap.size W W') : ∀ (i : Nat) (v : Value), rwV x y cx cy va vb vs W i v → rwV x y cx cy va vb vs W' i v
  | 4, v, ⟨vf, e, h⟩ => ⟨vf, e, h.keep (fun g _ hl => ⟨trivial, hB.block g hl⟩) hB.size⟩
  | 8, v, ⟨vf, e, h⟩ => ⟨vf, e, h.keep (fun g _ hl => ⟨trivial, hB.block g hl⟩) hB.size⟩
  | 12, v, h => LAt.keep h (fun g _ hl => ⟨trivial, hB.block g hl⟩) hB.size
  | 14, v, h => LAt.keep h (fun g _ hl => ⟨trivial, hB.block g hl⟩) hB.size
  | 0, v, h | 1, v, h | 2, v, h | 3, v, h | 5, v, h | 6, v, h | 7, v, h | 9, v, h | 10, v, h | 11, v, h | 13, v, h | 15, v, h | 16, v, h | 17, v, h => h
  | _ + 18, v, h => h
theorem put_ne {a : Act} {d k : Nat} {v : Value} (h : k ≠ d) : (a.put (some d) v).eval (.tmp k) = a.eval (.tmp k) := by
  simp only [Act.put, Act.eval, Array.getD_eq_getD_getElem?]
  rw [Array.getElem?_setIfInBounds_ne (by omega)]
theorem put_eq {a : Act} {d : Nat} {v : Value} (h : d < a.tmps.size) : (a.put (some d) v).eval (.tmp d) = v := by
  simp [Act.put, Act.eval, Array.getD_eq_getD_getElem?, Array.getElem?_setIfInBounds, h]
theorem set_at {l : Array Bool} {i j : Nat} (h : (l.setIfInBounds i true).getD j false = true) : j = i ∨ l.getD j false = true := by
  by_cases hj : j = i
  · exact .inl hj
  · refine .inr ?_
    simp only [Array.getD_eq_getD_getElem?] at h ⊢
    rwa [Array.getElem?_setIfInBounds_ne (by omega)] at h
/-- What holds whatever was done. -/
structure RI (Y : World) (b2 b3 : Nat) (x y : PEx) (cx cy : List Value) (va vb : ByteArray) (vs : Bool) (l : Array Bool) (a : Act) (W : World) : Prop where
  bl : Below Y.heap.size Y W
  sz : a.tmps.size = 24
  df : a.defers = []
  t2 : a.eval (.tmp 2) = .pointer (some ⟨b2, 0, none⟩)
  t3 : a.eval (.tmp 3) = .pointer (some ⟨b3, 0, none⟩)
  t5 : a.eval (.tmp 5) = .func (.func 10) #[] #[]
  v : ∀ i, i < 18 → l.getD i false = true → rwV x y cx cy va vb vs W i (a.eval (.tmp (6 + i)))
  r : l.getD 18 false = true → a.eval (.tmp 4) = .bool true
section
variable {Y : World} {b2 b3 : Nat} {x y : PEx} {cx cy : List Value} {va vb : ByteArray} {vs : Bool} {l : Array Bool} {a : Act} {W : World}
theorem RI.put (hI : RI Y b2 b3 x y cx cy va vb vs l a W) {i : Nat} (hi : i < 18) {v : Value} {W' : World} (hB : Below W.heap.size W W') (hV : rwV x y cx cy va vb vs W' i v) : RI Y b2 b3 x y cx cy va vb vs (l.setIfInBounds i true) (a.put (some (6 + i)) v) W' :=
  ⟨hI.bl.trans (hB.mono hI.bl.size), by simp [Act.put, hI.sz], hI.df, by rw [put_ne (by omega)]; exact hI.t2, by rw [put_ne (by omega)]; exact hI.t3, by rw [put_ne (by omega)]; exact hI.t5, fun j hj h => by
    rcases set_at h with rfl | h
    · rw [put_eq (by rw [hI.sz]; omega)]; exact hV
    · by_cases hij : j = i
      · subst hij
        rw [put_eq (by rw [hI.sz]; omega)]; exact hV
      · rw [put_ne (by omega)]
        exact rwV_keep hB j _ (hI.v j hj h), fun h => by
    rcases set_at h with h | h
    · omega
    · rw [put_ne (by omega)]; exact hI.r h⟩
theorem RI.fin (hI : RI Y b2 b3 x y cx cy va vb vs l a W) {v : Value} (hv : v = .bool true) : RI Y b2 b3 x y cx cy va vb vs (l.setIfInBounds 18 true) (a.put (some 4) v) W :=
  ⟨hI.bl, by simp [Act.put, hI.sz], hI.df, by rw [put_ne (by omega)]; exact hI.t2, by rw [put_ne (by omega)]; exact hI.t3, by rw [put_ne (by omega)]; exact hI.t5, fun j hj h => by
    rcases set_at h with h | h
    · omega
    · rw [put_ne (by omega)]; exact hI.v j hj h, fun _ => by rw [put_eq (by rw [hI.sz]; omega)]; exact hv⟩
theorem wanted_of (hI : RI Y b2 b3 x y cx cy va vb vs l a W) (h1 : l.getD 1 false = true) {o : Oper} (hg : o.guard = some (1, true)) : Region.wanted o (yielded rwOps a.tmps) = true := by
  have h := hI.v 1 (by omega) h1
  have h : a.eval (.tmp 7) = .bool true := h
  have hs := hI.sz
  have h7 : a.tmps[7]? = some (.bool true) := by
    simp only [Act.eval, Array.getD_eq_getD_getElem?] at h
    rw [Array.getElem?_eq_getElem (by omega)] at h ⊢
    simpa using h
  have hy : yielded rwOps a.tmps 1 = some true := by
    unfold yielded
    rw [show ((rwOps[1]?).bind (·.dst)) = some 7 from rfl]
    simp only [Option.bind_some, h7]
  simp [Region.wanted, hg, hy]
theorem wpOp_w {Q : Exit → Act → World → Prop} {i : Nat} {o : Oper} {K : Act → World → Prop} (hi : rwOps[i]? = some o) (hw : Region.wanted o (yielded rwOps a.tmps) = true) (h : o.wp Tryz.prog a W K Q) : wpOp Tryz.prog rwOps Q i K a W := by
  unfold wpOp
  rw [hi]
  simp only [hw, if_true]
  exact .inl h
theorem wp_val {Q : Exit → Act → World → Prop} {o : Oper} {K : Act → World → Prop} {v : Value} {W' : World} (hr : (execOp a.eval o).run Tryz.prog W = .ok (.value v) W') (h : K (a.put o.dst v) W') : o.wp Tryz.prog a W K Q := by
  unfold Oper.wp
  rw [hr]
  exact h
theorem wp_ent {Q : Exit → Act → World → Prop} {o : Oper} {K : Act → World → Prop} {f : FuncId} {args : Array Value} {R : Value → World → Prop} (hr : (execOp a.eval o).run Tryz.prog W = .ok (.enter f args) W) (hc : Calls Tryz.prog f args W fun e w' => ∃ v, e = .returned v ∧ R v w') (h : ∀ v w', R v w' → K (a.put o.dst v) w') : o.wp Tryz.prog a W K Q := by
  unfold Oper.wp
  rw [hr]
  refine hc.mono ?_
  rintro e w' ⟨v, rfl, hv⟩
  exact h v w' hv
end
theorem nineteen {i : Nat} (h : i < 19) : i = 0 ∨ i = 1 ∨ i = 2 ∨ i = 3 ∨ i = 4 ∨ i = 5 ∨ i = 6 ∨ i = 7 ∨ i = 8 ∨ i = 9 ∨ i = 10 ∨ i = 11 ∨ i = 12 ∨ i = 13 ∨ i = 14 ∨ i = 15 ∨ i = 16 ∨ i = 17 ∨ i = 18 := by omega
/-- What is given of the world ahead of the region. -/
structure RY (T : PrintTabs) (Y : World) (b2 b3 : Nat) (x y : PEx) (cx cy : List Value) : Prop where
  r2 : Y.heap[b2]? = some (.cells cx.toArray 39 (0, 0))
  r3 : Y.heap[b3]? = some (.cells cy.toArray 39 (0, 0))
  hx : ExA Y (fun _ => True) x cx
  hy : ExA Y (fun _ => True) y cy
  hM : MaxIs Y
  hT : ∀ W, Below Y.heap.size Y W → Tb T W.heap.size W
  fx : fE x
  fy : fE y
  lx : (treeT T (raw x)).length ≤ 1000000000000
  ly : (treeT T (raw y)).length ≤ 1000000000000
theorem run_loadE {ρ : Operand → Value} {o : Oper} {W : World} {b : Nat} {cs : List Value} (p : Operand) (h : o.op = .load 39 p) (hp : ρ p = .pointer (some ⟨b, 0, none⟩)) (hr : W.heap[b]? = some (.cells cs.toArray 39 (0, 0))) (hl : cs.length = 9) : (execOp ρ o).run Tryz.prog W = .ok (.value (.agg cs.toArray)) W := by
  have hs : (Tryz.prog.info? 39).map (·.size) = some cs.toArray.size := by rw [List.size_toArray, hl]; exact sizeEx
  unfold execOp
  simp only [h, hp]
  have := run_loadVar_row (P := Tryz.prog) W b 39 39 cs.toArray (0, 0) _ hr Tryz.underlying39 rfl hs
  simp only [Instr.loadAt, Instr.sureAddr, Sem.run_bind, Sem.run_pure, Result.andThen_ok, this]
theorem run_callV {ρ : Operand → Value} {o : Oper} {W : World} {f : FuncId} (c : Operand) (args : Array Operand) (ats : Array TypeId) (h : o.op = .call { callee := .value c, args := args, argTypes := ats }) (hc : ρ c = .func (.func f) #[] #[]) {fn : Func} {k : Code} (hf : Tryz.prog.funcs[f]? = some fn) (hn : (fn.name == "runtime.NumGoroutine") = false) (hb : fn.body = some k) : (execOp ρ o).run Tryz.prog W = .ok (.enter f (args.map ρ)) W := by
  unfold execOp
  simp only [h, hc]
  have h1 : fn.name ≠ "runtime.NumGoroutine" := by simpa using hn
  go_simp
  simp [callFunc, hf, h1, hb]
theorem wp_bsE1g {Q : Exit → Act → World → Prop} {K : Act → World → Prop} {a : Act} {w : World} {dst : Option Tmp} {ty : TypeId} {pos : String} {af : Array Edge} {g : Option (Nat × Bool)} {p : Operand} {c : List Value} (hc : c.length = 9) (hp : a.eval p = .agg c.toArray)
    (h : K (a.put dst (.slice (some ⟨w.heap.size, 0, none⟩) 1 1)) (w.alloc (.cells c.toArray 39))) :
    Oper.wp Tryz.prog ⟨dst, .buildSlice 35 1 #[(0, p)], ty, pos, af, g⟩ a w K Q := by
  have := wp_bsE1 (Q := Q) (K := K) (dst := dst) (ty := ty) (pos := pos) (af := af) hc hp h
  exact this
theorem run_eqS {a : Act} {W : World} {x y : ByteArray} {d : Option Tmp} {t : TypeId} {pos : String} {af : Array Edge} {g : Option (Nat × Bool)} (h1 : a.eval (.tmp 11) = .string x) (h2 : a.eval (.tmp 15) = .string y) : (execOp a.eval ⟨d, .binOp .eql 9 (.tmp 11) (.tmp 15) 9, t, pos, af, g⟩).run Tryz.prog W = .ok (.value (.bool (x.toList == y.toList))) W := by
  unfold execOp
  simp only [h1, h2]
  go_simp
theorem run_eqB {a : Act} {W : World} {x y : Bool} {d : Option Tmp} {t : TypeId} {pos : String} {af : Array Edge} {g : Option (Nat × Bool)} (h1 : a.eval (.tmp 16) = .bool x) (h2 : a.eval (.tmp 21) = .bool y) : (execOp a.eval ⟨d, .binOp .eql 4 (.tmp 16) (.tmp 21) 4, t, pos, af, g⟩).run Tryz.prog W = .ok (.value (.bool (x == y))) W := by
  unfold execOp
  simp only [h1, h2]
  go_simp
theorem run_pick {a : Act} {W : World} {d : Option Tmp} {t : TypeId} {pos : String} {af : Array Edge} {g : Option (Nat × Bool)} {z : Value} (h1 : a.eval (.tmp 7) = .bool true) (h2 : a.eval (.tmp 22) = z) : (execOp a.eval ⟨d, .pick (.tmp 7) (.tmp 22) (.const (.bool false)), t, pos, af, g⟩).run Tryz.prog W = .ok (.value z) W := by
  unfold execOp
  simp only [h1, h2]
  go_simp
set_option maxHeartbeats 4000000 in
theorem rw_step {Q : Exit → Act → World → Prop} {T : PrintTabs} {Y : World} {b2 b3 : Nat} {x y : PEx} {cx cy : List Value} (hY : RY T Y b2 b3 x y cx cy) (l : Array Bool) (a : Act) (W : World) (i : Nat) (o : Oper)
    (hI : RI Y b2 b3 x y cx cy ⟨(treeT T (raw x)).toArray⟩ ⟨(treeT T (raw y)).toArray⟩ (sameB (EqEs false [x] [y])) l a W) (ho : rwOps[i]? = some o) (hed : ∀ e ∈ o.after, Region.binds .any e = true → l.getD e.on false = true) :
    wpOp Tryz.prog rwOps Q i (RI Y b2 b3 x y cx cy ⟨(treeT T (raw x)).toArray⟩ ⟨(treeT T (raw y)).toArray⟩ (sameB (EqEs false [x] [y])) (l.setIfInBounds i true)) a W := by
  have hi : i < 19 := by have := (Array.getElem?_eq_some_iff.1 ho).1; rwa [rw_size] at this
  have hb0 := Below.refl W.heap.size W
  have hlx := hY.hx.len
  have hly := hY.hy.len
  have hr2 := (hI.bl.block b2 (lt_of_at hY.r2)).trans hY.r2
  have hr3 := (hI.bl.block b3 (lt_of_at hY.r3)).trans hY.r3
  have hX : ExA W (fun _ => True) x cx := hY.hx.keep (fun g _ hl => ⟨trivial, hI.bl.block g hl⟩) hI.bl.size
  have hXy : ExA W (fun _ => True) y cy := hY.hy.keep (fun g _ hl => ⟨trivial, hI.bl.block g hl⟩) hI.bl.size
  rcases nineteen hi with rfl | rfl | rfl | rfl | rfl | rfl | rfl | rfl | rfl | rfl | rfl | rfl | rfl | rfl | rfl | rfl | rfl | rfl | rfl
  · have ho2 : rwOps[0]? = some (⟨some 6, .call { callee := .value (.func 6), args := #[], argTypes := #[] }, 4, "law.go:60", #[], none⟩ : Oper) := rfl
    obtain rfl := Option.some.inj (ho2.symm.trans ho)
    refine wpOp_w ho2 rfl ?_
    refine wp_ent (R := fun v w1 => v = .bool true ∧ Below W.heap.size W w1) (run_callV (.func 6) _ _ rfl rfl Tryz.func6 rfl rfl) ?_ ?_
    · rw [show (#[] : Array Operand).map a.eval = #[] from by simp]
      refine (awake_any (hY.hM.keep hI.bl)).mono ?_
      rintro e w1 ⟨h1, h2⟩
      exact ⟨_, h1, rfl, h2⟩
    · rintro v w1 ⟨rfl, h2⟩
      exact hI.put (i := 0) (by omega) h2 rfl
  · have ho2 : rwOps[1]? = some (⟨some 7, .move (.tmp 6), 4, "law.go:60", #[⟨0, .data⟩, ⟨0, .chain⟩], none⟩ : Oper) := rfl
    obtain rfl := Option.some.inj (ho2.symm.trans ho)
    have e0 := hed ⟨0, .data⟩ (by simp) rfl
    have v0 := hI.v 0 (by omega) e0
    refine wpOp_w ho2 rfl ?_
    exact wp_val (BigFrame.run_move _ rfl _) (hI.put (i := 1) (by omega) hb0 v0)
  · have ho2 : rwOps[2]? = some (⟨some 8, .move (.tmp 5), 47, "law.go:60", #[⟨1, .guard⟩], some (1, true)⟩ : Oper) := rfl
    obtain rfl := Option.some.inj (ho2.symm.trans ho)
    have e1 := hed ⟨1, .guard⟩ (by simp) rfl
    have v1 := hI.v 1 (by omega) e1
    refine wpOp_w ho2 (wanted_of hI e1 rfl) ?_
    exact wp_val (BigFrame.run_move _ rfl _) (hI.put (i := 2) (by omega) hb0 hI.t5)
  · have ho2 : rwOps[3]? = some (⟨some 9, .load 39 (.tmp 2), 39, "law.go:60", #[⟨1, .guard⟩], some (1, true)⟩ : Oper) := rfl
    obtain rfl := Option.some.inj (ho2.symm.trans ho)
    have e1 := hed ⟨1, .guard⟩ (by simp) rfl
    have v1 := hI.v 1 (by omega) e1
    refine wpOp_w ho2 (wanted_of hI e1 rfl) ?_
    exact wp_val (run_loadE _ rfl hI.t2 hr2 hlx) (hI.put (i := 3) (by omega) hb0 rfl)
  · have ho2 : rwOps[4]? = some (⟨some 10, .call { callee := .value (.tmp 8), args := #[.tmp 9], argTypes := #[39] }, 27, "law.go:60", #[⟨2, .data⟩, ⟨3, .data⟩, ⟨1, .chain⟩, ⟨1, .guard⟩], some (1, true)⟩ : Oper) := rfl
    obtain rfl := Option.some.inj (ho2.symm.trans ho)
    have e1 := hed ⟨1, .guard⟩ (by simp) rfl
    have e2 := hed ⟨2, .data⟩ (by simp) rfl
    have e3 := hed ⟨3, .data⟩ (by simp) rfl
    have v1 := hI.v 1 (by omega) e1
    have v2 := hI.v 2 (by omega) e2
    have v3 := hI.v 3 (by omega) e3
    refine wpOp_w ho2 (wanted_of hI e1 rfl) ?_
    refine wp_ent (R := fun v w1 => Below W.heap.size W w1 ∧ rwV x y cx cy ⟨(treeT T (raw x)).toArray⟩ ⟨(treeT T (raw y)).toArray⟩ (sameB (EqEs false [x] [y])) w1 4 v) (run_callV (.tmp 8) _ _ rfl v2 Tryz.func10 rfl rfl) ?_ ?_
    · have v3 : a.eval (.tmp 9) = _ := v3
      simp only [List.map_toArray, List.map_cons, List.map_nil, v3]
      exact (rawP_any hX).mono fun e w1 ⟨h1, vf, h2, h3⟩ => ⟨_, h2, h1, vf, rfl, h3⟩
    · rintro v w1 ⟨h1, h2⟩
      exact hI.put (i := 4) (by omega) h1 h2
  · have ho2 : rwOps[5]? = some (⟨some 11, .call { callee := .value (.func 8), args := #[.tmp 10], argTypes := #[27] }, 9, "law.go:60", #[⟨4, .data⟩, ⟨4, .chain⟩, ⟨1, .guard⟩], some (1, true)⟩ : Oper) := rfl
    obtain rfl := Option.some.inj (ho2.symm.trans ho)
    have e1 := hed ⟨1, .guard⟩ (by simp) rfl
    have e4 := hed ⟨4, .data⟩ (by simp) rfl
    have v1 := hI.v 1 (by omega) e1
    have v4 := hI.v 4 (by omega) e4
    refine wpOp_w ho2 (wanted_of hI e1 rfl) ?_
    obtain ⟨vf, v4, h4⟩ := v4
    refine wp_ent (R := fun v w1 => v = .string ⟨(treeT T (raw x)).toArray⟩ ∧ Below W.heap.size W w1) (run_callV (.func 8) _ _ rfl rfl Tryz.func8 rfl rfl) ?_ ?_
    · have v4 : a.eval (.tmp 10) = _ := v4
      simp only [List.map_toArray, List.map_cons, List.map_nil, v4]
      exact (tree_any T (raw x) _ _ _ W (hY.hT W hI.bl) (LAt.nil _ _ _) (LAt.nil _ _ _) (h4.keep (fun g _ hl => ⟨hl, rfl⟩) (Nat.le_refl _)) (raw_fits hY.fx) hY.lx).mono fun e w1 ⟨h1, h2⟩ => ⟨_, h1, rfl, h2⟩
    · rintro v w1 ⟨rfl, h2⟩
      exact hI.put (i := 5) (by omega) h2 rfl
  · have ho2 : rwOps[6]? = some (⟨some 12, .move (.tmp 5), 47, "law.go:60", #[⟨1, .guard⟩], some (1, true)⟩ : Oper) := rfl
    obtain rfl := Option.some.inj (ho2.symm.trans ho)
    have e1 := hed ⟨1, .guard⟩ (by simp) rfl
    have v1 := hI.v 1 (by omega) e1
    refine wpOp_w ho2 (wanted_of hI e1 rfl) ?_
    exact wp_val (BigFrame.run_move _ rfl _) (hI.put (i := 6) (by omega) hb0 hI.t5)
  · have ho2 : rwOps[7]? = some (⟨some 13, .load 39 (.tmp 3), 39, "law.go:60", #[⟨1, .guard⟩], some (1, true)⟩ : Oper) := rfl
    obtain rfl := Option.some.inj (ho2.symm.trans ho)
    have e1 := hed ⟨1, .guard⟩ (by simp) rfl
    have v1 := hI.v 1 (by omega) e1
    refine wpOp_w ho2 (wanted_of hI e1 rfl) ?_
    exact wp_val (run_loadE _ rfl hI.t3 hr3 hly) (hI.put (i := 7) (by omega) hb0 rfl)
  · have ho2 : rwOps[8]? = some (⟨some 14, .call { callee := .value (.tmp 12), args := #[.tmp 13], argTypes := #[39] }, 27, "law.go:60", #[⟨6, .data⟩, ⟨7, .data⟩, ⟨5, .chain⟩, ⟨1, .guard⟩], some (1, true)⟩ : Oper) := rfl
    obtain rfl := Option.some.inj (ho2.symm.trans ho)
    have e1 := hed ⟨1, .guard⟩ (by simp) rfl
    have e6 := hed ⟨6, .data⟩ (by simp) rfl
    have e7 := hed ⟨7, .data⟩ (by simp) rfl
    have v1 := hI.v 1 (by omega) e1
    have v6 := hI.v 6 (by omega) e6
    have v7 := hI.v 7 (by omega) e7
    refine wpOp_w ho2 (wanted_of hI e1 rfl) ?_
    refine wp_ent (R := fun v w1 => Below W.heap.size W w1 ∧ rwV x y cx cy ⟨(treeT T (raw x)).toArray⟩ ⟨(treeT T (raw y)).toArray⟩ (sameB (EqEs false [x] [y])) w1 8 v) (run_callV (.tmp 12) _ _ rfl v6 Tryz.func10 rfl rfl) ?_ ?_
    · have v7 : a.eval (.tmp 13) = _ := v7
      simp only [List.map_toArray, List.map_cons, List.map_nil, v7]
      exact (rawP_any hXy).mono fun e w1 ⟨h1, vf, h2, h3⟩ => ⟨_, h2, h1, vf, rfl, h3⟩
    · rintro v w1 ⟨h1, h2⟩
      exact hI.put (i := 8) (by omega) h1 h2
  · have ho2 : rwOps[9]? = some (⟨some 15, .call { callee := .value (.func 8), args := #[.tmp 14], argTypes := #[27] }, 9, "law.go:60", #[⟨8, .data⟩, ⟨8, .chain⟩, ⟨1, .guard⟩], some (1, true)⟩ : Oper) := rfl
    obtain rfl := Option.some.inj (ho2.symm.trans ho)
    have e1 := hed ⟨1, .guard⟩ (by simp) rfl
    have e8 := hed ⟨8, .data⟩ (by simp) rfl
    have v1 := hI.v 1 (by omega) e1
    have v8 := hI.v 8 (by omega) e8
    refine wpOp_w ho2 (wanted_of hI e1 rfl) ?_
    obtain ⟨vf, v8, h4⟩ := v8
    refine wp_ent (R := fun v w1 => v = .string ⟨(treeT T (raw y)).toArray⟩ ∧ Below W.heap.size W w1) (run_callV (.func 8) _ _ rfl rfl Tryz.func8 rfl rfl) ?_ ?_
    · have v8 : a.eval (.tmp 14) = _ := v8
      simp only [List.map_toArray, List.map_cons, List.map_nil, v8]
      exact (tree_any T (raw y) _ _ _ W (hY.hT W hI.bl) (LAt.nil _ _ _) (LAt.nil _ _ _) (h4.keep (fun g _ hl => ⟨hl, rfl⟩) (Nat.le_refl _)) (raw_fits hY.fy) hY.ly).mono fun e w1 ⟨h1, h2⟩ => ⟨_, h1, rfl, h2⟩
    · rintro v w1 ⟨rfl, h2⟩
      exact hI.put (i := 9) (by omega) h2 rfl
  · have ho2 : rwOps[10]? = some (⟨some 16, .binOp .eql 9 (.tmp 11) (.tmp 15) 9, 4, "law.go:60", #[⟨5, .data⟩, ⟨9, .data⟩, ⟨1, .guard⟩], some (1, true)⟩ : Oper) := rfl
    obtain rfl := Option.some.inj (ho2.symm.trans ho)
    have e1 := hed ⟨1, .guard⟩ (by simp) rfl
    have e5 := hed ⟨5, .data⟩ (by simp) rfl
    have e9 := hed ⟨9, .data⟩ (by simp) rfl
    have v1 := hI.v 1 (by omega) e1
    have v5 := hI.v 5 (by omega) e5
    have v9 := hI.v 9 (by omega) e9
    refine wpOp_w ho2 (wanted_of hI e1 rfl) ?_
    have v5 : a.eval (.tmp 11) = _ := v5
    have v9 : a.eval (.tmp 15) = _ := v9
    exact wp_val (run_eqS v5 v9) (hI.put (i := 10) (by omega) hb0 (by rw [raw_strs]; rfl))
  · have ho2 : rwOps[11]? = some (⟨some 17, .load 39 (.tmp 2), 39, "law.go:60", #[⟨1, .guard⟩], some (1, true)⟩ : Oper) := rfl
    obtain rfl := Option.some.inj (ho2.symm.trans ho)
    have e1 := hed ⟨1, .guard⟩ (by simp) rfl
    have v1 := hI.v 1 (by omega) e1
    refine wpOp_w ho2 (wanted_of hI e1 rfl) ?_
    exact wp_val (run_loadE _ rfl hI.t2 hr2 hlx) (hI.put (i := 11) (by omega) hb0 rfl)
  · have ho2 : rwOps[12]? = some (⟨some 18, .buildSlice 35 1 #[(0, .tmp 17)], 35, "law.go:60", #[⟨11, .data⟩, ⟨1, .guard⟩], some (1, true)⟩ : Oper) := rfl
    obtain rfl := Option.some.inj (ho2.symm.trans ho)
    have e1 := hed ⟨1, .guard⟩ (by simp) rfl
    have e11 := hed ⟨11, .data⟩ (by simp) rfl
    have v1 := hI.v 1 (by omega) e1
    have v11 := hI.v 11 (by omega) e11
    refine wpOp_w ho2 (wanted_of hI e1 rfl) ?_
    have v11 : a.eval (.tmp 17) = _ := v11
    refine wp_bsE1g hlx v11 ?_
    refine hI.put (i := 12) (by omega) (hb0.alloc (Nat.le_refl _) _) ?_
    exact one_at (E := exA) (hX.keep (fun g _ hl => ⟨trivial, Below.heap_alloc _ _ _ hl⟩) (by simp)) trivial (heap_alloc_new _ _)
  · have ho2 : rwOps[13]? = some (⟨some 19, .load 39 (.tmp 3), 39, "law.go:60", #[⟨1, .guard⟩], some (1, true)⟩ : Oper) := rfl
    obtain rfl := Option.some.inj (ho2.symm.trans ho)
    have e1 := hed ⟨1, .guard⟩ (by simp) rfl
    have v1 := hI.v 1 (by omega) e1
    refine wpOp_w ho2 (wanted_of hI e1 rfl) ?_
    exact wp_val (run_loadE _ rfl hI.t3 hr3 hly) (hI.put (i := 13) (by omega) hb0 rfl)
  · have ho2 : rwOps[14]? = some (⟨some 20, .buildSlice 35 1 #[(0, .tmp 19)], 35, "law.go:60", #[⟨13, .data⟩, ⟨1, .guard⟩], some (1, true)⟩ : Oper) := rfl
    obtain rfl := Option.some.inj (ho2.symm.trans ho)
    have e1 := hed ⟨1, .guard⟩ (by simp) rfl
    have e13 := hed ⟨13, .data⟩ (by simp) rfl
    have v1 := hI.v 1 (by omega) e1
    have v13 := hI.v 13 (by omega) e13
    refine wpOp_w ho2 (wanted_of hI e1 rfl) ?_
    have v13 : a.eval (.tmp 19) = _ := v13
    refine wp_bsE1g hly v13 ?_
    refine hI.put (i := 14) (by omega) (hb0.alloc (Nat.le_refl _) _) ?_
    exact one_at (E := exA) (hXy.keep (fun g _ hl => ⟨trivial, Below.heap_alloc _ _ _ hl⟩) (by simp)) trivial (heap_alloc_new _ _)
  · have ho2 : rwOps[15]? = some (⟨some 21, .call { callee := .value (.func 11), args := #[.tmp 18, .tmp 20, .const (.bool false)], argTypes := #[35, 35, 4] }, 4, "law.go:60", #[⟨12, .data⟩, ⟨14, .data⟩, ⟨9, .chain⟩, ⟨1, .guard⟩], some (1, true)⟩ : Oper) := rfl
    obtain rfl := Option.some.inj (ho2.symm.trans ho)
    have e1 := hed ⟨1, .guard⟩ (by simp) rfl
    have e12 := hed ⟨12, .data⟩ (by simp) rfl
    have e14 := hed ⟨14, .data⟩ (by simp) rfl
    have v1 := hI.v 1 (by omega) e1
    have v12 := hI.v 12 (by omega) e12
    have v14 := hI.v 14 (by omega) e14
    refine wpOp_w ho2 (wanted_of hI e1 rfl) ?_
    refine wp_ent (R := fun v w1 => v = .bool (sameB (EqEs false [x] [y])) ∧ Below W.heap.size W w1) (run_callV (.func 11) _ _ rfl rfl Tryz.func11 rfl rfl) ?_ ?_
    · simp only [List.map_toArray, List.map_cons, List.map_nil]
      exact (exprsA_any _ [x] (Nat.le_refl _) [y] _ _ W _ _ v12 v14).mono fun e w1 ⟨h1, h2⟩ => ⟨_, h1, rfl, h2⟩
    · rintro v w1 ⟨rfl, h2⟩
      exact hI.put (i := 15) (by omega) h2 rfl
  · have ho2 : rwOps[16]? = some (⟨some 22, .binOp .eql 4 (.tmp 16) (.tmp 21) 4, 4, "law.go:60", #[⟨10, .data⟩, ⟨15, .data⟩, ⟨1, .guard⟩], some (1, true)⟩ : Oper) := rfl
    obtain rfl := Option.some.inj (ho2.symm.trans ho)
    have e1 := hed ⟨1, .guard⟩ (by simp) rfl
    have e10 := hed ⟨10, .data⟩ (by simp) rfl
    have e15 := hed ⟨15, .data⟩ (by simp) rfl
    have v1 := hI.v 1 (by omega) e1
    have v10 := hI.v 10 (by omega) e10
    have v15 := hI.v 15 (by omega) e15
    refine wpOp_w ho2 (wanted_of hI e1 rfl) ?_
    have v10 : a.eval (.tmp 16) = _ := v10
    have v15 : a.eval (.tmp 21) = _ := v15
    exact wp_val (run_eqB v10 v15) (hI.put (i := 16) (by omega) hb0 (by simp [rwV]))
  · have ho2 : rwOps[17]? = some (⟨some 23, .pick (.tmp 7) (.tmp 22) (.const (.bool false)), 4, "law.go:60", #[⟨1, .data⟩, ⟨16, .data⟩], none⟩ : Oper) := rfl
    obtain rfl := Option.some.inj (ho2.symm.trans ho)
    have e1 := hed ⟨1, .data⟩ (by simp) rfl
    have e16 := hed ⟨16, .data⟩ (by simp) rfl
    have v1 := hI.v 1 (by omega) e1
    have v16 := hI.v 16 (by omega) e16
    refine wpOp_w ho2 rfl ?_
    have v1 : a.eval (.tmp 7) = _ := v1
    have v16 : a.eval (.tmp 22) = _ := v16
    exact wp_val (run_pick v1 v16) (hI.put (i := 17) (by omega) hb0 rfl)
  · have ho2 : rwOps[18]? = some (⟨some 4, .assign (.tmp 23), 4, "law.go:60", #[⟨17, .data⟩, ⟨15, .chain⟩, ⟨0, .phase⟩, ⟨1, .phase⟩, ⟨2, .phase⟩, ⟨3, .phase⟩, ⟨4, .phase⟩, ⟨5, .phase⟩, ⟨6, .phase⟩, ⟨7, .phase⟩, ⟨8, .phase⟩, ⟨9, .phase⟩, ⟨10, .phase⟩, ⟨11, .phase⟩, ⟨12, .phase⟩, ⟨13, .phase⟩, ⟨14, .phase⟩, ⟨15, .phase⟩, ⟨16, .phase⟩, ⟨17, .phase⟩], none⟩ : Oper) := rfl
    obtain rfl := Option.some.inj (ho2.symm.trans ho)
    have e17 := hed ⟨17, .data⟩ (by simp) rfl
    have v17 := hI.v 17 (by omega) e17
    refine wpOp_w ho2 rfl ?_
    have v17 : a.eval (.tmp 23) = .bool true := v17
    refine wp_val (BigFrame.run_assign _ rfl _) ?_
    exact hI.fin v17
end Go.Proofs.YtfjobnljdkiihaaGreatDoor
