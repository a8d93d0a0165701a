/- Expressions built: laws of operations, unaryOf. Conditions: each theorem's. -/
import Derived.Test.YtlobphanodhcoaaParT
import Derived.Deep.WholeRow
import Derived.Deep.RegionHeld3
namespace Go.Proofs.Ytlobphanodhcoaa
open Go.RowKit Go.Maps
set_option linter.unusedVariables false
set_option linter.unusedSimpArgs false
set_option maxRecDepth 100000
open Lx Pa
theorem infoEx : (Try.prog.info? 45).map (fun i => (i.zero, i.size)) = some (some (.agg (exL 0 ⟨#[]⟩ ⟨#[]⟩ 0 (.slice none 0 0) ty0 0).toArray), 9) := by kernel_rfl
theorem info_two {e : TypeId} {z : Value} {s : Nat} (h : (Try.prog.info? e).map (fun i => (i.zero, i.size)) = some (some z, s)) : ∃ i, Try.prog.info? e = some i ∧ i.zero = some z ∧ i.size = s := by
  cases hi : Try.prog.info? e with
  | none => rw [hi] at h; cases h
  | some i =>
    rw [hi] at h
    simp at h
    exact ⟨i, rfl, h.1, h.2⟩
theorem bsG {P : Program} {ops : Array Oper} {rest : List Oper} {Q : Exit → Act → World → Prop} {a : Act} {w : World} {dst : Option Tmp} {ty : TypeId} {pos : String} {af : Array Edge} {parts : Array (Nat × Operand)} {t e : TypeId} {z : Value} {s n : Nat} {i : TypeInfo} (vs : List Value)
    (hu : P.underlying t = some (.slice e)) (h1 : P.info? e = some i) (h2 : i.zero = some z) (h3 : i.size = s) (hs : 0 < s) (hs2 : s ≤ 100) (hn : n = vs.length) (hn0 : 0 < n) (hn2 : n ≤ 100)
    (hl : (parts.toList.map fun (i, x) => (i, a.eval x)) = (vs.zipIdx 0).map fun x => (x.2, x.1)) (hv : ∀ v ∈ vs, v.cells.size = s)
    (h : wpList P ops Q rest (a.put dst (.slice (some ⟨w.heap.size, 0, none⟩) n n)) (w.alloc (.cells (vs.flatMap fun v => v.cells.toList).toArray e))) :
    wpList P ops Q (⟨dst, .buildSlice t n parts, ty, pos, af, none⟩ :: rest) a w := by
  have hp : 0 < n * s := Nat.mul_pos hn0 hs
  have hm : n * s ≤ 100 * 100 := Nat.mul_le_mul hn2 hs2
  refine wpList_buildSlice rfl t e n _ rfl _ i _ hu h1 h2 (by rw [h3]; omega) (by rw [h3]; omega) ?_ h
  rw [h3, Array.toList_map, hl]
  exact Great.fill_whole hs vs _ hv (by simp [hn])
theorem bsE1 {ops : Array Oper} {rest : List Oper} {Q : Exit → Act → World → Prop} {a : Act} {w : World} {dst : Option Tmp} {ty : TypeId} {pos : String} {af : Array Edge} {p : Operand} (c : List Value) (hc : c.length = 9) (hp : a.eval p = .agg c.toArray)
    (h : wpList Try.prog ops Q rest (a.put dst (.slice (some ⟨w.heap.size, 0, none⟩) 1 1)) (w.alloc (.cells c.toArray 45))) :
    wpList Try.prog ops Q (⟨dst, .buildSlice 33 1 #[(0, p)], ty, pos, af, none⟩ :: rest) a w := by
  obtain ⟨i, h1, h2, h3⟩ := info_two infoEx
  refine bsG [.agg c.toArray] Try.underlying33 h1 h2 h3 (by decide) (by decide) rfl (by decide) (by decide) ?_ ?_ ?_
  · simp [hp]
  · intro v hv; simp at hv; subst hv; simpa [Value.cells] using hc
  · simpa [Value.cells] using h
theorem bsE2 {ops : Array Oper} {rest : List Oper} {Q : Exit → Act → World → Prop} {a : Act} {w : World} {dst : Option Tmp} {ty : TypeId} {pos : String} {af : Array Edge} {p q : Operand} (c d : List Value) (hc : c.length = 9) (hd : d.length = 9) (hp : a.eval p = .agg c.toArray) (hq : a.eval q = .agg d.toArray)
    (h : wpList Try.prog ops Q rest (a.put dst (.slice (some ⟨w.heap.size, 0, none⟩) 2 2)) (w.alloc (.cells (c ++ d).toArray 45))) :
    wpList Try.prog ops Q (⟨dst, .buildSlice 33 2 #[(0, p), (1, q)], ty, pos, af, none⟩ :: rest) a w := by
  obtain ⟨i, h1, h2, h3⟩ := info_two infoEx
  refine bsG [.agg c.toArray, .agg d.toArray] Try.underlying33 h1 h2 h3 (by decide) (by decide) rfl (by decide) (by decide) ?_ ?_ ?_
  · simp [hp, hq]
  · intro v hv; simp at hv; rcases hv with rfl | rfl
    · simpa [Value.cells] using hc
    · simpa [Value.cells] using hd
  · simpa [Value.cells] using h
theorem bdE {ops : Array Oper} {rest : List Oper} {Q : Exit → Act → World → Prop} {a : Act} {w : World} {dst : Option Tmp} {ty : TypeId} {pos : String} {af : Array Edge} {parts : Array (Nat × Operand)} (l : List (Nat × Value)) (cs : List Value)
    (hb : Try.prog.built 45 l = some cs.toArray) (hl : (parts.toList.map fun (i, x) => (i, a.eval x)) = l) (h : wpList Try.prog ops Q rest (a.put dst (.agg cs.toArray)) w) : wpList Try.prog ops Q (⟨dst, .build 45 parts, ty, pos, af, none⟩ :: rest) a w := by
  subst hl
  exact wpList_buildTo rfl 45 parts rfl dst rfl cs.toArray (by rw [Array.toList_map]; exact hb) h
/-- A row is stored whole into a block that was made just now. -/
theorem stN {P : Program} {ops : Array Oper} {rest : List Oper} {Q : Exit → Act → World → Prop} {a : Act} {w : World} {dst : Option Tmp} {ty : TypeId} {pos : String} {af : Array Edge} {x y : Operand} (t : TypeId) (g : Nat) (cs : Array Value) {old : Array Value} (hgw : w.heap.size = g)
    (hx : a.eval x = .pointer (some ⟨g, 0, none⟩)) (hy : a.eval y = .agg cs) (hi : (P.info? t).map (·.size) = some cs.size) (ho : old.size = cs.size) (ha : cs.all (·.oneCell') = true)
    (h : wpList P ops Q rest (a.put dst undef) (w.alloc (.cells cs t))) : wpList P ops Q (⟨dst, .store t x y, ty, pos, af, none⟩ :: rest) a (w.alloc (.cells old t)) := by
  subst hgw
  refine wpList_store_row rfl _ x y rfl w.heap.size cs hx hy _ old (heap_alloc_new w _) hi ho ha ?_
  rw [World.setRow_alloc_new]
  exact h
theorem ldE {ops : Array Oper} {rest : List Oper} {Q : Exit → Act → World → Prop} {a : Act} {w : World} {dst : Option Tmp} {ty : TypeId} {pos : String} {af : Array Edge} {x : Operand} (g : Nat) {c : List Value} (hc : c.length = 9) (hg : w.heap[g]? = some (.cells c.toArray 45))
    (hx : a.eval x = .pointer (some ⟨g, 0, none⟩)) (h : wpList Try.prog ops Q rest (a.put dst (.agg c.toArray)) w) : wpList Try.prog ops Q (⟨dst, .load 45 x, ty, pos, af, none⟩ :: rest) a w :=
  ldG 45 g hx hg Try.underlying45 rfl (by rw [List.size_toArray, hc]; exact sizeEx) h
theorem stE {ops : Array Oper} {rest : List Oper} {Q : Exit → Act → World → Prop} {a : Act} {w : World} {dst : Option Tmp} {ty : TypeId} {pos : String} {af : Array Edge} {x y : Operand} (g : Nat) {c : List Value} (hc : c.length = 9) (ha : c.toArray.all (·.oneCell') = true) {old : Array Value} (hg : w.heap[g]? = some (.cells old 45)) (ho : old.size = 9)
    (hx : a.eval x = .pointer (some ⟨g, 0, none⟩)) (hy : a.eval y = .agg c.toArray) (h : ∀ Y, Up w g c.toArray 45 Y → wpList Try.prog ops Q rest (a.put dst undef) Y) : wpList Try.prog ops Q (⟨dst, .store 45 x y, ty, pos, af, none⟩ :: rest) a w :=
  stG 45 g c.toArray hx hy hg (by rw [List.size_toArray, hc]; exact sizeEx) (ho.trans (by rw [List.size_toArray, hc])) ha h
theorem stNE {ops : Array Oper} {rest : List Oper} {Q : Exit → Act → World → Prop} {a : Act} {w : World} {dst : Option Tmp} {ty : TypeId} {pos : String} {af : Array Edge} {x y : Operand} (g : Nat) {c : List Value} (hc : c.length = 9) (ha : c.toArray.all (·.oneCell') = true) (hgw : w.heap.size = g) {old : Array Value} (ho : old.size = 9)
    (hx : a.eval x = .pointer (some ⟨g, 0, none⟩)) (hy : a.eval y = .agg c.toArray) (h : wpList Try.prog ops Q rest (a.put dst undef) (w.alloc (.cells c.toArray 45))) : wpList Try.prog ops Q (⟨dst, .store 45 x y, ty, pos, af, none⟩ :: rest) a (w.alloc (.cells old 45)) :=
  stN 45 g c.toArray hgw hx hy (by rw [List.size_toArray, hc]; exact sizeEx) (ho.trans (by rw [List.size_toArray, hc])) ha h
theorem wp_bsG {P : Program} {Q : Exit → Act → World → Prop} {K : Act → World → Prop} {a : Act} {w : World} {dst : Option Tmp} {ty : TypeId} {pos : String} {af : Array Edge} {parts : Array (Nat × Operand)} {t e : TypeId} {z : Value} {s n : Nat} {i : TypeInfo} (vs : List Value)
    (hu : P.underlying t = some (.slice e)) (h1 : P.info? e = some i) (h2 : i.zero = some z) (h3 : i.size = s) (hs : 0 < s) (hs2 : s ≤ 100) (hn : n = vs.length) (hn0 : 0 < n) (hn2 : n ≤ 100)
    (hl : (parts.toList.map fun (i, x) => (i, a.eval x)) = (vs.zipIdx 0).map fun x => (x.2, x.1)) (hv : ∀ v ∈ vs, v.cells.size = s)
    (h : K (a.put dst (.slice (some ⟨w.heap.size, 0, none⟩) n n)) (w.alloc (.cells (vs.flatMap fun v => v.cells.toList).toArray e))) :
    Oper.wp P ⟨dst, .buildSlice t n parts, ty, pos, af, none⟩ a w K Q := by
  have hp : 0 < n * s := Nat.mul_pos hn0 hs
  have hm : n * s ≤ 100 * 100 := Nat.mul_le_mul hn2 hs2
  refine wp_buildSlice t e n _ rfl _ i _ hu h1 h2 (by rw [h3]; omega) (by rw [h3]; omega) ?_ h
  rw [h3, Array.toList_map, hl]
  exact Great.fill_whole hs vs _ hv (by simp [hn])
theorem wp_bsE1 {Q : Exit → Act → World → Prop} {K : Act → World → Prop} {a : Act} {w : World} {dst : Option Tmp} {ty : TypeId} {pos : String} {af : Array Edge} {p : Operand} {c : List Value} (hc : c.length = 9) (hp : a.eval p = .agg c.toArray)
    (h : K (a.put dst (.slice (some ⟨w.heap.size, 0, none⟩) 1 1)) (w.alloc (.cells c.toArray 45))) :
    Oper.wp Try.prog ⟨dst, .buildSlice 33 1 #[(0, p)], ty, pos, af, none⟩ a w K Q := by
  obtain ⟨i, h1, h2, h3⟩ := info_two infoEx
  refine wp_bsG [.agg c.toArray] Try.underlying33 h1 h2 h3 (by decide) (by decide) rfl (by decide) (by decide) ?_ ?_ ?_
  · simp [hp]
  · intro v hv; simp at hv; subst hv; simpa [Value.cells] using hc
  · simpa [Value.cells] using h
theorem wp_bsE2 {Q : Exit → Act → World → Prop} {K : Act → World → Prop} {a : Act} {w : World} {dst : Option Tmp} {ty : TypeId} {pos : String} {af : Array Edge} {p q : Operand} {c d : List Value} (hc : c.length = 9) (hd : d.length = 9) (hp : a.eval p = .agg c.toArray) (hq : a.eval q = .agg d.toArray)
    (h : K (a.put dst (.slice (some ⟨w.heap.size, 0, none⟩) 2 2)) (w.alloc (.cells (c ++ d).toArray 45))) :
    Oper.wp Try.prog ⟨dst, .buildSlice 33 2 #[(0, p), (1, q)], ty, pos, af, none⟩ a w K Q := by
  obtain ⟨i, h1, h2, h3⟩ := info_two infoEx
  refine wp_bsG [.agg c.toArray, .agg d.toArray] Try.underlying33 h1 h2 h3 (by decide) (by decide) rfl (by decide) (by decide) ?_ ?_ ?_
  · simp [hp, hq]
  · intro v hv; simp at hv; rcases hv with rfl | rfl
    · simpa [Value.cells] using hc
    · simpa [Value.cells] using hd
  · simpa [Value.cells] using h
theorem wp_stG {P : Program} {Q : Exit → Act → World → Prop} {K : Act → World → Prop} {a : Act} {w : World} {dst : Option Tmp} {ty : TypeId} {pos : String} {af : Array Edge} {x y : Operand} (t : TypeId) (g : Nat) (cs : Array Value) {old : Array Value}
    (hx : a.eval x = .pointer (some ⟨g, 0, none⟩)) (hy : a.eval y = .agg cs) (hg : w.heap[g]? = some (.cells old t)) (hi : (P.info? t).map (·.size) = some cs.size) (ho : old.size = cs.size) (ha : cs.all (·.oneCell') = true)
    (h : ∀ Y, Up w g cs t Y → K (a.put dst undef) Y) : Oper.wp P ⟨dst, .store t x y, ty, pos, af, none⟩ a w K Q :=
  wp_store_row t x y rfl g cs hx hy t old hg hi ho ha (h _ (up_setRow hg))
theorem yieldsIf_load_row {P : Program} {ops : Array Oper} {S : World → Prop} {op : Oper} {a : Act} (hw : Region.wanted op (yielded ops a.tmps) = true) (ty : TypeId) (x : Operand) (ho : op.op = .load ty x)
    (g : Nat) (hx : a.eval x = .pointer (some ⟨g, 0, none⟩)) (t : TypeId) (cs : Array Value) (fr : Nat × Nat) (d : TypeDesc) (hS : ∀ w : World, S w → w.heap[g]? = some (.cells cs t fr))
    (hu : P.underlying ty = some d) (hd : (match d with | .struct _ | .array _ _ => true | _ => false) = true) (hi : (P.info? ty).map (·.size) = some cs.size) : YieldsIf P ops S op (.agg cs) a :=
  .inl ⟨hw, fun w hw' => by
    unfold execOp
    simp only [ho, hx, Instr.loadAt, Instr.sureAddr, Sem.run_bind, Sem.run_pure, Result.andThen_ok, run_loadVar_row w g t ty cs fr d (hS w hw') hu hd hi]⟩
/-- What is read of a block that was made just now. -/
theorem aa0 (w : World) (o o' : Obj) : ((w.alloc o).alloc o').heap[w.heap.size]? = some o := by
  rw [Below.heap_alloc _ _ _ (by simp)]
  exact heap_alloc_new w o
theorem range_new (w : World) (c : List Value) (t : TypeId) : (w.alloc (.cells c.toArray t)).rangeAt w.heap.size 0 c := fun j v hv => by
  rw [Nat.zero_add, World.cell?_alloc_new]
  simpa using hv
theorem range_row {w : World} {g : Nat} {c : List Value} {t : TypeId} (h : w.heap[g]? = some (.cells c.toArray t)) : w.rangeAt g 0 c := fun j v hv => by
  rw [Nat.zero_add, cell_of_row _ _ _ _ _ _ h]
  simpa using hv
/-- Nothing that was is changed. -/
theorem ExAt.belowS {w w' : World} {S S' : Nat → Prop} {x : PEx} {c : List Value} (h : ExAt w S x c) (hb : Below w.heap.size w w') (hS : ∀ g, S g → S' g) : ExAt w' S' x c := h.keep (fun g hg hl => ⟨hS g hg, hb.block g hl⟩) hb.size
theorem belowA (w : World) (o : Obj) : Below w.heap.size w (w.alloc o) := (Below.refl _ _).alloc (Nat.le_refl _) _
theorem oneL {w : World} {S : Nat → Prop} {x : PEx} {c : List Value} (h : ExAt w S x c) : c.toArray.all (·.oneCell') = true := by
  rw [List.all_toArray, List.all_eq_true]
  exact h.one
theorem oneX (kd : Int) (op nm : ByteArray) (num : Int) (A : Option Addr) (n cap : Nat) (ty : PTy) (at_ : Nat) : (exL kd op nm num (.slice A n cap) ty at_).toArray.all (·.oneCell') = true := by simp [Value.oneCell']
set_option maxHeartbeats 2000000 in
theorem unaryOf_any {w : World} {S : Nat → Prop} {x : PEx} {c : List Value} (op : ByteArray) (at_ : Nat) (h : ExAt w S x c) (hS : ∀ g, w.heap.size ≤ g → S g) :
    Calls Try.prog 75 #[.string op, .agg c.toArray, .int .i64 at_] w fun e w' => ∃ c', e = .returned (.agg c'.toArray) ∧ ExAt w' S (.mk 3 op ⟨#[]⟩ 0 [x] ty0 at_) c' ∧ Below w.heap.size w w' := by
  have hz := Lib.hid h.len
  have hb : ∀ (A : Option Addr) (n m : Nat), Try.prog.built 45 [(0, .int .i64 3), (1, .string op), (4, .slice A n m), (6, .int .i64 at_)] = some (exL 3 op ⟨#[]⟩ 0 (.slice A n m) ty0 at_).toArray := fun _ _ _ => by kernel_rfl
  have HB := Lib.hid hb
  clear hb
  go_enter Try.func75, Try.ntmps75
  go_wp2_with (first | ((with_reducible refine ldG 45 w.heap.size ?_ (aa0 _ _ _) Try.underlying45 ?_ ?_ ?_); rfl; rfl; (rw [List.size_toArray, hz.out]; exact sizeEx)) | ((with_reducible refine bsE1 c hz.out ?_ ?_); rfl))
  have e1 := aa0 (w.alloc (.cells c.toArray 45)) (.cells (exL 3 op ⟨#[]⟩ 0 (.slice (some ⟨w.heap.size + 1 + 1, 0, none⟩) 1 1) ty0 at_).toArray 45) (.cells c.toArray 45)
  rw [szA] at e1
  refine ret_row Try.results75 (w.heap.size + 1) 45 _ _ rfl rfl e1 Try.underlying45 rfl sizeEx ?_
  have hb := ((belowA w (.cells c.toArray 45)).alloc (by simp) (.cells (exL 3 op ⟨#[]⟩ 0 (.slice (some ⟨w.heap.size + 1 + 1, 0, none⟩) 1 1) ty0 at_).toArray 45)).alloc (by simp; omega) (.cells c.toArray 45)
  refine ⟨_, rfl, ExAt.of (ExsAt.one' (h.belowS hb fun _ => id) ?_ (by simp) (hS _ (by omega))), hb⟩
  have := range_new ((w.alloc (.cells c.toArray 45)).alloc (.cells (exL 3 op ⟨#[]⟩ 0 (.slice (some ⟨w.heap.size + 1 + 1, 0, none⟩) 1 1) ty0 at_).toArray 45)) c 45
  rw [szA, szA] at this
  exact this
end Go.Proofs.Ytlobphanodhcoaa
