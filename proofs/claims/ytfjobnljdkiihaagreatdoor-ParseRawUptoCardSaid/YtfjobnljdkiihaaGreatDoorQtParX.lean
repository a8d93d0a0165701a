/- Expressions: what their functions answer; expr. Conditions: each theorem's. -/
import Derived.Test.YtfjobnljdkiihaaGreatDoorQtParT
import Derived.Deep.WholeRow
import Derived.Deep.RegionHeld3
namespace Go.Proofs.YtfjobnljdkiihaaGreatDoor
open Go.RowKit Go.Maps
set_option linter.unusedVariables false
set_option linter.unusedSimpArgs false
set_option maxRecDepth 100000
open Lx Pa
theorem infoEx : (Tryz.prog.info? 39).map (fun i => (i.zero, i.size)) = some (some (.agg (exL 0 ⟨#[]⟩ ⟨#[]⟩ 0 (.slice none 0 0) ty0 0).toArray), 9) := by kernel_rfl
theorem info_two {e : TypeId} {z : Value} {s : Nat} (h : (Tryz.prog.info? e).map (fun i => (i.zero, i.size)) = some (some z, s)) : ∃ i, Tryz.prog.info? e = some i ∧ i.zero = some z ∧ i.size = s := by
 cases hi : Tryz.prog.info? e with
 | none => rw [hi] at h; cases h
 | some i =>
  rw [hi] at h
  simp at h
  exact ⟨i, rfl, h.1, h.2⟩
theorem bsG {P : Program} {ops : Array Oper} {rest : List Oper} {Q : Exit → Act → World → Prop} {a : Act} {w : World} {dst : Option Tmp} {ty : TypeId} {pos : String} {af : Array Edge} {parts : Array (Nat × Operand)} {t e : TypeId} {z : Value} {s n : Nat} {i : TypeInfo} (vs : List Value)
  (hu : P.underlying t = some (.slice e)) (h1 : P.info? e = some i) (h2 : i.zero = some z) (h3 : i.size = s) (hs : 0 < s) (hs2 : s ≤ 100) (hn : n = vs.length) (hn0 : 0 < n) (hn2 : n ≤ 100)
  (hl : (parts.toList.map fun (i, x) => (i, a.eval x)) = (vs.zipIdx 0).map fun x => (x.2, x.1)) (hv : ∀ v ∈ vs, v.cells.size = s)
  (h : wpList P ops Q rest (a.put dst (.slice (some ⟨w.heap.size, 0, none⟩) n n)) (w.alloc (.cells (vs.flatMap fun v => v.cells.toList).toArray e))) :
  wpList P ops Q (⟨dst, .buildSlice t n parts, ty, pos, af, none⟩ :: rest) a w := by
 have hp : 0 < n * s := Nat.mul_pos hn0 hs
 have hm : n * s ≤ 100 * 100 := Nat.mul_le_mul hn2 hs2
 refine wpList_buildSlice rfl t e n _ rfl _ i _ hu h1 h2 (by rw [h3]; omega) (by rw [h3]; omega) ?_ h
 rw [h3, Array.toList_map, hl]
 exact Great.fill_whole hs vs _ hv (by simp [hn])
theorem bsE1 {ops : Array Oper} {rest : List Oper} {Q : Exit → Act → World → Prop} {a : Act} {w : World} {dst : Option Tmp} {ty : TypeId} {pos : String} {af : Array Edge} {p : Operand} (c : List Value) (hc : c.length = 9) (hp : a.eval p = .agg c.toArray)
  (h : wpList Tryz.prog ops Q rest (a.put dst (.slice (some ⟨w.heap.size, 0, none⟩) 1 1)) (w.alloc (.cells c.toArray 39))) :
  wpList Tryz.prog ops Q (⟨dst, .buildSlice 35 1 #[(0, p)], ty, pos, af, none⟩ :: rest) a w := by
 obtain ⟨i, h1, h2, h3⟩ := info_two infoEx
 refine bsG [.agg c.toArray] Tryz.underlying35 h1 h2 h3 (by decide) (by decide) rfl (by decide) (by decide) ?_ ?_ ?_
 ·simp [hp]
 ·intro v hv; simp at hv; subst hv; simpa [Value.cells] using hc
 ·simpa [Value.cells] using h
theorem bsE2 {ops : Array Oper} {rest : List Oper} {Q : Exit → Act → World → Prop} {a : Act} {w : World} {dst : Option Tmp} {ty : TypeId} {pos : String} {af : Array Edge} {p q : Operand} (c d : List Value) (hc : c.length = 9) (hd : d.length = 9) (hp : a.eval p = .agg c.toArray) (hq : a.eval q = .agg d.toArray)
  (h : wpList Tryz.prog ops Q rest (a.put dst (.slice (some ⟨w.heap.size, 0, none⟩) 2 2)) (w.alloc (.cells (c ++ d).toArray 39))) :
  wpList Tryz.prog ops Q (⟨dst, .buildSlice 35 2 #[(0, p), (1, q)], ty, pos, af, none⟩ :: rest) a w := by
 obtain ⟨i, h1, h2, h3⟩ := info_two infoEx
 refine bsG [.agg c.toArray, .agg d.toArray] Tryz.underlying35 h1 h2 h3 (by decide) (by decide) rfl (by decide) (by decide) ?_ ?_ ?_
 ·simp [hp, hq]
 ·intro v hv; simp at hv; rcases hv with rfl | rfl
  ·simpa [Value.cells] using hc
  ·simpa [Value.cells] using hd
 ·simpa [Value.cells] using h
theorem stN {P : Program} {ops : Array Oper} {rest : List Oper} {Q : Exit → Act → World → Prop} {a : Act} {w : World} {dst : Option Tmp} {ty : TypeId} {pos : String} {af : Array Edge} {x y : Operand} (t : TypeId) (g : Nat) (cs : Array Value) {old : Array Value} (hgw : w.heap.size = g)
  (hx : a.eval x = .pointer (some ⟨g, 0, none⟩)) (hy : a.eval y = .agg cs) (hi : (P.info? t).map (·.size) = some cs.size) (ho : old.size = cs.size) (ha : cs.all (·.oneCell') = true)
  (h : wpList P ops Q rest (a.put dst undef) (w.alloc (.cells cs t))) : wpList P ops Q (⟨dst, .store t x y, ty, pos, af, none⟩ :: rest) a (w.alloc (.cells old t)) := by
 subst hgw
 refine wpList_store_row rfl _ x y rfl w.heap.size cs hx hy _ old (heap_alloc_new w _) hi ho ha ?_
 rw [World.setRow_alloc_new]
 exact h
theorem ldE {ops : Array Oper} {rest : List Oper} {Q : Exit → Act → World → Prop} {a : Act} {w : World} {dst : Option Tmp} {ty : TypeId} {pos : String} {af : Array Edge} {x : Operand} (g : Nat) {c : List Value} (hc : c.length = 9) (hg : w.heap[g]? = some (.cells c.toArray 39))
  (hx : a.eval x = .pointer (some ⟨g, 0, none⟩)) (h : wpList Tryz.prog ops Q rest (a.put dst (.agg c.toArray)) w) : wpList Tryz.prog ops Q (⟨dst, .load 39 x, ty, pos, af, none⟩ :: rest) a w :=
 ldG 39 g hx hg Tryz.underlying39 rfl (by rw [List.size_toArray, hc]; exact sizeEx) h
theorem stE {ops : Array Oper} {rest : List Oper} {Q : Exit → Act → World → Prop} {a : Act} {w : World} {dst : Option Tmp} {ty : TypeId} {pos : String} {af : Array Edge} {x y : Operand} (g : Nat) {c : List Value} (hc : c.length = 9) (ha : c.toArray.all (·.oneCell') = true) {old : Array Value} (hg : w.heap[g]? = some (.cells old 39)) (ho : old.size = 9)
  (hx : a.eval x = .pointer (some ⟨g, 0, none⟩)) (hy : a.eval y = .agg c.toArray) (h : ∀ Y, Up w g c.toArray 39 Y → wpList Tryz.prog ops Q rest (a.put dst undef) Y) : wpList Tryz.prog ops Q (⟨dst, .store 39 x y, ty, pos, af, none⟩ :: rest) a w :=
 stG 39 g c.toArray hx hy hg (by rw [List.size_toArray, hc]; exact sizeEx) (ho.trans (by rw [List.size_toArray, hc])) ha h
theorem stNE {ops : Array Oper} {rest : List Oper} {Q : Exit → Act → World → Prop} {a : Act} {w : World} {dst : Option Tmp} {ty : TypeId} {pos : String} {af : Array Edge} {x y : Operand} (g : Nat) {c : List Value} (hc : c.length = 9) (ha : c.toArray.all (·.oneCell') = true) (hgw : w.heap.size = g) {old : Array Value} (ho : old.size = 9)
  (hx : a.eval x = .pointer (some ⟨g, 0, none⟩)) (hy : a.eval y = .agg c.toArray) (h : wpList Tryz.prog ops Q rest (a.put dst undef) (w.alloc (.cells c.toArray 39))) : wpList Tryz.prog ops Q (⟨dst, .store 39 x y, ty, pos, af, none⟩ :: rest) a (w.alloc (.cells old 39)) :=
 stN 39 g c.toArray hgw hx hy (by rw [List.size_toArray, hc]; exact sizeEx) (ho.trans (by rw [List.size_toArray, hc])) ha h
theorem wp_bsG {P : Program} {Q : Exit → Act → World → Prop} {K : Act → World → Prop} {a : Act} {w : World} {dst : Option Tmp} {ty : TypeId} {pos : String} {af : Array Edge} {parts : Array (Nat × Operand)} {t e : TypeId} {z : Value} {s n : Nat} {i : TypeInfo} (vs : List Value)
  (hu : P.underlying t = some (.slice e)) (h1 : P.info? e = some i) (h2 : i.zero = some z) (h3 : i.size = s) (hs : 0 < s) (hs2 : s ≤ 100) (hn : n = vs.length) (hn0 : 0 < n) (hn2 : n ≤ 100)
  (hl : (parts.toList.map fun (i, x) => (i, a.eval x)) = (vs.zipIdx 0).map fun x => (x.2, x.1)) (hv : ∀ v ∈ vs, v.cells.size = s)
  (h : K (a.put dst (.slice (some ⟨w.heap.size, 0, none⟩) n n)) (w.alloc (.cells (vs.flatMap fun v => v.cells.toList).toArray e))) :
  Oper.wp P ⟨dst, .buildSlice t n parts, ty, pos, af, none⟩ a w K Q := by
 have hp : 0 < n * s := Nat.mul_pos hn0 hs
 have hm : n * s ≤ 100 * 100 := Nat.mul_le_mul hn2 hs2
 refine wp_buildSlice t e n _ rfl _ i _ hu h1 h2 (by rw [h3]; omega) (by rw [h3]; omega) ?_ h
 rw [h3, Array.toList_map, hl]
 exact Great.fill_whole hs vs _ hv (by simp [hn])
theorem wp_bsE1 {Q : Exit → Act → World → Prop} {K : Act → World → Prop} {a : Act} {w : World} {dst : Option Tmp} {ty : TypeId} {pos : String} {af : Array Edge} {p : Operand} {c : List Value} (hc : c.length = 9) (hp : a.eval p = .agg c.toArray)
  (h : K (a.put dst (.slice (some ⟨w.heap.size, 0, none⟩) 1 1)) (w.alloc (.cells c.toArray 39))) :
  Oper.wp Tryz.prog ⟨dst, .buildSlice 35 1 #[(0, p)], ty, pos, af, none⟩ a w K Q := by
 obtain ⟨i, h1, h2, h3⟩ := info_two infoEx
 refine wp_bsG [.agg c.toArray] Tryz.underlying35 h1 h2 h3 (by decide) (by decide) rfl (by decide) (by decide) ?_ ?_ ?_
 ·simp [hp]
 ·intro v hv; simp at hv; subst hv; simpa [Value.cells] using hc
 ·simpa [Value.cells] using h
theorem wp_bsE2 {Q : Exit → Act → World → Prop} {K : Act → World → Prop} {a : Act} {w : World} {dst : Option Tmp} {ty : TypeId} {pos : String} {af : Array Edge} {p q : Operand} {c d : List Value} (hc : c.length = 9) (hd : d.length = 9) (hp : a.eval p = .agg c.toArray) (hq : a.eval q = .agg d.toArray)
  (h : K (a.put dst (.slice (some ⟨w.heap.size, 0, none⟩) 2 2)) (w.alloc (.cells (c ++ d).toArray 39))) :
  Oper.wp Tryz.prog ⟨dst, .buildSlice 35 2 #[(0, p), (1, q)], ty, pos, af, none⟩ a w K Q := by
 obtain ⟨i, h1, h2, h3⟩ := info_two infoEx
 refine wp_bsG [.agg c.toArray, .agg d.toArray] Tryz.underlying35 h1 h2 h3 (by decide) (by decide) rfl (by decide) (by decide) ?_ ?_ ?_
 ·simp [hp, hq]
 ·intro v hv; simp at hv; rcases hv with rfl | rfl
  ·simpa [Value.cells] using hc
  ·simpa [Value.cells] using hd
 ·simpa [Value.cells] using h
theorem wp_stG {P : Program} {Q : Exit → Act → World → Prop} {K : Act → World → Prop} {a : Act} {w : World} {dst : Option Tmp} {ty : TypeId} {pos : String} {af : Array Edge} {x y : Operand} (t : TypeId) (g : Nat) (cs : Array Value) {old : Array Value}
  (hx : a.eval x = .pointer (some ⟨g, 0, none⟩)) (hy : a.eval y = .agg cs) (hg : w.heap[g]? = some (.cells old t)) (hi : (P.info? t).map (·.size) = some cs.size) (ho : old.size = cs.size) (ha : cs.all (·.oneCell') = true)
  (h : ∀ Y, Up w g cs t Y → K (a.put dst undef) Y) : Oper.wp P ⟨dst, .store t x y, ty, pos, af, none⟩ a w K Q :=
 wp_store_row t x y rfl g cs hx hy t old hg hi ho ha (h _ (up_setRow hg))
theorem yieldsIf_load_row {P : Program} {ops : Array Oper} {S : World → Prop} {op : Oper} {a : Act} (hw : Region.wanted op (yielded ops a.tmps) = true) (ty : TypeId) (x : Operand) (ho : op.op = .load ty x)
  (g : Nat) (hx : a.eval x = .pointer (some ⟨g, 0, none⟩)) (t : TypeId) (cs : Array Value) (fr : Nat × Nat) (d : TypeDesc) (hS : ∀ w : World, S w → w.heap[g]? = some (.cells cs t fr))
  (hu : P.underlying ty = some d) (hd : (match d with | .struct _ | .array _ _ => true | _ => false) = true) (hi : (P.info? ty).map (·.size) = some cs.size) : YieldsIf P ops S op (.agg cs) a :=
 .inl ⟨hw, fun w hw' => by
  unfold execOp
  simp only [ho, hx, Instr.loadAt, Instr.sureAddr, Sem.run_bind, Sem.run_pure, Result.andThen_ok, run_loadVar_row w g t ty cs fr d (hS w hw') hu hd hi]⟩
theorem aa0 (w : World) (o o' : Obj) : ((w.alloc o).alloc o').heap[w.heap.size]? = some o := by
 rw [Below.heap_alloc _ _ _ (by simp)]
 exact heap_alloc_new w o
theorem range_new (w : World) (c : List Value) (t : TypeId) : (w.alloc (.cells c.toArray t)).rangeAt w.heap.size 0 c := fun j v hv => by
 rw [Nat.zero_add, World.cell?_alloc_new]
 simpa using hv
theorem range_row {w : World} {g : Nat} {c : List Value} {t : TypeId} (h : w.heap[g]? = some (.cells c.toArray t)) : w.rangeAt g 0 c := fun j v hv => by
 rw [Nat.zero_add, cell_of_row _ _ _ _ _ _ h]
 simpa using hv
theorem ExAt.belowS {w w' : World} {S S' : Nat → Prop} {x : PEx} {c : List Value} (h : ExAt w S x c) (hb : Below w.heap.size w w') (hS : ∀ g, S g → S' g) : ExAt w' S' x c := h.keep (fun g hg hl => ⟨hS g hg, hb.block g hl⟩) hb.size
theorem belowA (w : World) (o : Obj) : Below w.heap.size w (w.alloc o) := (Below.refl _ _).alloc (Nat.le_refl _) _
theorem oneL {w : World} {S : Nat → Prop} {x : PEx} {c : List Value} (h : ExAt w S x c) : c.toArray.all (·.oneCell') = true := by
 rw [List.all_toArray, List.all_eq_true]
 exact h.one
theorem oneX (kd : Int) (op nm : ByteArray) (num : Int) (A : Option Addr) (n cap : Nat) (ty : PTy) (at_ : Nat) : (exL kd op nm num (.slice A n cap) ty at_).toArray.all (·.oneCell') = true := by simp [Value.oneCell']
set_option maxHeartbeats 2000000 in
theorem unaryOf_any {w : World} {S : Nat → Prop} {x : PEx} {c : List Value} (op : ByteArray) (at_ : Nat) (h : ExAt w S x c) (hS : ∀ g, w.heap.size ≤ g → S g) :
  Calls Tryz.prog 137 #[.string op, .agg c.toArray, .int .i64 at_] w fun e w' => ∃ c', e = .returned (.agg c'.toArray) ∧ ExAt w' S (.mk 3 op ⟨#[]⟩ 0 [x] ty0 at_) c' ∧ Below w.heap.size w w' := by
 have hz := Lib.hid h.len
 have hb : ∀ (A : Option Addr) (n m : Nat), Tryz.prog.built 39 [(0, .int .i64 3), (1, .string op), (4, .slice A n m), (6, .int .i64 at_)] = some (exL 3 op ⟨#[]⟩ 0 (.slice A n m) ty0 at_).toArray := fun _ _ _ => by kernel_rfl
 have HB := Lib.hid hb
 clear hb
 go_enter Tryz.func137, Tryz.ntmps137
 go_wp2_with (first | ((with_reducible refine ldG 39 w.heap.size ?_ (aa0 _ _ _) Tryz.underlying39 ?_ ?_ ?_); rfl; rfl; (rw [List.size_toArray, hz.out]; exact sizeEx)) | ((with_reducible refine bsE1 c hz.out ?_ ?_); rfl))
 have e1 := aa0 (w.alloc (.cells c.toArray 39)) (.cells (exL 3 op ⟨#[]⟩ 0 (.slice (some ⟨w.heap.size + 1 + 1, 0, none⟩) 1 1) ty0 at_).toArray 39) (.cells c.toArray 39)
 rw [szA] at e1
 refine ret_row Tryz.results137 (w.heap.size + 1) 39 _ _ rfl rfl e1 Tryz.underlying39 rfl sizeEx ?_
 have hb := ((belowA w (.cells c.toArray 39)).alloc (by simp) (.cells (exL 3 op ⟨#[]⟩ 0 (.slice (some ⟨w.heap.size + 1 + 1, 0, none⟩) 1 1) ty0 at_).toArray 39)).alloc (by simp; omega) (.cells c.toArray 39)
 refine ⟨_, rfl, ExAt.of (ExsAt.one' (h.belowS hb fun _ => id) ?_ (by simp) (hS _ (by omega))), hb⟩
 have := range_new ((w.alloc (.cells c.toArray 39)).alloc (.cells (exL 3 op ⟨#[]⟩ 0 (.slice (some ⟨w.heap.size + 1 + 1, 0, none⟩) 1 1) ty0 at_).toArray 39)) c 39
 rw [szA, szA] at this
 exact this
def PostE (w : World) (R M : Nat) (x : PEx) (s' : Pa.S) (e : Ending) (w' : World) : Prop :=
 ∃ c : List Value, e = .returned (.agg c.toArray) ∧ ExAt w' (fun g => w.heap.size ≤ g) x c ∧ RdAt w' R M s' ∧ Fr [R] w w'
def ExprC (f : Nat) : Prop := ∀ (R M d : Nat) (s : Pa.S) (w : World), RdAt w R M s → 8 * s.tk.length + 5 ≤ f → d + f ≤ 60000 → Calls Tryz.prog 124 #[.pointer (some ⟨R, 0, none⟩), .int .i64 d] w (PostE w R M (hd1 (runE f (.expr d) s)) (runE f (.expr d) s).2)
def BinC (f : Nat) : Prop := ∀ (R M d : Nat) (l : Int) (s : Pa.S) (w : World), RdAt w R M s → 8 * s.tk.length + 4 ≤ f → d + f ≤ 60000 → 1 ≤ l → l ≤ 11 → Calls Tryz.prog 133 #[.pointer (some ⟨R, 0, none⟩), .int .i64 d, .int .i64 l] w (PostE w R M (hd1 (runE f (.bin d l) s)) (runE f (.bin d l) s).2)
def UnC (f : Nat) : Prop := ∀ (R M d : Nat) (s : Pa.S) (w : World), RdAt w R M s → 8 * s.tk.length + 3 ≤ f → d + f ≤ 60000 → Calls Tryz.prog 136 #[.pointer (some ⟨R, 0, none⟩), .int .i64 d] w (PostE w R M (hd1 (runE f (.un d) s)) (runE f (.un d) s).2)
def CastC (f : Nat) : Prop := ∀ (R M a d : Nat) (s : Pa.S) (w : World), RdAt w R M s → 8 * s.tk.length + 7 ≤ f → d + f ≤ 60000 → Calls Tryz.prog 139 #[.pointer (some ⟨R, 0, none⟩), .int .i64 a, .int .i64 d] w (PostE w R M (hd1 (runE f (.cast a d) s)) (runE f (.cast a d) s).2)
def InsideC (f : Nat) : Prop := ∀ (R M d : Nat) (s : Pa.S) (w : World), RdAt w R M s → 8 * s.tk.length + 6 ≤ f → d + f ≤ 60000 → Calls Tryz.prog 141 #[.pointer (some ⟨R, 0, none⟩), .int .i64 d] w (PostE w R M (hd1 (runE f (.inside d) s)) (runE f (.inside d) s).2)
def PostC (f : Nat) : Prop := ∀ (R M d : Nat) (s : Pa.S) (w : World), RdAt w R M s → 8 * s.tk.length + 2 ≤ f → d + f ≤ 60000 → Calls Tryz.prog 140 #[.pointer (some ⟨R, 0, none⟩), .int .i64 d] w (PostE w R M (hd1 (runE f (.post d) s)) (runE f (.post d) s).2)
def AtomC (f : Nat) : Prop := ∀ (R M d : Nat) (s : Pa.S) (w : World), RdAt w R M s → 8 * s.tk.length + 1 ≤ f → d + f ≤ 60000 → Calls Tryz.prog 142 #[.pointer (some ⟨R, 0, none⟩), .int .i64 d] w (PostE w R M (hd1 (runE f (.atom d) s)) (runE f (.atom d) s).2)
def UseC (f : Nat) : Prop := ∀ (R M d : Nat) (k : Int) (nm : ByteArray) (a : Nat) (s : Pa.S) (w : World), RdAt w R M s → 8 * s.tk.length + 1 ≤ f → d + f ≤ 60000 → Calls Tryz.prog 144 #[.pointer (some ⟨R, 0, none⟩), .agg #[.int .i64 k, .string nm, .int .i64 a], .int .i64 d] w (PostE w R M (hd1 (runE f (.use nm a d) s)) (runE f (.use nm a d) s).2)
abbrev exZ : Array Value := #[.int .i64 0, .string ⟨#[]⟩, .string ⟨#[]⟩, .int .u64 0, .slice none 0 0, .int .i64 0, .int .i64 0, .string ⟨#[]⟩, .int .i64 0]
theorem row_cell {w : World} {g i : Nat} {c : List Value} {t : TypeId} {v : Value} (hg : w.heap[g]? = some (.cells c.toArray t)) (hc : c[i]? = some v) : w.cell? ⟨g, i, none⟩ = some v := by
 rw [cell_of_row _ _ _ _ _ _ hg]
 simpa using hc
def RowE (W : World) (r : Nat) : Prop := ∃ old : Array Value, old.size = 9 ∧ W.heap[r]? = some (.cells old 39)
theorem RowE.fr {S : List Nat} {w w' : World} {r : Nat} (h : RowE w r) (f : Fr S w w') (hr : r ∉ S) : RowE w' r := by obtain ⟨old, h1, h2⟩ := h; exact ⟨old, h1, f.at_ h2 hr⟩
theorem RowE.alloc {w : World} {r : Nat} (h : RowE w r) (o : Obj) : RowE (w.alloc o) r := by obtain ⟨old, h1, h2⟩ := h; exact ⟨old, h1, (Below.heap_alloc w o _ (lt_of_at h2)).trans h2⟩
theorem heldE {W : World} {b r at_ : Nat} {c : List Value} (h1 : W.heap[b]? = some (.cells c.toArray 39)) (h8 : c[8]? = some (.int .i64 at_)) (h2 : RowE W r) :
  W.heap[b]? = some (.cells c.toArray 39) ∧ W.cell? ⟨b, 8, none⟩ = some (.int .i64 at_) ∧ RowE W r := ⟨h1, row_cell h1 h8, h2⟩
set_option maxHeartbeats 8000000 in
theorem expr_step {f : Nat} (HB : BinC f) (HE : ExprC f) : ExprC (f + 1) := by
 intro R M d s w h hf hd
 have hR := h.lt
 have hen : En (.bin d 1) s f := ⟨h.ok, by simp only [rank]; omega, Int.le_refl _⟩
 have hle := (runE_le f (.bin d 1) s hen).1
 have hlen := hle.len
 have hrun : runE (f + 1) (.expr d) s = if (runE f (.bin d 1) s).2.is ⟨#[61]⟩ then ([.mk 5 eB eB 0 [hd1 (runE f (.bin d 1) s), hd1 (runE f (.expr (d + 1)) (runE f (.bin d 1) s).2.tl)] ty0 (hd1 (runE f (.bin d 1) s)).at_], (runE f (.expr (d + 1)) (runE f (.bin d 1) s).2.tl).2) else ([hd1 (runE f (.bin d 1) s)], (runE f (.bin d 1) s).2) := by
  simp only [runE]
 have HRUN := Lib.hid hrun
 have h0 := h.alloc (.cells exZ 39)
 have HR0 := Lib.hid (heap_alloc_new w (.cells exZ 39))
 have HS0 := Lib.hid (szA w (.cells exZ 39))
 have hbin := HB R M d 1 s _ h0 (by omega) (by omega) (by omega) (by omega)
 clear hrun hle
 generalize hx : hd1 (runE f (.bin d 1) s) = x at *
 generalize hs1 : (runE f (.bin d 1) s).2 = s1 at *
 have HEN := Lib.hid hen
 clear hen hx hs1
 go_enter Tryz.func124, Tryz.ntmps124
 go_wp2_with fail
 refine hbin.mono ?_
 rintro e w1 ⟨c, rfl, hc, h1, f1⟩
 clear hbin
 have HR1 := Lib.hid (f1.at_ HR0.out (by simp; omega))
 have z1 : w.heap.size + 1 ≤ w1.heap.size := by have := f1.size; rw [HS0.out] at this; exact this
 have F1 := ((Fr.refl [R] w).alloc _).trans f1
 have HC := Lib.hid hc.len
 have HA := Lib.hid (oneL hc)
 have h2 := h1.alloc (.cells c.toArray 39)
 have HR2 := Lib.hid ((Below.heap_alloc w1 (.cells c.toArray 39) w.heap.size (by omega)).trans HR1.out)
 have HB2 := Lib.hid (heap_alloc_new w1 (.cells c.toArray 39))
 have hc2 := hc.keep (w' := w1.alloc (.cells c.toArray 39)) (S' := fun g => w.heap.size + 1 ≤ g ∧ g ≠ w1.heap.size) (fun g hg hl => ⟨⟨by rw [HS0.out] at hg; exact hg, by omega⟩, Below.heap_alloc _ _ _ hl⟩) (by simp)
 have hta := take_any ⟨#[61]⟩ (by decide) h2
 cases hb : s1.is ⟨#[61]⟩ with
 | false =>
  have ht : s1.take ⟨#[61]⟩ = s1 := by unfold S.take; rw [hb]; rfl
  rw [hb, ht] at hta
  have HC2 := Lib.hid hc2
  have HH2 := Lib.hid h2
  go_wp2_with (((with_reducible refine stNE w1.heap.size HC.out HA.out rfl ?_ ?_ ?_ ?_); rfl; rfl; rfl))
  refine hta.mono ?_
  rintro e w3 ⟨rfl, h3, f3⟩
  clear hta
  have HR3 := Lib.hid (f3.at_ HR2.out (by simp; omega))
  have HB3 := Lib.hid (f3.at_ HB2.out (by simp; omega))
  have hc3 := HC2.out.keep (w' := w3) (S' := fun g => w.heap.size + 1 ≤ g) (fun g hg hl => ⟨hg.1, f3.block g hl (by simp; omega)⟩) f3.size
  have F3 := (F1.alloc (.cells c.toArray 39)).trans f3
  have HC3 := Lib.hid hc3
  clear hc2 hc3 hc h2
  go_wp2_with (first | ((with_reducible refine ldE w1.heap.size HC.out HB3.out ?_ ?_); rfl) | ((with_reducible refine stE w.heap.size HC.out HA.out HR3.out ?_ ?_ ?_ ?_); rfl; rfl; rfl; intro Y hY; have HY := Lib.hid hY; clear hY))
  refine ret_row Tryz.results124 w.heap.size 39 _ _ rfl rfl HY.out.at_ Tryz.underlying39 rfl (by rw [List.size_toArray, HC.out]; exact sizeEx) ?_
  rw [HRUN.out, if_neg (by rw [hb]; decide)]
  exact ⟨c, rfl, HC3.out.keep (fun g hg hl => ⟨by omega, HY.out.oth g (by omega)⟩) (Nat.le_of_eq HY.out.size.symm), h3.up HY.out HR3.out (by decide) (by decide), F3.up HY.out (Nat.le_refl _)⟩
 | true =>
  have ht : s1.take ⟨#[61]⟩ = s1.tl := by unfold S.take; rw [hb]; rfl
  rw [hb, ht] at hta
  have HC2 := Lib.hid hc2
  have HH2 := Lib.hid h2
  have hne := is_ne hb (by decide)
  have htl := (tl_ok h1.ok hne).2
  go_wp2_with (((with_reducible refine stNE w1.heap.size HC.out HA.out rfl ?_ ?_ ?_ ?_); rfl; rfl; rfl))
  refine hta.mono ?_
  rintro e w3 ⟨rfl, h3, f3⟩
  clear hta
  have HR3 := f3.at_ HR2.out (by simp; omega)
  have HB3 := f3.at_ HB2.out (by simp; omega)
  have hc3 := HC2.out.keep (w' := w3) (S' := fun g => w.heap.size + 1 ≤ g ∧ g ≠ w1.heap.size) (fun g hg hl => ⟨hg, f3.block g hl (by simp; omega)⟩) f3.size
  have F3 := (F1.alloc (.cells c.toArray 39)).trans f3
  have hw : IntKind.i64.wrap ((d : Int) + 1) = (d : Int) + 1 := IntWalk.i64_in _ (by omega)
  have hexp := HE R M (d + 1) s1.tl w3.drew (h3.below ((Below.refl _ _).drew)) (by omega) (by omega)
  rw [show ((d + 1 : Nat) : Int) = (d : Int) + 1 from rfl] at hexp
  have H8 := Lib.hid hc.at8
  clear hc hc2 h2
  go_wp2_with fail
  refine wp_region_held_drew (S := fun W : World => W.heap[w1.heap.size]? = some (.cells c.toArray 39) ∧ W.cell? ⟨w1.heap.size, 8, none⟩ = some (.int .i64 x.at_) ∧ RowE W w.heap.size) (by kernel_rfl) (heldE HB3 H8.out ⟨_, rfl, HR3⟩) (fun hHeld => ?_)
  refine wpAnyH_take (i := 0) (oi := ⟨some 13, .load 39 (.tmp 5), 39, "exprs.go:25", #[], none⟩) (v := .agg c.toArray) rfl (by kernel_rfl) (by kernel_rfl) (by kernel_rfl) (fun _ _ _ h => h) (yieldsIf_load_row (by rfl) 39 (.tmp 5) rfl w1.heap.size rfl 39 c.toArray (0, 0) _ (fun W hW => hW.1) Tryz.underlying39 rfl (by rw [List.size_toArray, HC.out]; exact sizeEx)) (by assumption) ?_
  simp only [Act.put, sZa, sZb, sZc]
  refine wpAnyH_take (i := 1) (oi := ⟨some 14, .move (.tmp 0), 87, "exprs.go:25", #[], none⟩) (v := .pointer (some ⟨R, 0, none⟩)) rfl (by kernel_rfl) (by kernel_rfl) (by kernel_rfl) (fun _ _ _ h => h) (Or.inl ⟨by rfl, ?hy2⟩) (by assumption) ?_
  case hy2 => ((intro W hSW; (try dsimp only at hSW); go_simp); (try with_reducible rfl); (try exact ⟨rfl, rfl, rfl⟩))
  simp only [Act.put, sZa, sZb, sZc]
  refine wpAnyH_take (i := 2) (oi := ⟨some 15, .move (.tmp 1), 3, "exprs.go:25", #[], none⟩) (v := .int .i64 d) rfl (by kernel_rfl) (by kernel_rfl) (by kernel_rfl) (fun _ _ _ h => h) (Or.inl ⟨by rfl, ?hy3⟩) (by assumption) ?_
  case hy3 => ((intro W hSW; (try dsimp only at hSW); go_simp); (try with_reducible rfl); (try exact ⟨rfl, rfl, rfl⟩))
  simp only [Act.put, sZa, sZb, sZc]
  refine wpAnyH_take (i := 3) (oi := ⟨some 16, .binOp .add 3 (.tmp 15) (.const (Go.Value.int Go.IntKind.i64 1)) 3, 3, "exprs.go:25", #[⟨2, .data⟩], none⟩) (v := .int .i64 ((d : Int) + 1)) rfl (by kernel_rfl) (by kernel_rfl) (by kernel_rfl) (fun _ _ _ h => h) (Or.inl ⟨by rfl, ?hy4⟩) (by assumption) ?_
  case hy4 => ((intro W hSW; (try dsimp only at hSW); go_simp); (try with_reducible rfl); (try exact ⟨rfl, rfl, rfl⟩))
  simp only [Act.put, sZa, sZb, sZc]
  refine wpAnyH_take (i := 6) (oi := ⟨some 19, .fieldAddr 39 (.tmp 5) 6, 0, "exprs.go:25", #[], none⟩) (v := .pointer (some ⟨w1.heap.size, 8, none⟩)) rfl (by kernel_rfl) (by kernel_rfl) (by kernel_rfl) (fun _ _ _ h => h) (Or.inl ⟨by rfl, ?hy5⟩) (by assumption) ?_
  case hy5 => ((intro W hSW; (try dsimp only at hSW); go_simp); (try with_reducible rfl); (try exact ⟨rfl, rfl, rfl⟩))
  simp only [Act.put, sZa, sZb, sZc]
  refine wpAnyH_take (i := 7) (oi := ⟨some 20, .load 3 (.tmp 19), 3, "exprs.go:25", #[⟨6, .data⟩], none⟩) (v := .int .i64 x.at_) rfl (by kernel_rfl) (by kernel_rfl) (by kernel_rfl) (fun _ _ _ h => h) (Or.inl ⟨by rfl, ?hy6⟩) (by assumption) ?_
  case hy6 => ((intro W hSW; (try dsimp only at hSW); go_simp); (try with_reducible rfl); (try exact ⟨rfl, rfl, rfl⟩))
  simp only [Act.put, sZa, sZb, sZc]
  refine wpAnyH_ready (rs := [4]) (by kernel_rfl) (by simp) ?_
  refine AllReadyH.cons (o := ⟨some 17, .call { callee := .value (.func 124), args := #[.tmp 14, .tmp 16], argTypes := #[87, 3] }, 39, "exprs.go:25", #[⟨1, .data⟩, ⟨3, .data⟩], none⟩) rfl (fun K hK => ?_) AllReadyH.nil
  go_simp
  refine hexp.mono ?_
  rintro e w4 ⟨c4, rfl, hx4, h4, f4⟩
  have HC4 := Lib.hid hx4.len
  have HB4 := Lib.hid (f4.at_ hHeld.1 (by simp; omega))
  have HR4 := Lib.hid (hHeld.2.2.fr f4 (by simp; omega))
  have z4 := f4.size
  try go_wp2_with fail
  refine hK.out _ _ (heldE HB4.out H8.out HR4.out) (fun hHeld => ?_)
  clear hK K
  try simp only [Act.put, sZa, sZb, sZc]
  refine wpAnyH_ready (rs := [5]) (by kernel_rfl) (by simp) ?_
  refine AllReadyH.cons (o := ⟨some 18, .buildSlice 35 2 #[(0, .tmp 13), (1, .tmp 17)], 35, "exprs.go:25", #[⟨0, .data⟩, ⟨4, .data⟩], none⟩) rfl (fun K hK => ?_) AllReadyH.nil
  rw [if_pos (by rfl)]
  refine wp_bsE2 HC.out HC4.out (by rfl) (by rfl) ?_
  refine hK.out _ _ (heldE ((Below.heap_alloc w4 _ _ (lt_of_at HB4.out)).trans HB4.out) H8.out (HR4.out.alloc _)) (fun hHeld => ?_)
  clear hK K
  try simp only [Act.put, sZa, sZb, sZc]
  refine wpAnyH_take (i := 8) (oi := ⟨some 21, .build 39 #[(0, .const (Go.Value.int Go.IntKind.i64 5)), (4, .tmp 18), (6, .tmp 20)], 39, "exprs.go:25", #[⟨5, .data⟩, ⟨7, .data⟩], none⟩) (v := .agg (exL 5 ⟨#[]⟩ ⟨#[]⟩ 0 (.slice (some ⟨w4.heap.size, 0, none⟩) 2 2) ty0 x.at_).toArray) rfl (by kernel_rfl) (by kernel_rfl) (by kernel_rfl) (fun _ _ _ h => h) (Or.inl ⟨by rfl, ?hy7⟩) (by assumption) ?_
  case hy7 => ((intro W hSW; (try dsimp only at hSW); go_simp); (try with_reducible rfl); (try exact ⟨rfl, rfl, rfl⟩))
  simp only [Act.put, sZa, sZb, sZc]
  refine wpAnyH_ready (rs := [9]) (by kernel_rfl) (by simp) ?_
  refine AllReadyH.cons (o := ⟨none, .store 39 (.tmp 4) (.tmp 21), 0, "exprs.go:25", #[⟨8, .data⟩, ⟨4, .chain⟩, ⟨0, .phase⟩, ⟨1, .phase⟩, ⟨2, .phase⟩, ⟨3, .phase⟩, ⟨4, .phase⟩, ⟨5, .phase⟩, ⟨6, .phase⟩, ⟨7, .phase⟩, ⟨8, .phase⟩], none⟩) rfl (fun K hK => ?_) AllReadyH.nil
  rw [if_pos (by rfl)]
  obtain ⟨old, ho, hro⟩ := hHeld.2.2
  refine wp_stG 39 w.heap.size (exL 5 ⟨#[]⟩ ⟨#[]⟩ 0 (.slice (some ⟨w4.heap.size, 0, none⟩) 2 2) ty0 x.at_).toArray (by rfl) (by rfl) hro sizeEx ho (oneX _ _ _ _ _ _ _ _ _) ?_
  intro Y hY
  have HY := Lib.hid hY
  clear hY
  refine hK.out _ _ (heldE ((HY.out.oth w1.heap.size (by omega)).trans hHeld.1) H8.out ⟨_, rfl, HY.out.at_⟩) (fun hHeld => ?_)
  clear hK K
  try simp only [Act.put, sZa, sZb, sZc]
  refine wpAnyH_done (by kernel_rfl) ?_ _
  have HRO := Lib.hid hro
  have HBW := Lib.hid ((Below.heap_alloc w4 (.cells (c ++ c4).toArray 39) _ (lt_of_at HB4.out)).trans HB4.out)
  clear hHeld hro
  go_wp2
  refine ret_row Tryz.results124 w.heap.size 39 _ _ rfl rfl HY.out.at_ Tryz.underlying39 rfl sizeEx ?_
  rw [HRUN.out, if_pos hb]
  have hsz : (w4.alloc (.cells (c ++ c4).toArray 39)).heap.size = w4.heap.size + 1 := by simp
  have z3 := F3.size
  have z4' : w3.heap.size ≤ w4.heap.size := z4
  have zr := lt_of_at HB3
  have f4' : Fr [R] w3 w4 := ⟨f4.os, f4.tape, f4.output, f4.size, f4.block⟩
  have hz3 : w1.heap.size < w3.heap.size := zr
  refine ⟨_, rfl, ExAt.of (ExsAt.two (c := c) (d := c4) (g := w4.heap.size) ?_ ?_ ?_ (by rw [HY.out.size, hsz]; omega) (by show w.heap.size ≤ w4.heap.size; omega)), ?_, ?_⟩
  ·exact hc3.keep (fun g hg hl => ⟨by have h9 := hg.1; show w.heap.size ≤ g; omega, (HY.out.oth g (by have h9 := hg.1; omega)).trans ((Below.heap_alloc _ _ _ (by omega)).trans (f4'.block g hl (by have h9 := hg.1; simp; omega)))⟩) (by rw [HY.out.size, hsz]; omega)
  ·exact hx4.keep (fun g hg hl => ⟨by show w.heap.size ≤ g; have : w3.heap.size ≤ g := hg; omega, (HY.out.oth g (by have : w3.heap.size ≤ g := hg; omega)).trans (Below.heap_alloc _ _ _ (by omega))⟩) (by rw [HY.out.size, hsz]; omega)
  ·have := range_new w4 (c ++ c4) 39
   intro j v hv
   rw [World.cell?_of_block (w := w4.alloc (.cells (c ++ c4).toArray 39)) (HY.out.oth w4.heap.size (by omega))]
   exact this j v hv
  ·exact (h4.alloc _).up HY.out HRO.out (by decide) (by decide)
  ·exact ((F3.trans ((Fr.refl _ _).drew.trans f4)).alloc _).up HY.out (Nat.le_refl _)
end Go.Proofs.YtfjobnljdkiihaaGreatDoor
