/- A reader of types and names. Conditions: each theorem's. -/
import Derived.Test.YtlobphanodhcoaaParA
import Derived.Deep.RegionHeld3
import Derived.Laws.Small
import Derived.Laws.Rows
import Derived.Laws.Tables
import Derived.Great.BuildSlice
import Derived.StillTailTactics
namespace Go.Proofs.Ytlobphanodhcoaa
open Go.RowKit Go.Maps
set_option linter.unusedVariables false
set_option linter.unusedSimpArgs false
set_option maxRecDepth 100000
open Lx Pa
theorem results_cell {fn : Func} {p : Tmp} {ty : TypeId} (h : fn.results = #[.cell p ty]) (tmps : Array Value) (P : Program) (w : World) :
    (results fn tmps).run P w = ((asAddr (tmps.getD p undef)).run P w).andThen fun a w₁ => (loadVar ty a).run P w₁ := by
  simp only [results, h]
  simp [Sem.run_bind, Result.andThen]
theorem ret_row {P : Program} {fn : Func} {p : Tmp} {ty : TypeId} (h : fn.results = #[.cell p ty]) {Q : Ending → World → Prop} {a : Act} {w : World} (g : Nat) (t : TypeId) (cs : Array Value) (d : TypeDesc) (hdf : a.defers = [])
    (hp : a.tmps.getD p undef = .pointer (some ⟨g, 0, none⟩)) (hg : w.heap[g]? = some (.cells cs t)) (hu : P.underlying ty = some d) (hd : (match d with | .struct _ | .array _ _ => true | _ => false) = true) (hi : (P.info? ty).map (·.size) = some cs.size)
    (hQ : Q (.returned (.agg cs)) w) : bodyPost P fn Q .ret a w :=
  bodyPost_ret (v := .agg cs) (by rw [results_cell h]; simp [hp, asAddr, run_loadVar_row w g t ty cs (0, 0) d hg hu hd hi, Result.andThen]) hdf hQ
theorem sizeTk : (Try.prog.info? 56).map (·.size) = some 3 := by kernel_rfl
theorem sizeTy : (Try.prog.info? 36).map (·.size) = some 3 := by kernel_rfl
theorem sizeVa : (Try.prog.info? 38).map (·.size) = some 6 := by kernel_rfl
theorem sizeEx : (Try.prog.info? 45).map (·.size) = some 9 := by kernel_rfl
theorem sizeSt : (Try.prog.info? 40).map (·.size) = some 10 := by kernel_rfl
theorem sizeFd : (Try.prog.info? 63).map (·.size) = some 5 := by kernel_rfl
theorem sizeSr : (Try.prog.info? 61).map (·.size) = some 3 := by kernel_rfl
theorem sizeFn : (Try.prog.info? 42).map (·.size) = some 16 := by kernel_rfl
theorem sizePr : (Try.prog.info? 27).map (·.size) = some 3 := by kernel_rfl
/-- A row that is stored whole: what the new world is. -/
structure Up (X : World) (g : Nat) (cs : Array Value) (t : TypeId) (Y : World) : Prop where
  at_ : Y.heap[g]? = some (.cells cs t)
  oth : ∀ k, k ≠ g → Y.heap[k]? = X.heap[k]?
  size : Y.heap.size = X.heap.size
  os : Y.os = X.os
  tape : Y.tape = X.tape
  output : Y.output = X.output
theorem up_setRow {X : World} {g : Nat} {old cs : Array Value} {t : TypeId} (hg : X.heap[g]? = some (.cells old t)) : Up X g cs t (X.setRow g cs) :=
  ⟨setRow_heap X g old cs t (0, 0) hg, fun k hk => setRow_other X g k cs hk, by simp, rfl, rfl, rfl⟩
theorem Up.fr {X Y : World} {g : Nat} {cs : Array Value} {t : TypeId} (h : Up X g cs t Y) {S : List Nat} (hg : g ∈ S) : Fr S X Y := ⟨h.os, h.tape, h.output, Nat.le_of_eq h.size.symm, fun k _ hk => h.oth k fun e => hk (e ▸ hg)⟩
theorem Up.below {X Y w : World} {g : Nat} {cs : Array Value} {t : TypeId} {B : Nat} (h : Up X g cs t Y) (hb : Below B w X) (hg : B ≤ g) : Below B w Y := ⟨h.os.trans hb.os, h.tape.trans hb.tape, h.output.trans hb.output, h.size ▸ hb.size, fun k hk => (h.oth k (by omega)).trans (hb.block k hk)⟩
theorem wpList_store_up {P : Program} {ops : Array Oper} {rest : List Oper} {o : Oper} {a : Act} {w : World} {Q : Exit → Act → World → Prop} (hgd : o.guard = none) (ty : TypeId) (x y : Operand) (ho : o.op = .store ty x y)
    (g : Nat) (cells : Array Value) (hx : a.eval x = .pointer (some ⟨g, 0, none⟩)) (hy : a.eval y = .agg cells)
    (t : TypeId) (old : Array Value) (hg : w.heap[g]? = some (.cells old t)) (hi : (P.info? ty).map (·.size) = some cells.size)
    (hold : old.size = cells.size) (h1 : cells.all (·.oneCell') = true)
    (h : ∀ Y, Up w g cells t Y → wpList P ops Q rest (a.put o.dst undef) Y) : wpList P ops Q (o :: rest) a w :=
  wpList_store_row hgd ty x y ho g cells hx hy t old hg hi hold h1 (h _ (up_setRow hg))
/-- A whole row is loaded, or stored, by an operation that is named. -/
theorem ldG {P : Program} {ops : Array Oper} {rest : List Oper} {Q : Exit → Act → World → Prop} {a : Act} {w : World} {dst : Option Tmp} {ty : TypeId} {pos : String} {af : Array Edge} {x : Operand} (t : TypeId) (g : Nat) {cs : Array Value} {d : TypeDesc}
    (hx : a.eval x = .pointer (some ⟨g, 0, none⟩)) (hg : w.heap[g]? = some (.cells cs t)) (hu : P.underlying t = some d) (hd : (match d with | .struct _ | .array _ _ => true | _ => false) = true) (hi : (P.info? t).map (·.size) = some cs.size)
    (h : wpList P ops Q rest (a.put dst (.agg cs)) w) : wpList P ops Q (⟨dst, .load t x, ty, pos, af, none⟩ :: rest) a w :=
  wpList_load_row rfl _ x rfl g hx _ cs (0, 0) _ hg hu hd hi h
theorem stG {P : Program} {ops : Array Oper} {rest : List Oper} {Q : Exit → Act → World → Prop} {a : Act} {w : World} {dst : Option Tmp} {ty : TypeId} {pos : String} {af : Array Edge} {x y : Operand} (t : TypeId) (g : Nat) (cs : Array Value) {old : Array Value}
    (hx : a.eval x = .pointer (some ⟨g, 0, none⟩)) (hy : a.eval y = .agg cs) (hg : w.heap[g]? = some (.cells old t)) (hi : (P.info? t).map (·.size) = some cs.size) (ho : old.size = cs.size) (ha : cs.all (·.oneCell') = true)
    (h : ∀ Y, Up w g cs t Y → wpList P ops Q rest (a.put dst undef) Y) : wpList P ops Q (⟨dst, .store t x y, ty, pos, af, none⟩ :: rest) a w :=
  wpList_store_up rfl _ x y rfl g cs hx hy _ old hg hi ho ha h
theorem strNe {a : ByteArray} (l : List UInt8) (h : ¬ a = ⟨l.toArray⟩) : (a.toList == l) = false := by
  have := strEq a ⟨l.toArray⟩
  rw [Lib.toList_data ⟨l.toArray⟩] at this
  rw [← decide_eq_false h]; exact this
set_option maxHeartbeats 1000000 in
theorem baseOf_any (w : World) (kd : Int) (tx : ByteArray) (at_ : Nat) :
    Calls Try.prog 55 #[.agg #[.int .i64 kd, .string tx, .int .i64 at_]] w fun e w' => e = .returned (.tuple #[.int .i64 ((baseV tx).getD 0), .bool (baseV tx).isSome]) ∧ Below w.heap.size w w' := by
  unfold baseV
  by_cases h0 : tx = ⟨#[118, 111, 105, 100]⟩
  · subst h0
    go_enter Try.func55, Try.ntmps55
    go_wp2
    go_ret2
    exact ⟨rfl, (Below.refl _ _).alloc (Nat.le_refl _) _⟩
  have n0 := strNe [118, 111, 105, 100] h0
  rw [if_neg h0]
  by_cases h1 : tx = ⟨#[99, 104, 97, 114]⟩
  · subst h1
    go_enter Try.func55, Try.ntmps55
    go_wp2
    go_ret2
    exact ⟨rfl, (Below.refl _ _).alloc (Nat.le_refl _) _⟩
  have n1 := strNe [99, 104, 97, 114] h1
  rw [if_neg h1]
  by_cases h2 : tx = ⟨#[105, 110, 116]⟩
  · subst h2
    go_enter Try.func55, Try.ntmps55
    go_wp2
    go_ret2
    exact ⟨rfl, (Below.refl _ _).alloc (Nat.le_refl _) _⟩
  have n2 := strNe [105, 110, 116] h2
  rw [if_neg h2]
  by_cases h3 : tx = ⟨#[108, 111, 110, 103]⟩
  · subst h3
    go_enter Try.func55, Try.ntmps55
    go_wp2
    go_ret2
    exact ⟨rfl, (Below.refl _ _).alloc (Nat.le_refl _) _⟩
  have n3 := strNe [108, 111, 110, 103] h3
  rw [if_neg h3]
  by_cases h4 : tx = ⟨#[115, 116, 114, 117, 99, 116]⟩
  · subst h4
    go_enter Try.func55, Try.ntmps55
    go_wp2
    go_ret2
    exact ⟨rfl, (Below.refl _ _).alloc (Nat.le_refl _) _⟩
  have n4 := strNe [115, 116, 114, 117, 99, 116] h4
  rw [if_neg h4]
  clear h0 h1 h2 h3 h4
  go_enter Try.func55, Try.ntmps55
  go_wp2
  go_ret2
  exact ⟨rfl, (Below.refl _ _).alloc (Nat.le_refl _) _⟩
set_option maxHeartbeats 1000000 in
theorem ahead_any {w : World} {R M : Nat} {s : Pa.S} (n : Nat) (hn : n ≤ 2) (h : RdAt w R M s) :
    Calls Try.prog 27 #[.pointer (some ⟨R, 0, none⟩), .int .i64 n] w fun e w' => e = .returned (.agg #[.int .i64 (s.ahead n).kd, .string (s.ahead n).tx, .int .i64 (s.ahead n).at_]) ∧ Below w.heap.size w w' := by
  have hpos := h.ok.pos
  obtain ⟨g, o, cap, h⟩ := h
  obtain ⟨c0, -, -⟩ := h.cells
  have hcap := h.cap
  have hgl := h.gl
  have hRl := lt_of_at h.box
  unfold maxLen at hcap
  have hk : min n (s.tk.length - 1) < s.tk.length := by omega
  have hm : min (n : Int) ((s.tk.length : Int) - 1) = ((min n (s.tk.length - 1) : Nat) : Int) := by
    rcases Nat.le_total n (s.tk.length - 1) with h | h
    · rw [Nat.min_eq_left h, Int.min_eq_left (by omega)]
    · rw [Nat.min_eq_right h, Int.min_eq_right (by omega)]; omega
  have ht : ∀ j v, (tkL (s.ahead n))[j]? = some v → w.cell? ⟨g, o + min n (s.tk.length - 1) * 3 + j, none⟩ = some v := by
    intro j v hv
    have hj : j < 3 := by have := (List.getElem?_eq_some_iff.1 hv).1; simpa [tkL] using this
    rw [Nat.add_assoc]
    refine h.tok _ v ?_
    rw [← hv]
    unfold Pa.S.ahead
    generalize min n (s.tk.length - 1) = k at *
    clear hm hcap h c0 hv hpos
    generalize s.tk = T at *
    induction T generalizing k with
    | nil => simp at hk
    | cons t T ih =>
      cases k with
      | zero =>
        show (tkL t ++ tksL T)[0 * 3 + j]? = _
        rw [List.getElem?_append_left (by simp [tkL]; omega)]
        simp
      | succ k =>
        show (tkL t ++ tksL T)[(k + 1) * 3 + j]? = _
        have h3 : (tkL t).length = 3 := rfl
        rw [List.getElem?_append_right (by omega), show (k + 1) * 3 + j - (tkL t).length = k * 3 + j by omega, ih k (by simpa using hk)]
        simp
  have t0 := ht 0 _ rfl
  have t1 := ht 1 _ rfl
  have t2 := ht 2 _ rfl
  have hw : IntKind.i64.wrap ((s.tk.length : Int) - 1) = (s.tk.length : Int) - 1 := IntWalk.i64_in _ (by omega)
  clear ht h
  generalize s.ahead n = t at *
  generalize s.tk.length = L at *
  generalize hq : min n (L - 1) = q at *
  have HQ := Lib.hid hq
  clear hq
  go_enter Try.func27, Try.ntmps27
  go_wp2_with fail
  have hc := fun (b : Nat) (hb : b < w.heap.size) (i : Nat) => World.cell?_of_block (w := w) (w' := w.alloc (.cells #[.int .i64 0, .string ⟨#[]⟩, .int .i64 0] 56)) (a := ⟨b, i, none⟩) (Below.heap_alloc _ _ b hb)
  have hc2 := heap_alloc_new w (.cells #[.int .i64 0, .string ⟨#[]⟩, .int .i64 0] 56)
  have hbl := (Below.refl w.heap.size w).alloc (Nat.le_refl _) (.cells #[.int .i64 0, .string ⟨#[]⟩, .int .i64 0] 56)
  generalize w.alloc (.cells #[.int .i64 0, .string ⟨#[]⟩, .int .i64 0] 56) = Z at *
  have c0z : Z.drew.cell? ⟨R, 0, none⟩ = some (.slice (some ⟨g, o, none⟩) L cap) := (hc R hRl 0).trans c0
  have t0z : Z.drew.cell? ⟨g, o + q * 3, none⟩ = some (.int .i64 t.kd) := (hc g hgl _).trans t0
  have t1z : Z.drew.cell? ⟨g, o + q * 3 + 1, none⟩ = some (.string t.tx) := (hc g hgl _).trans t1
  have t2z : Z.drew.cell? ⟨g, o + q * 3 + 2, none⟩ = some (.int .i64 t.at_) := (hc g hgl _).trans t2
  have HC2 := Lib.hid (show Z.drew.heap[w.heap.size]? = _ from hc2)
  have HBL := Lib.hid hbl.drew
  clear c0 t0 t1 t2 hc hc2 hbl
  go_still_tail 14, (by kernel_rfl)
  change wpList _ _ _ _ _ Z.drew
  generalize Z.drew = Y at *
  refine wpList_store_up rfl 56 (.tmp 4) (.tmp 18) rfl w.heap.size #[.int .i64 t.kd, .string t.tx, .int .i64 t.at_] rfl rfl 56 _ HC2.out sizeTk rfl (by simp [Value.oneCell']) ?_
  intro V hV
  have HV := Lib.hid hV
  clear hV c0z t0z t1z t2z hm hw
  go_wp2
  exact ret_row Try.results27 w.heap.size 56 _ _ rfl rfl HV.out.at_ Try.underlying56 rfl sizeTk ⟨rfl, HV.out.below HBL.out (Nat.le_refl _)⟩
end Go.Proofs.Ytlobphanodhcoaa
