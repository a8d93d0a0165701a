/- Locals. Conditions: each theorem's. -/
import Derived.Test.YtfjobnljdkiihaaGreatDoorQtParKn
namespace Go.Proofs.YtfjobnljdkiihaaGreatDoor
open Go.RowKit Go.Maps
set_option linter.unusedVariables false
set_option linter.unusedSimpArgs false
set_option maxRecDepth 100000
open Lx Pa
theorem bs1 {ops : Array Oper} {rest : List Oper} {Q : Exit → Act → World → Prop} {a : Act} {w : World} {dst : Option Tmp} {ty : TypeId} {pos : String} {af : Array Edge} {p : Operand} (S T : TypeId) (v0 : Value) (z : Nat) (hu : Tryz.prog.underlying S = some (.slice T)) (hi : (Tryz.prog.info? T).map (fun i => (i.zero, i.size)) = some (some v0, z)) (hz : 0 < z) (hz2 : z ≤ 100) (c : List Value) (hc : c.length = z) (hp : a.eval p = .agg c.toArray)
  (h : wpList Tryz.prog ops Q rest (a.put dst (.slice (some ⟨w.heap.size, 0, none⟩) 1 1)) (w.alloc (.cells c.toArray T))) :
  wpList Tryz.prog ops Q (⟨dst, .buildSlice S 1 #[(0, p)], ty, pos, af, none⟩ :: rest) a w := by
 obtain ⟨i, h1, h2, h3⟩ := info_two hi
 refine bsG [.agg c.toArray] hu h1 h2 h3 hz hz2 rfl (by decide) (by decide) ?_ ?_ ?_
 ·simp [hp]
 ·intro v hv; simp at hv; subst hv; simpa [Value.cells] using hc
 ·simpa [Value.cells] using h
theorem bdT {ops : Array Oper} {rest : List Oper} {Q : Exit → Act → World → Prop} {a : Act} {w : World} {dst : Option Tmp} {ty : TypeId} {pos : String} {af : Array Edge} {parts : Array (Nat × Operand)} (T : TypeId) (l : List (Nat × Value)) (cs : List Value)
  (hb : Tryz.prog.built T l = some cs.toArray) (hl : (parts.toList.map fun (i, x) => (i, a.eval x)) = l) (h : wpList Tryz.prog ops Q rest (a.put dst (.agg cs.toArray)) w) : wpList Tryz.prog ops Q (⟨dst, .build T parts, ty, pos, af, none⟩ :: rest) a w := by
 subst hl
 exact wpList_buildTo rfl T parts rfl dst rfl cs.toArray (by rw [Array.toList_map]; exact hb) h
theorem stR {ops : Array Oper} {rest : List Oper} {Q : Exit → Act → World → Prop} {a : Act} {w : World} {dst : Option Tmp} {ty : TypeId} {pos : String} {af : Array Edge} {x y : Operand} (T : TypeId) (z : Nat) (hi : (Tryz.prog.info? T).map (·.size) = some z) (g : Nat) {c : List Value} (hc : c.length = z) (ha : c.toArray.all (·.oneCell') = true) {old : Array Value} (hg : w.heap[g]? = some (.cells old T)) (ho : old.size = z)
  (hx : a.eval x = .pointer (some ⟨g, 0, none⟩)) (hy : a.eval y = .agg c.toArray) (h : ∀ Y, Up w g c.toArray T Y → wpList Tryz.prog ops Q rest (a.put dst undef) Y) : wpList Tryz.prog ops Q (⟨dst, .store T x y, ty, pos, af, none⟩ :: rest) a w :=
 stG T g c.toArray hx hy hg (by rw [List.size_toArray, hc]; exact hi) (ho.trans (by rw [List.size_toArray, hc])) ha h
theorem stNR {ops : Array Oper} {rest : List Oper} {Q : Exit → Act → World → Prop} {a : Act} {w : World} {dst : Option Tmp} {ty : TypeId} {pos : String} {af : Array Edge} {x y : Operand} (T : TypeId) (z : Nat) (hi : (Tryz.prog.info? T).map (·.size) = some z) (g : Nat) {c : List Value} (hc : c.length = z) (ha : c.toArray.all (·.oneCell') = true) (hgw : w.heap.size = g) {old : Array Value} (ho : old.size = z)
  (hx : a.eval x = .pointer (some ⟨g, 0, none⟩)) (hy : a.eval y = .agg c.toArray) (h : wpList Tryz.prog ops Q rest (a.put dst undef) (w.alloc (.cells c.toArray T))) : wpList Tryz.prog ops Q (⟨dst, .store T x y, ty, pos, af, none⟩ :: rest) a (w.alloc (.cells old T)) :=
 stN T g c.toArray hgw hx hy (by rw [List.size_toArray, hc]; exact hi) (ho.trans (by rw [List.size_toArray, hc])) ha h
theorem oneC {c : List Value} (h : ∀ u ∈ c, u.oneCell' = true) : c.toArray.all (·.oneCell') = true := by
 rw [List.all_toArray, List.all_eq_true]
 exact h
set_option maxHeartbeats 4000000 in
theorem cond_any {f : Nat} (HE : ExprC f) {R M d : Nat} {s : Pa.S} {w : World} (h : RdAt w R M s) (hf : 8 * s.tk.length + 5 ≤ f) (hd : d + 1 + f ≤ 60000) :
  Calls Tryz.prog 109 #[.pointer (some ⟨R, 0, none⟩), .int .i64 d] w (PostL w R M (condV f d s).1 (condV f d s).2) := by
 have hR := h.lt
 have hwl := (want_lt h.ok (x := ⟨#[40]⟩) (by decide)).le.len
 have HV := Lib.hid (show condV f d s = ([hd1 (runE f (.expr (d + 1)) (s.want ⟨#[40]⟩))], (runE f (.expr (d + 1)) (s.want ⟨#[40]⟩)).2.want ⟨#[41]⟩) by unfold condV; rfl)
 have hw : IntKind.i64.wrap ((d : Int) + 1) = (d : Int) + 1 := IntWalk.i64_in _ (by omega)
 go_enter Tryz.func109, Tryz.ntmps109
 go_wp2_with fail
 refine (want_any ⟨#[40]⟩ (by decide) h).mono ?_
 rintro e w1 ⟨rfl, h1, f1⟩
 have z1 := f1.size
 have hexp := HE R M (d + 1) _ w1 h1 (by omega) (by omega)
 rw [show ((d + 1 : Nat) : Int) = (d : Int) + 1 from rfl] at hexp
 generalize hx : hd1 (runE f (.expr (d + 1)) (s.want ⟨#[40]⟩)) = x at *
 generalize hs1 : (runE f (.expr (d + 1)) (s.want ⟨#[40]⟩)).2 = s1 at *
 clear hx hs1
 go_wp2_with fail
 refine hexp.mono ?_
 rintro e w2 ⟨c, rfl, hc, h2, f2⟩
 clear hexp
 have z2 := f2.size
 have HC := Lib.hid hc.len
 have HA := Lib.hid (oneL hc)
 have h3 := h2.alloc (.cells c.toArray 39)
 have HB3 := Lib.hid (heap_alloc_new w2 (.cells c.toArray 39))
 have HC3 := Lib.hid (hc.all (.cells c.toArray 39) (S' := fun g => w1.heap.size ≤ g ∧ g < w2.heap.size) (fun g hg hl => ⟨hg, hl⟩))
 have F3 := (f1.trans f2).alloc (.cells c.toArray 39)
 clear hc
 go_wp2_with (((with_reducible refine stNE w2.heap.size HC.out HA.out rfl ?_ ?_ ?_ ?_); rfl; rfl; rfl))
 refine (want_any ⟨#[41]⟩ (by decide) h3).mono ?_
 rintro e w4 ⟨rfl, h4, f4⟩
 have z4 := f4.size
 rw [szA] at z4
 have HB4 := Lib.hid (f4.at_ HB3.out (by simp; omega))
 have HC4 := HC3.out.fr f4 (S' := fun g => w1.heap.size ≤ g ∧ g < w2.heap.size) (fun g hg hl => ⟨hg, by have := hg.1; simp; omega⟩)
 have HC5 := HC4.all (.cells c.toArray 39) (S' := fun g => w.heap.size ≤ g) (fun g hg hl => by have := hg.1; show w.heap.size ≤ g; omega)
 have h5 := h4.alloc (.cells c.toArray 39)
 have F5 := (F3.trans f4).alloc (.cells c.toArray 39)
 go_wp2_with (first | ((with_reducible refine ldE w2.heap.size HC.out HB4.out ?_ ?_); rfl) | ((with_reducible refine bsE1 c HC.out ?_ ?_); rfl))
 go_ret
 rw [HV.out]
 exact ⟨_, rfl, LAt.one' (E := exE) HC5 (range_new w4 c _) (by simp) (by show w.heap.size ≤ w4.heap.size; omega), h5, F5⟩
set_option maxHeartbeats 4000000 in
theorem maybe_any {f : Nat} (HE : ExprC f) {R M d : Nat} {s : Pa.S} {w : World} (h : RdAt w R M s) (hf : 8 * s.tk.length + 5 ≤ f) (hd : d + 1 + f ≤ 60000) :
  Calls Tryz.prog 110 #[.pointer (some ⟨R, 0, none⟩), .int .i64 d] w (PostL w R M (maybeV f d s).1 (maybeV f d s).2) := by
 have hR := h.lt
 have hw : IntKind.i64.wrap ((d : Int) + 1) = (d : Int) + 1 := IntWalk.i64_in _ (by omega)
 have hta := take_any ⟨#[59]⟩ (by decide) h
 cases hi : s.is ⟨#[59]⟩ with
 | true =>
  have HV := Lib.hid (show maybeV f d s = ([], s.tl) by unfold maybeV; rw [hi, if_pos rfl])
  rw [hi, take_tl hi] at hta
  clear hi
  go_enter Tryz.func110, Tryz.ntmps110
  go_wp2_with fail
  refine hta.mono ?_
  rintro e w3 ⟨rfl, h3, f3⟩
  clear hta
  go_wp2
  go_ret
  rw [HV.out]
  exact ⟨_, rfl, LAt.nil exE _ _, h3, f3⟩
 | false =>
  have HV := Lib.hid (show maybeV f d s = ([hd1 (runE f (.expr (d + 1)) s)], (runE f (.expr (d + 1)) s).2.want ⟨#[59]⟩) by unfold maybeV; rw [hi, if_neg (by decide)])
  rw [hi, take_no hi] at hta
  clear hi
  go_enter Tryz.func110, Tryz.ntmps110
  go_wp2_with fail
  refine hta.mono ?_
  rintro e w1 ⟨rfl, h1, f1⟩
  clear hta
  have z1 := f1.size
  have hexp := HE R M (d + 1) _ w1 h1 (by omega) (by omega)
  rw [show ((d + 1 : Nat) : Int) = (d : Int) + 1 from rfl] at hexp
  generalize hx : hd1 (runE f (.expr (d + 1)) s) = x at *
  generalize hs1 : (runE f (.expr (d + 1)) s).2 = s1 at *
  clear hx hs1
  go_wp2_with fail
  refine hexp.mono ?_
  rintro e w2 ⟨c, rfl, hc, h2, f2⟩
  clear hexp
  have z2 := f2.size
  have HC := Lib.hid hc.len
  have HA := Lib.hid (oneL hc)
  have h3 := h2.alloc (.cells c.toArray 39)
  have HB3 := Lib.hid (heap_alloc_new w2 (.cells c.toArray 39))
  have HC3 := Lib.hid (hc.all (.cells c.toArray 39) (S' := fun g => w1.heap.size ≤ g ∧ g < w2.heap.size) (fun g hg hl => ⟨hg, hl⟩))
  have F3 := (f1.trans f2).alloc (.cells c.toArray 39)
  clear hc
  go_wp2_with (((with_reducible refine stNE w2.heap.size HC.out HA.out rfl ?_ ?_ ?_ ?_); rfl; rfl; rfl))
  refine (want_any ⟨#[59]⟩ (by decide) h3).mono ?_
  rintro e w4 ⟨rfl, h4, f4⟩
  have z4 := f4.size
  rw [szA] at z4
  have HB4 := Lib.hid (f4.at_ HB3.out (by simp; omega))
  have HC4 := HC3.out.fr f4 (S' := fun g => w1.heap.size ≤ g ∧ g < w2.heap.size) (fun g hg hl => ⟨hg, by have := hg.1; simp; omega⟩)
  have HC5 := HC4.all (.cells c.toArray 39) (S' := fun g => w.heap.size ≤ g) (fun g hg hl => by have := hg.1; show w.heap.size ≤ g; omega)
  have h5 := h4.alloc (.cells c.toArray 39)
  have F5 := (F3.trans f4).alloc (.cells c.toArray 39)
  go_wp2_with (first | ((with_reducible refine ldE w2.heap.size HC.out HB4.out ?_ ?_); rfl) | ((with_reducible refine bsE1 c HC.out ?_ ?_); rfl))
  go_ret
  rw [HV.out]
  exact ⟨_, rfl, LAt.one' (E := exE) HC5 (range_new w4 c _) (by simp) (by show w.heap.size ≤ w4.heap.size; omega), h5, F5⟩
def PostS (w : World) (R M : Nat) (x : PSt) (s' : Pa.S) (e : Ending) (w' : World) : Prop :=
 ∃ c : List Value, e = .returned (.agg c.toArray) ∧ StAt w' (fun g => w.heap.size ≤ g) x c ∧ RdAt w' R M s' ∧ Fr [R] w w'
def PostLS (w : World) (R M : Nat) (l : List PSt) (s' : Pa.S) (e : Ending) (w' : World) : Prop :=
 ∃ v : Value, e = .returned v ∧ LAt stE' w' (fun g => w.heap.size ≤ g) l v ∧ RdAt w' R M s' ∧ Fr [R] w w'
def StmtC (f : Nat) : Prop := ∀ (R M d : Nat) (s : Pa.S) (w : World), RdAt w R M s → 8 * s.tk.length + 7 ≤ f → d + f ≤ 60000 → Calls Tryz.prog 91 #[.pointer (some ⟨R, 0, none⟩), .int .i64 d] w (PostS w R M (hdS (runS f (.stmt d) s)) (runS f (.stmt d) s).2)
def BlockC (f : Nat) : Prop := ∀ (R M d : Nat) (s : Pa.S) (w : World), RdAt w R M s → 8 * s.tk.length + 1 ≤ f → d + f ≤ 60000 → Calls Tryz.prog 72 #[.pointer (some ⟨R, 0, none⟩), .int .i64 d] w (PostS w R M (hdS (runS f (.block d) s)) (runS f (.block d) s).2)
def UntC (f : Nat) : Prop := ∀ (R M d : Nat) (s : Pa.S) (w : World) (br bd : Nat), RdAt w R M s → w.heap[br]? = some (.cells (ptR R) 87) → w.heap[bd]? = some (.cells #[.int .i64 d] 3) → (s.er ≠ 0 ∨ 8 * s.tk.length + 8 ≤ f) → d + 1 + f ≤ 60000 →
 Calls Tryz.prog 89 #[.pointer (some ⟨R, 0, none⟩), .string ⟨#[125]⟩, .func (.func 90) #[] #[.pointer (some ⟨br, 0, none⟩), .pointer (some ⟨bd, 0, none⟩)]] w (PostLS w R M (runS f (.untS (d + 1) []) s).1 (runS f (.untS (d + 1) []) s).2)
abbrev stZ : Array Value := (stL 0 (.slice none 0 0) (.slice none 0 0) va0 0).toArray
theorem infoSt10 : (Tryz.prog.info? 44).map (fun i => (i.zero, i.size, i.bytes)) = some (some (.agg stZ), 10, 128) := by kernel_rfl
theorem infoStz : (Tryz.prog.info? 44).map (fun i => (i.zero, i.size)) = some (some (.agg stZ), 10) := by kernel_rfl
theorem StAt.fr {w w' : World} {T : List Nat} {S S' : Nat → Prop} {x : PSt} {c : List Value} (h : StAt w S x c) (f : Fr T w w') (hS : ∀ g, S g → g < w.heap.size → S' g ∧ g ∉ T) : StAt w' S' x c :=
 h.keep (fun g hg hl => ⟨(hS g hg hl).1, f.block g hl (hS g hg hl).2⟩) f.size
theorem StAt.upd {X Y : World} {b : Nat} {cs : Array Value} {t : TypeId} {S S' : Nat → Prop} {x : PSt} {c : List Value} (h : StAt X S x c) (u : Up X b cs t Y) (hS : ∀ g, S g → g < X.heap.size → S' g ∧ g ≠ b) : StAt Y S' x c :=
 h.keep (fun g hg hl => ⟨(hS g hg hl).1, u.oth g (hS g hg hl).2⟩) (Nat.le_of_eq u.size.symm)
theorem StAt.all {w : World} {S S' : Nat → Prop} {x : PSt} {c : List Value} (h : StAt w S x c) (o : Obj) (hS : ∀ g, S g → g < w.heap.size → S' g) : StAt (w.alloc o) S' x c :=
 h.keep (fun g hg hl => ⟨hS g hg hl, Below.heap_alloc _ _ _ hl⟩) (by simp)
theorem LAt.fr {α : Type} {E : Elem α} {w w' : World} {T : List Nat} {S S' : Nat → Prop} {l : List α} {v : Value} (h : LAt E w S l v) (f : Fr T w w') (hS : ∀ g, S g → g < w.heap.size → S' g ∧ g ∉ T) : LAt E w' S' l v :=
 h.keep (fun g hg hl => ⟨(hS g hg hl).1, f.block g hl (hS g hg hl).2⟩) f.size
theorem LAt.upd {α : Type} {E : Elem α} {X Y : World} {b : Nat} {cs : Array Value} {t : TypeId} {S S' : Nat → Prop} {l : List α} {v : Value} (h : LAt E X S l v) (u : Up X b cs t Y) (hS : ∀ g, S g → g < X.heap.size → S' g ∧ g ≠ b) : LAt E Y S' l v :=
 h.keep (fun g hg hl => ⟨(hS g hg hl).1, u.oth g (hS g hg hl).2⟩) (Nat.le_of_eq u.size.symm)
theorem LAt.all {α : Type} {E : Elem α} {w : World} {S S' : Nat → Prop} {l : List α} {v : Value} (h : LAt E w S l v) (o : Obj) (hS : ∀ g, S g → g < w.heap.size → S' g) : LAt E (w.alloc o) S' l v :=
 h.keep (fun g hg hl => ⟨hS g hg hl, Below.heap_alloc _ _ _ hl⟩) (by simp)
theorem oneS {w : World} {S : Nat → Prop} {x : PSt} {c : List Value} (h : StAt w S x c) : c.toArray.all (·.oneCell') = true := oneC h.one
noncomputable def rdM (w : World) (R : Nat) : Nat := 2 * rdLen w R + (match w.cell? ⟨R, 2, none⟩ with | some (.int _ e) => (if e = 0 then 1 else 0) | _ => 0)
theorem RdAt.er {w : World} {R M : Nat} {s : Pa.S} (h : RdAt w R M s) : w.cell? ⟨R, 2, none⟩ = some (.int .i64 s.er) := by obtain ⟨g, o, cap, h⟩ := h; exact h.cells.2.2
theorem RdAt.mz {w : World} {R M : Nat} {s : Pa.S} (h : RdAt w R M s) : rdM w R = 2 * s.tk.length + (if s.er = 0 then 1 else 0) := by
 unfold rdM
 rw [h.len, h.er]
set_option maxHeartbeats 4000000 in
theorem blockLit {f : Nat} (HS : StmtC f) (R M d : Nat) (s : Pa.S) (w : World) (br bd : Nat) (h : RdAt w R M s) (hbr : w.heap[br]? = some (.cells (ptR R) 87)) (hbd : w.heap[bd]? = some (.cells #[.int .i64 d] 3)) (hf : 8 * s.tk.length + 7 ≤ f) (hd : d + 1 + f ≤ 60000) :
  Calls Tryz.prog 90 #[.pointer (some ⟨br, 0, none⟩), .pointer (some ⟨bd, 0, none⟩)] w (PostS w R M (hdS (runS f (.stmt (d + 1)) s)) (runS f (.stmt (d + 1)) s).2) := by
 have hR := h.lt
 have hbrl := lt_of_at hbr
 have hbdl := lt_of_at hbd
 have c1 : w.cell? ⟨br, 0, none⟩ = some (.pointer (some ⟨R, 0, none⟩)) := cell_of_row _ _ _ _ _ _ hbr
 have c2 : w.cell? ⟨bd, 0, none⟩ = some (.int .i64 d) := cell_of_row _ _ _ _ _ _ hbd
 have h0 := h.alloc (.cells stZ 44)
 have HR0 := Lib.hid (heap_alloc_new w (.cells stZ 44))
 have HS0 := Lib.hid (szA w (.cells stZ 44))
 have hw : IntKind.i64.wrap ((d : Int) + 1) = (d : Int) + 1 := IntWalk.i64_in _ (by omega)
 have hexp := HS R M (d + 1) s _ h0 hf hd
 rw [show ((d + 1 : Nat) : Int) = (d : Int) + 1 from rfl] at hexp
 clear hbr hbd
 go_enter Tryz.func90, Tryz.ntmps90
 go_wp2_with fail
 refine hexp.mono ?_
 rintro e w5 ⟨c5, rfl, hc5, h5, f5⟩
 clear hexp
 have HC5 := Lib.hid hc5.len
 have HA5 := Lib.hid (oneS hc5)
 have HRO := Lib.hid (f5.at_ HR0.out (by simp; omega))
 rw [HS0.out] at hc5
 have F5 := ((Fr.refl [R] w).alloc (.cells stZ 44)).trans f5
 clear c1 c2
 go_wp2_with (((with_reducible refine stR 44 10 sizeSt w.heap.size HC5.out HA5.out HRO.out rfl ?_ ?_ ?_); rfl; rfl; intro Y hY; have HY := Lib.hid hY; clear hY))
 refine ret_row Tryz.results90 w.heap.size 44 _ _ rfl rfl HY.out.at_ Tryz.underlying44 rfl (by rw [List.size_toArray, HC5.out]; exact sizeSt) ?_
 exact ⟨c5, rfl, hc5.upd HY.out (fun g hg hl => ⟨by show w.heap.size ≤ g; omega, by omega⟩), h5.up HY.out HRO.out (by decide) (by decide), F5.up HY.out (Nat.le_refl _)⟩
set_option maxHeartbeats 16000000 in
theorem unt_step {f : Nat} (HS : ∀ g, g < f → StmtC g) : UntC f := by
 intro R M d s w br bd h hbr hbd hf hd
 have hR := h.lt
 have hrR := h.ne hbr (by decide)
 have hdR := h.ne hbd (by decide)
 have HBR := Lib.hid hbr
 have HBD := Lib.hid hbd
 obtain ⟨i0, hi0, hz0, hz1, hz2⟩ := info_parts infoSt10
 clear hbr hbd
 go_enter Tryz.func89, Tryz.ntmps89
 go_wp2
 go_loopw [7] (fun v wr => ∃ (g : Nat) (l : List PSt) (s1 : Pa.S), g ≤ f ∧ (s1.er = 0 → 8 * s1.tk.length + 8 ≤ g ∧ l.length + s1.tk.length ≤ 7500) ∧ Hid (runS f (.untS (d + 1) []) s = runS g (.untS (d + 1) l) s1) ∧ l.length ≤ 7500 ∧ Own stE' 44 wr w.heap.size l v ∧ RdAt wr R M s1 ∧ Fr [R] w wr) (fun _ wr => rdM wr R)
 case atStart => exact ⟨f, [], s, Nat.le_refl _, fun he => by rcases hf with hf | hf; exact absurd he hf; exact ⟨hf, by simp; omega⟩, Lib.hid rfl, by simp, Own.nil _ _ _ _, h, Fr.refl _ _⟩
 case round =>
  obtain ⟨g, l, s1, hg, hfu, hst, hl6, hown, hrd, hfr⟩ := hrel
  have hpos := hrd.ok.pos
  have HMS := Lib.hid hrd.mz
  have zr := hfr.size
  have cw := hrd.er
  by_cases he : s1.er = 0
  ·obtain ⟨hfu, hl7⟩ := hfu he
   obtain ⟨g, rfl⟩ : ∃ g', g = g' + 1 := ⟨g - 1, by omega⟩
   have hE : runS (g + 1) (.untS (d + 1) l) s1 = if s1.er ≠ 0 then (l, s1) else if s1.is ⟨#[125]⟩ then (l, s1.tl) else runS g (.untS (d + 1) (l ++ [hdS (runS g (.stmt (d + 1)) s1)])) (runS g (.stmt (d + 1)) s1).2 := by simp only [runS]
   rw [if_neg (by simpa using he)] at hE
   have HE0 := Lib.hid hE
   clear hE
   have eb : (s1.er == 0) = true := by rw [he]; rfl
   have HER := Lib.hid he
   clear he
   obtain ⟨A, cap, rfl⟩ := hown.slice
   have hta := take_any ⟨#[125]⟩ (by decide) hrd
   cases hi1 : s1.is ⟨#[125]⟩ with
   | true =>
    rw [hi1, if_pos rfl] at HE0
    rw [hi1, take_tl hi1] at hta
    clear hi1
    go_wp2_with fail
    refine hta.mono ?_
    rintro e w4 ⟨rfl, h4, f4⟩
    clear hta
    have HO7 := hown.fr f4 (by simpa using hR)
    go_wp2
    go_ret
    rw [hst.out, HE0.out]
    exact ⟨_, rfl, HO7.list, h4, hfr.trans f4⟩
   | false =>
    rw [hi1, if_neg (by decide)] at HE0
    rw [hi1, take_no hi1] at hta
    clear hi1
    go_wp2_with fail
    refine hta.mono ?_
    rintro e w4 ⟨rfl, h4, f4⟩
    clear hta
    have z4 := f4.size
    have F4 := hfr.trans f4
    have hlit := blockLit (HS g (by omega)) R M d s1 w4 br bd h4 (F4.at_ HBR.out (by simpa using hrR)) (F4.at_ HBD.out (by simpa using hdR)) (by omega) (by omega)
    have hlt := (runS_le g (.stmt (d + 1)) s1 ⟨h4.ok, by simp only [rankS]; omega⟩).2 trivial
    have hlen := hlt.le.len
    generalize hx : hdS (runS g (.stmt (d + 1)) s1) = y at *
    generalize hs1 : (runS g (.stmt (d + 1)) s1).2 = s2 at *
    clear hx hs1
    go_wp2_with fail
    refine hlit.mono ?_
    rintro e w5 ⟨c5, rfl, hc5, h5, f5⟩
    clear hlit
    have HC5 := Lib.hid hc5.len
    have HN5 := Lib.hid hc5.one
    have z5 := f5.size
    have HO6 := ((hown.fr f4 (by simpa using hR)).fr f5 (by simpa using hR)).alloc (.cells c5.toArray 44)
    have h6' := h5.alloc (.cells c5.toArray 44)
    have F6 := (F4.trans f5).alloc (.cells c5.toArray 44)
    have hlt4 := (hown.fr f4 (by simpa using hR)).lt
    have hx6 := hc5.all (.cells c5.toArray 44) (S' := fun k => w.heap.size ≤ k ∧ (Value.slice A l.length cap).ownBlock ≠ some k) (fun k hk hl => ⟨by have : w4.heap.size ≤ k := hk; omega, fun he => by have := (hlt4 k he).2; have : w4.heap.size ≤ k := hk; omega⟩)
    obtain ⟨rows, hrl, how, hel⟩ := HO6
    clear hown hlt4 hc5 cw eb
    have HOW := Lib.hid how
    go_wp2_with (first | ((with_reducible refine bs1 40 44 (.agg stZ) 10 Tryz.underlying40 infoStz (by decide) (by decide) c5 HC5.out ?_ ?_); rfl) | (at_builtin; refine wpList_append_lies (o := ⟨some 23, _, _, _, _, _⟩) _ rfl (.tmp 19) (.tmp 22) 40 rfl w.heap.size 44 i0 (.agg stZ) 10 128 Tryz.underlying40 hi0 hz0 hz1 hz2 rfl (by decide) _ _ _ rfl HOW.out ⟨w5.heap.size, 0, none⟩ 1 1 c5 rfl (by rw [HC5.out]) (World.news_of_block (cs := c5.toArray) (t := 44) (fr := (0, 0)) (heap_alloc_new w5 _)) HN5.out (by omega) (by unfold maxLen; omega) (by omega) (by simp only [szA]; omega) _ rfl ?_; intro ga ca w7 hown7 hgrow7 hat7 hlt7))
    have HO7 := Own.push (E := stE') hrl hel hx6 rfl hown7 hgrow7 hat7
    have h7 := h6'.own how hgrow7 (by decide) (by decide)
    have F7 := F6.own how hgrow7
    go_wp2
    try simp only [Act.put]
    go_roundw
    case rel => exact ⟨g, l ++ [y], s2, by omega, fun he2 => ⟨by have := hlt.lt he2; omega, by have := hlt.lt he2; simp; omega⟩, Lib.hid (hst.out.trans HE0.out), by simp; omega, HO7, h7, F7⟩
    case measure =>
     rw [HMS.out, h7.mz, if_pos HER.out]
     by_cases he2 : s2.er = 0
     ·have := hlt.lt he2; rw [if_pos he2]; omega
     ·rw [if_neg he2]; omega
  ·have HE0 := Lib.hid (show runS g (.untS (d + 1) l) s1 = (l, s1) by
    cases g with
    | zero => simp only [runS]
    | succ g => simp only [runS]; rw [if_pos he])
   have eb : (s1.er == 0) = false := by simpa using he
   clear he hfu
   obtain ⟨A, cap, rfl⟩ := hown.slice
   go_wp2
   go_ret
   rw [hst.out, HE0.out]
   exact ⟨_, rfl, hown.list, hrd, hfr⟩
theorem oneT (kd : Int) (A : Option Addr) (n cap : Nat) (B : Option Addr) (m cap2 : Nat) (v : PVa) (at_ : Nat) : (stL kd (.slice A n cap) (.slice B m cap2) v at_).toArray.all (·.oneCell') = true := by simp [Value.oneCell']
set_option maxHeartbeats 16000000 in
theorem block_step {f : Nat} (HU : UntC f) : BlockC (f + 1) := by
 intro R M d s w h hf hd
 have hR := h.lt
 have hrun : runS (f + 1) (.block d) s = ([.mk 1 [] (runS f (.untS (d + 1) []) (s.want ⟨#[123]⟩)).1 va0 s.hd.at_], (runS f (.untS (d + 1) []) (s.want ⟨#[123]⟩)).2) := by simp only [runS]
 have HRUN := Lib.hid hrun
 have hwl := want_lt h.ok (x := ⟨#[123]⟩) (by decide)
 have hun : (s.want ⟨#[123]⟩).er ≠ 0 ∨ 8 * (s.want ⟨#[123]⟩).tk.length + 8 ≤ f := by
  by_cases he : (s.want ⟨#[123]⟩).er = 0
  ·exact .inr (by have := hwl.lt he; omega)
  ·exact .inl he
 clear hrun
 obtain ⟨B, hB⟩ : ∃ B, w.heap.size = B := ⟨_, rfl⟩
 have h1 := h.alloc (.cells (ptR R) 87)
 have s1 := szA w (.cells (ptR R) 87)
 have x1 := bn w (.cells (ptR R) 87) hB
 have F1 := (Fr.refl [R] w).alloc (.cells (ptR R) 87)
 generalize hw1 : w.alloc (.cells (ptR R) 87) = w1 at *
 have h3 := h1.alloc (.cells #[.int .i64 d] 3)
 have s3 := szA w1 (.cells #[.int .i64 d] 3)
 have x3 := bl1 w1 (.cells #[.int .i64 d] 3) x1 (by omega)
 have y3 := bn w1 (.cells #[.int .i64 d] 3) (k := B + 1) (by omega)
 have F3 := F1.alloc (.cells #[.int .i64 d] 3)
 generalize hw3 : w1.alloc (.cells #[.int .i64 d] 3) = w3 at *
 have h4 := h3.alloc (.cells stZ 44)
 have s4 := szA w3 (.cells stZ 44)
 have x4 := bl1 w3 (.cells stZ 44) x3 (by omega)
 have y4 := bl1 w3 (.cells stZ 44) y3 (by omega)
 have r4 := bn w3 (.cells stZ 44) (k := B + 1 + 1) (by omega)
 have F4 := F3.alloc (.cells stZ 44)
 have hn := now_any h4
 have hz4 : (w3.alloc (.cells stZ 44)).heap.size = B + 3 := by omega
 subst hw3 hw1
 clear s1 s3 s4 x1 x3 y3 F1 F3 h1 h3
 subst hB
 have HX := Lib.hid x4
 have HY := Lib.hid y4
 have HRR := Lib.hid r4
 have HZ := Lib.hid hz4
 clear x4 y4 r4 hz4
 have F2 := tf2
 go_enter Tryz.func72, Tryz.ntmps72
 go_wp2_with fail
 refine hn.mono ?_
 rintro e w5 ⟨rfl, b5⟩
 clear hn
 have z5 : w.heap.size + 3 ≤ w5.heap.size := by have := b5.size; rw [HZ.out] at this; exact this
 have h6 := (h4.below b5).alloc (.cells (stL 1 (.slice none 0 0) (.slice none 0 0) va0 s.hd.at_).toArray 44)
 have F6 := (F4.trans (Fr.below b5)).alloc (.cells (stL 1 (.slice none 0 0) (.slice none 0 0) va0 s.hd.at_).toArray 44)
 have HX6 := Lib.hid (bl1 w5 (.cells (stL 1 (.slice none 0 0) (.slice none 0 0) va0 s.hd.at_).toArray 44) ((b5.block _ (by rw [HZ.out]; omega)).trans HX.out) (by omega))
 have HY6 := Lib.hid (bl1 w5 (.cells (stL 1 (.slice none 0 0) (.slice none 0 0) va0 s.hd.at_).toArray 44) ((b5.block _ (by rw [HZ.out]; omega)).trans HY.out) (by omega))
 have HR6 := Lib.hid (bl1 w5 (.cells (stL 1 (.slice none 0 0) (.slice none 0 0) va0 s.hd.at_).toArray 44) ((b5.block _ (by rw [HZ.out]; omega)).trans HRR.out) (by omega))
 have HT6 := Lib.hid (heap_alloc_new w5 (.cells (stL 1 (.slice none 0 0) (.slice none 0 0) va0 s.hd.at_).toArray 44))
 have HS6 := Lib.hid (szA w5 (.cells (stL 1 (.slice none 0 0) (.slice none 0 0) va0 s.hd.at_).toArray 44))
 have k0 : (w5.alloc (.cells #[.int .i64 1, .slice none 0 0, .slice none 0 0, .string ⟨#[]⟩, .int .i64 0, .int .i64 0, .string ⟨#[]⟩, .int .i64 0, .int .i64 0, .int .i64 s.hd.at_] 44)).cell? ⟨w.heap.size, 0, none⟩ = some (.pointer (some ⟨R, 0, none⟩)) := cell_of_row _ _ _ _ _ _ HX6.out
 have j0 : w5.cell? ⟨w.heap.size, 0, none⟩ = some (.pointer (some ⟨R, 0, none⟩)) := cell_of_row _ _ _ _ _ _ ((b5.block _ (by rw [HZ.out]; omega)).trans HX.out)
 generalize hb : w5.heap.size = b at *
 generalize s.hd.at_ = at0 at *
 go_wp2_with fail
 refine (want_any ⟨#[123]⟩ (by decide) h6).mono ?_
 rintro e w7 ⟨rfl, h7, f7⟩
 have hx7 := f7.at_ HX6.out (by simp; omega)
 have hy7 := f7.at_ HY6.out (by simp; omega)
 have hr7 := f7.at_ HR6.out (by simp; omega)
 have ht7 := f7.at_ HT6.out (by simp; omega)
 have z7 : b + 1 ≤ w7.heap.size := by have := f7.size; rw [HS6.out] at this; exact this
 have hbet := HU R M d (s.want ⟨#[123]⟩) w7 w.heap.size (w.heap.size + 1) h7 hx7 hy7 hun (by omega)
 have k7 : w7.cell? ⟨w.heap.size, 0, none⟩ = some (.pointer (some ⟨R, 0, none⟩)) := cell_of_row _ _ _ _ _ _ hx7
 have HR7 := Lib.hid hr7
 have HT7 := Lib.hid ht7
 generalize (runS f (.untS (d + 1) []) (s.want ⟨#[123]⟩)).1 = l at *
 generalize (runS f (.untS (d + 1) []) (s.want ⟨#[123]⟩)).2 = s2 at *
 clear k0 j0 hx7 hy7 hr7 ht7
 have hmf := makeFn
 go_wp2_with fail
 refine hbet.mono ?_
 rintro e w8 ⟨v, rfl, hl8, h8, f8⟩
 clear hbet
 obtain ⟨A, cap, rfl⟩ := hl8.slice
 have ht8 := f8.at_ HT7.out (by simp; omega)
 have hr8 := f8.at_ HR7.out (by simp; omega)
 have z8 := f8.size
 have c4 : w8.cell? ⟨b, 2, none⟩ = some (.slice none 0 0) := cell_of_row _ _ _ _ _ _ ht8
 have e4 : w8.frozen? ⟨b, 2, none⟩ = false := frozen_of_row _ _ _ _ _ ht8
 have u9 := up_set ht8 2 (.slice A l.length cap)
 have HR9 := Lib.hid ((u9.oth (w.heap.size + 1 + 1) (by omega)).trans hr8)
 have h9 := h8.up u9 ht8 (by decide) (by decide)
 have F9 := ((F6.trans f7).trans f8).up u9 (by omega)
 have hl9 := hl8.upd u9 (S' := fun g => b + 1 ≤ g) (fun g hg hl => ⟨by have hg' : w7.heap.size ≤ g := hg; omega, by have hg' : w7.heap.size ≤ g := hg; omega⟩)
 have HT9 : Hid ((w8.setCell ⟨b, 2, none⟩ (.slice A l.length cap)).heap[b]? = some (.cells (stL 1 (.slice none 0 0) (.slice A l.length cap) va0 at0).toArray 44)) := Lib.hid u9.at_
 clear u9 ht8 hr8 hl8 k7
 go_wp2_with (first | ((with_reducible refine ldG 44 b ?_ HT9.out Tryz.underlying44 ?_ ?_ ?_); rfl; rfl; exact sizeSt) | ((with_reducible refine stR 44 10 sizeSt (w.heap.size + 1 + 1) (c := stL 1 (.slice none 0 0) (.slice A l.length cap) va0 at0) rfl (oneT _ _ _ _ _ _ _ _ _) HR9.out rfl ?_ ?_ ?_); rfl; rfl; intro Y hY; have HY9 := Lib.hid hY; clear hY))
 refine ret_row Tryz.results72 (w.heap.size + 1 + 1) 44 _ _ rfl rfl HY9.out.at_ Tryz.underlying44 rfl sizeSt ?_
 rw [HRUN.out]
 exact ⟨_, rfl, StAt.of (LAt.nil exE _ _) (hl9.upd HY9.out (fun g hg hl => ⟨by have hg' : b + 1 ≤ g := hg; show w.heap.size ≤ g; omega, by have hg' : b + 1 ≤ g := hg; omega⟩)), h9.up HY9.out HR9.out (by decide) (by decide), F9.up HY9.out (by omega)⟩
theorem builtLoc (v : PVa) : Tryz.prog.built 44 [(0, .int .i64 8), (3, .agg (vaC v)), (4, .int .i64 v.at_)] = some (stL 8 (.slice none 0 0) (.slice none 0 0) v v.at_).toArray := by kernel_rfl
set_option maxHeartbeats 16000000 in
theorem local_any {f : Nat} (HE : ExprC f) {R M d : Nat} {s : Pa.S} {w : World} (h : RdAt w R M s) (hf : 8 * s.tk.length ≤ f) (hd : d + 1 + f ≤ 60000) :
  Calls Tryz.prog 107 #[.pointer (some ⟨R, 0, none⟩), .int .i64 d] w (PostS w R M (localV f d s).1 (localV f d s).2) := by
 have hR := h.lt
 have hw : IntKind.i64.wrap ((d : Int) + 1) = (d : Int) + 1 := IntWalk.i64_in _ (by omega)
 have hV : localV f d s = if (lengthV (namedV s).2).2.is ⟨#[61]⟩ then (.mk 8 [hd1 (runE f (.expr (d + 1)) (lengthV (namedV s).2).2.tl)] [] ⟨(namedV s).1.nm, (namedV s).1.ty, (lengthV (namedV s).2).1, (namedV s).1.at_⟩ (namedV s).1.at_, (runE f (.expr (d + 1)) (lengthV (namedV s).2).2.tl).2.want ⟨#[59]⟩)
   else (.mk 8 [] [] ⟨(namedV s).1.nm, (namedV s).1.ty, (lengthV (namedV s).2).1, (namedV s).1.at_⟩ (namedV s).1.at_, (lengthV (namedV s).2).2.want ⟨#[59]⟩) := by unfold localV; rfl
 have HV := Lib.hid hV
 clear hV
 have h0 := h.alloc (.cells stZ 44)
 have HR0 := Lib.hid (heap_alloc_new w (.cells stZ 44))
 have HS0 := Lib.hid (szA w (.cells stZ 44))
 have hnm := named_any h0
 have hln := (length_le (named_lt h.ok).le.ok).len
 have hnl := (named_lt h.ok).le.len
 generalize (namedV s).1 = v at *
 generalize (namedV s).2 = s1 at *
 go_enter Tryz.func107, Tryz.ntmps107
 go_wp2_with fail
 refine hnm.mono ?_
 rintro e w1 ⟨rfl, h1, f1⟩
 clear hnm
 have z1 : w.heap.size + 1 ≤ w1.heap.size := by have := f1.size; rw [HS0.out] at this; exact this
 have HR1 := Lib.hid (f1.at_ HR0.out (by simp; omega))
 have F1 := ((Fr.refl [R] w).alloc (.cells stZ 44)).trans f1
 have h2 := h1.alloc (.cells (vaC v) 42)
 have HR2 := Lib.hid (bl1 w1 (.cells (vaC v) 42) HR1.out (by omega))
 have HB2 := Lib.hid (heap_alloc_new w1 (.cells (vaC v) 42))
 have HS2 := Lib.hid (szA w1 (.cells (vaC v) 42))
 have F2 := F1.alloc (.cells (vaC v) 42)
 have hlen := length_any h2
 generalize (lengthV s1).1 = n at *
 generalize (lengthV s1).2 = s2 at *
 generalize hb : w1.heap.size = b at *
 go_wp2_with fail
 refine hlen.mono ?_
 rintro e w3 ⟨rfl, h3, f3⟩
 clear hlen
 have z3 : b + 1 ≤ w3.heap.size := by have := f3.size; rw [HS2.out] at this; exact this
 have hr3 := f3.at_ HR2.out (by simp; omega)
 have hb3 := f3.at_ HB2.out (by simp; omega)
 have c4 : w3.cell? ⟨b, 4, none⟩ = some (.int .i64 v.ln) := cell_of_row _ _ _ _ _ _ hb3
 have e4 : w3.frozen? ⟨b, 4, none⟩ = false := frozen_of_row _ _ _ _ _ hb3
 have u4 := up_set hb3 4 (.int .i64 n)
 have h4 := h3.up u4 hb3 (by decide) (by decide)
 have F4 := (F2.trans f3).up u4 (by omega)
 have hr4 := (u4.oth w.heap.size (by omega)).trans hr3
 have hb4 : (w3.setCell ⟨b, 4, none⟩ (.int .i64 n)).heap[b]? = some (.cells (vaC ⟨v.nm, v.ty, n, v.at_⟩) 42) := u4.at_
 have z4 := u4.size
 have k5 : (w3.setCell ⟨b, 4, none⟩ (.int .i64 n)).cell? ⟨b, 5, none⟩ = some (.int .i64 v.at_) := cell_of_row _ _ _ _ _ _ hb4
 have z4' := z4
 clear u4 hr3 hb3
 generalize hX : w3.setCell ⟨b, 4, none⟩ (.int .i64 n) = X at *
 have HX := Lib.hid hX
 have HB4 := Lib.hid hb4
 have h5 := h4.alloc (.cells (stL 8 (.slice none 0 0) (.slice none 0 0) ⟨v.nm, v.ty, n, v.at_⟩ v.at_).toArray 44)
 have F5 := F4.alloc (.cells (stL 8 (.slice none 0 0) (.slice none 0 0) ⟨v.nm, v.ty, n, v.at_⟩ v.at_).toArray 44)
 have HR5 := Lib.hid (bl1 X (.cells (stL 8 (.slice none 0 0) (.slice none 0 0) ⟨v.nm, v.ty, n, v.at_⟩ v.at_).toArray 44) hr4 (by omega))
 have HZ4 := Lib.hid z4
 have HT5 := Lib.hid (bn X (.cells (stL 8 (.slice none 0 0) (.slice none 0 0) ⟨v.nm, v.ty, n, v.at_⟩ v.at_).toArray 44) (k := w3.heap.size) z4)
 have HS5 : Hid ((X.alloc (.cells (stL 8 (.slice none 0 0) (.slice none 0 0) ⟨v.nm, v.ty, n, v.at_⟩ v.at_).toArray 44)).heap.size = w3.heap.size + 1) := Lib.hid (by rw [szA, z4])
 have hta := take_any ⟨#[61]⟩ (by decide) h5
 clear hb4 hr4
 subst hX
 clear HX
 cases hi : s2.is ⟨#[61]⟩ with
 | false =>
  rw [hi, if_neg (by decide)] at HV
  rw [hi, take_no hi] at hta
  clear hi
  go_wp2_with (first | ((with_reducible refine ldG 42 b ?_ HB4.out Tryz.underlying42 ?_ ?_ ?_); rfl; rfl; exact sizeVa) | ((with_reducible refine bdT 44 _ _ (builtLoc ⟨v.nm, v.ty, n, v.at_⟩) ?_ ?_); rfl) | ((with_reducible refine stNR 44 10 sizeSt w3.heap.size (c := stL 8 (.slice none 0 0) (.slice none 0 0) ⟨v.nm, v.ty, n, v.at_⟩ v.at_) rfl (oneT _ _ _ _ _ _ _ _ _) HZ4.out ?_ ?_ ?_ ?_); rfl; rfl; rfl))
  refine hta.mono ?_
  rintro e w6 ⟨rfl, h6, f6⟩
  clear hta
  have hr6 := f6.at_ HR5.out (by simp; omega)
  have ht6 := f6.at_ HT5.out (by simp; omega)
  have HR6 := Lib.hid hr6
  have HT6 := Lib.hid ht6
  clear c4 e4 k5
  go_wp2_with fail
  refine (want_any ⟨#[59]⟩ (by decide) h6).mono ?_
  rintro e w7 ⟨rfl, h7, f7⟩
  have HR7 := Lib.hid (f7.at_ HR6.out (by simp; omega))
  have HT7 := Lib.hid (f7.at_ HT6.out (by simp; omega))
  go_wp2_with (first | ((with_reducible refine ldG 44 w3.heap.size ?_ HT7.out Tryz.underlying44 ?_ ?_ ?_); rfl; rfl; exact sizeSt) | ((with_reducible refine stR 44 10 sizeSt w.heap.size (c := stL 8 (.slice none 0 0) (.slice none 0 0) ⟨v.nm, v.ty, n, v.at_⟩ v.at_) rfl (oneT _ _ _ _ _ _ _ _ _) HR7.out rfl ?_ ?_ ?_); rfl; rfl; intro Y hY; have HY9 := Lib.hid hY; clear hY))
  refine ret_row Tryz.results107 w.heap.size 44 _ _ rfl rfl HY9.out.at_ Tryz.underlying44 rfl sizeSt ?_
  rw [HV.out]
  exact ⟨_, rfl, StAt.of (LAt.nil exE _ _) (LAt.nil stE' _ _), h7.up HY9.out HR7.out (by decide) (by decide), ((F5.trans f6).trans f7).up HY9.out (by omega)⟩
 | true =>
  rw [hi, if_pos rfl] at HV
  rw [hi, take_tl hi] at hta
  have hne := is_ne hi (by decide)
  have htl := (tl_ok h5.ok hne).2
  clear hi
  go_wp2_with (first | ((with_reducible refine ldG 42 b ?_ HB4.out Tryz.underlying42 ?_ ?_ ?_); rfl; rfl; exact sizeVa) | ((with_reducible refine bdT 44 _ _ (builtLoc ⟨v.nm, v.ty, n, v.at_⟩) ?_ ?_); rfl) | ((with_reducible refine stNR 44 10 sizeSt w3.heap.size (c := stL 8 (.slice none 0 0) (.slice none 0 0) ⟨v.nm, v.ty, n, v.at_⟩ v.at_) rfl (oneT _ _ _ _ _ _ _ _ _) HZ4.out ?_ ?_ ?_ ?_); rfl; rfl; rfl))
  refine hta.mono ?_
  rintro e w6 ⟨rfl, h6, f6⟩
  clear hta
  have HR6 := Lib.hid (f6.at_ HR5.out (by simp; omega))
  have HT6 := Lib.hid (f6.at_ HT5.out (by simp; omega))
  have z6 : w3.heap.size + 1 ≤ w6.heap.size := by have := f6.size; rw [HS5.out] at this; exact this
  clear c4 e4 k5
  have hexp := HE R M (d + 1) s2.tl w6 h6 (by omega) (by omega)
  rw [show ((d + 1 : Nat) : Int) = (d : Int) + 1 from rfl] at hexp
  generalize hx : hd1 (runE f (.expr (d + 1)) s2.tl) = x at *
  generalize hs1 : (runE f (.expr (d + 1)) s2.tl).2 = s3 at *
  clear hx hs1
  go_wp2_with fail
  refine hexp.mono ?_
  rintro e w7 ⟨c, rfl, hc, h7, f7⟩
  clear hexp
  have z7 := f7.size
  have HC := Lib.hid hc.len
  have hr7 := f7.at_ HR6.out (by simp; omega)
  have ht7 := f7.at_ HT6.out (by simp; omega)
  have hr8 := bl1 w7 (.cells c.toArray 39) hr7 (by omega)
  have ht8 := bl1 w7 (.cells c.toArray 39) ht7 (by omega)
  have h8 := h7.alloc (.cells c.toArray 39)
  have F8 := ((F5.trans f6).trans f7).alloc (.cells c.toArray 39)
  have hc8 := hc.all (.cells c.toArray 39) (S' := fun g => w3.heap.size + 1 ≤ g) (fun g hg hl => by have hg' : w6.heap.size ≤ g := hg; show w3.heap.size + 1 ≤ g; omega)
  have hl8 := LAt.one' (E := exE) hc8 (range_new w7 c _) (by simp) (show w3.heap.size + 1 ≤ w7.heap.size by omega)
  have c1 : (w7.alloc (.cells c.toArray 39)).cell? ⟨w3.heap.size, 1, none⟩ = some (.slice none 0 0) := cell_of_row _ _ _ _ _ _ ht8
  have e1 : (w7.alloc (.cells c.toArray 39)).frozen? ⟨w3.heap.size, 1, none⟩ = false := frozen_of_row _ _ _ _ _ ht8
  have u9 := up_set ht8 1 (.slice (some ⟨w7.heap.size, 0, none⟩) 1 1)
  have HR9 := Lib.hid ((u9.oth w.heap.size (by omega)).trans hr8)
  have h9 := h8.up u9 ht8 (by decide) (by decide)
  have F9 := F8.up u9 (by omega)
  have hl9 := hl8.upd u9 (S' := fun g => w3.heap.size + 1 ≤ g) (fun g hg hl => ⟨hg, by have hg' : w3.heap.size + 1 ≤ g := hg; omega⟩)
  have HT9 : Hid (((w7.alloc (.cells c.toArray 39)).setCell ⟨w3.heap.size, 1, none⟩ (.slice (some ⟨w7.heap.size, 0, none⟩) 1 1)).heap[w3.heap.size]? = some (.cells (stL 8 (.slice (some ⟨w7.heap.size, 0, none⟩) 1 1) (.slice none 0 0) ⟨v.nm, v.ty, n, v.at_⟩ v.at_).toArray 44)) := Lib.hid u9.at_
  clear u9 hr7 ht7 hr8 ht8 hl8 hc8 hc
  go_wp2_with (((with_reducible refine bsE1 c HC.out ?_ ?_); rfl))
  refine (want_any ⟨#[59]⟩ (by decide) h9).mono ?_
  rintro e w10 ⟨rfl, h10, f10⟩
  have HR7 := Lib.hid (f10.at_ HR9.out (by simp; omega))
  have HT7 := Lib.hid (f10.at_ HT9.out (by simp; omega))
  have hl10 := hl9.fr f10 (S' := fun g => w3.heap.size + 1 ≤ g) (fun g hg hl => ⟨hg, by have hg' : w3.heap.size + 1 ≤ g := hg; simp; omega⟩)
  clear c1 e1
  go_wp2_with (first | ((with_reducible refine ldG 44 w3.heap.size ?_ HT7.out Tryz.underlying44 ?_ ?_ ?_); rfl; rfl; exact sizeSt) | ((with_reducible refine stR 44 10 sizeSt w.heap.size (c := stL 8 (.slice (some ⟨w7.heap.size, 0, none⟩) 1 1) (.slice none 0 0) ⟨v.nm, v.ty, n, v.at_⟩ v.at_) rfl (oneT _ _ _ _ _ _ _ _ _) HR7.out rfl ?_ ?_ ?_); rfl; rfl; intro Y hY; have HY9 := Lib.hid hY; clear hY))
  refine ret_row Tryz.results107 w.heap.size 44 _ _ rfl rfl HY9.out.at_ Tryz.underlying44 rfl sizeSt ?_
  rw [HV.out]
  exact ⟨_, rfl, StAt.of (hl10.upd HY9.out (fun g hg hl => ⟨by have hg' : w3.heap.size + 1 ≤ g := hg; show w.heap.size ≤ g; omega, by have hg' : w3.heap.size + 1 ≤ g := hg; omega⟩)) (LAt.nil stE' _ _), h10.up HY9.out HR7.out (by decide) (by decide), (F9.trans f10).up HY9.out (by omega)⟩
end Go.Proofs.YtfjobnljdkiihaaGreatDoor
