/- Encode of package code answers what encS and encW say, of any instruction, where the table of forms reads as the program lays it; at most new blocks in memory. Conditions: the table, and that the numbers are of 64 bits. -/
import Derived.Test.YtpdflpkbamdbeaaDoorCodeTab
import Derived.Test.YtpdflpkbamdbeaaDoorCodeAllow
import Derived.Test.YtpdflpkbamdbeaaDoorCodePack
import Derived.Deep.RegionHeld3
import Derived.Deep.DeepCutAuto
import Derived.Deep.WholeRow
namespace Go.Proofs.YtpdflpkbamdbeaaDoor
open Go.RowKit Go.Maps
set_option linter.unusedVariables false
set_option linter.unusedSimpArgs false
set_option maxRecDepth 10000
open Pc

/-- The forms, as values. -/
def fmL : Nat → List Value
  | 0 => [.bool true, .bool true, .bool true, .int .u32 4261441663, .int .i64 1, .int .i64 0, .int .i64 0, .int .i64 0, .int .i64 0, .int .i64 0, .int .i64 0, .int .i64 0, .int .i64 0, .int .i64 0, .int .i64 0, .int .i64 0, .int .i64 0, .int .i64 0, .int .i64 0]
  | 1 => [.bool true, .bool true, .bool false, .int .u32 28799, .int .i64 (-2048), .int .i64 2047, .int .i64 1, .int .i64 0, .int .i64 20, .int .i64 12, .int .i64 0, .int .i64 0, .int .i64 0, .int .i64 0, .int .i64 0, .int .i64 0, .int .i64 0, .int .i64 0, .int .i64 0]
  | 2 => [.bool true, .bool true, .bool false, .int .u32 4227887231, .int .i64 0, .int .i64 63, .int .i64 1, .int .i64 0, .int .i64 20, .int .i64 6, .int .i64 0, .int .i64 0, .int .i64 0, .int .i64 0, .int .i64 0, .int .i64 0, .int .i64 0, .int .i64 0, .int .i64 0]
  | 3 => [.bool false, .bool true, .bool true, .int .u32 28799, .int .i64 (-2048), .int .i64 2047, .int .i64 1, .int .i64 0, .int .i64 7, .int .i64 5, .int .i64 5, .int .i64 25, .int .i64 7, .int .i64 0, .int .i64 0, .int .i64 0, .int .i64 0, .int .i64 0, .int .i64 0]
  | 4 => [.bool false, .bool true, .bool true, .int .u32 28799, .int .i64 (-4096), .int .i64 4094, .int .i64 2, .int .i64 11, .int .i64 7, .int .i64 1, .int .i64 1, .int .i64 8, .int .i64 4, .int .i64 5, .int .i64 25, .int .i64 6, .int .i64 12, .int .i64 31, .int .i64 1]
  | 5 => [.bool true, .bool false, .bool false, .int .u32 127, .int .i64 (-524288), .int .i64 524287, .int .i64 1, .int .i64 0, .int .i64 12, .int .i64 20, .int .i64 0, .int .i64 0, .int .i64 0, .int .i64 0, .int .i64 0, .int .i64 0, .int .i64 0, .int .i64 0, .int .i64 0]
  | 6 => [.bool true, .bool false, .bool false, .int .u32 127, .int .i64 (-1048576), .int .i64 1048574, .int .i64 2, .int .i64 12, .int .i64 12, .int .i64 8, .int .i64 11, .int .i64 20, .int .i64 1, .int .i64 1, .int .i64 21, .int .i64 10, .int .i64 20, .int .i64 31, .int .i64 1]
  | 7 => [.bool false, .bool false, .bool false, .int .u32 4294967295, .int .i64 1, .int .i64 0, .int .i64 0, .int .i64 0, .int .i64 0, .int .i64 0, .int .i64 0, .int .i64 0, .int .i64 0, .int .i64 0, .int .i64 0, .int .i64 0, .int .i64 0, .int .i64 0, .int .i64 0]
  | _ => []
def formCells : List Value := fmL 0 ++ fmL 1 ++ fmL 2 ++ fmL 3 ++ fmL 4 ++ fmL 5 ++ fmL 6 ++ fmL 7
/-- The table of forms reads as the program lays it. -/
def FormsIn (w : World) : Prop := 0 < w.heap.size ∧ w.rangeAt 0 0 formCells
theorem FormsIn.keep {w w' : World} {B : Nat} (h : FormsIn w) (hb : Below B w w') (hB : w.heap.size ≤ B) : FormsIn w' :=
  ⟨Nat.lt_of_lt_of_le h.1 hb.size, fun j v hv => (hb.cell (p := ⟨0, 0 + j, none⟩) (Nat.lt_of_lt_of_le h.1 hB)).trans (h.2 j v hv)⟩
abbrev frmL (b1 b2 b3 : Bool) (fx lo hi st a0 w0 c0 a1 w1 c1 a2 w2 c2 a3 w3 c3 : Int) : List Value :=
  [.bool b1, .bool b2, .bool b3, .int .u32 fx, .int .i64 lo, .int .i64 hi, .int .i64 st, .int .i64 a0, .int .i64 w0, .int .i64 c0, .int .i64 a1, .int .i64 w1, .int .i64 c1, .int .i64 a2, .int .i64 w2, .int .i64 c2, .int .i64 a3, .int .i64 w3, .int .i64 c3]
theorem below_of {w wc : World} {I : Obj} (h : Below (w.heap.size + 1) (w.alloc I) wc) : Below w.heap.size w wc := ((Below.refl _ _).alloc (Nat.le_refl _) I).trans (h.mono (by omega))
theorem forms_part : ∀ k, k < 8 → (formCells.drop (19 * k)).take 19 = fmL k := by
  intro k hk
  match k, hk with
  | 0, _ => rfl
  | 1, _ => rfl
  | 2, _ => rfl
  | 3, _ => rfl
  | 4, _ => rfl
  | 5, _ => rfl
  | 6, _ => rfl
  | 7, _ => rfl
theorem FormsIn.at (k : Nat) (hk : k < 8) {w : World} (h : FormsIn w) : w.rangeAt 0 (19 * k) (fmL k) := by
  intro j v hv
  rw [← forms_part k hk, List.getElem?_take] at hv
  split at hv
  · rw [List.getElem?_drop] at hv
    have := h.2 (19 * k + j) v hv
    rwa [Nat.zero_add] at this
  · cases hv

theorem bcell {W w1 : World} (hb : Below W.heap.size W w1) : (∀ b o, b < W.heap.size → w1.cell? ⟨b, o, none⟩ = W.cell? ⟨b, o, none⟩) ∧ (∀ b o, b < W.heap.size → w1.frozen? ⟨b, o, none⟩ = W.frozen? ⟨b, o, none⟩) :=
  ⟨fun b o h => hb.cell (p := ⟨b, o, none⟩) h, fun b o h => hb.frozen (p := ⟨b, o, none⟩) h⟩
theorem szA (w : World) (o : Obj) : (w.alloc o).heap.size = w.heap.size + 1 := by simp
theorem szD (w : World) : w.drew.heap.size = w.heap.size := rfl
theorem shapes_at (w : World) (b : Nat) (hb : b = w.heap.size) :
    Calls Tryd.prog 35 #[] w fun e w' => e = .returned (.map (some b)) ∧ w'.ownsMap Tryd.prog 3 shapeR b 55 D13 ∧ Below w.heap.size w w' := by
  subst hb; exact shapes_any w
theorem sizeForm' : (Tryd.prog.info? 96).map (·.size) = some 19 := by kernel_rfl

theorem below_box (w w1 : World) (I O : Obj) (h : Below ((w.alloc I).drew.heap.size) (w.alloc I).drew w1) : Below w.heap.size w w1 :=
  ((Below.refl _ _).alloc (Nat.le_refl _) I).drew.trans (h.mono (by simp only [szA, szD]; omega))
set_option maxHeartbeats 1000000 in
theorem enc_out (op rd r1 r2 n : Int) (w : World) (hop : (Lit.int .i64 op).wf = true) (h : ¬ (1 ≤ op ∧ op ≤ 55)) :
    Calls Tryd.prog 14 #[ins op rd r1 r2 n] w fun e w' => e = .returned (.tuple #[.int .u32 0, .int .i64 2]) ∧ Below w.heap.size w w' := by
  go_enter Tryd.func14, Tryd.ntmps14
  go_upto_region 1 with fail
  go_cut [4, 5] (fun s4 s5 wx => s5 = .bool false ∧ Below w.heap.size w wx)
  case first =>
    go_region_held3 (fun w' => w'.cell? ⟨w.heap.size, 0, none⟩ = some (.int .i64 op)) (first | go_keep | (rw [hb.cell (by simp only [szA, szD]; omega)]; go_simp)) (first | (go_at_call 35; refine (shapes_any _).mono ?_; rintro e w1 ⟨rfl, hown, hb⟩; obtain ⟨hc, hf⟩ := bcell hb; have hz := hb.size; have hl0 := look_out op _ _ w1 hop h hown; have hl1 := fun (o : Obj) => look_out op _ _ (w1.alloc o) hop h (hown.alloc o); simp only [szA, szD] at hl0 hl1 hz hc hf))
    all_goals
      go_wp2_with fail
      go_meet
      refine ⟨rfl, ?_⟩
      have hB0 := Below.trans (B := w.heap.size) (a := w) (by repeat (first | exact Below.refl _ _ | apply Below.drew | (refine Below.alloc ?_ (by simp) _))) (hb.mono (by simp only [szA, szD]; omega))
      repeat (first | exact hB0 | (refine Below.setCell ?_ (by simp) _) | (refine Below.alloc ?_ (by omega) _))
  case rest =>
    obtain ⟨rfl, hB⟩ := hcut
    go_wp2
    go_ret2
    exact ⟨rfl, hB⟩

theorem look_row (op k o f g : Int) (b n : Nat) (w : World) (h1 : 1 ≤ op) (h2 : op ≤ 55) (hrow : Hid (rowOf op = (k, o, f, g))) (hown : w.ownsMap Tryd.prog 3 shapeR b n D13) :
    (Instr.lookup 90 (.map (some b)) (.int .i64 op) true).run Tryd.prog w = .ok (.tuple #[.agg #[.int .u8 o, .int .u8 f, .int .u8 g, .int .u8 k], .bool true]) w := by
  have := look_in op b n w h1 h2 hown
  rw [hrow.out] at this
  exact this
def EncMid (w : World) (I : Obj) (k o f g : Int) (s4 s5 : Value) (wx : World) : Prop :=
  ∃ b : Nat, s4 = .pointer (some ⟨b, 0, none⟩) ∧ s5 = .bool true ∧ wx.cell? ⟨b, 0, none⟩ = some (.int .u8 o) ∧ wx.cell? ⟨b, 1, none⟩ = some (.int .u8 f) ∧ wx.cell? ⟨b, 2, none⟩ = some (.int .u8 g) ∧ wx.cell? ⟨b, 3, none⟩ = some (.int .u8 k) ∧
    w.heap.size < b ∧ b < wx.heap.size ∧ Below (w.heap.size + 1) (w.alloc I) wx
theorem frm_one (b1 b2 b3 : Bool) (fx lo hi st a0 w0 c0 a1 w1 c1 a2 w2 c2 a3 w3 c3 : Int) : (frmL b1 b2 b3 fx lo hi st a0 w0 c0 a1 w1 c1 a2 w2 c2 a3 w3 c3).toArray.all (·.oneCell') = true := all_oneCell_toArray (by simp [frmL, Value.oneCell'])
theorem wpList_store_new {P : Program} {ops : Array Oper} {rest : List Oper} {o : Oper} {a : Act} {w : World} {Q : Exit → Act → World → Prop} (hgd : o.guard = none) (ty : TypeId) (x y : Operand) (ho : o.op = .store ty x y)
    (cells old : Array Value) (t : TypeId) (hx : a.eval x = .pointer (some ⟨w.heap.size, 0, none⟩)) (hy : a.eval y = .agg cells) (hi : (P.info? ty).map (·.size) = some cells.size)
    (hold : old.size = cells.size) (h1 : cells.all (·.oneCell') = true)
    (h : wpList P ops Q rest (a.put o.dst undef) (w.alloc (.cells cells t))) : wpList P ops Q (o :: rest) a (w.alloc (.cells old t)) :=
  wpList_store_row hgd ty x y ho w.heap.size cells hx hy t old (heap_alloc_new w _) hi hold h1 (by rw [World.setRow_alloc_new]; exact h)
theorem run_loadAt_row {P : Program} (w : World) (g : Nat) (t ty : TypeId) (cs : Array Value) (fr : Nat × Nat) (d : TypeDesc) (hg : w.heap[g]? = some (.cells cs t fr))
    (hu : P.underlying ty = some d) (hd : (match d with | .struct _ | .array _ _ => true | _ => false) = true) (hi : (P.info? ty).map (·.size) = some cs.size) :
    (Instr.loadAt ty (.pointer (some ⟨g, 0, none⟩))).run P w = .ok (.agg cs) w := by
  simp only [Instr.loadAt, Instr.sureAddr, Sem.run_bind, Sem.run_pure, Result.andThen_ok, run_loadVar_row w g t ty cs fr d hg hu hd hi]
/-- A form read whole: kept shut, so that no cell is read by itself. -/
def ldF (g : Nat) : Sem Value := Instr.loadAt 96 (.pointer (some ⟨g, 0, none⟩))
theorem ldF_eq (g : Nat) : Instr.loadAt 96 (.pointer (some ⟨g, 0, none⟩)) = ldF g := rfl
theorem ldF_run (b1 b2 b3 : Bool) (fx lo hi st a0 w0 c0 a1 w1 c1 a2 w2 c2 a3 w3 c3 : Int) (g : Nat) (W : World) (h : W.heap[g]? = some (.cells (frmL b1 b2 b3 fx lo hi st a0 w0 c0 a1 w1 c1 a2 w2 c2 a3 w3 c3).toArray 96)) :
    (ldF g).run Tryd.prog W = .ok (frm b1 b2 b3 fx lo hi st a0 w0 c0 a1 w1 c1 a2 w2 c2 a3 w3 c3) W := run_loadAt_row W _ _ _ _ _ _ h Tryd.underlying96 rfl sizeForm'
theorem yieldsIf_load_row {P : Program} {ops : Array Oper} {S : World → Prop} {op : Oper} {a : Act} (hw : Region.wanted op (yielded ops a.tmps) = true) (ty : TypeId) (x : Operand) (ho : op.op = .load ty x)
    (g : Nat) (hx : a.eval x = .pointer (some ⟨g, 0, none⟩)) (t : TypeId) (cs : Array Value) (fr : Nat × Nat) (d : TypeDesc) (hS : ∀ w : World, S w → w.heap[g]? = some (.cells cs t fr))
    (hu : P.underlying ty = some d) (hd : (match d with | .struct _ | .array _ _ => true | _ => false) = true) (hi : (P.info? ty).map (·.size) = some cs.size) : YieldsIf P ops S op (.agg cs) a :=
  .inl ⟨hw, fun w hw' => by
    unfold execOp
    simp only [ho, hx, Instr.loadAt, Instr.sureAddr, Sem.run_bind, Sem.run_pure, Result.andThen_ok, run_loadVar_row w g t ty cs fr d (hS w hw') hu hd hi]⟩
theorem row_at {w w' : World} {B g : Nat} {o : Obj} (hb : Below B w w') (hg : g < B) (h : w.heap[g]? = some o) : w'.heap[g]? = some o := (hb.block g hg).trans h
set_option maxHeartbeats 4000000 in
theorem enc_gen (b1 b2 b3 : Bool) (fx lo hi st a0 w0 c0 a1 w1 c1 a2 w2 c2 a3 w3 c3 op rd r1 r2 n o f g : Int) (k : Nat) (Z A : Bool) (V R : Int) (w : World) (h1 : 1 ≤ op) (h2 : op ≤ 55) (hk : k < 8) (hrow : Hid (rowOf op = ((k : Int), o, f, g)))
    (ho : 0 ≤ o ∧ o < 128) (hf : 0 ≤ f ∧ f < 8) (hg : 0 ≤ g ∧ g < 128)
    (hF : ∀ W, Below w.heap.size w W → W.rangeAt 0 (k * 19) (frmL b1 b2 b3 fx lo hi st a0 w0 c0 a1 w1 c1 a2 w2 c2 a3 w3 c3))
    (hZ : Hid (∀ W, Calls Tryd.prog 36 #[frm b1 b2 b3 fx lo hi st a0 w0 c0 a1 w1 c1 a2 w2 c2 a3 w3 c3, ins op rd r1 r2 n] W fun e w' => e = .returned (.bool Z) ∧ Below W.heap.size W w'))
    (hA : Hid (Z = true → ∀ W, Calls Tryd.prog 37 #[frm b1 b2 b3 fx lo hi st a0 w0 c0 a1 w1 c1 a2 w2 c2 a3 w3 c3, ins op rd r1 r2 n] W fun e w' => e = .returned (.bool A) ∧ Below W.heap.size W w'))
    (hV : Hid (Z = true → A = true → ∀ W, Calls Tryd.prog 39 #[frm b1 b2 b3 fx lo hi st a0 w0 c0 a1 w1 c1 a2 w2 c2 a3 w3 c3, ins op rd r1 r2 n] W fun e w' => e = .returned (.int .u32 V) ∧ Below W.heap.size W w'))
    (hR : Hid (Z = true → A = true → bits .or .u32 (keyV o f g) V = R)) :
    Calls Tryd.prog 14 #[ins op rd r1 r2 n] w fun e w' => e = .returned (.tuple #[.int .u32 (if Z && A then R else 0), .int .i64 (if Z then (if A then 0 else 1) else 2)]) ∧ Below w.heap.size w w' := by
  go_enter Tryd.func14, Tryd.ntmps14
  go_upto_region 1 with fail
  go_cut [4, 5] (fun s4 s5 wx => EncMid w (.cells #[.int .i64 op, .int .i64 rd, .int .i64 r1, .int .i64 r2, .int .i64 n] 23) k o f g s4 s5 wx)
  case first =>
    go_region_held3 (fun w' => w'.cell? ⟨w.heap.size, 0, none⟩ = some (.int .i64 op)) (first | go_keep | (rw [hb.cell (by simp only [szA, szD]; omega)]; go_simp)) (first | (go_at_call 35; refine (shapes_any _).mono ?_; rintro e w1 ⟨rfl, hown, hb⟩; obtain ⟨hc, hf⟩ := bcell hb; have hz := hb.size; have hl0 := look_row op k o f g _ _ w1 h1 h2 hrow hown; have hl1 := fun (ob : Obj) => look_row op k o f g _ _ (w1.alloc ob) h1 h2 hrow (hown.alloc ob); simp only [szA, szD] at hl0 hl1 hz hc hf))
    all_goals
      go_wp2_with fail
      go_meet
      have hB0 := Below.trans (B := w.heap.size + 1) (a := w.alloc (.cells #[.int .i64 op, .int .i64 rd, .int .i64 r1, .int .i64 r2, .int .i64 n] 23)) (by repeat (first | exact Below.refl _ _ | apply Below.drew | (refine Below.alloc ?_ (by simp) _))) (hb.mono (by simp only [szA, szD]; omega))
      refine ⟨_, rfl, rfl, by go_simp, by go_simp, by go_simp, by go_simp, by omega, by simp; try omega, ?_⟩
      repeat (first | exact hB0 | (refine Below.setCell ?_ (by simp) _) | (refine Below.alloc ?_ (by omega) _))
  case rest =>
    obtain ⟨b, rfl, rfl, e0, e1, e2, e3, e4, e5, hB⟩ := hcut
    have hF' := hF wc (below_of hB)
    have i0 : wc.cell? ⟨w.heap.size, 0, none⟩ = some (.int .i64 op) := (hB.cell (by simp)).trans (by go_simp)
    have i1 : wc.cell? ⟨w.heap.size, 1, none⟩ = some (.int .i64 rd) := (hB.cell (by simp)).trans (by go_simp)
    have i2 : wc.cell? ⟨w.heap.size, 2, none⟩ = some (.int .i64 r1) := (hB.cell (by simp)).trans (by go_simp)
    have i3 : wc.cell? ⟨w.heap.size, 3, none⟩ = some (.int .i64 r2) := (hB.cell (by simp)).trans (by go_simp)
    have i4 : wc.cell? ⟨w.heap.size, 4, none⟩ = some (.int .i64 n) := (hB.cell (by simp)).trans (by go_simp)
    have i5 : w.heap.size < wc.heap.size := by omega
    have HB := Lib.hid (below_of hB); clear hB
    have HF := Lib.hid hF; clear hF
    go_wp2_with (first | (refine wpList_store_new rfl 96 (.tmp 6) (.tmp 19) rfl (frmL b1 b2 b3 fx lo hi st a0 w0 c0 a1 w1 c1 a2 w2 c2 a3 w3 c3).toArray _ 96 rfl rfl sizeForm' rfl (frm_one b1 b2 b3 fx lo hi st a0 w0 c0 a1 w1 c1 a2 w2 c2 a3 w3 c3) ?_) | (refine wpList_load_g (o := ⟨some 21, _, _, _, _, _⟩) rfl 96 (.tmp 6) rfl wc.heap.size rfl 96 (frmL b1 b2 b3 fx lo hi st a0 w0 c0 a1 w1 c1 a2 w2 c2 a3 w3 c3).toArray (0, 0) _ (heap_alloc_new wc _) Tryd.underlying96 rfl sizeForm' ?_) | (refine wpList_load_mid (op := ⟨some 19, _, _, _, _, _⟩) rfl 96 (.tmp 18) rfl 0 (k * 19) rfl (frmL b1 b2 b3 fx lo hi st a0 w0 c0 a1 w1 c1 a2 w2 c2 a3 w3 c3) _ hF' Tryd.underlying96 rfl sizeForm' ?_))
    refine (hZ.out _).mono ?_
    rintro e x1 ⟨rfl, hx1⟩
    have F1 := row_at hx1 (by simp only [szA]; omega) (heap_alloc_new wc _)
    have HW1 : Below w.heap.size w x1 := (HB.out.alloc (by omega) _).trans (hx1.mono (by simp only [szA]; omega))
    obtain ⟨hc1, hf1⟩ := bcell hx1
    have hz1 := hx1.size
    simp only [szA] at hc1 hf1 hz1
    clear hx1 hf1
    cases Z
    · go_wp2
      go_ret2
      exact ⟨rfl, HW1⟩
    · have hA' := Lib.hid (hA.out rfl)
      have F1' := Lib.hid F1
      clear F1
      go_wp2_with ((refine wpList_load_g (o := ⟨some 26, _, _, _, _, _⟩) rfl 96 (.tmp 6) rfl wc.heap.size rfl 96 (frmL b1 b2 b3 fx lo hi st a0 w0 c0 a1 w1 c1 a2 w2 c2 a3 w3 c3).toArray (0, 0) _ (F1'.out) Tryd.underlying96 rfl sizeForm' ?_))
      refine (hA'.out _).mono ?_
      rintro e x2 ⟨rfl, hx2⟩
      have F2 := row_at hx2 (by omega) F1'.out
      have HW : Below w.heap.size w x2 := HW1.trans (hx2.mono (by omega))
      have i0' : x2.cell? ⟨w.heap.size, 0, none⟩ = some (.int .i64 op) := by rw [hx2.cell (by simp; omega), hc1 _ _ (by omega)]; go_simp
      have i1' : x2.cell? ⟨w.heap.size, 1, none⟩ = some (.int .i64 rd) := by rw [hx2.cell (by simp; omega), hc1 _ _ (by omega)]; go_simp
      have i2' : x2.cell? ⟨w.heap.size, 2, none⟩ = some (.int .i64 r1) := by rw [hx2.cell (by simp; omega), hc1 _ _ (by omega)]; go_simp
      have i3' : x2.cell? ⟨w.heap.size, 3, none⟩ = some (.int .i64 r2) := by rw [hx2.cell (by simp; omega), hc1 _ _ (by omega)]; go_simp
      have i4' : x2.cell? ⟨w.heap.size, 4, none⟩ = some (.int .i64 n) := by rw [hx2.cell (by simp; omega), hc1 _ _ (by omega)]; go_simp
      have k0' : x2.cell? ⟨b, 0, none⟩ = some (.int .u8 o) := by rw [hx2.cell (by simp; omega), hc1 _ _ (by omega)]; go_simp
      have k1' : x2.cell? ⟨b, 1, none⟩ = some (.int .u8 f) := by rw [hx2.cell (by simp; omega), hc1 _ _ (by omega)]; go_simp
      have k2' : x2.cell? ⟨b, 2, none⟩ = some (.int .u8 g) := by rw [hx2.cell (by simp; omega), hc1 _ _ (by omega)]; go_simp
      have hz2 : wc.heap.size < x2.heap.size := by have := hx2.size; omega
      clear hx2 hc1 hz1 e0 e1 e2 e3 i0 i1 i2 i3 i4 HW1 hF'
      cases A
      · go_wp2
        go_ret2
        exact ⟨rfl, HW⟩
      · have hV' := Lib.hid (hV.out (by simp) (by simp))
        have hR' := hR.out (by simp) (by simp)
        go_wp2_with fail
        refine wp_region_held_drew (S := (fun W : World => W.heap[wc.heap.size]? = some (.cells (frmL b1 b2 b3 fx lo hi st a0 w0 c0 a1 w1 c1 a2 w2 c2 a3 w3 c3).toArray 96) ∧ W.cell? ⟨w.heap.size, 0, none⟩ = some (.int .i64 op) ∧ W.cell? ⟨w.heap.size, 1, none⟩ = some (.int .i64 rd) ∧ W.cell? ⟨w.heap.size, 2, none⟩ = some (.int .i64 r1) ∧ W.cell? ⟨w.heap.size, 3, none⟩ = some (.int .i64 r2) ∧ W.cell? ⟨w.heap.size, 4, none⟩ = some (.int .i64 n) ∧ W.cell? ⟨b, 0, none⟩ = some (.int .u8 o) ∧ W.cell? ⟨b, 1, none⟩ = some (.int .u8 f) ∧ W.cell? ⟨b, 2, none⟩ = some (.int .u8 g))) (by kernel_rfl) ⟨F2, i0', i1', i2', i3', i4', k0', k1', k2'⟩ (fun hHeld => ?_)
        refine wpAnyH_take (i := 0) (oi := _) (v := ?v1) rfl (by kernel_rfl) (by kernel_rfl) (by kernel_rfl) (fun _ _ _ h => h) (Or.inl ⟨by rfl, ?hy1⟩) (by assumption) ?rest1
        case hy1 => ((intro W hSW; (try dsimp only at hSW); go_simp); try with_reducible rfl)
        simp only [Act.put, List.setIfInBounds_toArray, List.set_cons_zero, List.set_cons_succ]
        refine wpAnyH_take (i := 3) (oi := _) (v := frm b1 b2 b3 fx lo hi st a0 w0 c0 a1 w1 c1 a2 w2 c2 a3 w3 c3) rfl (by kernel_rfl) (by kernel_rfl) (by kernel_rfl) (fun _ _ _ h => h) (yieldsIf_load_row (by rfl) 96 (.tmp 6) rfl wc.heap.size rfl 96 (frmL b1 b2 b3 fx lo hi st a0 w0 c0 a1 w1 c1 a2 w2 c2 a3 w3 c3).toArray (0, 0) _ (fun W h => h.1) Tryd.underlying96 rfl sizeForm') (by assumption) ?_
        simp only [Act.put, List.setIfInBounds_toArray, List.set_cons_zero, List.set_cons_succ]
        refine wpAnyH_take (i := 1) (oi := _) (v := ?v3) rfl (by kernel_rfl) (by kernel_rfl) (by kernel_rfl) (fun _ _ _ h => h) (Or.inl ⟨by rfl, ?hy3⟩) (by assumption) ?rest3
        case hy3 => ((intro W hSW; (try dsimp only at hSW); go_simp); try with_reducible rfl)
        simp only [Act.put, List.setIfInBounds_toArray, List.set_cons_zero, List.set_cons_succ]
        refine wpAnyH_take (i := 4) (oi := _) (v := ?v4) rfl (by kernel_rfl) (by kernel_rfl) (by kernel_rfl) (fun _ _ _ h => h) (Or.inl ⟨by rfl, ?hy4⟩) (by assumption) ?rest4
        case hy4 => ((intro W hSW; (try dsimp only at hSW); go_simp); try with_reducible rfl)
        simp only [Act.put, List.setIfInBounds_toArray, List.set_cons_zero, List.set_cons_succ]
        refine wpAnyH_ready (rs := [2]) (by kernel_rfl) (by simp) ?_
        refine AllReadyH.cons (o := _) rfl (fun K hK => ?_) ?_
        · go_simp
          refine (word_any _ _ _ _ ho hf hg).mono ?_
          rintro e y ⟨rfl, hb⟩
          have hz := hb.size
          have HW := Below.trans (a := w) (B := w.heap.size) (by first | exact HW | exact HW.drew) (hb.mono (by first | omega | (simp only [szD]; omega)))
          try simp only [szD] at hz
          try go_wp2_with fail
          refine hK.out _ _ ⟨row_at hb (by first | omega | (simp only [szD]; omega)) hHeld.1, ?_⟩ (fun hHeld => ?_)
          · obtain ⟨-, h2, h3, h4, h5, h6, h7, h8, h9⟩ := hHeld
            refine ⟨?_, ?_, ?_, ?_, ?_, ?_, ?_, ?_⟩ <;> (rw [hb.cell (by first | omega | (simp only [szD]; omega))]; assumption)
          clear hK K
          try simp only [Act.put, List.setIfInBounds_toArray, List.set_cons_zero, List.set_cons_succ]
          refine wpAnyH_ready (rs := [5]) (by kernel_rfl) (by simp) ?_
          refine AllReadyH.cons (o := _) rfl (fun K hK => ?_) ?_
          · go_simp
            refine (hV'.out _).mono ?_
            rintro e y ⟨rfl, hb⟩
            have hz := hb.size
            have HW := Below.trans (a := w) (B := w.heap.size) (by first | exact HW | exact HW.drew) (hb.mono (by first | omega | (simp only [szD]; omega)))
            try simp only [szD] at hz
            try go_wp2_with fail
            refine hK.out _ _ ⟨row_at hb (by first | omega | (simp only [szD]; omega)) hHeld.1, ?_⟩ (fun hHeld => ?_)
            · obtain ⟨-, h2, h3, h4, h5, h6, h7, h8, h9⟩ := hHeld
              refine ⟨?_, ?_, ?_, ?_, ?_, ?_, ?_, ?_⟩ <;> (rw [hb.cell (by first | omega | (simp only [szD]; omega))]; assumption)
            clear hK K
            try simp only [Act.put, List.setIfInBounds_toArray, List.set_cons_zero, List.set_cons_succ]
            refine wpAnyH_take (i := 6) (oi := _) (v := ?v5) rfl (by kernel_rfl) (by kernel_rfl) (by kernel_rfl) (fun _ _ _ h => h) (Or.inl ⟨by rfl, ?hy5⟩) (by assumption) ?rest5
            case hy5 => ((intro W hSW; (try dsimp only at hSW); go_simp); try with_reducible rfl)
            simp only [Act.put, List.setIfInBounds_toArray, List.set_cons_zero, List.set_cons_succ]
            refine wpAnyH_take (i := 7) (oi := _) (v := ?v6) rfl (by kernel_rfl) (by kernel_rfl) (by kernel_rfl) (fun _ _ _ h => h) (Or.inl ⟨by rfl, ?hy6⟩) (by assumption) ?rest6
            case hy6 => ((intro W hSW; (try dsimp only at hSW); go_simp); try with_reducible rfl)
            simp only [Act.put, List.setIfInBounds_toArray, List.set_cons_zero, List.set_cons_succ]
            refine wpAnyH_take (i := 8) (oi := _) (v := ?v7) rfl (by kernel_rfl) (by kernel_rfl) (by kernel_rfl) (fun _ _ _ h => h) (Or.inl ⟨by rfl, ?hy7⟩) (by assumption) ?rest7
            case hy7 => ((intro W hSW; (try dsimp only at hSW); go_simp); try with_reducible rfl)
            simp only [Act.put, List.setIfInBounds_toArray, List.set_cons_zero, List.set_cons_succ]
            refine wpAnyH_done (by kernel_rfl) ?_ _
            go_wp2
            go_ret2
            exact ⟨rfl, HW⟩
          · exact AllReadyH.nil
        · exact AllReadyH.nil
end Go.Proofs.YtpdflpkbamdbeaaDoor
