/- Decode of package code, any word: the instruction, or none; whatever the order in which the map is gone through; at most new blocks in memory. Conditions: the table of forms as the program lays it, and that the word is of 32 bits. -/
import Derived.Test.YtppcbommaddkgaaDoorCodeForm
import Derived.Test.YtppcbommaddkgaaDoorCodeLawsH
import Derived.Laws.ResultCell
namespace Go.Proofs.YtppcbommaddkgaaDoor
open Go.RowKit Go.Maps
set_option linter.unusedVariables false
set_option linter.unusedSimpArgs false
set_option maxRecDepth 10000
open Pc

/-- The step over the map of shapes: nothing is left, or a row of the tables has come. -/
theorem wpList_next_shapes {P : Program} (w : World) {ops : Array Oper} {rest : List Oper} {o : Oper} {a : Act} {Q : Exit → Act → World → Prop} (hP : P = Tryd.prog)
    (hg : o.guard = none) (it : Operand) (hop : o.op = Op.next it false) (b r : Nat) (left : Lit → Bool) (cnt : Nat)
    (hit : a.eval it = .pointer (some ⟨r, 0, none⟩)) (h : w.ranges P 3 shapeR b r 55 D13 left cnt)
    (hDone : (∀ kl, left kl = false) → wpList P ops Q rest (a.put o.dst (.tuple #[.bool false])) w)
    (hMore : ∀ (x f g od : Int) (k : Nat) (w' : World) (cnt' : Nat), 1 ≤ x → x ≤ 55 → Hid (rowOf x = ((k : Int), od, f, g)) → k < 8 → w'.ranges P 3 shapeR b r 55 D13 (fun z => left z && !z.sameKey (.int .i64 x)) cnt' → cnt' < cnt →
      w.grownBy w' (some r) → w'.heap.size = w.heap.size → (Instr.entry (.pointer (some ⟨r, 0, none⟩))).run P w' = .ok (.tuple #[.int .i64 x, .agg #[.int .u8 od, .int .u8 f, .int .u8 g, .int .u8 k]]) w' →
      wpList P ops Q rest (a.put o.dst (.tuple #[.bool true, .int .i64 x, .agg #[.int .u8 od, .int .u8 f, .int .u8 g, .int .u8 k]])) w') :
    wpList P ops Q (o :: rest) a w := by
  subst hP
  refine wpList_plain hg fun K' hK' => ?_
  unfold Oper.wp
  rcases h.next lawInt o.type with ⟨h0, hl, hrun⟩ | ⟨key, v, kl, y, w', cnt', hkey, hlk, hv, hat, hrun, hrg, hlt, hgr, hsz, hen⟩
  · simp [execOp, hop, hit, hrun, Result.andThen]
    exact hK' _ _ (hDone hl)
  · obtain ⟨x, rfl, rfl, hwx⟩ := keyOf_int_inv Tryd.underlying3 hkey
    have hx : 1 ≤ x ∧ x ≤ 55 := by
      by_cases hx : 1 ≤ x ∧ x ≤ 55
      · exact hx
      · have e1 := hat .nil
        rw [D13_not x hx] at e1
        have e2 := hat (.map [])
        rw [D13_not x hx] at e2
        rw [← e1] at e2
        cases e2
    have hy := hat .nil
    rw [D13_at x hx.1 hx.2] at hy
    have hv' : shapeR v = some (shapeD (rowOf x).2.1 (rowOf x).2.2.1 (rowOf x).2.2.2 (rowOf x).1, y.2) := by rw [hv, hy]
    obtain rfl := shapeR_inv hv'
    have hk := (okRow_out (rowOf_ok x hx.1 hx.2)).1
    obtain ⟨k, hke⟩ := Int.eq_ofNat_of_zero_le (show 0 ≤ (rowOf x).1 by omega)
    rw [hke] at hrun hen
    simp [execOp, hop, hit, hrun, Result.andThen]
    exact hK' _ _ (hMore x (rowOf x).2.2.1 (rowOf x).2.2.2 (rowOf x).2.1 k w' cnt' hx.1 hx.2 (Lib.hid (by rw [← hke])) (by omega) hrg hlt hgr hsz hen)

/-- What a round of the search keeps. -/
def DecRel (w : World) (u : Int) (b r : Nat) (wr : World) : Prop :=
  ∃ left cnt, wr.ranges Tryd.prog 3 shapeR b r 55 D13 left cnt ∧ Below w.heap.size w wr ∧ wr.heap[w.heap.size]? = some (insB 0 0 0 0 0) ∧ w.heap.size < b ∧ w.heap.size < r ∧ b < wr.heap.size ∧ r < wr.heap.size ∧
    ∀ op : Int, 1 ≤ op → op ≤ 55 → left (.int .i64 op) = false → mtR (rowOf op) u = false

theorem wpList_store_newd {P : Program} {ops : Array Oper} {rest : List Oper} {o : Oper} {a : Act} {w : World} {Q : Exit → Act → World → Prop} (hgd : o.guard = none) (ty : TypeId) (x y : Operand) (ho : o.op = .store ty x y)
    (cells old : Array Value) (t : TypeId) (g : Nat) (hg : g = w.heap.size) (hx : a.eval x = .pointer (some ⟨g, 0, none⟩)) (hy : a.eval y = .agg cells) (hi : (P.info? ty).map (·.size) = some cells.size)
    (hold : old.size = cells.size) (h1 : cells.all (·.oneCell') = true)
    (h : wpList P ops Q rest (a.put o.dst undef) (w.alloc (.cells cells t))) : wpList P ops Q (o :: rest) a (w.alloc (.cells old t)) := by
  subst hg; exact wpList_store_new hgd ty x y ho cells old t hx hy hi hold h1 h
/-- Decode's answer. -/
def DecPost (u : Int) (w : World) (e : Ending) (w' : World) : Prop :=
  e = .returned (.tuple #[ins (findOp u) (if findOp u = 0 then 0 else dRd (rowOf (findOp u)).1 u) (if findOp u = 0 then 0 else dR1 (rowOf (findOp u)).1 u) (if findOp u = 0 then 0 else dR2 (rowOf (findOp u)).1 u) (if findOp u = 0 then 0 else dI (rowOf (findOp u)).1 u), .int .i64 (if findOp u = 0 then 2 else 0)]) ∧ Below w.heap.size w w'
theorem decPost_none {u : Int} {w w' : World} (h : ∀ op : Int, 1 ≤ op → op ≤ 55 → mtR (rowOf op) u = false) (hb : Below w.heap.size w w') : DecPost u w (.returned (.tuple #[ins 0 0 0 0 0, .int .i64 2])) w' := by
  have e := findOp_none u h
  unfold DecPost
  rw [e]
  exact ⟨by simp, hb⟩
theorem decPost_some {u x o f g : Int} {k : Nat} {w w' : World} (h1 : 1 ≤ x) (h2 : x ≤ 55) (hr : rowOf x = ((k : Int), o, f, g)) (hm : mt (k : Int) o f g u = true) (hb : Below w.heap.size w w') :
    DecPost u w (.returned (.tuple #[ins x (dRd (k : Int) u) (dR1 (k : Int) u) (dR2 (k : Int) u) (dI (k : Int) u), .int .i64 0])) w' := by
  have e := findOp_of x u h1 h2 (by unfold mtR; rw [hr]; exact hm)
  unfold DecPost
  rw [e, hr]
  have : x ≠ 0 := by omega
  exact ⟨by simp [this], hb⟩
theorem res_cell_tmp {P : Program} {fn : Func} {p u : Tmp} {ty : TypeId} (h : fn.results = #[.cell p ty, .tmp u]) (tmps : Array Value) (w : World) (g : Nat) (t : TypeId) (cs : Array Value) (fr : Nat × Nat) (d : TypeDesc) (v : Value)
    (hp : tmps.getD p undef = .pointer (some ⟨g, 0, none⟩)) (hv : tmps.getD u undef = v) (hg : w.heap[g]? = some (.cells cs t fr))
    (hu : P.underlying ty = some d) (hd : (match d with | .struct _ | .array _ _ => true | _ => false) = true) (hi : (P.info? ty).map (·.size) = some cs.size) :
    (results fn tmps).run P w = .ok (.tuple #[.agg cs, v]) w := by
  rw [results_cell_tmp h]
  simp [hp, hv, asAddr, run_loadVar_row w g t ty cs fr d hg hu hd hi, Result.andThen]

set_option maxHeartbeats 4000000 in
theorem decode_gen (u : Int) (w : World) (h0 : 0 ≤ u) (h1 : u < 4294967296) (hF : FormsIn w) :
    Calls Tryd.prog 54 #[.int .u32 u] w (DecPost u w) := by
  go_enter Tryd.func54, Tryd.ntmps54
  go_wp2_with fail
  refine (shapes_any _).mono ?_
  rintro e w1 ⟨rfl, hown, hb⟩
  have HZ1 := row_at hb (by simp only [szA]; omega) (heap_alloc_new w (insB 0 0 0 0 0))
  have hB1 := ((Below.refl w.heap.size w).alloc (Nat.le_refl _) (insB 0 0 0 0 0)).trans (hb.mono (by simp only [szA]; omega))
  have hz1 := hown.lt
  simp only [szA] at hown hz1
  clear hb
  go_wp2_with (at_range; refine wpList_range_own _ rfl _ 124 rfl 3 129 lawInt Tryd.underlying124 shapeR (w.heap.size + 1) 55 D13 rfl hown ?_; intro w2 hrg2 hg2 hs2)
  go_frame
  have hB2 := hB1.grown hg2 hB1.size (fun _ hk => by cases hk)
  have HZ2 : w2.heap[w.heap.size]? = some (insB 0 0 0 0 0) := (hg2.block _ (by omega) (by simp)).trans HZ1
  have hS : DecRel w u (w.heap.size + 1) w1.heap.size w2 := ⟨_, _, hrg2, hB2, HZ2, by omega, by omega, by omega, by omega, fun op o1 o2 hl => by rw [D13_has] at hl; simp [o1, o2] at hl⟩
  generalize w.heap.size + 1 = b at *
  generalize w1.heap.size = r at *
  clear hrg2 hB2 HZ2 hg2 hs2 hown hB1 HZ1 hz1
  go_loopw [9] (fun s9 wr => DecRel w u b r wr) (fun s9 wr => wr.rangeLeft b r)
  case atStart => exact hS
  case round =>
    obtain ⟨left, cnt, hrg, hB, HZ, hb1, hr1, hb2, hr2, hno⟩ := hrel
    go_wp2_with (at_next; refine wpList_next_shapes _ rfl rfl _ rfl b r left cnt rfl hrg ?_ ?_)
    · intro hl
      have hnone : Hid (∀ op : Int, 1 ≤ op → op ≤ 55 → mtR (rowOf op) u = false) := Lib.hid fun op o1 o2 => hno op o1 o2 (hl _)
      clear hno hl
      go_wp2_with (refine wpList_store_row (o := ⟨none, _, _, _, _, _⟩) rfl 49 (.tmp 2) (.tmp 30) rfl w.heap.size #[.int .i64 0, .int .i64 0, .int .i64 0, .int .i64 0, .int .i64 0] rfl rfl 49 _ HZ sizeInstr rfl (ins_one _ _ _ _ _) ?_)
      exact bodyPost_ret (v := .tuple #[ins 0 0 0 0 0, .int .i64 2]) (res_cell_tmp Tryd.results54 _ _ w.heap.size 49 _ (0, 0) _ _ rfl rfl (setRow_heap _ w.heap.size _ _ _ _ HZ) Tryd.underlying49 rfl sizeInstr) rfl (decPost_none hnone.out (below_setRow hB (Nat.le_refl _) _))
    · intro x f g od k w3 cnt3 x1 x2 hrow hk8 hrg3 hlt3 hg3 hs3 hen
      have hB3 := hB.grown hg3 hB.size (fun j hj => by cases hj; omega)
      have HZ3 : w3.heap[w.heap.size]? = some (insB 0 0 0 0 0) := (hg3.block _ (by omega) (by simp; omega)).trans HZ
      have hF3 := fun O : Obj => (hF.keep (hB3.alloc (by omega) O) (Nat.le_refl _)).at k hk8
      obtain ⟨b1, b2, b3, fx, lo, hi, st, a0, w0, c0, a1, w1, c1, a2, w2, c2, a3, w3', c3, hfm, rfl, hun⟩ := formOK k hk8 u h0 h1
      simp only [hfm, Nat.mul_comm] at hF3
      have hok := rowOf_ok x x1 x2
      rw [hrow.out] at hok
      have hmt := mask_mt k od f g u hok h0 h1
      obtain ⟨-, q1, q2, q3, q4, q5, q6, -⟩ := okRow_out hok
      have Hun := Lib.hid hun
      clear hun hfm hok
      generalize fixI (k : Int) = fx at *
      go_wp2_with (first | (refine wpList_store_newd (o := ⟨none, _, _, _, _, _⟩) rfl 134 (.tmp 6) (.tmp 17) rfl (frmL b1 b2 b3 fx lo hi st a0 w0 c0 a1 w1 c1 a2 w2 c2 a3 w3' c3).toArray _ 134 (wr.heap.size + 1) ((szA w3 _).trans (congrArg (· + 1) hs3)).symm rfl rfl sizeForm' rfl (frm_one b1 b2 b3 fx lo hi st a0 w0 c0 a1 w1 c1 a2 w2 c2 a3 w3' c3) ?_) | (refine wpList_load_mid (op := ⟨some 17, _, _, _, _, _⟩) rfl 134 (.tmp 16) rfl 1 (k * 19) rfl (frmL b1 b2 b3 fx lo hi st a0 w0 c0 a1 w1 c1 a2 w2 c2 a3 w3' c3) _ (hF3 _) Tryd.underlying134 rfl sizeForm' ?_))
      have hX : ∃ X, X = (w3.alloc (.cells #[.int .u8 od, .int .u8 f, .int .u8 g, .int .u8 k] 129)).alloc (.cells (frmL b1 b2 b3 fx lo hi st a0 w0 c0 a1 w1 c1 a2 w2 c2 a3 w3' c3).toArray 134) := ⟨_, rfl⟩
      obtain ⟨X, hX⟩ := hX
      have GS : X.heap[wr.heap.size]? = some (.cells #[.int .u8 od, .int .u8 f, .int .u8 g, .int .u8 k] 129) := by rw [hX, ← hs3]; exact heap_alloc2_old w3 _ _
      have GF : X.heap[wr.heap.size + 1]? = some (.cells (frmL b1 b2 b3 fx lo hi st a0 w0 c0 a1 w1 c1 a2 w2 c2 a3 w3' c3).toArray 134) := by rw [hX, ← hs3]; exact heap_alloc2_new w3 _ _
      have hrgX : X.ranges Tryd.prog 3 shapeR b r 55 D13 (fun z => left z && !z.sameKey (.int .i64 x)) cnt3 := by rw [hX]; exact (hrg3.alloc _).alloc _
      have hBX : Below w.heap.size w X := by rw [hX]; exact (hB3.alloc (by omega) _).alloc (by simp; omega) _
      have HZX : X.heap[w.heap.size]? = some (insB 0 0 0 0 0) := by
        rw [hX, Below.heap_alloc _ _ _ (by simp; omega), Below.heap_alloc _ _ _ (by omega)]; exact HZ3
      have hzX : X.heap.size = wr.heap.size + 1 + 1 := by rw [hX]; simp [hs3]
      rw [← hX]
      clear hX
      have k0 : X.cell? ⟨wr.heap.size, 0, none⟩ = some (.int .u8 od) := by rw [cell_of_row X _ 0 _ _ _ GS]; rfl
      have k1 : X.cell? ⟨wr.heap.size, 1, none⟩ = some (.int .u8 f) := by rw [cell_of_row X _ 1 _ _ _ GS]; rfl
      have k2 : X.cell? ⟨wr.heap.size, 2, none⟩ = some (.int .u8 g) := by rw [cell_of_row X _ 2 _ _ _ GS]; rfl
      have k3 : X.cell? ⟨wr.heap.size + 1, 3, none⟩ = some (.int .u32 fx) := by rw [cell_of_row X _ 3 _ _ _ GF]; rfl
      have HGF := Lib.hid GF
      have HHZ := Lib.hid HZX
      clear GS GF HZX hB3 HZ3 hF3 hrg3 hg3 hen
      cases hmv : mt (k : Int) od f g u
      · rw [hmv] at hmt
        go_region_held3 (fun W => W.cell? ⟨wr.heap.size, 0, none⟩ = some (.int .u8 od) ∧ W.cell? ⟨wr.heap.size, 1, none⟩ = some (.int .u8 f) ∧ W.cell? ⟨wr.heap.size, 2, none⟩ = some (.int .u8 g) ∧ W.cell? ⟨wr.heap.size + 1, 3, none⟩ = some (.int .u32 fx))
          (first | exact ⟨k0, k1, k2, k3⟩ | (go_split_ands; refine ⟨?_, ?_, ?_, ?_⟩ <;> (rw [hb.cell (by simp only [szD]; omega)]; assumption)))
          (first | (go_at_call 72; refine (word_any _ _ _ _ ⟨q1, q2⟩ ⟨q3, q4⟩ ⟨q5, q6⟩).mono ?_; rintro e y ⟨rfl, hb⟩; have hz := hb.size; simp only [szD] at hz))
        have hyX : Below X.heap.size X y := ⟨hb.os, hb.tape, hb.output, hb.size, hb.block⟩
        have hgy : X.grownBy y none := ⟨hyX.os, hyX.tape, hyX.output, hyX.size, fun j hj _ => hyX.block j hj⟩
        have hrgy := hrgX.kept hgy (by simp) (by simp)
        have hBy := hBX.trans (hyX.mono (by omega))
        have HZy := row_at hyX (by omega) HHZ.out
        have hzy := hyX.size
        go_wp2_with fail
        go_roundw
        case rel => exact ⟨_, _, hrgy, hBy, HZy, hb1, hr1, by omega, by omega, fun op o1 o2 hl => by
            by_cases hlo : left (.int .i64 op) = false
            · exact hno op o1 o2 hlo
            · simp [hlo, Lit.sameKey] at hl
              rw [hl]; unfold mtR; rw [hrow.out]; exact hmv⟩
        case measure => rw [hrgy.left_eq, hrg.left_eq]; omega
      · rw [hmv] at hmt
        go_region_held3 (fun W => W.cell? ⟨wr.heap.size, 0, none⟩ = some (.int .u8 od) ∧ W.cell? ⟨wr.heap.size, 1, none⟩ = some (.int .u8 f) ∧ W.cell? ⟨wr.heap.size, 2, none⟩ = some (.int .u8 g) ∧ W.cell? ⟨wr.heap.size + 1, 3, none⟩ = some (.int .u32 fx))
          (first | exact ⟨k0, k1, k2, k3⟩ | (go_split_ands; refine ⟨?_, ?_, ?_, ?_⟩ <;> (rw [hb.cell (by simp only [szD]; omega)]; assumption)))
          (first | (go_at_call 72; refine (word_any _ _ _ _ ⟨q1, q2⟩ ⟨q3, q4⟩ ⟨q5, q6⟩).mono ?_; rintro e y ⟨rfl, hb⟩; have hz := hb.size; simp only [szD] at hz))
        have hyX : Below X.heap.size X y := ⟨hb.os, hb.tape, hb.output, hb.size, hb.block⟩
        have hgy : X.grownBy y none := ⟨hyX.os, hyX.tape, hyX.output, hyX.size, fun j hj _ => hyX.block j hj⟩
        have hrgy := hrgX.kept hgy (by simp) (by simp)
        have hBy := hBX.trans (hyX.mono (by omega))
        have HZy := row_at hyX (by omega) HHZ.out
        have hzy := hyX.size
        have GFy := row_at hyX (by omega) HGF.out
        have HGFy := Lib.hid GFy; have HHZy := Lib.hid HZy
        clear GFy HZy hb
        go_wp2_with (refine wpList_load_g (o := ⟨some 26, _, _, _, _, _⟩) rfl 134 (.tmp 6) rfl (wr.heap.size + 1) rfl 134 (frmL b1 b2 b3 fx lo hi st a0 w0 c0 a1 w1 c1 a2 w2 c2 a3 w3' c3).toArray (0, 0) _ HGFy.out Tryd.underlying134 rfl sizeForm' ?_)
        refine (Hun.out x _).mono ?_
        rintro e z ⟨rfl, hz⟩
        have HZz := row_at hz (by omega) HHZy.out
        have hBz := hBy.trans (hz.mono hBy.size)
        go_wp2_with (refine wpList_store_row (o := ⟨none, _, _, _, _, _⟩) rfl 49 (.tmp 2) (.tmp 29) rfl w.heap.size #[.int .i64 x, .int .i64 (dRd (k : Int) u), .int .i64 (dR1 (k : Int) u), .int .i64 (dR2 (k : Int) u), .int .i64 (dI (k : Int) u)] rfl rfl 49 _ HZz sizeInstr rfl (ins_one _ _ _ _ _) ?_)
        exact bodyPost_ret (v := .tuple #[ins x (dRd (k : Int) u) (dR1 (k : Int) u) (dR2 (k : Int) u) (dI (k : Int) u), .int .i64 0]) (res_cell_tmp Tryd.results54 _ _ w.heap.size 49 _ (0, 0) _ _ rfl rfl (setRow_heap _ w.heap.size _ _ _ _ HZz) Tryd.underlying49 rfl sizeInstr) rfl (decPost_some x1 x2 hrow.out hmv (below_setRow hBz (Nat.le_refl _) _))
end Go.Proofs.YtppcbommaddkgaaDoor
