/- A piece of an Imm put into a word, and all that an instruction uses. At most new blocks in memory. Conditions: the ranges that each theorem names. -/
import Derived.Test.YtpdflpkbamdbeaaDoorCodeLeaf
import Derived.IntWalk
namespace Go.Proofs.YtpdflpkbamdbeaaDoor
open Go.RowKit
set_option linter.unusedVariables false
set_option linter.unusedSimpArgs false
set_option maxRecDepth 10000
open Pc

theorem ret1' {k : IntKind} {a b : Int} (h : a = b) : Ending.returned (.int k a) = .returned (.int k b) := by rw [h]

theorem belowN {B : Nat} {w w' : World} {n : Nat} (h : Below B w w') : Below B w (w'.drewN n) := by
  induction n generalizing w' with
  | zero => exact h
  | succ n ih => exact (ih h).drew

set_option maxHeartbeats 1000000 in
theorem put_piece (pi pw pb n : Int) (w : World) (h0 : 0 ≤ pi) (h0' : pi ≤ 20) (h1 : 0 ≤ pw) (h2 : 0 ≤ pb) (h3 : pw + pb ≤ 32) :
    Calls Tryd.prog 52 #[.agg #[.int .i64 pi, .int .i64 pw, .int .i64 pb], .int .i64 n] w fun e w' =>
      e = .returned (.int .u32 (putV pi.toNat pw.toNat pb.toNat n)) ∧ Below w.heap.size w w' := by
  have k1 : IntKind.i64.wrap (32 - pb) = 32 - pb := IntWalk.i64_in _ (by omega)
  have k2 : IntKind.i64.wrap (32 - pb - pw) = 32 - pb - pw := IntWalk.i64_in _ (by omega)
  have k3 : 0 ≤ 32 - pb := by omega
  have k4 : 0 ≤ 32 - pb - pw := by omega
  have k5 : 32 - pb ≤ 32 := by omega
  have k6 : 32 - pb - pw ≤ 32 := by omega
  generalize hV : putV pi.toNat pw.toNat pb.toNat n = V
  have HV := Lib.hid hV; clear hV
  go_enter Tryd.func52, Tryd.ntmps52
  go_wp2
  go_quiet (fail)
  go_wp2
  go_ret
  refine ⟨ret1' ?_, belowN ((Below.refl _ _).alloc (Nat.le_refl _) _)⟩
  rw [← HV.out, show (32 - pb - pw).toNat = 32 - pb.toNat - pw.toNat by omega, show (32 - pb).toNat = 32 - pb.toNat by omega]
  exact put_arith _ _ _ _ (by omega)

theorem put_at (pi pw pb n V : Int) (w : World) (h0 : 0 ≤ pi) (h0' : pi ≤ 20) (h1 : 0 ≤ pw) (h2 : 0 ≤ pb) (h3 : pw + pb ≤ 32) (hV : Hid (putV pi.toNat pw.toNat pb.toNat n = V)) :
    Calls Tryd.prog 52 #[.agg #[.int .i64 pi, .int .i64 pw, .int .i64 pb], .int .i64 n] w fun e w' =>
      e = .returned (.int .u32 V) ∧ Below w.heap.size w w' := by
  rw [← hV.out]; exact put_piece pi pw pb n w h0 h0' h1 h2 h3

theorem range_of_row {w : World} {g : Nat} {cs : Array Value} {t : TypeId} {fr : Nat × Nat} (o : Nat) (l : List Value) (hg : w.heap[g]? = some (.cells cs t fr)) (hl : (cs.toList.drop o).take l.length = l) : w.rangeAt g o l := by
  intro j v hv
  rw [cell_of_row w g (o + j) cs t fr hg]
  have hj : j < l.length := (List.getElem?_eq_some_iff.1 hv).1
  rw [← hl, List.getElem?_take, if_pos hj, List.getElem?_drop] at hv
  simpa using hv
theorem sizePieces : (Tryd.prog.info? 94).map (·.size) = some 12 := by kernel_rfl
section
variable (b1 b2 b3 : Bool) (fx lo hi st a0 w0 c0 a1 w1 c1 a2 w2 c2 a3 w3 c3 op rd r1 r2 n : Int)
def okP (a w c : Int) : Prop := 0 ≤ a ∧ a ≤ 20 ∧ 0 ≤ w ∧ 0 ≤ c ∧ w + c ≤ 32
abbrev prow : Value := .agg #[.int .i64 a0, .int .i64 w0, .int .i64 c0, .int .i64 a1, .int .i64 w1, .int .i64 c1, .int .i64 a2, .int .i64 w2, .int .i64 c2, .int .i64 a3, .int .i64 w3, .int .i64 c3]
theorem idx0 (w : World) : (Instr.index 94 (prow a0 w0 c0 a1 w1 c1 a2 w2 c2 a3 w3 c3) (.int .i64 0)).run Tryd.prog w = .ok (.agg #[.int .i64 a0, .int .i64 w0, .int .i64 c0]) w := by kernel_rfl
theorem idx1 (w : World) : (Instr.index 94 (prow a0 w0 c0 a1 w1 c1 a2 w2 c2 a3 w3 c3) (.int .i64 1)).run Tryd.prog w = .ok (.agg #[.int .i64 a1, .int .i64 w1, .int .i64 c1]) w := by kernel_rfl
theorem idx2 (w : World) : (Instr.index 94 (prow a0 w0 c0 a1 w1 c1 a2 w2 c2 a3 w3 c3) (.int .i64 2)).run Tryd.prog w = .ok (.agg #[.int .i64 a2, .int .i64 w2, .int .i64 c2]) w := by kernel_rfl
theorem idx3 (w : World) : (Instr.index 94 (prow a0 w0 c0 a1 w1 c1 a2 w2 c2 a3 w3 c3) (.int .i64 3)).run Tryd.prog w = .ok (.agg #[.int .i64 a3, .int .i64 w3, .int .i64 c3]) w := by kernel_rfl

set_option maxHeartbeats 2000000 in
theorem pack_any (w : World) (hrd : 0 ≤ rd ∧ rd < 32) (hr1 : 0 ≤ r1 ∧ r1 < 32) (hr2 : 0 ≤ r2 ∧ r2 < 32) (p0 : okP a0 w0 c0) (p1 : okP a1 w1 c1) (p2 : okP a2 w2 c2) (p3 : okP a3 w3 c3) :
    Calls Tryd.prog 39 #[frm b1 b2 b3 fx lo hi st a0 w0 c0 a1 w1 c1 a2 w2 c2 a3 w3 c3, ins op rd r1 r2 n] w fun e w' =>
      e = .returned (.int .u32 (orI (orI (orI (orI (orI (orI (rd * 128) (r1 * 32768)) (r2 * 1048576)) (putV a0.toNat w0.toNat c0.toNat n)) (putV a1.toNat w1.toNat c1.toNat n)) (putV a2.toNat w2.toNat c2.toNat n)) (putV a3.toNat w3.toNat c3.toNat n))) ∧ Below w.heap.size w w' := by
  obtain ⟨q01, q02, q03, q04, q05⟩ := p0
  obtain ⟨q11, q12, q13, q14, q15⟩ := p1
  obtain ⟨q21, q22, q23, q24, q25⟩ := p2
  obtain ⟨q31, q32, q33, q34, q35⟩ := p3
  have i0 := idx0 a0 w0 c0 a1 w1 c1 a2 w2 c2 a3 w3 c3
  have i1 := idx1 a0 w0 c0 a1 w1 c1 a2 w2 c2 a3 w3 c3
  have i2 := idx2 a0 w0 c0 a1 w1 c1 a2 w2 c2 a3 w3 c3
  have i3 := idx3 a0 w0 c0 a1 w1 c1 a2 w2 c2 a3 w3 c3
  have g0 := putV_range a0.toNat w0.toNat c0.toNat n (by omega)
  have g1 := putV_range a1.toNat w1.toNat c1.toNat n (by omega)
  have g2 := putV_range a2.toNat w2.toNat c2.toNat n (by omega)
  have g3 := putV_range a3.toNat w3.toNat c3.toNat n (by omega)
  have e1 : bits .or .u32 (rd * 128) (r1 * 32768) = orI (rd * 128) (r1 * 32768) := or32 _ _ (by omega) (by omega) (by omega) (by omega)
  have l1 := orI_lt (rd * 128) (r1 * 32768) (by omega) (by omega)
  have e2 : bits .or .u32 (orI (rd * 128) (r1 * 32768)) (r2 * 1048576) = orI (orI (rd * 128) (r1 * 32768)) (r2 * 1048576) := or32 _ _ (orI_nonneg _ _) l1 (by omega) (by omega)
  have l2 := orI_lt (orI (rd * 128) (r1 * 32768)) (r2 * 1048576) l1 (by omega)
  have e3 := or32 (orI (orI (rd * 128) (r1 * 32768)) (r2 * 1048576)) (putV a0.toNat w0.toNat c0.toNat n) (orI_nonneg _ _) l2 g0.1 g0.2
  have l3 := orI_lt _ _ l2 g0.2
  have e4 := or32 (orI (orI (orI (rd * 128) (r1 * 32768)) (r2 * 1048576)) (putV a0.toNat w0.toNat c0.toNat n)) (putV a1.toNat w1.toNat c1.toNat n) (orI_nonneg _ _) l3 g1.1 g1.2
  have l4 := orI_lt _ _ l3 g1.2
  have e5 := or32 (orI (orI (orI (orI (rd * 128) (r1 * 32768)) (r2 * 1048576)) (putV a0.toNat w0.toNat c0.toNat n)) (putV a1.toNat w1.toNat c1.toNat n)) (putV a2.toNat w2.toNat c2.toNat n) (orI_nonneg _ _) l4 g2.1 g2.2
  have l5 := orI_lt _ _ l4 g2.2
  have e6 := or32 (orI (orI (orI (orI (orI (rd * 128) (r1 * 32768)) (r2 * 1048576)) (putV a0.toNat w0.toNat c0.toNat n)) (putV a1.toNat w1.toNat c1.toNat n)) (putV a2.toNat w2.toNat c2.toNat n)) (putV a3.toNat w3.toNat c3.toNat n) (orI_nonneg _ _) l5 g3.1 g3.2
  clear l1 l2 l3 l4 l5 g0 g1 g2 g3
  generalize hP0 : putV a0.toNat w0.toNat c0.toNat n = P0 at *
  generalize hP1 : putV a1.toNat w1.toNat c1.toNat n = P1 at *
  generalize hP2 : putV a2.toNat w2.toNat c2.toNat n = P2 at *
  generalize hP3 : putV a3.toNat w3.toNat c3.toNat n = P3 at *
  have HP0 := Lib.hid hP0; clear hP0
  have HP1 := Lib.hid hP1; clear hP1
  have HP2 := Lib.hid hP2; clear hP2
  have HP3 := Lib.hid hP3; clear hP3
  go_enter Tryd.func39, Tryd.ntmps39
  go_wp2_with (refine wpList_load_mid (op := ⟨some 23, _, _, _, _, _⟩) rfl 94 (.tmp 22) rfl w.heap.size 7 rfl [.int .i64 a0, .int .i64 w0, .int .i64 c0, .int .i64 a1, .int .i64 w1, .int .i64 c1, .int .i64 a2, .int .i64 w2, .int .i64 c2, .int .i64 a3, .int .i64 w3, .int .i64 c3] _ (range_of_row 7 _ (heap_alloc2_old w _ _) rfl) Tryd.underlying94 rfl sizePieces ?_)
  refine wp_loop_rounds 5 ?_
  rw [rounds_succ]
  go_wp2_with fail
  refine (put_at a0 w0 c0 n P0 _ q01 q02 q03 q04 q05 HP0).mono ?_
  rintro e v1 ⟨rfl, hb⟩
  have hB1 : Below w.heap.size w v1 := (below3 _ _ _ _).trans (hb.mono (by simp; omega))
  have z1 : w.heap.size + 1 < v1.heap.size := by have := hb.size; simp at this; omega
  have k1 : v1.cell? ⟨w.heap.size + 1, 4, none⟩ = some (.int .i64 n) := (hb.cell (by simp)).trans (by go_simp)
  clear hb
  go_wp2_with fail
  rw [rounds_succ]
  go_wp2_with fail
  refine (put_at a1 w1 c1 n P1 _ q11 q12 q13 q14 q15 HP1).mono ?_
  rintro e v2 ⟨rfl, hb⟩
  have hB2 : Below w.heap.size w v2 := (hB1.alloc hB1.size _).trans (hb.mono (by have := hB1.size; simp; omega))
  have z2 : w.heap.size + 1 < v2.heap.size := by have := hb.size; simp at this; omega
  have k2 : v2.cell? ⟨w.heap.size + 1, 4, none⟩ = some (.int .i64 n) := (hb.cell (by simp; omega)).trans (by go_simp)
  clear hb hB1 z1 k1
  go_wp2_with fail
  rw [rounds_succ]
  go_wp2_with fail
  refine (put_at a2 w2 c2 n P2 _ q21 q22 q23 q24 q25 HP2).mono ?_
  rintro e v3 ⟨rfl, hb⟩
  have hB3 : Below w.heap.size w v3 := (hB2.alloc hB2.size _).trans (hb.mono (by have := hB2.size; simp; omega))
  have z3 : w.heap.size + 1 < v3.heap.size := by have := hb.size; simp at this; omega
  have k3 : v3.cell? ⟨w.heap.size + 1, 4, none⟩ = some (.int .i64 n) := (hb.cell (by simp; omega)).trans (by go_simp)
  clear hb hB2 z2 k2
  go_wp2_with fail
  rw [rounds_succ]
  go_wp2_with fail
  refine (put_at a3 w3 c3 n P3 _ q31 q32 q33 q34 q35 HP3).mono ?_
  rintro e v4 ⟨rfl, hb⟩
  have hB4 : Below w.heap.size w v4 := (hB3.alloc hB3.size _).trans (hb.mono (by have := hB3.size; simp; omega))
  have z4 : w.heap.size + 1 < v4.heap.size := by have := hb.size; simp at this; omega
  have k4 : v4.cell? ⟨w.heap.size + 1, 4, none⟩ = some (.int .i64 n) := (hb.cell (by simp; omega)).trans (by go_simp)
  clear hb hB3 z3 k3
  go_wp2_with fail
  rw [rounds_succ]
  go_wp2
  go_ret
  exact ⟨rfl, hB4⟩
end
end Go.Proofs.YtpdflpkbamdbeaaDoor
