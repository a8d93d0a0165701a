/- The document's machine, its leaves: what a number means, places, registers. Conditions: each theorem's. The document's machine: what its functions do at their end, whatever the order. Conditions: each theorem's. The document's machine: what an ECALL does. Conditions: each theorem's. The document's machine: an operation's number, whether a branch is taken. Conditions: each theorem's. -/
import Derived.Test.YtppcbommaddkgaaDoorMrgC
import Derived.Deep.RegionHeld3
import Derived.Great.BuildSlice
import Derived.Test.YtppcbommaddkgaaDoorMrgE
namespace Go.Proofs.YtppcbommaddkgaaDoor
open Go.RowKit
set_option linter.unusedVariables false
set_option linter.unusedSimpArgs false
set_option maxRecDepth 10000
open Pm Pc
namespace Pm
/-- A machine as one value's cells. -/
def mcs (m : Ma) (q : Nat) : Array Value := (m.cells q).toArray
theorem mcs_size {m : Ma} (h : m.x.length = 32) (q : Nat) : (mcs m q).size = 36 := by simp [mcs, Ma.cells, u64s, h]
theorem mcs_0 (m : Ma) (q : Nat) : (mcs m q)[0]? = some (.slice (some ⟨q, 0, none⟩) m.mem.length m.mem.length) := rfl
theorem mcs_x {m : Ma} (h : m.x.length = 32) (q : Nat) {k : Nat} (hk : k < 32) : (mcs m q)[1 + k]? = some (.int .u64 (m.x.getD k 0)) := by
  have hk' : k < m.x.length := by omega
  simp [mcs, Ma.cells, u64s, Nat.add_comm 1 k, List.getElem?_append_left, hk']
theorem mcs_33 {m : Ma} (h : m.x.length = 32) (q : Nat) : (mcs m q)[33]? = some (.int .u64 m.pl) := by
  simp [mcs, Ma.cells, u64s, List.getElem?_append_right, h]
theorem mcs_34 {m : Ma} (h : m.x.length = 32) (q : Nat) : (mcs m q)[34]? = some (.int .i64 m.st) := by
  simp [mcs, Ma.cells, u64s, List.getElem?_append_right, h]
theorem mcs_35 {m : Ma} (h : m.x.length = 32) (q : Nat) : (mcs m q)[35]? = some (.int .u8 m.cd) := by
  simp [mcs, Ma.cells, u64s, List.getElem?_append_right, h]
theorem mcs_all (m : Ma) (q : Nat) : (mcs m q).all (·.oneCell') = true := by
  simp [mcs, Ma.cells, u64s, Value.oneCell']
theorem mcs_setX {m : Ma} (h : m.x.length = 32) (q : Nat) {k : Nat} (hk : k < 32) (v : Int) : (mcs m q).setIfInBounds (1 + k) (.int .u64 v) = mcs { m with x := m.x.set k v } q := by
  have hk' : k < m.x.length := by omega
  simp [mcs, Ma.cells, u64s, Nat.add_comm 1 k, List.set_append, hk', List.map_set]
theorem mcs_set33 {m : Ma} (h : m.x.length = 32) (q : Nat) (v : Int) : (mcs m q).setIfInBounds 33 (.int .u64 v) = mcs { m with pl := v } q := by
  simp [mcs, Ma.cells, u64s, List.set_append, h]
theorem mcs_set34 {m : Ma} (h : m.x.length = 32) (q : Nat) (v : Int) : (mcs m q).setIfInBounds 34 (.int .i64 v) = mcs { m with st := v } q := by
  simp [mcs, Ma.cells, u64s, List.set_append, h]
theorem mcs_set35 {m : Ma} (h : m.x.length = 32) (q : Nat) (v : Int) : (mcs m q).setIfInBounds 35 (.int .u8 v) = mcs { m with cd := v } q := by
  simp [mcs, Ma.cells, u64s, List.set_append, h]
end Pm
theorem szMach : (Tryd.prog.info? 34).map (·.size) = some 36 := by kernel_rfl
theorem szRun : (Tryd.prog.info? 71).map (·.size) = some 4 := by kernel_rfl
theorem rimm_any (n : Int) (w : World) (hn : -9223372036854775808 ≤ n ∧ n < 9223372036854775808) : Calls Tryd.prog 31 #[.int .i64 n] w fun e w' => e = .returned (.int .u64 (n % 18446744073709551616)) ∧ w = w' := by
  by_cases h : n < 0
  all_goals
    go_enter Tryd.func31, Tryd.ntmps31
    go_wp2
    go_ret
    exact ⟨ret_u64 (by first | (simp only [IntKind.wrap_u64, wrap64]; omega) | omega), rfl⟩
theorem bw_alloc {a w : World} (h : Below a.heap.size a w) (o : Obj) : Below a.heap.size a (w.alloc o) := h.alloc h.size o
set_option maxHeartbeats 1000000 in
theorem rplace_any {m : Ma} {q : Nat} {w : World} (hx : m.x.length = 32) (hN : m.mem.length ≤ 4194304) (at_ n : Int) (ha : 0 ≤ at_ ∧ at_ < 18446744073709551616) (hn : n = 1 ∨ n = 4 ∨ n = 8) :
    Calls Tryd.prog 28 #[.agg (mcs m q), .int .u64 at_, .int .i64 n] w fun e w' => e = .returned (.bool (hasB at_ n m.mem.length)) ∧ Below w.heap.size w w' := by
  have c0 := mcs_0 m q
  have hz := mcs_size hx q
  have B := Lib.hid (bw_alloc (Below.refl w.heap.size w) (Obj.cells (mcs m q) 34))
  generalize mcs m q = cs at *
  generalize m.mem.length = N at *
  have hx' : (w.alloc (Obj.cells cs 34)).cell? ⟨w.heap.size, 0, none⟩ = some (.slice (some ⟨q, 0, none⟩) N N) := by rw [cell_of_row _ _ 0 _ _ _ (heap_alloc_new w _)]; exact c0
  clear c0 hx
  rcases hn with rfl | rfl | rfl
  all_goals
    go_enter Tryd.func28, Tryd.ntmps28
    go_wp2_with fail
    all_goals
      go_ret
      refine ⟨hold_eq ?_, B.out⟩
      unfold hasB
      first
        | (rw [Bool.eq_iff_iff]; simp; done)
        | (rw [Bool.eq_iff_iff]; simp; omega)
        | (simp; done)
        | (simp; omega)
theorem bw_setRow {B : Nat} {a w : World} (h : Below B a w) {g : Nat} (hg : B ≤ g) (cs : Array Value) : Below B a (w.setRow g cs) :=
  h.trans ⟨rfl, rfl, rfl, by simp [World.setRow], fun k hk => setRow_other _ _ _ _ (by omega)⟩
theorem aa0 (w : World) (o o' : Obj) : ((w.alloc o).alloc o').heap[w.heap.size]? = some o := by
  rw [Below.heap_alloc _ _ _ (by simp)]; exact heap_alloc_new w _
theorem aa1 (w : World) (o o' : Obj) : ((w.alloc o).alloc o').heap[w.heap.size + 1]? = some o' := by
  have := heap_alloc_new (w.alloc o) o'
  simpa using this
theorem ld36 {ops : Array Oper} {rest : List Oper} {Q : Exit → Act → World → Prop} {a : Act} {w : World} {dst : Option Tmp} {ty : TypeId} {pos : String} {af : Array Edge} {x : Operand} (g : Nat) (cs : Array Value)
    (hx : a.eval x = .pointer (some ⟨g, 0, none⟩)) (hg : w.heap[g]? = some (.cells cs 34)) (hz : cs.size = 36) (h : wpList Tryd.prog ops Q rest (a.put dst (.agg cs)) w) : wpList Tryd.prog ops Q (⟨dst, .load 34 x, ty, pos, af, none⟩ :: rest) a w :=
  wpList_load_row rfl _ x rfl g hx _ cs (0, 0) _ hg Tryd.underlying34 rfl (by rw [hz]; exact szMach) h
theorem st36 {ops : Array Oper} {rest : List Oper} {Q : Exit → Act → World → Prop} {a : Act} {w : World} {dst : Option Tmp} {ty : TypeId} {pos : String} {af : Array Edge} {x y : Operand} (g : Nat) (cs old : Array Value)
    (hx : a.eval x = .pointer (some ⟨g, 0, none⟩)) (hy : a.eval y = .agg cs) (hg : w.heap[g]? = some (.cells old 34)) (ho : old.size = 36) (hz : cs.size = 36) (ha : cs.all (·.oneCell') = true) (h : wpList Tryd.prog ops Q rest (a.put dst undef) (w.setRow g cs)) : wpList Tryd.prog ops Q (⟨dst, .store 34 x y, ty, pos, af, none⟩ :: rest) a w :=
  wpList_store_row rfl _ x y rfl g cs hx hy _ old hg (by rw [hz]; exact szMach) (by rw [ho, hz]) ha h
/-- Into a block that was made just now. -/
theorem st36n {ops : Array Oper} {rest : List Oper} {Q : Exit → Act → World → Prop} {a : Act} {w : World} {dst : Option Tmp} {ty : TypeId} {pos : String} {af : Array Edge} {x y : Operand} (g : Nat) (cs : Array Value) {old : Array Value} (hgw : w.heap.size = g)
    (hx : a.eval x = .pointer (some ⟨g, 0, none⟩)) (hy : a.eval y = .agg cs) (ho : old.size = 36) (hz : cs.size = 36) (ha : cs.all (·.oneCell') = true) (h : wpList Tryd.prog ops Q rest (a.put dst undef) (w.alloc (.cells cs 34))) : wpList Tryd.prog ops Q (⟨dst, .store 34 x y, ty, pos, af, none⟩ :: rest) a (w.alloc (.cells old 34)) := by
  subst hgw
  refine st36 (w := w.alloc (.cells old 34)) w.heap.size cs old hx hy (heap_alloc_new w _) ho hz ha ?_
  rw [World.setRow_alloc_new]
  exact h
set_option maxHeartbeats 1000000 in
theorem rset_any {m : Ma} {q : Nat} {w : World} (hx : m.x.length = 32) (r : Nat) (hr : r < 32) (v : Int) :
    Calls Tryd.prog 32 #[.agg (mcs m q), .int .i64 r, .int .u64 v] w fun e w' => e = .returned (.agg (mcs (if 0 < r then { m with x := m.x.set r v } else m) q)) ∧ Below w.heap.size w w' := by
  have hz := mcs_size hx q
  by_cases h0 : 0 < r
  · rw [if_pos h0]
    have hc : ∀ Z, ((w.alloc (Obj.cells (mcs m q) 34)).alloc (Obj.cells Z 34)).cell? ⟨w.heap.size, 1 + r, none⟩ = some (.int .u64 (m.x.getD r 0)) := fun Z => by rw [cell_of_row _ _ (1 + r) _ _ _ (aa0 _ _ _)]; exact mcs_x hx q hr
    have hf : ∀ Z, ((w.alloc (Obj.cells (mcs m q) 34)).alloc (Obj.cells Z 34)).frozen? ⟨w.heap.size, 1 + r, none⟩ = false := fun Z => frozen_of_row _ _ (1 + r) _ _ (aa0 _ _ _)
    have he := mcs_setX hx q hr v
    have hz' : (mcs { m with x := m.x.set r v } q).size = 36 := mcs_size (by simpa using hx) q
    have ha' := mcs_all { m with x := m.x.set r v } q
    generalize mcs { m with x := m.x.set r v } q = cs' at *
    generalize m.x.getD r 0 = old at *
    generalize mcs m q = cs at *
    clear hx
    go_enter Tryd.func32, Tryd.ntmps32
    go_wp2_with (first
      | ((with_reducible refine ld36 w.heap.size cs' ?_ ?_ hz' ?_); rfl; exact aa0 _ _ _)
      | ((with_reducible refine st36n (w.heap.size + 1) cs' ?_ ?_ ?_ ?_ hz' ha' ?_); exact szA _ _; rfl; rfl; rfl))
    refine bodyPost_ret (v := .agg cs') ?_ rfl ⟨rfl, ?_⟩
    · exact results_cell_row Tryd.results32 _ _ (w.heap.size + 1) 34 cs' (0, 0) _ rfl (aa1 _ _ _) Tryd.underlying34 rfl (by rw [hz']; exact szMach)
    · exact bw_alloc (bw_alloc (Below.refl _ _) _) _
  · rw [if_neg h0]
    have ha' := mcs_all m q
    obtain rfl : r = 0 := by omega
    generalize mcs m q = cs at *
    clear hx
    go_enter Tryd.func32, Tryd.ntmps32
    go_wp2_with (first
      | ((with_reducible refine ld36 w.heap.size cs ?_ ?_ hz ?_); rfl; exact aa0 _ _ _)
      | ((with_reducible refine st36n (w.heap.size + 1) cs ?_ ?_ ?_ ?_ hz ha' ?_); exact szA _ _; rfl; rfl; rfl))
    refine bodyPost_ret (v := .agg cs) ?_ rfl ⟨rfl, ?_⟩
    · exact results_cell_row Tryd.results32 _ _ (w.heap.size + 1) 34 cs (0, 0) _ rfl (aa1 _ _ _) Tryd.underlying34 rfl (by rw [hz]; exact szMach)
    · exact bw_alloc (bw_alloc (Below.refl _ _) _) _
theorem step256 (x b : Int) (h0 : 0 ≤ x) (h1 : x < 72057594037927936) (b0 : 0 ≤ b) (b1 : b < 256) : (x * 256 % 18446744073709551616 + b) % 18446744073709551616 = b + 256 * x := by omega
set_option maxHeartbeats 1000000 in
theorem rget_any {m : Ma} {q : Nat} {w : World} (hx : m.x.length = 32) (hN : m.mem.length ≤ 4194304) (hb : ∀ i : Nat, 0 ≤ m.mem.getD i 0 ∧ m.mem.getD i 0 < 256) (a n : Nat) (hn : n ≤ 8) (ha : a + n ≤ m.mem.length)
    (hm : w.heap[q]? = some (.cells (u8s m.mem).toArray 5)) :
    Calls Tryd.prog 30 #[.agg (mcs m q), .int .u64 a, .int .i64 n] w fun e w' => e = .returned (.int .u64 (getV m.mem a n)) ∧ Below w.heap.size w w' := by
  have c0 := mcs_0 m q
  have hz := Lib.hid (mcs_size hx q)
  have B := Lib.hid (bw_alloc (Below.refl w.heap.size w) (Obj.cells (mcs m q) 34))
  have hq : q < w.heap.size := by
    rcases Nat.lt_or_ge q w.heap.size with hlt | hge
    · exact hlt
    · rw [Array.getElem?_eq_none hge] at hm; cases hm
  have Hm : Hid (∀ i : Nat, i < m.mem.length → (w.alloc (Obj.cells (mcs m q) 34)).cell? ⟨q, i, none⟩ = some (.int .u8 (m.mem.getD i 0))) := fun i hi => by
    rw [cell_of_row _ q i _ _ _ ((Below.heap_alloc _ _ _ hq).trans hm)]; exact u8s_at _ _ hi
  have Hb := Lib.hid hb
  clear hb hm
  generalize mcs m q = cs at *
  have hx' : (w.alloc (Obj.cells cs 34)).cell? ⟨w.heap.size, 0, none⟩ = some (.slice (some ⟨q, 0, none⟩) m.mem.length m.mem.length) := by rw [cell_of_row _ _ 0 _ _ _ (heap_alloc_new w _)]; exact c0
  clear c0 hx
  generalize m.mem = l at *
  obtain ⟨N, hl⟩ : ∃ N, l.length = N := ⟨_, rfl⟩
  rw [hl] at hx' ha hN Hm
  have HL := Lib.hid hl; clear hl
  go_enter Tryd.func30, Tryd.ntmps30
  go_wp2
  generalize w.alloc (Obj.cells cs 34) = W at *
  go_loop [7, 8] (fun x k => ∃ j : Nat, j ≤ n ∧ k = .int .i64 ((j : Int) - 1) ∧ x = .int .u64 (getV l (a + j) (n - j))) (fun _ k => (intOf k + 1).toNat)
  case atStart => exact ⟨n, Nat.le_refl _, by go_num, by simp [getV]⟩
  case round =>
    obtain ⟨j, hj, rfl, rfl⟩ := hrel
    by_cases h0 : 0 < j
    · have hm := Hm.out (a + (j - 1)) (by omega)
      obtain ⟨b, hbe⟩ : ∃ b, l.getD (a + (j - 1)) 0 = b := ⟨_, rfl⟩
      obtain ⟨v, hv⟩ : ∃ v, getV l (a + j) (n - j) = v := ⟨_, rfl⟩
      have hb0 := Hb.out (a + (j - 1))
      have hv0 := getV_range l Hb.out (n - j) (a + j)
      have hp := pow_small (n - j) (by omega)
      have hgoal : getV l (a + (j - 1)) (n - (j - 1)) = b + 256 * v := by
        rw [show n - (j - 1) = (n - j) + 1 by omega, getV, show a + (j - 1) + 1 = a + j by omega, hbe, hv]
      rw [hbe] at hm hb0
      rw [hv] at hv0 ⊢
      have HG := Lib.hid hgoal
      obtain ⟨i, rfl⟩ : ∃ i, j = i + 1 := ⟨j - 1, by omega⟩
      rw [show i + 1 - 1 = i from rfl] at hm HG
      have hcast : ((i + 1 : Nat) : Int) - 1 = (i : Int) := by omega
      rw [hcast]
      have hor := Lib.hid (step256 v b hv0.1 (by omega) hb0.1 hb0.2)
      clear hgoal hbe hv hcast
      go_wp2
      go_round
      case rel => exact ⟨i, by omega, by go_num, by rw [HG.out]; congr 1; have := hor.out; first | (simp only [IntKind.wrap_u64]; omega) | omega⟩
      case measure => first | (simp [intOf]; done) | (simp [intOf]; omega)
    · obtain rfl : j = 0 := by omega
      go_wp2
      go_ret
      exact ⟨ret_u64 (by simp), B.out⟩
end Go.Proofs.YtppcbommaddkgaaDoor
namespace Go.Proofs.YtppcbommaddkgaaDoor
open Go.RowKit
set_option linter.unusedVariables false
set_option linter.unusedSimpArgs false
set_option maxRecDepth 10000
open Pm Pc
section
variable {ops : Array Oper} {Q : Exit → Act → World → Prop} {K : Act → World → Prop} {a : Act} {w : World}
theorem wpOp_ld36 {i : Nat} {dst : Option Tmp} {ty : TypeId} {pos : String} {af : Array Edge} {x : Operand} (g : Nat) (cs : Array Value) (ho : ops[i]? = some ⟨dst, .load 34 x, ty, pos, af, none⟩)
    (hx : a.eval x = .pointer (some ⟨g, 0, none⟩)) (hg : w.heap[g]? = some (.cells cs 34)) (hz : cs.size = 36) (h : K (a.put dst (.agg cs)) w) : wpOp Tryd.prog ops Q i K a w := by
  unfold wpOp
  rw [ho]
  simp only [Region.wanted, if_true]
  exact .inl (wp_load_row _ x rfl g hx _ cs (0, 0) _ hg Tryd.underlying34 rfl (by rw [hz]; exact szMach) h)
theorem wpOp_ld4 {i : Nat} {dst : Option Tmp} {ty : TypeId} {pos : String} {af : Array Edge} {x : Operand} (g : Nat) (cs : Array Value) (ho : ops[i]? = some ⟨dst, .load 71 x, ty, pos, af, none⟩)
    (hx : a.eval x = .pointer (some ⟨g, 0, none⟩)) (hg : w.heap[g]? = some (.cells cs 71)) (hz : cs.size = 4) (h : K (a.put dst (.agg cs)) w) : wpOp Tryd.prog ops Q i K a w := by
  unfold wpOp
  rw [ho]
  simp only [Region.wanted, if_true]
  exact .inl (wp_load_row _ x rfl g hx _ cs (0, 0) _ hg Tryd.underlying71 rfl (by rw [hz]; exact szRun) h)
theorem wpOp_st36 {i : Nat} {dst : Option Tmp} {ty : TypeId} {pos : String} {af : Array Edge} {x y : Operand} (g : Nat) (cs old : Array Value) (ho : ops[i]? = some ⟨dst, .store 34 x y, ty, pos, af, none⟩)
    (hx : a.eval x = .pointer (some ⟨g, 0, none⟩)) (hy : a.eval y = .agg cs) (hg : w.heap[g]? = some (.cells old 34)) (hold : old.size = 36) (hz : cs.size = 36) (ha : cs.all (·.oneCell') = true) (h : K (a.put dst undef) (w.setRow g cs)) : wpOp Tryd.prog ops Q i K a w := by
  unfold wpOp
  rw [ho]
  simp only [Region.wanted, if_true]
  exact .inl (wp_store_row _ x y rfl g cs hx hy _ old hg (by rw [hz]; exact szMach) (by rw [hold, hz]) ha h)
theorem wpOp_st4 {i : Nat} {dst : Option Tmp} {ty : TypeId} {pos : String} {af : Array Edge} {x y : Operand} (g : Nat) (cs old : Array Value) (ho : ops[i]? = some ⟨dst, .store 71 x y, ty, pos, af, none⟩)
    (hx : a.eval x = .pointer (some ⟨g, 0, none⟩)) (hy : a.eval y = .agg cs) (hg : w.heap[g]? = some (.cells old 71)) (hold : old.size = 4) (hz : cs.size = 4) (ha : cs.all (·.oneCell') = true) (h : K (a.put dst undef) (w.setRow g cs)) : wpOp Tryd.prog ops Q i K a w := by
  unfold wpOp
  rw [ho]
  simp only [Region.wanted, if_true]
  exact .inl (wp_store_row _ x y rfl g cs hx hy _ old hg (by rw [hz]; exact szRun) (by rw [hold, hz]) ha h)
theorem wpOp_as {i : Nat} {dst : Option Tmp} {ty : TypeId} {pos : String} {af : Array Edge} {x : Operand} (ho : ops[i]? = some ⟨dst, .assign x, ty, pos, af, none⟩) (h : K (a.put dst (a.eval x)) w) : wpOp Tryd.prog ops Q i K a w := by
  unfold wpOp
  rw [ho]
  simp only [Region.wanted, if_true]
  exact .inl (by unfold Oper.wp execOp; exact h)
end
/-- What a function of a machine and a run does at its end: both are put into the results' boxes, and a Bool told; in whatever order. -/
theorem tail5 {id : Nat} {Q : Exit → Act → World → Prop} {a : Act} {w : World} {d1 d2 d3 : Tmp} {x1 x2 y1 y2 v : Operand} {p0 p1 p2 p3 p4 : String} {t0 t1 t2 t3 t4 : TypeId} {a0 a1 a2 a3 a4 : Array Edge} (g1 g2 g3 g4 : Nat) (cs rv old old' : Array Value) (V : Value)
    (hm : Tryd.prog.follows .mixedOrders = true)
    (hr0 : Region.ready .any #[⟨some d1, .load 34 x1, t0, p0, a0, none⟩, ⟨some d2, .load 71 x2, t1, p1, a1, none⟩, ⟨none, .store 34 y1 (.tmp d1), t2, p2, a2, none⟩, ⟨none, .store 71 y2 (.tmp d2), t3, p3, a3, none⟩, ⟨some d3, .assign v, t4, p4, a4, none⟩] #[false, false, false, false, false] = [0, 1])
    (hr1 : Region.ready .any #[⟨some d1, .load 34 x1, t0, p0, a0, none⟩, ⟨some d2, .load 71 x2, t1, p1, a1, none⟩, ⟨none, .store 34 y1 (.tmp d1), t2, p2, a2, none⟩, ⟨none, .store 71 y2 (.tmp d2), t3, p3, a3, none⟩, ⟨some d3, .assign v, t4, p4, a4, none⟩] #[true, false, false, false, false] = [1, 2])
    (hr2 : Region.ready .any #[⟨some d1, .load 34 x1, t0, p0, a0, none⟩, ⟨some d2, .load 71 x2, t1, p1, a1, none⟩, ⟨none, .store 34 y1 (.tmp d1), t2, p2, a2, none⟩, ⟨none, .store 71 y2 (.tmp d2), t3, p3, a3, none⟩, ⟨some d3, .assign v, t4, p4, a4, none⟩] #[false, true, false, false, false] = [0])
    (hr3 : Region.ready .any #[⟨some d1, .load 34 x1, t0, p0, a0, none⟩, ⟨some d2, .load 71 x2, t1, p1, a1, none⟩, ⟨none, .store 34 y1 (.tmp d1), t2, p2, a2, none⟩, ⟨none, .store 71 y2 (.tmp d2), t3, p3, a3, none⟩, ⟨some d3, .assign v, t4, p4, a4, none⟩] #[true, true, false, false, false] = [2])
    (hr4 : Region.ready .any #[⟨some d1, .load 34 x1, t0, p0, a0, none⟩, ⟨some d2, .load 71 x2, t1, p1, a1, none⟩, ⟨none, .store 34 y1 (.tmp d1), t2, p2, a2, none⟩, ⟨none, .store 71 y2 (.tmp d2), t3, p3, a3, none⟩, ⟨some d3, .assign v, t4, p4, a4, none⟩] #[true, false, true, false, false] = [1])
    (hr5 : Region.ready .any #[⟨some d1, .load 34 x1, t0, p0, a0, none⟩, ⟨some d2, .load 71 x2, t1, p1, a1, none⟩, ⟨none, .store 34 y1 (.tmp d1), t2, p2, a2, none⟩, ⟨none, .store 71 y2 (.tmp d2), t3, p3, a3, none⟩, ⟨some d3, .assign v, t4, p4, a4, none⟩] #[true, true, true, false, false] = [3])
    (hr6 : Region.ready .any #[⟨some d1, .load 34 x1, t0, p0, a0, none⟩, ⟨some d2, .load 71 x2, t1, p1, a1, none⟩, ⟨none, .store 34 y1 (.tmp d1), t2, p2, a2, none⟩, ⟨none, .store 71 y2 (.tmp d2), t3, p3, a3, none⟩, ⟨some d3, .assign v, t4, p4, a4, none⟩] #[true, true, true, true, false] = [4])
    (e1 : a.eval x1 = .pointer (some ⟨g1, 0, none⟩)) (e1' : (a.put (some d2) (.agg rv)).eval x1 = .pointer (some ⟨g1, 0, none⟩)) (e2 : a.eval x2 = .pointer (some ⟨g2, 0, none⟩)) (e2' : (a.put (some d1) (.agg cs)).eval x2 = .pointer (some ⟨g2, 0, none⟩))
    (hcomm : (a.put (some d2) (.agg rv)).put (some d1) (.agg cs) = (a.put (some d1) (.agg cs)).put (some d2) (.agg rv))
    (e3 : ((a.put (some d1) (.agg cs)).put (some d2) (.agg rv)).eval y1 = .pointer (some ⟨g3, 0, none⟩)) (e3' : (a.put (some d1) (.agg cs)).eval y1 = .pointer (some ⟨g3, 0, none⟩)) (e4 : (a.put (some d1) (.agg cs)).eval (.tmp d1) = .agg cs) (e4' : ((a.put (some d1) (.agg cs)).put (some d2) (.agg rv)).eval (.tmp d1) = .agg cs)
    (e5 : ((a.put (some d1) (.agg cs)).put (some d2) (.agg rv)).eval y2 = .pointer (some ⟨g4, 0, none⟩)) (e6 : ((a.put (some d1) (.agg cs)).put (some d2) (.agg rv)).eval (.tmp d2) = .agg rv) (e7 : ((a.put (some d1) (.agg cs)).put (some d2) (.agg rv)).eval v = V)
    (h1 : w.heap[g1]? = some (.cells cs 34)) (h2 : w.heap[g2]? = some (.cells rv 71)) (h3 : w.heap[g3]? = some (.cells old 34)) (h4 : w.heap[g4]? = some (.cells old' 71))
    (z1 : cs.size = 36) (z2 : rv.size = 4) (z3 : old.size = 36) (z4 : old'.size = 4) (o1 : cs.all (·.oneCell') = true) (o2 : rv.all (·.oneCell') = true) (n1 : g2 ≠ g3) (n2 : g4 ≠ g3)
    (h : Q .normal (((a.put (some d1) (.agg cs)).put (some d2) (.agg rv)).put (some d3) V) (((w.drew).setRow g3 cs).setRow g4 rv)) :
    (Code.region id #[⟨some d1, .load 34 x1, t0, p0, a0, none⟩, ⟨some d2, .load 71 x2, t1, p1, a1, none⟩, ⟨none, .store 34 y1 (.tmp d1), t2, p2, a2, none⟩, ⟨none, .store 71 y2 (.tmp d2), t3, p3, a3, none⟩, ⟨some d3, .assign v, t4, p4, a4, none⟩] true).wp Tryd.prog Q a w := by
  have k2 : (w.drew.setRow g3 cs).heap[g2]? = some (.cells rv 71) := (setRow_other _ _ _ _ n1).trans h2
  have k4 : (w.drew.setRow g3 cs).heap[g4]? = some (.cells old' 71) := (setRow_other _ _ _ _ n2).trans h4
  refine wp_region_any hm ?_
  show wpAny _ _ _ _ 5 #[false, false, false, false, false] a w.drew
  generalize hops : (#[⟨some d1, .load 34 x1, t0, p0, a0, none⟩, ⟨some d2, .load 71 x2, t1, p1, a1, none⟩, ⟨none, .store 34 y1 (.tmp d1), t2, p2, a2, none⟩, ⟨none, .store 71 y2 (.tmp d2), t3, p3, a3, none⟩, ⟨some d3, .assign v, t4, p4, a4, none⟩] : Array Oper) = ops at *
  have i0 : ops[0]? = some ⟨some d1, .load 34 x1, t0, p0, a0, none⟩ := by rw [← hops]; rfl
  have i1 : ops[1]? = some ⟨some d2, .load 71 x2, t1, p1, a1, none⟩ := by rw [← hops]; rfl
  have i2 : ops[2]? = some ⟨none, .store 34 y1 (.tmp d1), t2, p2, a2, none⟩ := by rw [← hops]; rfl
  have i3 : ops[3]? = some ⟨none, .store 71 y2 (.tmp d2), t3, p3, a3, none⟩ := by rw [← hops]; rfl
  have i4 : ops[4]? = some ⟨some d3, .assign v, t4, p4, a4, none⟩ := by rw [← hops]; rfl
  have hend : Region.ready .any ops #[true, true, true, true, true] = [] := by rw [← hops]; rfl
  have last : wpAny Tryd.prog .any ops Q 2 #[true, true, true, false, false] ((a.put (some d1) (.agg cs)).put (some d2) (.agg rv)) (w.drew.setRow g3 cs) := by
    refine ⟨fun h => (by rw [hr5] at h; cases h), fun i hi => ?_⟩
    rw [hr5] at hi
    obtain rfl : i = 3 := by simpa using hi
    refine wpOp_st4 g4 rv old' i3 e5 e6 k4 z4 z2 o2 ?_
    refine ⟨fun h => (by rw [show (#[true, true, true, false, false] : Array Bool).setIfInBounds 3 true = #[true, true, true, true, false] from rfl, hr6] at h; cases h), fun i hi => ?_⟩
    rw [show (#[true, true, true, false, false] : Array Bool).setIfInBounds 3 true = #[true, true, true, true, false] from rfl, hr6] at hi
    obtain rfl : i = 4 := by simpa using hi
    refine wpOp_as i4 ?_
    refine ⟨hend, ?_⟩
    have : (((a.put (some d1) (.agg cs)).put (some d2) (.agg rv)).put none undef).eval v = V := e7
    rw [this]
    exact h
  have mid : wpAny Tryd.prog .any ops Q 3 #[true, true, false, false, false] ((a.put (some d1) (.agg cs)).put (some d2) (.agg rv)) w.drew := by
    refine ⟨fun h => (by rw [hr3] at h; cases h), fun i hi => ?_⟩
    rw [hr3] at hi
    obtain rfl : i = 2 := by simpa using hi
    exact wpOp_st36 g3 cs old i2 e3 e4' h3 z3 z1 o1 last
  refine ⟨fun h => (by rw [hr0] at h; cases h), fun i hi => ?_⟩
  rw [hr0] at hi
  have hi' : i = 0 ∨ i = 1 := by simpa using hi
  rcases hi' with rfl | rfl
  · refine wpOp_ld36 g1 cs i0 e1 h1 z1 ?_
    show wpAny _ _ _ _ 4 #[true, false, false, false, false] _ _
    refine ⟨fun h => (by rw [hr1] at h; cases h), fun i hi => ?_⟩
    rw [hr1] at hi
    have hi' : i = 1 ∨ i = 2 := by simpa using hi
    rcases hi' with rfl | rfl
    · exact wpOp_ld4 g2 rv i1 e2' h2 z2 mid
    · refine wpOp_st36 g3 cs old i2 e3' e4 h3 z3 z1 o1 ?_
      show wpAny _ _ _ _ 3 #[true, false, true, false, false] _ _
      refine ⟨fun h => (by rw [hr4] at h; cases h), fun i hi => ?_⟩
      rw [hr4] at hi
      obtain rfl : i = 1 := by simpa using hi
      exact wpOp_ld4 g2 rv i1 e2' k2 z2 last
  · refine wpOp_ld4 g2 rv i1 e2 h2 z2 ?_
    show wpAny _ _ _ _ 4 #[false, true, false, false, false] _ _
    refine ⟨fun h => (by rw [hr2] at h; cases h), fun i hi => ?_⟩
    rw [hr2] at hi
    obtain rfl : i = 0 := by simpa using hi
    refine wpOp_ld36 g1 cs i0 e1' h1 z1 ?_
    rw [hcomm]
    exact mid
end Go.Proofs.YtppcbommaddkgaaDoor
namespace Go.Proofs.YtppcbommaddkgaaDoor
open Go.RowKit Go.Maps
set_option linter.unusedVariables false
set_option linter.unusedSimpArgs false
set_option maxRecDepth 10000
open Pm Pc Pl
section
variable (w : World) (a b c d : Obj)
theorem a4_0 : ((((w.alloc a).alloc b).alloc c).alloc d).heap[w.heap.size]? = some a := by
  rw [Below.heap_alloc _ _ _ (by simp; omega), Below.heap_alloc _ _ _ (by simp; omega)]; exact aa0 w a b
theorem a4_1 : ((((w.alloc a).alloc b).alloc c).alloc d).heap[w.heap.size + 1]? = some b := by
  rw [Below.heap_alloc _ _ _ (by simp), Below.heap_alloc _ _ _ (by simp)]; exact aa1 w a b
theorem a4_2 : ((((w.alloc a).alloc b).alloc c).alloc d).heap[w.heap.size + 2]? = some c := by
  rw [Below.heap_alloc _ _ _ (by simp)]
  have := aa1 (w.alloc a) b c
  simpa using this
theorem a4_3 : ((((w.alloc a).alloc b).alloc c).alloc d).heap[w.heap.size + 3]? = some d := by
  have := aa1 ((w.alloc a).alloc b) c d
  simpa using this
end
theorem res_cct {fn : Func} {p p' r : Tmp} (h : fn.results = #[.cell p 34, .cell p' 71, .tmp r]) (tmps : Array Value) (w : World) (g g' : Nat) (cs rv : Array Value) (v : Value)
    (hp : tmps.getD p undef = .pointer (some ⟨g, 0, none⟩)) (hp' : tmps.getD p' undef = .pointer (some ⟨g', 0, none⟩)) (hv : tmps.getD r undef = v) (hg : w.heap[g]? = some (.cells cs 34)) (hz : cs.size = 36) (hg' : w.heap[g']? = some (.cells rv 71)) (hz' : rv.size = 4) :
    (results fn tmps).run Tryd.prog w = .ok (.tuple #[.agg cs, .agg rv, v]) w := by
  have hp1 : tmps[p]?.getD undef = .pointer (some ⟨g, 0, none⟩) := by simpa using hp
  have hp2 : tmps[p']?.getD undef = .pointer (some ⟨g', 0, none⟩) := by simpa using hp'
  have hv1 : tmps[r]?.getD undef = v := by simpa using hv
  simp [results, h, hp1, hp2, hv1, asAddr, run_loadVar_row w g _ _ cs (0, 0) _ hg Tryd.underlying34 rfl (by rw [hz]; exact szMach), run_loadVar_row w g' _ _ rv (0, 0) _ hg' Tryd.underlying71 rfl (by rw [hz']; exact szRun)]
/-- What the document's run has beside its machine, in memory. -/
structure Rd (w : World) (base q : Nat) (m : Ma) (R : Ru) (A : Option Addr) (c : Nat) (ov sv : Value) : Prop where
  mem : w.heap[q]? = some (.cells (u8s m.mem).toArray 5)
  ok : m.ok
  out : w.ownsRow base 5 1 ov R.out.length (u8s R.out)
  seen : w.ownsRow base 81 4 sv R.seen.length (accs R.seen)
  inp : InpIs w base q q A R.inp
  cap : R.inp.length ≤ c
  wat : R.wat = true
  lq : q < base
  lb : base ≤ w.heap.size
  lo : R.out.length < 1099511627776
  ls : R.seen.length < 1099511627776
theorem Rd.below {w w' : World} {base q : Nat} {m : Ma} {R : Ru} {A : Option Addr} {c : Nat} {ov sv : Value} (h : Rd w base q m R A c ov sv) (hb : Below w.heap.size w w') : Rd w' base q m R A c ov sv :=
  ⟨(hb.block q (lt_of_at h.mem)).trans h.mem, h.ok, ownsRow_at2 h.out fun g cur _ hg => (hb.block g (lt_of_at hg)).trans hg, ownsRow_at2 h.seen fun g cur _ hg => (hb.block g (lt_of_at hg)).trans hg, h.inp.at_ fun g hg _ _ _ => hb.block g hg, h.cap, h.wat, h.lq, Nat.le_trans h.lb hb.size, h.lo, h.ls⟩
theorem Rd.mach {w : World} {base q : Nat} {m m' : Ma} {R : Ru} {A : Option Addr} {c : Nat} {ov sv : Value} (h : Rd w base q m R A c ov sv) (hm : m'.mem = m.mem) (hok : m'.ok) : Rd w base q m' R A c ov sv :=
  ⟨by rw [hm]; exact h.mem, hok, h.out, h.seen, h.inp, h.cap, h.wat, h.lq, h.lb, h.lo, h.ls⟩
/-- What stays behind a part of the document's step: all below base but its memory; and whatever holds neither bytes nor accesses. -/
structure Fw (base q : Nat) (w w' : World) : Prop where
  fb : Fb base q q w w'
  kept : ∀ g, g < w.heap.size → (∃ (cs : Array Value) (t : TypeId), t ≠ 5 ∧ t ≠ 81 ∧ w.heap[g]? = some (.cells cs t)) → w'.heap[g]? = w.heap[g]?
theorem Fw.trans {base q : Nat} {a b c : World} (h : Fw base q a b) (g : Fw base q b c) : Fw base q a c :=
  ⟨h.fb.trans g.fb, fun k hk hx => by
    have e := h.kept k hk hx
    obtain ⟨cs, t, t1, t2, h3⟩ := hx
    exact (g.kept k (Nat.lt_of_lt_of_le hk h.fb.size) ⟨cs, t, t1, t2, e.trans h3⟩).trans e⟩
theorem Fw.row {base q g : Nat} {w w' : World} {cs : Array Value} {t : TypeId} (h : Fw base q w w') (t1 : t ≠ 5) (t2 : t ≠ 81) (hg : w.heap[g]? = some (.cells cs t)) : w'.heap[g]? = some (.cells cs t) := (h.kept g (lt_of_at hg) ⟨cs, t, t1, t2, hg⟩).trans hg
theorem Fw.of {base q : Nat} {cs : Array Value} {w w' : World} (h : Fr [q] w w') (hq : w.heap[q]? = some (.cells cs 5)) : Fw base q w w' :=
  ⟨Fb.of h (by simp), fun k hk hx => h.block k hk (by
    obtain ⟨cs', t, t1, t2, h3⟩ := hx
    intro hm
    obtain rfl : k = q := by simpa using hm
    rw [hq] at h3; injection h3 with h3; injection h3 with _ h3; exact t1 h3.symm)⟩
theorem Fw.below {base q : Nat} {w w' : World} (h : Below w.heap.size w w') : Fw base q w w' := ⟨⟨h.os, h.tape, h.output, h.size, fun k hk _ _ _ => h.block k hk⟩, fun k hk _ => h.block k hk⟩
/-- What a part of the document's step answers, and leaves. -/
def RTo (w : World) (base q : Nat) (m : Ma) (R : Ru) (o : Option (Ma × Ru)) (e : Ending) (w' : World) : Prop :=
  ∃ m' R' A' c' oA on oc sA sn sc b, o = (if b = true then some (m', R') else none) ∧ (b = false → m' = m ∧ R' = R) ∧ e = .returned (.tuple #[.agg (mcs m' q), .agg #[.slice A' R'.inp.length c', .slice oA on oc, .int .i64 R'.checks, .slice sA sn sc], .bool b]) ∧ Rd w' base q m' R' A' c' (.slice oA on oc) (.slice sA sn sc) ∧ Fw base q w w'
theorem end5 {w X : World} {base q : Nat} {m : Ma} {R : Ru} {A : Option Addr} {c : Nat} {ov sv : Value} {s : Nat} {old old' : Array Value} (cs rv : Array Value) (hR : Rd X base q m R A c ov sv) (hf : Fw base q w X) (hs : base ≤ s ∧ w.heap.size ≤ s) (k4 : X.heap[s + 2]? = some (.cells old 34)) (k5 : X.heap[s + 3]? = some (.cells old' 71)) :
    ((X.drew.setRow (s + 2) cs).setRow (s + 3) rv).heap[s + 2]? = some (.cells cs 34) ∧ ((X.drew.setRow (s + 2) cs).setRow (s + 3) rv).heap[s + 3]? = some (.cells rv 71) ∧ Rd ((X.drew.setRow (s + 2) cs).setRow (s + 3) rv) base q m R A c ov sv ∧ Fw base q w ((X.drew.setRow (s + 2) cs).setRow (s + 3) rv) := by
  have ho : ∀ g, g ≠ s + 2 → g ≠ s + 3 → ((X.drew.setRow (s + 2) cs).setRow (s + 3) rv).heap[g]? = X.heap[g]? := fun g h1 h2 => (setRow_other _ _ _ _ h2).trans (setRow_other _ _ _ _ h1)
  have hY : ∀ (g : Nat) (cur : Array Value) (t : TypeId), t ≠ 34 → t ≠ 71 → X.heap[g]? = some (Obj.cells cur t) → ((X.drew.setRow (s + 2) cs).setRow (s + 3) rv).heap[g]? = some (Obj.cells cur t) := fun g cur t h1 h2 hg => by
    rw [ho g (by rintro rfl; rw [k4] at hg; injection hg with hg; injection hg with _ hg; exact h1 hg.symm) (by rintro rfl; rw [k5] at hg; injection hg with hg; injection hg with _ hg; exact h2 hg.symm)]
    exact hg
  have hz : ((X.drew.setRow (s + 2) cs).setRow (s + 3) rv).heap.size = X.heap.size := by simp [World.setRow]
  refine ⟨(setRow_other _ _ _ _ (by omega)).trans (setRow_heap X.drew _ _ _ _ _ k4), setRow_heap _ _ _ _ _ _ ((setRow_other X.drew _ _ _ (by omega)).trans k5), ⟨hY _ _ 5 (by decide) (by decide) hR.mem, hR.ok, ownsRow_at2 hR.out fun g cur _ hg => hY _ _ 5 (by decide) (by decide) hg, ownsRow_at2 hR.seen fun g cur _ hg => hY _ _ 81 (by decide) (by decide) hg, hR.inp.at_ fun g _ hb _ _ => ho g (by omega) (by omega), hR.cap, hR.wat, hR.lq, by rw [hz]; exact hR.lb, hR.lo, hR.ls⟩, ⟨hf.fb.os, hf.fb.tape, hf.fb.output, by rw [hz]; exact hf.fb.size, fun k hk hb h1 h2 => (ho k (by omega) (by omega)).trans (hf.fb.block k hk hb h1 h2)⟩, fun k hk hx => (ho k (by omega) (by omega)).trans (hf.kept k hk hx)⟩
theorem tail6 {id : Nat} {Q : Exit → Act → World → Prop} {a : Act} {w : World} {d1 d2 d3 : Tmp} {x1 x2 y1 y2 v : Operand} {p0 p1 p2 p3 p4 : String} {t0 t1 t2 t3 t4 : TypeId} {a0 a1 a2 a3 a4 : Array Edge} (g1 g2 g3 g4 : Nat) (cs rv old old' : Array Value) (V : Value)
    (hm : Tryd.prog.follows .mixedOrders = true)
    (hr0 : Region.ready .any #[⟨some d1, .load 34 x1, t0, p0, a0, none⟩, ⟨some d2, .load 71 x2, t1, p1, a1, none⟩, ⟨none, .store 34 y1 (.tmp d1), t2, p2, a2, none⟩, ⟨none, .store 71 y2 (.tmp d2), t3, p3, a3, none⟩, ⟨some d3, .assign v, t4, p4, a4, none⟩] #[false, false, false, false, false] = [0, 1])
    (hr1 : Region.ready .any #[⟨some d1, .load 34 x1, t0, p0, a0, none⟩, ⟨some d2, .load 71 x2, t1, p1, a1, none⟩, ⟨none, .store 34 y1 (.tmp d1), t2, p2, a2, none⟩, ⟨none, .store 71 y2 (.tmp d2), t3, p3, a3, none⟩, ⟨some d3, .assign v, t4, p4, a4, none⟩] #[true, false, false, false, false] = [1, 2])
    (hr2 : Region.ready .any #[⟨some d1, .load 34 x1, t0, p0, a0, none⟩, ⟨some d2, .load 71 x2, t1, p1, a1, none⟩, ⟨none, .store 34 y1 (.tmp d1), t2, p2, a2, none⟩, ⟨none, .store 71 y2 (.tmp d2), t3, p3, a3, none⟩, ⟨some d3, .assign v, t4, p4, a4, none⟩] #[false, true, false, false, false] = [0])
    (hr3 : Region.ready .any #[⟨some d1, .load 34 x1, t0, p0, a0, none⟩, ⟨some d2, .load 71 x2, t1, p1, a1, none⟩, ⟨none, .store 34 y1 (.tmp d1), t2, p2, a2, none⟩, ⟨none, .store 71 y2 (.tmp d2), t3, p3, a3, none⟩, ⟨some d3, .assign v, t4, p4, a4, none⟩] #[true, true, false, false, false] = [2])
    (hr4 : Region.ready .any #[⟨some d1, .load 34 x1, t0, p0, a0, none⟩, ⟨some d2, .load 71 x2, t1, p1, a1, none⟩, ⟨none, .store 34 y1 (.tmp d1), t2, p2, a2, none⟩, ⟨none, .store 71 y2 (.tmp d2), t3, p3, a3, none⟩, ⟨some d3, .assign v, t4, p4, a4, none⟩] #[true, false, true, false, false] = [1])
    (hr5 : Region.ready .any #[⟨some d1, .load 34 x1, t0, p0, a0, none⟩, ⟨some d2, .load 71 x2, t1, p1, a1, none⟩, ⟨none, .store 34 y1 (.tmp d1), t2, p2, a2, none⟩, ⟨none, .store 71 y2 (.tmp d2), t3, p3, a3, none⟩, ⟨some d3, .assign v, t4, p4, a4, none⟩] #[true, true, true, false, false] = [3])
    (hr6 : Region.ready .any #[⟨some d1, .load 34 x1, t0, p0, a0, none⟩, ⟨some d2, .load 71 x2, t1, p1, a1, none⟩, ⟨none, .store 34 y1 (.tmp d1), t2, p2, a2, none⟩, ⟨none, .store 71 y2 (.tmp d2), t3, p3, a3, none⟩, ⟨some d3, .assign v, t4, p4, a4, none⟩] #[true, true, true, true, false] = [4])
    (e1 : a.eval x1 = .pointer (some ⟨g1, 0, none⟩)) (e1' : (a.put (some d2) (.agg rv)).eval x1 = .pointer (some ⟨g1, 0, none⟩)) (e2 : a.eval x2 = .pointer (some ⟨g2, 0, none⟩)) (e2' : (a.put (some d1) (.agg cs)).eval x2 = .pointer (some ⟨g2, 0, none⟩))
    (hcomm : (a.put (some d2) (.agg rv)).put (some d1) (.agg cs) = (a.put (some d1) (.agg cs)).put (some d2) (.agg rv))
    (e3 : ((a.put (some d1) (.agg cs)).put (some d2) (.agg rv)).eval y1 = .pointer (some ⟨g3, 0, none⟩)) (e3' : (a.put (some d1) (.agg cs)).eval y1 = .pointer (some ⟨g3, 0, none⟩)) (e4 : (a.put (some d1) (.agg cs)).eval (.tmp d1) = .agg cs) (e4' : ((a.put (some d1) (.agg cs)).put (some d2) (.agg rv)).eval (.tmp d1) = .agg cs)
    (e5 : ((a.put (some d1) (.agg cs)).put (some d2) (.agg rv)).eval y2 = .pointer (some ⟨g4, 0, none⟩)) (e6 : ((a.put (some d1) (.agg cs)).put (some d2) (.agg rv)).eval (.tmp d2) = .agg rv) (e7 : ((a.put (some d1) (.agg cs)).put (some d2) (.agg rv)).eval v = V)
    (h1 : w.heap[g1]? = some (.cells cs 34)) (h2 : w.heap[g2]? = some (.cells rv 71)) (h3 : w.heap[g3]? = some (.cells old 34)) (h4 : w.heap[g4]? = some (.cells old' 71))
    (z1 : cs.size = 36) (z2 : rv.size = 4) (z3 : old.size = 36) (z4 : old'.size = 4) (o1 : cs.all (·.oneCell') = true) (o2 : rv.all (·.oneCell') = true) (n1 : g2 ≠ g3) (n2 : g4 ≠ g3)
    {w0 : World} {base q : Nat} {m : Ma} {R : Ru} {A : Option Addr} {c : Nat} {ov sv : Value} (e34 : g3 = g1 + 2 ∧ g4 = g1 + 3) (hR : Rd w base q m R A c ov sv) (hF : Fw base q w0 w) (hs : base ≤ g1 ∧ w0.heap.size ≤ g1)
    (h : ∀ Y : World, Y.heap[g3]? = some (.cells cs 34) → Y.heap[g4]? = some (.cells rv 71) → Rd Y base q m R A c ov sv → Fw base q w0 Y → Q .normal (((a.put (some d1) (.agg cs)).put (some d2) (.agg rv)).put (some d3) V) Y) :
    (Code.region id #[⟨some d1, .load 34 x1, t0, p0, a0, none⟩, ⟨some d2, .load 71 x2, t1, p1, a1, none⟩, ⟨none, .store 34 y1 (.tmp d1), t2, p2, a2, none⟩, ⟨none, .store 71 y2 (.tmp d2), t3, p3, a3, none⟩, ⟨some d3, .assign v, t4, p4, a4, none⟩] true).wp Tryd.prog Q a w := by
  obtain ⟨rfl, rfl⟩ := e34
  refine tail5 g1 g2 (g1 + 2) (g1 + 3) cs rv old old' V hm hr0 hr1 hr2 hr3 hr4 hr5 hr6 e1 e1' e2 e2' hcomm e3 e3' e4 e4' e5 e6 e7 h1 h2 h3 h4 z1 z2 z3 z4 o1 o2 n1 n2 ?_
  obtain ⟨j4, j5, jR, jF⟩ := end5 cs rv hR hF hs h3 h4
  exact h _ j4 j5 jR jF
end Go.Proofs.YtppcbommaddkgaaDoor
namespace Go.Proofs.YtppcbommaddkgaaDoor
open Go.RowKit Go.Maps
set_option linter.unusedVariables false
set_option linter.unusedSimpArgs false
set_option maxRecDepth 10000
open Pm Pc Pl
theorem rdo_any (op a b : Int) (w : World) (h1 : 1 ≤ op) (h2 : op ≤ 27) (ha : 0 ≤ a ∧ a < 18446744073709551616) (hb : 0 ≤ b ∧ b < 18446744073709551616) :
    Calls Tryd.prog 33 #[.int .i64 op, .int .u64 a, .int .u64 b] w fun e w' => e = .returned (.int .u64 (opV op a b)) ∧ Below w.heap.size w w' := by
  have HC := Lib.hid (ref_any op a b w h1 h2 ha.1 ha.2 hb.1 hb.2)
  generalize opV op a b = v at *
  go_enter Tryd.func33, Tryd.ntmps33
  go_wp2_with fail
  with_reducible refine HC.out.mono ?_
  rintro e w1 ⟨rfl, b1⟩
  go_wp2
  go_ret
  exact ⟨rfl, b1⟩
theorem rless_any (a b : Int) (w : World) (ha : 0 ≤ a ∧ a < 18446744073709551616) (hb : 0 ≤ b ∧ b < 18446744073709551616) :
    Calls Tryd.prog 51 #[.int .u64 a, .int .u64 b] w fun e w' => e = .returned (.bool (decide (wrap64 a < wrap64 b))) ∧ w = w' := by
  by_cases h1 : 9223372036854775808 ≤ a
  · have da := decide_eq_true h1
    have H1 := Lib.hid h1; clear h1
    by_cases h2 : 9223372036854775808 ≤ b
    · have db := decide_eq_true h2
      have H2 := Lib.hid h2; clear h2
      go_enter Tryd.func51, Tryd.ntmps51
      go_wp2_with (go_at_call 67; go_in)
      go_ret
      refine ⟨hold_eq ?_, rfl⟩
      have ea : wrap64 a = if a < 9223372036854775808 then a else a - 18446744073709551616 := by unfold wrap64; split <;> omega
      have eb : wrap64 b = if b < 9223372036854775808 then b else b - 18446744073709551616 := by unfold wrap64; split <;> omega
      have h1 := H1.out; have h2 := H2.out
      rw [ea, eb, if_neg (by omega), if_neg (by omega)]
      all_goals first
        | rfl
        | (rw [Bool.eq_iff_iff]; simp only [decide_eq_true_eq]; omega)
        | (symm; rw [decide_eq_true_iff]; omega)
        | (symm; rw [decide_eq_false_iff_not]; omega)
        | (rw [Bool.eq_iff_iff]; done)
        | (rw [Bool.eq_iff_iff]; simp; done)
        | (rw [Bool.eq_iff_iff]; simp; omega)
    · have db := decide_eq_false h2
      have h2' : b < 9223372036854775808 := by omega
      have H2 := Lib.hid h2'; clear h2 h2'
      go_enter Tryd.func51, Tryd.ntmps51
      go_wp2_with (go_at_call 67; go_in)
      go_ret
      refine ⟨hold_eq ?_, rfl⟩
      have ea : wrap64 a = if a < 9223372036854775808 then a else a - 18446744073709551616 := by unfold wrap64; split <;> omega
      have eb : wrap64 b = if b < 9223372036854775808 then b else b - 18446744073709551616 := by unfold wrap64; split <;> omega
      have h1 := H1.out; have h2 := H2.out
      rw [ea, eb, if_neg (by omega), if_pos (by omega)]
      all_goals first
        | rfl
        | (rw [Bool.eq_iff_iff]; simp only [decide_eq_true_eq]; omega)
        | (symm; rw [decide_eq_true_iff]; omega)
        | (symm; rw [decide_eq_false_iff_not]; omega)
        | (rw [Bool.eq_iff_iff]; done)
        | (rw [Bool.eq_iff_iff]; simp; done)
        | (rw [Bool.eq_iff_iff]; simp; omega)
  · have da := decide_eq_false h1
    have h1' : a < 9223372036854775808 := by omega
    have H1 := Lib.hid h1'; clear h1 h1'
    by_cases h2 : 9223372036854775808 ≤ b
    · have db := decide_eq_true h2
      have H2 := Lib.hid h2; clear h2
      go_enter Tryd.func51, Tryd.ntmps51
      go_wp2_with (go_at_call 67; go_in)
      go_ret
      refine ⟨hold_eq ?_, rfl⟩
      have ea : wrap64 a = if a < 9223372036854775808 then a else a - 18446744073709551616 := by unfold wrap64; split <;> omega
      have eb : wrap64 b = if b < 9223372036854775808 then b else b - 18446744073709551616 := by unfold wrap64; split <;> omega
      have h1 := H1.out; have h2 := H2.out
      rw [ea, eb, if_pos (by omega), if_neg (by omega)]
      all_goals first
        | rfl
        | (rw [Bool.eq_iff_iff]; simp only [decide_eq_true_eq]; omega)
        | (symm; rw [decide_eq_true_iff]; omega)
        | (symm; rw [decide_eq_false_iff_not]; omega)
        | (rw [Bool.eq_iff_iff]; done)
        | (rw [Bool.eq_iff_iff]; simp; done)
        | (rw [Bool.eq_iff_iff]; simp; omega)
    · have db := decide_eq_false h2
      have h2' : b < 9223372036854775808 := by omega
      have H2 := Lib.hid h2'; clear h2 h2'
      go_enter Tryd.func51, Tryd.ntmps51
      go_wp2_with (go_at_call 67; go_in)
      go_ret
      refine ⟨hold_eq ?_, rfl⟩
      have ea : wrap64 a = if a < 9223372036854775808 then a else a - 18446744073709551616 := by unfold wrap64; split <;> omega
      have eb : wrap64 b = if b < 9223372036854775808 then b else b - 18446744073709551616 := by unfold wrap64; split <;> omega
      have h1 := H1.out; have h2 := H2.out
      rw [ea, eb, if_pos (by omega), if_pos (by omega)]
      all_goals first
        | rfl
        | (rw [Bool.eq_iff_iff]; simp only [decide_eq_true_eq]; omega)
        | (symm; rw [decide_eq_true_iff]; omega)
        | (symm; rw [decide_eq_false_iff_not]; omega)
        | (rw [Bool.eq_iff_iff]; done)
        | (rw [Bool.eq_iff_iff]; simp; done)
        | (rw [Bool.eq_iff_iff]; simp; omega)
theorem rtaken_any (op a b : Int) (w : World) (h : 45 ≤ op ∧ op ≤ 50) (ha : 0 ≤ a ∧ a < 18446744073709551616) (hb : 0 ≤ b ∧ b < 18446744073709551616) :
    Calls Tryd.prog 35 #[.int .i64 op, .int .u64 a, .int .u64 b] w fun e w' => e = .returned (.bool (holdV op a b)) ∧ w = w' := by
  have : op = 45 ∨ op = 46 ∨ op = 47 ∨ op = 48 ∨ op = 49 ∨ op = 50 := by omega
  rcases this with rfl | rfl | rfl | rfl | rfl | rfl
  all_goals
    go_enter Tryd.func35, Tryd.ntmps35
    go_wp2_with (go_at_call 51; refine (rless_any _ _ _ ha hb).mono ?_; rintro e w1 ⟨rfl, rfl⟩)
    go_ret
    refine ⟨hold_eq ?_, rfl⟩
    first | (simp [holdV]; done) | (rw [Bool.eq_iff_iff]; simp [holdV]; done) | (rw [Bool.eq_iff_iff]; simp [holdV]; omega)
end Go.Proofs.YtppcbommaddkgaaDoor
