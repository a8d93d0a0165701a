/- Two results are the same, two lists of loads and stores are. Conditions: each theorem's. -/
import Derived.Test.YtoehfncgkkfdeaaDoorMachA
import Derived.Test.YtoehfncgkkfdeaaDoorMachC
import Derived.Laws.BytesArg
import Derived.Laws.IdiomStrings
import Derived.Deep.RegionHeld3
import Derived.Great.BuildSlice
import Derived.Test.YtoehfncgkkfdeaaDoorMachM3
import Derived.StillTailTactics
namespace Go.Proofs.YtoehfncgkkfdeaaDoor
open Go.RowKit Go.Maps
set_option linter.unusedVariables false
set_option linter.unusedSimpArgs false
set_option maxRecDepth 10000
open Pm Pc Pl
theorem conv_own {w : World} {base : Nat} {A : Option Addr} {n c : Nat} {xs : List Int} (h : w.ownsRow base 5 1 (.slice A n c) xs.length (u8s xs)) : n = xs.length ∧ (convert 22 9 (.slice A n c)).run Tryd.prog w = .ok (.string (strOfNums xs)) w := by
  rcases h.2 with ⟨hv, hn⟩ | ⟨g, cap, cur, hv, hg, hh, hnc, _, hsz, htk⟩
  · injection hv with h1 h2 h3
    subst h1 h2
    have hx : xs = [] := List.eq_nil_of_length_eq_zero hn
    subst hx
    exact ⟨rfl, run_convert_bytes_nil (w := w) 22 5 Tryd.underlying22 Tryd.underlying5 0 c 9 Tryd.underlying9⟩
  · injection hv with h1 h2 h3
    subst h1 h2 h3
    refine ⟨rfl, run_convert_bytes_arg w 22 5 Tryd.underlying22 Tryd.underlying5 g 0 _ _ xs rfl (fun i hi => ?_) 9 Tryd.underlying9⟩
    rw [Nat.zero_add, cell_of_row w g i _ _ _ hh]
    have h1 : (u8s xs)[i]? = some (.int .u8 (xs.getD i 0)) := by simp [u8s, hi]
    rw [← htk, List.getElem?_take] at h1
    split at h1
    · simpa using h1
    · cases h1
theorem conv_in {w : World} {A : Option Addr} {c : Nat} {xs : List Int} (h : 0 < xs.length → ∃ g o, A = some ⟨g, o, none⟩ ∧ ∀ j, j < xs.length → w.cell? ⟨g, o + j, none⟩ = some (.int .u8 (xs.getD j 0))) : (convert 22 9 (.slice A xs.length c)).run Tryd.prog w = .ok (.string (strOfNums xs)) w := by
  by_cases hz : xs.length = 0
  · have hx : xs = [] := List.eq_nil_of_length_eq_zero hz
    subst hx
    cases A with
    | none => exact run_convert_bytes_nil (w := w) 22 5 Tryd.underlying22 Tryd.underlying5 0 c 9 Tryd.underlying9
    | some a => exact run_convert_bytes_back w 22 9 5 a c [] Tryd.underlying22 Tryd.underlying5 Tryd.underlying9 (fun j hj => absurd hj (Nat.not_lt_zero j))
  · obtain ⟨g, o, rfl, hr⟩ := h (by omega)
    exact run_convert_bytes_arg w 22 5 Tryd.underlying22 Tryd.underlying5 g o _ c xs rfl hr 9 Tryd.underlying9

set_option maxHeartbeats 4000000 in
theorem same_true {w : World} {base base' : Nat} {A A' : Option Addr} {n c n' c' : Nat} {xs : List Int} (st cd s k : Int) (h : w.ownsRow base 5 1 (.slice A n c) xs.length (u8s xs)) (h' : w.ownsRow base' 5 1 (.slice A' n' c') xs.length (u8s xs)) :
    Calls Tryd.prog 13 #[.agg #[.int .i64 st, .int .u8 cd, .int .i64 0, .slice A n c, .int .i64 s, .int .i64 k], .agg #[.int .i64 st, .int .u8 cd, .int .i64 0, .slice A' n' c', .int .i64 s, .int .i64 k]] w fun e w' => e = .returned (.bool true) ∧ Below w.heap.size w w' := by
  have b1 := (Below.refl w.heap.size w).alloc (Nat.le_refl _) (Obj.cells #[.int .i64 st, .int .u8 cd, .int .i64 0, .slice A n c, .int .i64 s, .int .i64 k] 39)
  have b2 := b1.alloc b1.size (Obj.cells #[.int .i64 st, .int .u8 cd, .int .i64 0, .slice A' n' c', .int .i64 s, .int .i64 k] 39)
  obtain ⟨hn, hs⟩ := conv_own ((h.alloc (Obj.cells #[.int .i64 st, .int .u8 cd, .int .i64 0, .slice A n c, .int .i64 s, .int .i64 k] 39)).alloc (Obj.cells #[.int .i64 st, .int .u8 cd, .int .i64 0, .slice A' n' c', .int .i64 s, .int .i64 k] 39))
  obtain ⟨hn', hs'⟩ := conv_own ((h'.alloc (Obj.cells #[.int .i64 st, .int .u8 cd, .int .i64 0, .slice A n c, .int .i64 s, .int .i64 k] 39)).alloc (Obj.cells #[.int .i64 st, .int .u8 cd, .int .i64 0, .slice A' n' c', .int .i64 s, .int .i64 k] 39))
  subst hn hn'
  have HB := Lib.hid b2
  clear h h' b1 b2
  go_enter Tryd.func13, Tryd.ntmps13
  go_wp2_with fail
  go_ret
  exact ⟨rfl, HB.out⟩
/-- A list of loads and stores that stands in memory. -/
def AccIn (w : World) (A : Option Addr) (l : List Ac) : Prop := 0 < l.length → ∃ g o, A = some ⟨g, o, none⟩ ∧ ∀ j v, (accs l)[j]? = some v → w.cell? ⟨g, o + j, none⟩ = some v
theorem accs_at (l : List Ac) (j : Nat) (h : j < l.length) : ∃ a : Ac, (accs l)[j * 4]? = some (.int .u64 a.pl) ∧ (accs l)[j * 4 + 1]? = some (.int .u64 a.at_) ∧ (accs l)[j * 4 + 2]? = some (.int .i64 a.n) ∧ (accs l)[j * 4 + 3]? = some (.bool a.wr) := by
  induction l generalizing j with
  | nil => simp at h
  | cons x l ih =>
    cases j with
    | zero => exact ⟨x, rfl, rfl, rfl, rfl⟩
    | succ j =>
      obtain ⟨a, h0, h1, h2, h3⟩ := ih j (by simpa using h)
      refine ⟨a, ?_, ?_, ?_, ?_⟩
      · rw [← h0, show (j + 1) * 4 = j * 4 + 4 by omega]; rfl
      · rw [← h1, show (j + 1) * 4 + 1 = j * 4 + 1 + 4 by omega]; rfl
      · rw [← h2, show (j + 1) * 4 + 2 = j * 4 + 2 + 4 by omega]; rfl
      · rw [← h3, show (j + 1) * 4 + 3 = j * 4 + 3 + 4 by omega]; rfl
set_option maxHeartbeats 4000000 in
theorem seen_true {w : World} {A A' : Option Addr} {c c' : Nat} {l : List Ac} (hl : l.length ≤ 1073741824) (h : AccIn w A l) (h' : AccIn w A' l) :
    Calls Tryd.prog 18 #[.slice A l.length c, .slice A' l.length c'] w fun e w' => e = .returned (.bool true) ∧ Below w.heap.size w w' := by
  have H := Lib.hid h
  have H' := Lib.hid h'
  clear h h'
  go_enter Tryd.func18, Tryd.ntmps18
  go_wp2_with fail
  go_loopw [13] (fun k wr => ∃ j : Nat, j ≤ l.length ∧ k = .int .i64 j ∧ wr.heap = w.heap ∧ Below w.heap.size w wr) (fun k _ => l.length - (intOf k).toNat)
  case atStart => exact ⟨0, Nat.zero_le _, rfl, rfl, Below.refl _ _⟩
  case round =>
    obtain ⟨j, hj, rfl, hh, hb⟩ := hrel
    by_cases hlt : j < l.length
    · obtain ⟨a, e0, e1, e2, e3⟩ := accs_at l j hlt
      obtain ⟨g, o, rfl, hr⟩ := H.out (by omega)
      obtain ⟨g', o', rfl, hr'⟩ := H'.out (by omega)
      have hk : ∀ k b x, (wr.drewN k).cell? ⟨b, x, none⟩ = w.cell? ⟨b, x, none⟩ := fun k b x => World.cell?_of_block (by show wr.heap[b]? = _; rw [hh])
      have r0 : ∀ k, (wr.drewN k).cell? ⟨g, o + j * 4, none⟩ = some (.int .u64 a.pl) := fun k => (hk k _ _).trans (hr _ _ e0)
      have r1 : ∀ k, (wr.drewN k).cell? ⟨g, o + j * 4 + 1, none⟩ = some (.int .u64 a.at_) := fun k => (hk k _ _).trans (hr _ _ e1)
      have r2 : ∀ k, (wr.drewN k).cell? ⟨g, o + j * 4 + 2, none⟩ = some (.int .i64 a.n) := fun k => (hk k _ _).trans (hr _ _ e2)
      have r3 : ∀ k, (wr.drewN k).cell? ⟨g, o + j * 4 + 3, none⟩ = some (.bool a.wr) := fun k => (hk k _ _).trans (hr _ _ e3)
      have s0 : ∀ k, (wr.drewN k).cell? ⟨g', o' + j * 4, none⟩ = some (.int .u64 a.pl) := fun k => (hk k _ _).trans (hr' _ _ e0)
      have s1 : ∀ k, (wr.drewN k).cell? ⟨g', o' + j * 4 + 1, none⟩ = some (.int .u64 a.at_) := fun k => (hk k _ _).trans (hr' _ _ e1)
      have s2 : ∀ k, (wr.drewN k).cell? ⟨g', o' + j * 4 + 2, none⟩ = some (.int .i64 a.n) := fun k => (hk k _ _).trans (hr' _ _ e2)
      have s3 : ∀ k, (wr.drewN k).cell? ⟨g', o' + j * 4 + 3, none⟩ = some (.bool a.wr) := fun k => (hk k _ _).trans (hr' _ _ e3)
      have HH := Lib.hid hh
      have HB := Lib.hid hb
      clear hr hr' e0 e1 e2 e3 hk hh hb
      go_wp2_with fail
      go_quiet (fail)
      go_wp2
      go_roundw
      case rel => exact ⟨j + 1, by omega, by go_num, HH.out, ⟨HB.out.os, HB.out.tape, HB.out.output, HB.out.size, HB.out.block⟩⟩
      case measure => simp [intOf]; omega
    · obtain rfl : j = l.length := by omega
      go_wp2
      go_ret
      exact ⟨rfl, hb⟩
end Go.Proofs.YtoehfncgkkfdeaaDoor
/- The document's machine, its leaves: what a number means, places, registers. Conditions: each theorem's. -/
namespace Go.Proofs.YtoehfncgkkfdeaaDoor
open Go.RowKit
set_option linter.unusedVariables false
set_option linter.unusedSimpArgs false
set_option maxRecDepth 10000
open Pm Pc
namespace Pm
/-- A machine as one value's cells. -/
def mcs (m : Ma) (q : Nat) : Array Value := (m.cells q).toArray
theorem mcs_size {m : Ma} (h : m.x.length = 32) (q : Nat) : (mcs m q).size = 36 := by simp [mcs, Ma.cells, u64s, h]
theorem mcs_0 (m : Ma) (q : Nat) : (mcs m q)[0]? = some (.slice (some ⟨q, 0, none⟩) m.mem.length m.mem.length) := rfl
theorem mcs_x {m : Ma} (h : m.x.length = 32) (q : Nat) {k : Nat} (hk : k < 32) : (mcs m q)[1 + k]? = some (.int .u64 (m.x.getD k 0)) := by
  have hk' : k < m.x.length := by omega
  simp [mcs, Ma.cells, u64s, Nat.add_comm 1 k, List.getElem?_append_left, hk']
theorem mcs_33 {m : Ma} (h : m.x.length = 32) (q : Nat) : (mcs m q)[33]? = some (.int .u64 m.pl) := by
  simp [mcs, Ma.cells, u64s, List.getElem?_append_right, h]
theorem mcs_34 {m : Ma} (h : m.x.length = 32) (q : Nat) : (mcs m q)[34]? = some (.int .i64 m.st) := by
  simp [mcs, Ma.cells, u64s, List.getElem?_append_right, h]
theorem mcs_35 {m : Ma} (h : m.x.length = 32) (q : Nat) : (mcs m q)[35]? = some (.int .u8 m.cd) := by
  simp [mcs, Ma.cells, u64s, List.getElem?_append_right, h]
theorem mcs_all (m : Ma) (q : Nat) : (mcs m q).all (·.oneCell') = true := by
  simp [mcs, Ma.cells, u64s, Value.oneCell']
theorem mcs_setX {m : Ma} (h : m.x.length = 32) (q : Nat) {k : Nat} (hk : k < 32) (v : Int) : (mcs m q).setIfInBounds (1 + k) (.int .u64 v) = mcs { m with x := m.x.set k v } q := by
  have hk' : k < m.x.length := by omega
  simp [mcs, Ma.cells, u64s, Nat.add_comm 1 k, List.set_append, hk', List.map_set]
theorem mcs_set33 {m : Ma} (h : m.x.length = 32) (q : Nat) (v : Int) : (mcs m q).setIfInBounds 33 (.int .u64 v) = mcs { m with pl := v } q := by
  simp [mcs, Ma.cells, u64s, List.set_append, h]
theorem mcs_set34 {m : Ma} (h : m.x.length = 32) (q : Nat) (v : Int) : (mcs m q).setIfInBounds 34 (.int .i64 v) = mcs { m with st := v } q := by
  simp [mcs, Ma.cells, u64s, List.set_append, h]
theorem mcs_set35 {m : Ma} (h : m.x.length = 32) (q : Nat) (v : Int) : (mcs m q).setIfInBounds 35 (.int .u8 v) = mcs { m with cd := v } q := by
  simp [mcs, Ma.cells, u64s, List.set_append, h]
theorem getV_low (l : List Int) (a n : Nat) : getV l a (n + 1) = l.getD a 0 + 256 * getV l (a + 1) n := rfl
end Pm
theorem szMach : (Tryd.prog.info? 34).map (·.size) = some 36 := by kernel_rfl
theorem szRun : (Tryd.prog.info? 71).map (·.size) = some 4 := by kernel_rfl
theorem rimm_any (n : Int) (w : World) (hn : -9223372036854775808 ≤ n ∧ n < 9223372036854775808) : Calls Tryd.prog 31 #[.int .i64 n] w fun e w' => e = .returned (.int .u64 (n % 18446744073709551616)) ∧ w = w' := by
  by_cases h : n < 0
  all_goals
    go_enter Tryd.func31, Tryd.ntmps31
    go_wp2
    go_ret
    exact ⟨ret_u64 (by first | (simp only [IntKind.wrap_u64, wrap64]; omega) | omega), rfl⟩
theorem bw_alloc {a w : World} (h : Below a.heap.size a w) (o : Obj) : Below a.heap.size a (w.alloc o) := h.alloc h.size o
set_option maxHeartbeats 1000000 in
theorem rplace_any {m : Ma} {q : Nat} {w : World} (hx : m.x.length = 32) (hN : m.mem.length ≤ 4194304) (at_ n : Int) (ha : 0 ≤ at_ ∧ at_ < 18446744073709551616) (hn : n = 1 ∨ n = 4 ∨ n = 8) :
    Calls Tryd.prog 28 #[.agg (mcs m q), .int .u64 at_, .int .i64 n] w fun e w' => e = .returned (.bool (hasB at_ n m.mem.length)) ∧ Below w.heap.size w w' := by
  have c0 := mcs_0 m q
  have hz := mcs_size hx q
  have B := Lib.hid (bw_alloc (Below.refl w.heap.size w) (Obj.cells (mcs m q) 34))
  generalize mcs m q = cs at *
  generalize m.mem.length = N at *
  have hx' : (w.alloc (Obj.cells cs 34)).cell? ⟨w.heap.size, 0, none⟩ = some (.slice (some ⟨q, 0, none⟩) N N) := by rw [cell_of_row _ _ 0 _ _ _ (heap_alloc_new w _)]; exact c0
  clear c0 hx
  rcases hn with rfl | rfl | rfl
  all_goals
    go_enter Tryd.func28, Tryd.ntmps28
    go_wp2_with fail
    all_goals
      go_ret
      refine ⟨hold_eq ?_, B.out⟩
      unfold hasB
      first
        | (rw [Bool.eq_iff_iff]; simp; done)
        | (rw [Bool.eq_iff_iff]; simp; omega)
        | (simp; done)
        | (simp; omega)
theorem bw_setRow {B : Nat} {a w : World} (h : Below B a w) {g : Nat} (hg : B ≤ g) (cs : Array Value) : Below B a (w.setRow g cs) :=
  h.trans ⟨rfl, rfl, rfl, by simp [World.setRow], fun k hk => setRow_other _ _ _ _ (by omega)⟩
theorem aa0 (w : World) (o o' : Obj) : ((w.alloc o).alloc o').heap[w.heap.size]? = some o := by
  rw [Below.heap_alloc _ _ _ (by simp)]; exact heap_alloc_new w _
theorem aa1 (w : World) (o o' : Obj) : ((w.alloc o).alloc o').heap[w.heap.size + 1]? = some o' := by
  have := heap_alloc_new (w.alloc o) o'
  simpa using this
theorem ld36 {ops : Array Oper} {rest : List Oper} {Q : Exit → Act → World → Prop} {a : Act} {w : World} {dst : Option Tmp} {ty : TypeId} {pos : String} {af : Array Edge} {x : Operand} (g : Nat) (cs : Array Value)
    (hx : a.eval x = .pointer (some ⟨g, 0, none⟩)) (hg : w.heap[g]? = some (.cells cs 34)) (hz : cs.size = 36) (h : wpList Tryd.prog ops Q rest (a.put dst (.agg cs)) w) : wpList Tryd.prog ops Q (⟨dst, .load 34 x, ty, pos, af, none⟩ :: rest) a w :=
  wpList_load_row rfl _ x rfl g hx _ cs (0, 0) _ hg Tryd.underlying34 rfl (by rw [hz]; exact szMach) h
theorem st36 {ops : Array Oper} {rest : List Oper} {Q : Exit → Act → World → Prop} {a : Act} {w : World} {dst : Option Tmp} {ty : TypeId} {pos : String} {af : Array Edge} {x y : Operand} (g : Nat) (cs old : Array Value)
    (hx : a.eval x = .pointer (some ⟨g, 0, none⟩)) (hy : a.eval y = .agg cs) (hg : w.heap[g]? = some (.cells old 34)) (ho : old.size = 36) (hz : cs.size = 36) (ha : cs.all (·.oneCell') = true) (h : wpList Tryd.prog ops Q rest (a.put dst undef) (w.setRow g cs)) : wpList Tryd.prog ops Q (⟨dst, .store 34 x y, ty, pos, af, none⟩ :: rest) a w :=
  wpList_store_row rfl _ x y rfl g cs hx hy _ old hg (by rw [hz]; exact szMach) (by rw [ho, hz]) ha h
/-- Into a block that was made just now. -/
theorem st36n {ops : Array Oper} {rest : List Oper} {Q : Exit → Act → World → Prop} {a : Act} {w : World} {dst : Option Tmp} {ty : TypeId} {pos : String} {af : Array Edge} {x y : Operand} (g : Nat) (cs : Array Value) {old : Array Value} (hgw : w.heap.size = g)
    (hx : a.eval x = .pointer (some ⟨g, 0, none⟩)) (hy : a.eval y = .agg cs) (ho : old.size = 36) (hz : cs.size = 36) (ha : cs.all (·.oneCell') = true) (h : wpList Tryd.prog ops Q rest (a.put dst undef) (w.alloc (.cells cs 34))) : wpList Tryd.prog ops Q (⟨dst, .store 34 x y, ty, pos, af, none⟩ :: rest) a (w.alloc (.cells old 34)) := by
  subst hgw
  refine st36 (w := w.alloc (.cells old 34)) w.heap.size cs old hx hy (heap_alloc_new w _) ho hz ha ?_
  rw [World.setRow_alloc_new]
  exact h
set_option maxHeartbeats 1000000 in
theorem rset_any {m : Ma} {q : Nat} {w : World} (hx : m.x.length = 32) (r : Nat) (hr : r < 32) (v : Int) :
    Calls Tryd.prog 32 #[.agg (mcs m q), .int .i64 r, .int .u64 v] w fun e w' => e = .returned (.agg (mcs (if 0 < r then { m with x := m.x.set r v } else m) q)) ∧ Below w.heap.size w w' := by
  have hz := mcs_size hx q
  by_cases h0 : 0 < r
  · rw [if_pos h0]
    have hc : ∀ Z, ((w.alloc (Obj.cells (mcs m q) 34)).alloc (Obj.cells Z 34)).cell? ⟨w.heap.size, 1 + r, none⟩ = some (.int .u64 (m.x.getD r 0)) := fun Z => by rw [cell_of_row _ _ (1 + r) _ _ _ (aa0 _ _ _)]; exact mcs_x hx q hr
    have hf : ∀ Z, ((w.alloc (Obj.cells (mcs m q) 34)).alloc (Obj.cells Z 34)).frozen? ⟨w.heap.size, 1 + r, none⟩ = false := fun Z => frozen_of_row _ _ (1 + r) _ _ (aa0 _ _ _)
    have he := mcs_setX hx q hr v
    have hz' : (mcs { m with x := m.x.set r v } q).size = 36 := mcs_size (by simpa using hx) q
    have ha' := mcs_all { m with x := m.x.set r v } q
    generalize mcs { m with x := m.x.set r v } q = cs' at *
    generalize m.x.getD r 0 = old at *
    generalize mcs m q = cs at *
    clear hx
    go_enter Tryd.func32, Tryd.ntmps32
    go_wp2_with (first
      | ((with_reducible refine ld36 w.heap.size cs' ?_ ?_ hz' ?_); rfl; exact aa0 _ _ _)
      | ((with_reducible refine st36n (w.heap.size + 1) cs' ?_ ?_ ?_ ?_ hz' ha' ?_); exact szA _ _; rfl; rfl; rfl))
    refine bodyPost_ret (v := .agg cs') ?_ rfl ⟨rfl, ?_⟩
    · exact results_cell_row Tryd.results32 _ _ (w.heap.size + 1) 34 cs' (0, 0) _ rfl (aa1 _ _ _) Tryd.underlying34 rfl (by rw [hz']; exact szMach)
    · exact bw_alloc (bw_alloc (Below.refl _ _) _) _
  · rw [if_neg h0]
    have ha' := mcs_all m q
    obtain rfl : r = 0 := by omega
    generalize mcs m q = cs at *
    clear hx
    go_enter Tryd.func32, Tryd.ntmps32
    go_wp2_with (first
      | ((with_reducible refine ld36 w.heap.size cs ?_ ?_ hz ?_); rfl; exact aa0 _ _ _)
      | ((with_reducible refine st36n (w.heap.size + 1) cs ?_ ?_ ?_ ?_ hz ha' ?_); exact szA _ _; rfl; rfl; rfl))
    refine bodyPost_ret (v := .agg cs) ?_ rfl ⟨rfl, ?_⟩
    · exact results_cell_row Tryd.results32 _ _ (w.heap.size + 1) 34 cs (0, 0) _ rfl (aa1 _ _ _) Tryd.underlying34 rfl (by rw [hz]; exact szMach)
    · exact bw_alloc (bw_alloc (Below.refl _ _) _) _
theorem step256 (x b : Int) (h0 : 0 ≤ x) (h1 : x < 72057594037927936) (b0 : 0 ≤ b) (b1 : b < 256) : (x * 256 % 18446744073709551616 + b) % 18446744073709551616 = b + 256 * x := by omega
set_option maxHeartbeats 1000000 in
theorem rget_any {m : Ma} {q : Nat} {w : World} (hx : m.x.length = 32) (hN : m.mem.length ≤ 4194304) (hb : ∀ i : Nat, 0 ≤ m.mem.getD i 0 ∧ m.mem.getD i 0 < 256) (a n : Nat) (hn : n ≤ 8) (ha : a + n ≤ m.mem.length)
    (hm : w.heap[q]? = some (.cells (u8s m.mem).toArray 5)) :
    Calls Tryd.prog 30 #[.agg (mcs m q), .int .u64 a, .int .i64 n] w fun e w' => e = .returned (.int .u64 (getV m.mem a n)) ∧ Below w.heap.size w w' := by
  have c0 := mcs_0 m q
  have hz := Lib.hid (mcs_size hx q)
  have B := Lib.hid (bw_alloc (Below.refl w.heap.size w) (Obj.cells (mcs m q) 34))
  have hq : q < w.heap.size := by
    rcases Nat.lt_or_ge q w.heap.size with hlt | hge
    · exact hlt
    · rw [Array.getElem?_eq_none hge] at hm; cases hm
  have Hm : Hid (∀ i : Nat, i < m.mem.length → (w.alloc (Obj.cells (mcs m q) 34)).cell? ⟨q, i, none⟩ = some (.int .u8 (m.mem.getD i 0))) := fun i hi => by
    rw [cell_of_row _ q i _ _ _ ((Below.heap_alloc _ _ _ hq).trans hm)]; exact u8s_at _ _ hi
  have Hb := Lib.hid hb
  clear hb hm
  generalize mcs m q = cs at *
  have hx' : (w.alloc (Obj.cells cs 34)).cell? ⟨w.heap.size, 0, none⟩ = some (.slice (some ⟨q, 0, none⟩) m.mem.length m.mem.length) := by rw [cell_of_row _ _ 0 _ _ _ (heap_alloc_new w _)]; exact c0
  clear c0 hx
  generalize m.mem = l at *
  obtain ⟨N, hl⟩ : ∃ N, l.length = N := ⟨_, rfl⟩
  rw [hl] at hx' ha hN Hm
  have HL := Lib.hid hl; clear hl
  go_enter Tryd.func30, Tryd.ntmps30
  go_wp2
  generalize w.alloc (Obj.cells cs 34) = W at *
  go_loop [7, 8] (fun x k => ∃ j : Nat, j ≤ n ∧ k = .int .i64 ((j : Int) - 1) ∧ x = .int .u64 (getV l (a + j) (n - j))) (fun _ k => (intOf k + 1).toNat)
  case atStart => exact ⟨n, Nat.le_refl _, by go_num, by simp [getV]⟩
  case round =>
    obtain ⟨j, hj, rfl, rfl⟩ := hrel
    by_cases h0 : 0 < j
    · have hm := Hm.out (a + (j - 1)) (by omega)
      obtain ⟨b, hbe⟩ : ∃ b, l.getD (a + (j - 1)) 0 = b := ⟨_, rfl⟩
      obtain ⟨v, hv⟩ : ∃ v, getV l (a + j) (n - j) = v := ⟨_, rfl⟩
      have hb0 := Hb.out (a + (j - 1))
      have hv0 := getV_range l Hb.out (n - j) (a + j)
      have hp := pow_small (n - j) (by omega)
      have hgoal : getV l (a + (j - 1)) (n - (j - 1)) = b + 256 * v := by
        rw [show n - (j - 1) = (n - j) + 1 by omega, getV, show a + (j - 1) + 1 = a + j by omega, hbe, hv]
      rw [hbe] at hm hb0
      rw [hv] at hv0 ⊢
      have HG := Lib.hid hgoal
      obtain ⟨i, rfl⟩ : ∃ i, j = i + 1 := ⟨j - 1, by omega⟩
      rw [show i + 1 - 1 = i from rfl] at hm HG
      have hcast : ((i + 1 : Nat) : Int) - 1 = (i : Int) := by omega
      rw [hcast]
      have hor := Lib.hid (step256 v b hv0.1 (by omega) hb0.1 hb0.2)
      clear hgoal hbe hv hcast
      go_wp2
      go_round
      case rel => exact ⟨i, by omega, by go_num, by rw [HG.out]; congr 1; have := hor.out; first | (simp only [IntKind.wrap_u64]; omega) | omega⟩
      case measure => first | (simp [intOf]; done) | (simp [intOf]; omega)
    · obtain rfl : j = 0 := by omega
      go_wp2
      go_ret
      exact ⟨ret_u64 (by simp), B.out⟩
end Go.Proofs.YtoehfncgkkfdeaaDoor
/- The document's machine: what its functions do at their end, whatever the order. Conditions: each theorem's. -/
namespace Go.Proofs.YtoehfncgkkfdeaaDoor
open Go.RowKit
set_option linter.unusedVariables false
set_option linter.unusedSimpArgs false
set_option maxRecDepth 10000
open Pm Pc
section
variable {ops : Array Oper} {Q : Exit → Act → World → Prop} {K : Act → World → Prop} {a : Act} {w : World}
theorem wpOp_ld36 {i : Nat} {dst : Option Tmp} {ty : TypeId} {pos : String} {af : Array Edge} {x : Operand} (g : Nat) (cs : Array Value) (ho : ops[i]? = some ⟨dst, .load 34 x, ty, pos, af, none⟩)
    (hx : a.eval x = .pointer (some ⟨g, 0, none⟩)) (hg : w.heap[g]? = some (.cells cs 34)) (hz : cs.size = 36) (h : K (a.put dst (.agg cs)) w) : wpOp Tryd.prog ops Q i K a w := by
  unfold wpOp
  rw [ho]
  simp only [Region.wanted, if_true]
  exact .inl (wp_load_row _ x rfl g hx _ cs (0, 0) _ hg Tryd.underlying34 rfl (by rw [hz]; exact szMach) h)
theorem wpOp_ld4 {i : Nat} {dst : Option Tmp} {ty : TypeId} {pos : String} {af : Array Edge} {x : Operand} (g : Nat) (cs : Array Value) (ho : ops[i]? = some ⟨dst, .load 71 x, ty, pos, af, none⟩)
    (hx : a.eval x = .pointer (some ⟨g, 0, none⟩)) (hg : w.heap[g]? = some (.cells cs 71)) (hz : cs.size = 4) (h : K (a.put dst (.agg cs)) w) : wpOp Tryd.prog ops Q i K a w := by
  unfold wpOp
  rw [ho]
  simp only [Region.wanted, if_true]
  exact .inl (wp_load_row _ x rfl g hx _ cs (0, 0) _ hg Tryd.underlying71 rfl (by rw [hz]; exact szRun) h)
theorem wpOp_st36 {i : Nat} {dst : Option Tmp} {ty : TypeId} {pos : String} {af : Array Edge} {x y : Operand} (g : Nat) (cs old : Array Value) (ho : ops[i]? = some ⟨dst, .store 34 x y, ty, pos, af, none⟩)
    (hx : a.eval x = .pointer (some ⟨g, 0, none⟩)) (hy : a.eval y = .agg cs) (hg : w.heap[g]? = some (.cells old 34)) (hold : old.size = 36) (hz : cs.size = 36) (ha : cs.all (·.oneCell') = true) (h : K (a.put dst undef) (w.setRow g cs)) : wpOp Tryd.prog ops Q i K a w := by
  unfold wpOp
  rw [ho]
  simp only [Region.wanted, if_true]
  exact .inl (wp_store_row _ x y rfl g cs hx hy _ old hg (by rw [hz]; exact szMach) (by rw [hold, hz]) ha h)
theorem wpOp_st4 {i : Nat} {dst : Option Tmp} {ty : TypeId} {pos : String} {af : Array Edge} {x y : Operand} (g : Nat) (cs old : Array Value) (ho : ops[i]? = some ⟨dst, .store 71 x y, ty, pos, af, none⟩)
    (hx : a.eval x = .pointer (some ⟨g, 0, none⟩)) (hy : a.eval y = .agg cs) (hg : w.heap[g]? = some (.cells old 71)) (hold : old.size = 4) (hz : cs.size = 4) (ha : cs.all (·.oneCell') = true) (h : K (a.put dst undef) (w.setRow g cs)) : wpOp Tryd.prog ops Q i K a w := by
  unfold wpOp
  rw [ho]
  simp only [Region.wanted, if_true]
  exact .inl (wp_store_row _ x y rfl g cs hx hy _ old hg (by rw [hz]; exact szRun) (by rw [hold, hz]) ha h)
theorem wpOp_as {i : Nat} {dst : Option Tmp} {ty : TypeId} {pos : String} {af : Array Edge} {x : Operand} (ho : ops[i]? = some ⟨dst, .assign x, ty, pos, af, none⟩) (h : K (a.put dst (a.eval x)) w) : wpOp Tryd.prog ops Q i K a w := by
  unfold wpOp
  rw [ho]
  simp only [Region.wanted, if_true]
  exact .inl (by unfold Oper.wp execOp; exact h)
theorem wpOp_mv {i : Nat} {dst : Option Tmp} {ty : TypeId} {pos : String} {af : Array Edge} {x : Operand} (ho : ops[i]? = some ⟨dst, .move x, ty, pos, af, none⟩) (h : K (a.put dst (a.eval x)) w) : wpOp Tryd.prog ops Q i K a w := by
  unfold wpOp
  rw [ho]
  simp only [Region.wanted, if_true]
  exact .inl (by unfold Oper.wp execOp; exact h)
end
/-- What a function of a machine and a run does at its end: both are put into the results' boxes, and a Bool told; in whatever order. -/
theorem tail5 {id : Nat} {Q : Exit → Act → World → Prop} {a : Act} {w : World} {d1 d2 d3 : Tmp} {x1 x2 y1 y2 v : Operand} {p0 p1 p2 p3 p4 : String} {t0 t1 t2 t3 t4 : TypeId} {a0 a1 a2 a3 a4 : Array Edge} (g1 g2 g3 g4 : Nat) (cs rv old old' : Array Value) (V : Value)
    (hm : Tryd.prog.follows .mixedOrders = true)
    (hr0 : Region.ready .any #[⟨some d1, .load 34 x1, t0, p0, a0, none⟩, ⟨some d2, .load 71 x2, t1, p1, a1, none⟩, ⟨none, .store 34 y1 (.tmp d1), t2, p2, a2, none⟩, ⟨none, .store 71 y2 (.tmp d2), t3, p3, a3, none⟩, ⟨some d3, .assign v, t4, p4, a4, none⟩] #[false, false, false, false, false] = [0, 1])
    (hr1 : Region.ready .any #[⟨some d1, .load 34 x1, t0, p0, a0, none⟩, ⟨some d2, .load 71 x2, t1, p1, a1, none⟩, ⟨none, .store 34 y1 (.tmp d1), t2, p2, a2, none⟩, ⟨none, .store 71 y2 (.tmp d2), t3, p3, a3, none⟩, ⟨some d3, .assign v, t4, p4, a4, none⟩] #[true, false, false, false, false] = [1, 2])
    (hr2 : Region.ready .any #[⟨some d1, .load 34 x1, t0, p0, a0, none⟩, ⟨some d2, .load 71 x2, t1, p1, a1, none⟩, ⟨none, .store 34 y1 (.tmp d1), t2, p2, a2, none⟩, ⟨none, .store 71 y2 (.tmp d2), t3, p3, a3, none⟩, ⟨some d3, .assign v, t4, p4, a4, none⟩] #[false, true, false, false, false] = [0])
    (hr3 : Region.ready .any #[⟨some d1, .load 34 x1, t0, p0, a0, none⟩, ⟨some d2, .load 71 x2, t1, p1, a1, none⟩, ⟨none, .store 34 y1 (.tmp d1), t2, p2, a2, none⟩, ⟨none, .store 71 y2 (.tmp d2), t3, p3, a3, none⟩, ⟨some d3, .assign v, t4, p4, a4, none⟩] #[true, true, false, false, false] = [2])
    (hr4 : Region.ready .any #[⟨some d1, .load 34 x1, t0, p0, a0, none⟩, ⟨some d2, .load 71 x2, t1, p1, a1, none⟩, ⟨none, .store 34 y1 (.tmp d1), t2, p2, a2, none⟩, ⟨none, .store 71 y2 (.tmp d2), t3, p3, a3, none⟩, ⟨some d3, .assign v, t4, p4, a4, none⟩] #[true, false, true, false, false] = [1])
    (hr5 : Region.ready .any #[⟨some d1, .load 34 x1, t0, p0, a0, none⟩, ⟨some d2, .load 71 x2, t1, p1, a1, none⟩, ⟨none, .store 34 y1 (.tmp d1), t2, p2, a2, none⟩, ⟨none, .store 71 y2 (.tmp d2), t3, p3, a3, none⟩, ⟨some d3, .assign v, t4, p4, a4, none⟩] #[true, true, true, false, false] = [3])
    (hr6 : Region.ready .any #[⟨some d1, .load 34 x1, t0, p0, a0, none⟩, ⟨some d2, .load 71 x2, t1, p1, a1, none⟩, ⟨none, .store 34 y1 (.tmp d1), t2, p2, a2, none⟩, ⟨none, .store 71 y2 (.tmp d2), t3, p3, a3, none⟩, ⟨some d3, .assign v, t4, p4, a4, none⟩] #[true, true, true, true, false] = [4])
    (e1 : a.eval x1 = .pointer (some ⟨g1, 0, none⟩)) (e1' : (a.put (some d2) (.agg rv)).eval x1 = .pointer (some ⟨g1, 0, none⟩)) (e2 : a.eval x2 = .pointer (some ⟨g2, 0, none⟩)) (e2' : (a.put (some d1) (.agg cs)).eval x2 = .pointer (some ⟨g2, 0, none⟩))
    (hcomm : (a.put (some d2) (.agg rv)).put (some d1) (.agg cs) = (a.put (some d1) (.agg cs)).put (some d2) (.agg rv))
    (e3 : ((a.put (some d1) (.agg cs)).put (some d2) (.agg rv)).eval y1 = .pointer (some ⟨g3, 0, none⟩)) (e3' : (a.put (some d1) (.agg cs)).eval y1 = .pointer (some ⟨g3, 0, none⟩)) (e4 : (a.put (some d1) (.agg cs)).eval (.tmp d1) = .agg cs) (e4' : ((a.put (some d1) (.agg cs)).put (some d2) (.agg rv)).eval (.tmp d1) = .agg cs)
    (e5 : ((a.put (some d1) (.agg cs)).put (some d2) (.agg rv)).eval y2 = .pointer (some ⟨g4, 0, none⟩)) (e6 : ((a.put (some d1) (.agg cs)).put (some d2) (.agg rv)).eval (.tmp d2) = .agg rv) (e7 : ((a.put (some d1) (.agg cs)).put (some d2) (.agg rv)).eval v = V)
    (h1 : w.heap[g1]? = some (.cells cs 34)) (h2 : w.heap[g2]? = some (.cells rv 71)) (h3 : w.heap[g3]? = some (.cells old 34)) (h4 : w.heap[g4]? = some (.cells old' 71))
    (z1 : cs.size = 36) (z2 : rv.size = 4) (z3 : old.size = 36) (z4 : old'.size = 4) (o1 : cs.all (·.oneCell') = true) (o2 : rv.all (·.oneCell') = true) (n1 : g2 ≠ g3) (n2 : g4 ≠ g3)
    (h : Q .normal (((a.put (some d1) (.agg cs)).put (some d2) (.agg rv)).put (some d3) V) (((w.drew).setRow g3 cs).setRow g4 rv)) :
    (Code.region id #[⟨some d1, .load 34 x1, t0, p0, a0, none⟩, ⟨some d2, .load 71 x2, t1, p1, a1, none⟩, ⟨none, .store 34 y1 (.tmp d1), t2, p2, a2, none⟩, ⟨none, .store 71 y2 (.tmp d2), t3, p3, a3, none⟩, ⟨some d3, .assign v, t4, p4, a4, none⟩] true).wp Tryd.prog Q a w := by
  have k2 : (w.drew.setRow g3 cs).heap[g2]? = some (.cells rv 71) := (setRow_other _ _ _ _ n1).trans h2
  have k4 : (w.drew.setRow g3 cs).heap[g4]? = some (.cells old' 71) := (setRow_other _ _ _ _ n2).trans h4
  refine wp_region_any hm ?_
  show wpAny _ _ _ _ 5 #[false, false, false, false, false] a w.drew
  generalize hops : (#[⟨some d1, .load 34 x1, t0, p0, a0, none⟩, ⟨some d2, .load 71 x2, t1, p1, a1, none⟩, ⟨none, .store 34 y1 (.tmp d1), t2, p2, a2, none⟩, ⟨none, .store 71 y2 (.tmp d2), t3, p3, a3, none⟩, ⟨some d3, .assign v, t4, p4, a4, none⟩] : Array Oper) = ops at *
  have i0 : ops[0]? = some ⟨some d1, .load 34 x1, t0, p0, a0, none⟩ := by rw [← hops]; rfl
  have i1 : ops[1]? = some ⟨some d2, .load 71 x2, t1, p1, a1, none⟩ := by rw [← hops]; rfl
  have i2 : ops[2]? = some ⟨none, .store 34 y1 (.tmp d1), t2, p2, a2, none⟩ := by rw [← hops]; rfl
  have i3 : ops[3]? = some ⟨none, .store 71 y2 (.tmp d2), t3, p3, a3, none⟩ := by rw [← hops]; rfl
  have i4 : ops[4]? = some ⟨some d3, .assign v, t4, p4, a4, none⟩ := by rw [← hops]; rfl
  have hend : Region.ready .any ops #[true, true, true, true, true] = [] := by rw [← hops]; rfl
  have last : wpAny Tryd.prog .any ops Q 2 #[true, true, true, false, false] ((a.put (some d1) (.agg cs)).put (some d2) (.agg rv)) (w.drew.setRow g3 cs) := by
    refine ⟨fun h => (by rw [hr5] at h; cases h), fun i hi => ?_⟩
    rw [hr5] at hi
    obtain rfl : i = 3 := by simpa using hi
    refine wpOp_st4 g4 rv old' i3 e5 e6 k4 z4 z2 o2 ?_
    refine ⟨fun h => (by rw [show (#[true, true, true, false, false] : Array Bool).setIfInBounds 3 true = #[true, true, true, true, false] from rfl, hr6] at h; cases h), fun i hi => ?_⟩
    rw [show (#[true, true, true, false, false] : Array Bool).setIfInBounds 3 true = #[true, true, true, true, false] from rfl, hr6] at hi
    obtain rfl : i = 4 := by simpa using hi
    refine wpOp_as i4 ?_
    refine ⟨hend, ?_⟩
    have : (((a.put (some d1) (.agg cs)).put (some d2) (.agg rv)).put none undef).eval v = V := e7
    rw [this]
    exact h
  have mid : wpAny Tryd.prog .any ops Q 3 #[true, true, false, false, false] ((a.put (some d1) (.agg cs)).put (some d2) (.agg rv)) w.drew := by
    refine ⟨fun h => (by rw [hr3] at h; cases h), fun i hi => ?_⟩
    rw [hr3] at hi
    obtain rfl : i = 2 := by simpa using hi
    exact wpOp_st36 g3 cs old i2 e3 e4' h3 z3 z1 o1 last
  refine ⟨fun h => (by rw [hr0] at h; cases h), fun i hi => ?_⟩
  rw [hr0] at hi
  have hi' : i = 0 ∨ i = 1 := by simpa using hi
  rcases hi' with rfl | rfl
  · refine wpOp_ld36 g1 cs i0 e1 h1 z1 ?_
    show wpAny _ _ _ _ 4 #[true, false, false, false, false] _ _
    refine ⟨fun h => (by rw [hr1] at h; cases h), fun i hi => ?_⟩
    rw [hr1] at hi
    have hi' : i = 1 ∨ i = 2 := by simpa using hi
    rcases hi' with rfl | rfl
    · exact wpOp_ld4 g2 rv i1 e2' h2 z2 mid
    · refine wpOp_st36 g3 cs old i2 e3' e4 h3 z3 z1 o1 ?_
      show wpAny _ _ _ _ 3 #[true, false, true, false, false] _ _
      refine ⟨fun h => (by rw [hr4] at h; cases h), fun i hi => ?_⟩
      rw [hr4] at hi
      obtain rfl : i = 1 := by simpa using hi
      exact wpOp_ld4 g2 rv i1 e2' k2 z2 last
  · refine wpOp_ld4 g2 rv i1 e2 h2 z2 ?_
    show wpAny _ _ _ _ 4 #[false, true, false, false, false] _ _
    refine ⟨fun h => (by rw [hr2] at h; cases h), fun i hi => ?_⟩
    rw [hr2] at hi
    obtain rfl : i = 0 := by simpa using hi
    refine wpOp_ld36 g1 cs i0 e1' h1 z1 ?_
    rw [hcomm]
    exact mid
end Go.Proofs.YtoehfncgkkfdeaaDoor
/- The document's New. Conditions: each theorem's. -/
namespace Go.Proofs.YtoehfncgkkfdeaaDoor
open Go.RowKit
set_option linter.unusedVariables false
set_option linter.unusedSimpArgs false
set_option maxRecDepth 10000
open Pm Pc
theorem rtc {P : Program} {fn : Func} {p u : Tmp} {ty : TypeId} (h : fn.results = #[.cell p ty, .tmp u]) (tmps : Array Value) (w : World) (g : Nat) (t : TypeId) (cs : Array Value) (fr : Nat × Nat) (d : TypeDesc) (v : Value)
    (hp : tmps.getD p undef = .pointer (some ⟨g, 0, none⟩)) (hv : tmps.getD u undef = v) (hg : w.heap[g]? = some (.cells cs t fr))
    (hu : P.underlying ty = some d) (hd : (match d with | .struct _ | .array _ _ => true | _ => false) = true) (hi : (P.info? ty).map (·.size) = some cs.size) :
    (results fn tmps).run P w = .ok (.tuple #[.agg cs, v]) w := by
  rw [results_cell_tmp h]
  simp [hp, hv, asAddr, run_loadVar_row w g t ty cs fr d hg hu hd hi, Result.andThen]
/-- A machine's cells, new. -/
def newC (A : Option Addr) (N : Nat) : Array Value := (Value.slice A N N :: (u64s (List.replicate 32 0) ++ [.int .u64 0, .int .i64 0, .int .u8 0])).toArray
theorem newC_size (A : Option Addr) (N : Nat) : (newC A N).size = 36 := rfl
theorem newC_all (A : Option Addr) (N : Nat) : (newC A N).all (·.oneCell') = true := by simp [newC, u64s, Value.oneCell']
theorem newC_mcs {xs : List Int} {N : Nat} (hN : xs.length ≤ N) (q : Nat) : newC (some ⟨q, 0, none⟩) N = mcs (maNew xs N) q := by
  unfold newC mcs Ma.cells
  rw [maNew_len hN]
  rfl
theorem bd36 {ops : Array Oper} {rest : List Oper} {Q : Exit → Act → World → Prop} {a : Act} {w : World} {dst : Option Tmp} {ty : TypeId} {pos : String} {af : Array Edge} {parts : Array (Nat × Operand)} (l : List (Nat × Value)) (cs : Array Value)
    (hb : Tryd.prog.built 34 l = some cs) (hl : (parts.toList.map fun (i, x) => (i, a.eval x)) = l) (h : wpList Tryd.prog ops Q rest (a.put dst (.agg cs)) w) : wpList Tryd.prog ops Q (⟨dst, .build 34 parts, ty, pos, af, none⟩ :: rest) a w := by
  subst hl
  exact wpList_buildTo rfl 34 parts rfl dst rfl cs (by rw [Array.toList_map]; exact hb) h
set_option maxHeartbeats 1000000 in
theorem rnew_no {w : World} {A : Option Addr} {n c : Nat} {N : Int} (h : N < n ∨ 4194304 < N) :
    Calls Tryd.prog 9 #[.slice A n c, .int .i64 N] w fun e w' => e = .returned (.tuple #[.agg (newC none 0), .bool false]) ∧ Below w.heap.size w w' := by
  have hb : Tryd.prog.built 34 [] = some (newC none 0) := by kernel_rfl
  have hz := Lib.hid (newC_size none 0)
  have ha := newC_all none 0
  have h2 := heap_alloc_new w (Obj.cells (newC none 0) 34)
  have h3 := (Below.refl w.heap.size w).alloc (Nat.le_refl _) (Obj.cells (newC none 0) 34)
  generalize newC none 0 = Z at *
  have HB := Lib.hid hb
  have H2 := Lib.hid h2
  have H3 := Lib.hid h3
  clear hb h2 h3
  by_cases h1 : N < n
  all_goals
    go_enter Tryd.func9, Tryd.ntmps9
    go_wp2_with (first
      | ((with_reducible refine bd36 _ Z HB.out ?_ ?_); rfl)
      | ((with_reducible refine st36n w.heap.size Z ?_ ?_ ?_ ?_ hz.out ha ?_); rfl; rfl; rfl; rfl))
    exact bodyPost_ret (v := .tuple #[.agg Z, .bool false]) (rtc Tryd.results9 _ _ w.heap.size 34 _ (0, 0) _ _ rfl rfl H2.out Tryd.underlying34 rfl (by rw [hz.out]; exact szMach)) rfl ⟨rfl, H3.out⟩
section
variable (w : World) (a b c : Obj)
theorem a3_0 : (((w.alloc a).alloc b).alloc c).heap[w.heap.size]? = some a := by
  rw [Below.heap_alloc _ _ _ (by simp; omega)]; exact aa0 w a b
theorem a3_1 : (((w.alloc a).alloc b).alloc c).heap[w.heap.size + 1]? = some b := by
  have := aa0 (w.alloc a) b c
  simpa using this
theorem a3_2 : (((w.alloc a).alloc b).alloc c).heap[w.heap.size + 2]? = some c := by
  have := aa1 (w.alloc a) b c
  simpa using this
end
/-- The memory when j bytes are in. -/
def inK (xs : List Int) (N j : Nat) : List Int := xs.take j ++ List.replicate (N - j) 0
theorem inK_0 (xs : List Int) (N : Nat) : inK xs N 0 = List.replicate N 0 := by simp [inK]
theorem inK_len {xs : List Int} {N j : Nat} (h : xs.length ≤ N) (hj : j ≤ xs.length) : (inK xs N j).length = N := by simp [inK]; omega
theorem inK_end (xs : List Int) (N : Nat) : inK xs N xs.length = (maNew xs N).mem := by simp [inK, maNew]
theorem inK_step {xs : List Int} {N j : Nat} (h : xs.length ≤ N) (hj : j < xs.length) : (inK xs N j).set j (xs.getD j 0) = inK xs N (j + 1) := by
  apply List.ext_getElem
  · rw [List.length_set, inK_len h (by omega), inK_len h (by omega)]
  · intro i h1 h2
    simp only [inK, List.getElem_set, List.getElem_append, List.length_take, List.getElem_take, List.getElem_replicate]
    have e : xs.getD j 0 = xs[j] := by simp [List.getD, hj]
    by_cases hij : j = i
    · subst hij
      rw [if_pos rfl, e, dif_pos (by omega)]
    · rw [if_neg hij]
      split <;> split <;> first | rfl | omega
set_option maxHeartbeats 2000000 in
theorem rnew_any {w : World} {A : Option Addr} {c N : Nat} {xs : List Int} (hN : xs.length ≤ N) (hN' : N ≤ 4194304) (hr : SrcIs w A xs) :
    Calls Tryd.prog 9 #[.slice A xs.length c, .int .i64 N] w fun e w' => e = .returned (.tuple #[.agg (mcs (maNew xs N) (w.heap.size + 1)), .bool true]) ∧ w'.heap[w.heap.size + 1]? = some (.cells (u8s (maNew xs N).mem).toArray 5) ∧ Below w.heap.size w w' := by
  have hmk := run_make_row' (P := Tryd.prog) 22 5 (.int .u8 0) 1 Tryd.underlying22 (by kernel_rfl) rfl .i64 .i64 N (by omega) (by omega)
  rw [made_u8] at hmk
  have hb : Tryd.prog.built 34 [(0, .slice (some ⟨w.heap.size + 1, 0, none⟩) N N)] = some (newC (some ⟨w.heap.size + 1, 0, none⟩) N) := by kernel_rfl
  have hz := Lib.hid (newC_size (some ⟨w.heap.size + 1, 0, none⟩) N)
  have ha := newC_all (some ⟨w.heap.size + 1, 0, none⟩) N
  have hc0 : (newC (some ⟨w.heap.size + 1, 0, none⟩) N)[0]? = some (.slice (some ⟨w.heap.size + 1, 0, none⟩) N N) := rfl
  rw [← newC_mcs hN]
  have H := Lib.hid hr.2
  generalize newC (some ⟨w.heap.size + 1, 0, none⟩) N = Z at *
  have HB := Lib.hid hb
  clear hb hr
  go_enter Tryd.func9, Tryd.ntmps9
  go_wp2_with (first
    | ((with_reducible refine bd36 _ Z HB.out ?_ ?_); rfl)
    | ((with_reducible refine st36n (w.heap.size + 2) Z ?_ ?_ ?_ ?_ hz.out ha ?_); simp; rfl; rfl; rfl))
  have g0 := a3_0 w
  have g1 := a3_1 w
  have g2 := a3_2 w
  have gb : ∀ a b c : Obj, Below w.heap.size w (((w.alloc a).alloc b).alloc c) := fun a b c => bw_alloc (bw_alloc (bw_alloc (Below.refl _ _) _) _) _
  have G0 := Lib.hid g0; have G1 := Lib.hid g1; have G2 := Lib.hid g2; have GB := Lib.hid gb
  clear g0 g1 g2 gb
  go_loopw [22] (fun k wr => ∃ j : Nat, j ≤ xs.length ∧ k = .int .i64 j ∧ wr.heap[w.heap.size + 1]? = some (.cells (u8s (inK xs N j)).toArray 5) ∧ wr.heap[w.heap.size + 2]? = some (.cells Z 34) ∧ (∃ old : Array Value, old.size = 36 ∧ wr.heap[w.heap.size]? = some (.cells old 34)) ∧ Below w.heap.size w wr) (fun k _ => xs.length - (intOf k).toNat)
  case atStart => exact ⟨0, Nat.zero_le _, rfl, by rw [inK_0]; exact G1.out _ _ _, G2.out _ _ _, ⟨_, rfl, G0.out _ _ _⟩, GB.out _ _ _⟩
  case round =>
    obtain ⟨j, hj, rfl, hm, hzr, ⟨old, ho, hold⟩, hb⟩ := hrel
    by_cases hlt : j < xs.length
    · obtain ⟨ib, off, rfl, hsrc⟩ := H.out (by omega)
      have hib : ib < w.heap.size := World.block_lt_of_cell? w _ (hsrc 0 (by omega))
      have c0 : wr.cell? ⟨w.heap.size + 2, 0, none⟩ = some (.slice (some ⟨w.heap.size + 1, 0, none⟩) N N) := by rw [cell_of_row _ _ 0 _ _ _ hzr]; exact hc0
      have c1 : wr.cell? ⟨ib, off + j, none⟩ = some (.int .u8 (xs.getD j 0)) := (hb.cell (p := ⟨ib, off + j, none⟩) hib).trans (hsrc j hlt)
      have c2 : wr.cell? ⟨w.heap.size + 1, j, none⟩ = some (.int .u8 ((inK xs N j).getD j 0)) := by rw [cell_of_row _ _ j _ _ _ hm]; exact u8s_at _ _ (by rw [inK_len hN hj]; omega)
      have f2 : wr.frozen? ⟨w.heap.size + 1, j, none⟩ = false := frozen_of_row _ _ j _ _ hm
      have hst := inK_step hN hlt
      have hjN : j < N := by omega
      generalize (inK xs N j).getD j 0 = ov at *
      generalize xs.getD j 0 = xv at *
      have HM := Lib.hid hm; have HZ := Lib.hid hzr; have HO := Lib.hid hold; have HBL := Lib.hid hb; have HS := Lib.hid hst
      clear hm hzr hold hb hst hsrc
      go_wp2_with fail
      go_still_tail 8, (by kernel_rfl)
      change wpList _ _ _ _ _ wr.drew
      go_wp2
      go_roundw
      case rel =>
        refine ⟨j + 1, by omega, by go_num, ?_, ?_, ⟨old, ho, ?_⟩, ?_⟩
        · show (wr.setCell ⟨w.heap.size + 1, j, none⟩ (.int .u8 xv)).heap[w.heap.size + 1]? = _
          rw [heap_setCell_same _ _ _ _ _ _ HM.out, u8s_set, HS.out]
        · exact (Below.heap_setCell _ _ _ _ (by simp)).trans HZ.out
        · exact (Below.heap_setCell _ _ _ _ (by simp)).trans HO.out
        · exact (HBL.out.setCell (by simp) _).drew
      case measure => simp [intOf]; omega
    · obtain rfl : j = xs.length := by omega
      rw [inK_end] at hm
      have HM := Lib.hid hm; have HZ := Lib.hid hzr; have HO := Lib.hid hold; have HBL := Lib.hid hb
      clear hm hzr hold hb
      go_wp2_with (first
        | ((with_reducible refine ld36 (w.heap.size + 2) Z ?_ ?_ hz.out ?_); rfl; exact HZ.out)
        | ((with_reducible refine st36 w.heap.size Z old ?_ ?_ ?_ ho hz.out ha ?_); rfl; rfl; exact HO.out))
      exact bodyPost_ret (v := .tuple #[.agg Z, .bool true]) (rtc Tryd.results9 _ _ w.heap.size 34 _ (0, 0) _ _ rfl rfl (setRow_heap _ _ _ _ _ _ HO.out) Tryd.underlying34 rfl (by rw [hz.out]; exact szMach)) rfl
        ⟨rfl, (setRow_other _ _ _ _ (by omega)).trans HM.out, bw_setRow HBL.out (Nat.le_refl _) _⟩
end Go.Proofs.YtoehfncgkkfdeaaDoor
/- Tells: all that is told of a machine is the document's. Conditions: each theorem's. -/
namespace Go.Proofs.YtoehfncgkkfdeaaDoor
open Go.RowKit
set_option linter.unusedVariables false
set_option linter.unusedSimpArgs false
set_option maxRecDepth 10000
open Pm Pc
set_option maxHeartbeats 1000000 in
theorem peek_no {w : World} {p N : Nat} {A : Option Addr} (a n : Int) (hx : w.cell? ⟨p, 0, none⟩ = some (.slice A N N)) (hN : N ≤ 4194304) (h : a < 0 ∨ (0 ≤ n ∧ n ≤ 8388608 ∧ (N : Int) < a + n)) (ha : a ≤ 8388608) :
    Calls Tryd.prog 25 #[.pointer (some ⟨p, 0, none⟩), .int .i64 a, .int .i64 n] w fun e w' => e = .returned (.tuple #[.slice none 0 0, .int .i64 1]) ∧ w' = w := by
  by_cases h1 : a < 0
  all_goals
    go_enter Tryd.func25, Tryd.ntmps25
    go_wp2_with fail
    go_ret2
    exact ⟨rfl, rfl⟩
set_option maxHeartbeats 1000000 in
/-- Of nothing at the beginning. -/
theorem peek_0 {w : World} {p : Nat} {A : Option Addr} (hx : w.cell? ⟨p, 0, none⟩ = some (.slice A 0 0)) :
    Calls Tryd.prog 25 #[.pointer (some ⟨p, 0, none⟩), .int .i64 0, .int .i64 0] w fun e w' => e = .returned (.tuple #[.slice (some ⟨w.heap.size, 0, none⟩) 0 0, .int .i64 0]) ∧ Below w.heap.size w w' := by
  have lp := World.block_lt_of_cell? w _ hx
  simp only at lp
  have hmk : ∀ w : World, (Instr.makeSlice 22 (.int .i64 0) (.int .i64 0)).run Tryd.prog w = .ok (.slice (some ⟨w.heap.size, 0, none⟩) 0 0) (w.alloc (.cells (madeCells #[.int .u8 0] 0) 5)) := run_make_row' (P := Tryd.prog) 22 5 (.int .u8 0) 1 Tryd.underlying22 (by kernel_rfl) rfl .i64 .i64 0 (by omega) (by omega)
  go_enter Tryd.func25, Tryd.ntmps25
  go_wp2_with (refine wpList_copy_nothing (o := ⟨some 35, _, _, _, _, _⟩) rfl (.tmp 28) (.tmp 34) 22 22 rfl 5 Tryd.underlying22 (by kernel_rfl) (some ⟨w.heap.size, 0, none⟩) A 0 0 0 0 rfl rfl (by simp) ?_)
  go_ret2
  exact ⟨rfl, (Below.refl _ _).alloc (Nat.le_refl _) _⟩
theorem place_any {w : World} {p : Nat} {v : Int} (c : w.cell? ⟨p, 33, none⟩ = some (.int .u64 v)) : Calls Tryd.prog 20 #[.pointer (some ⟨p, 0, none⟩)] w fun e w' => e = .returned (.int .u64 v) ∧ w = w' := by
  go_enter Tryd.func20, Tryd.ntmps20
  go_wp2
  go_ret
  exact ⟨rfl, rfl⟩
/-- What Peek of all answers. -/
def PeekAll (w : World) (l : List Int) (e : Ending) (w' : World) : Prop := ∃ A c, e = .returned (.tuple #[.slice A l.length c, .int .i64 0]) ∧ (0 < l.length → ∃ g o, A = some ⟨g, o, none⟩ ∧ ∀ j, j < l.length → w'.cell? ⟨g, o + j, none⟩ = some (.int .u8 (l.getD j 0))) ∧ Below w.heap.size w w'
/-- The machine reads as told. -/
def Reads (w : World) (p : Nat) (m : Ma) : Prop := (∀ k, k < 32 → w.cell? ⟨p, 1 + k, none⟩ = some (.int .u64 (m.x.getD k 0))) ∧ w.cell? ⟨p, 33, none⟩ = some (.int .u64 m.pl) ∧ ∃ A, w.cell? ⟨p, 0, none⟩ = some (.slice A m.mem.length m.mem.length)
set_option maxHeartbeats 4000000 in
theorem tells_any {w : World} {p q' : Nat} {m : Ma} (hx : m.x.length = 32) (hN : m.mem.length ≤ 4194304) (hm : Reads w p m) (hp : p < w.heap.size) (hq : q' < w.heap.size) (hr : w.heap[q']? = some (.cells (u8s m.mem).toArray 5))
    (hpk : ∀ W : World, Below w.heap.size w W → Calls Tryd.prog 25 #[.pointer (some ⟨p, 0, none⟩), .int .i64 0, .int .i64 (m.mem.length : Nat)] W (PeekAll W m.mem)) :
    Calls Tryd.prog 14 #[.pointer (some ⟨p, 0, none⟩), .agg (mcs m q')] w fun e w' => e = .returned (.bool true) ∧ Below w.heap.size w w' := by
  have b0 : Below w.heap.size w (w.alloc (Obj.cells (mcs m q') 34)) := bw_alloc (Below.refl _ _) _
  have bx : Hid (∀ k, k < 32 → (w.alloc (Obj.cells (mcs m q') 34)).cell? ⟨w.heap.size, 1 + k, none⟩ = some (.int .u64 (m.x.getD k 0))) := Lib.hid fun k hk => by rw [cell_of_row _ _ (1 + k) _ _ _ (heap_alloc_new w _)]; exact mcs_x hx q' hk
  have b33 : (w.alloc (Obj.cells (mcs m q') 34)).cell? ⟨w.heap.size, 33, none⟩ = some (.int .u64 m.pl) := by rw [cell_of_row _ _ 33 _ _ _ (heap_alloc_new w _)]; exact mcs_33 hx q'
  have bm : (w.alloc (Obj.cells (mcs m q') 34)).cell? ⟨w.heap.size, 0, none⟩ = some (.slice (some ⟨q', 0, none⟩) m.mem.length m.mem.length) := by rw [cell_of_row _ _ 0 _ _ _ (heap_alloc_new w _)]; exact mcs_0 m q'
  have bs : w.heap.size < (w.alloc (Obj.cells (mcs m q') 34)).heap.size := by simp
  have hz := mcs_size hx q'
  generalize mcs m q' = cs at *
  have hx0 : Hid (∀ k, k < 32 → (w.alloc (Obj.cells cs 34)).cell? ⟨p, 1 + k, none⟩ = some (.int .u64 (m.x.getD k 0))) := Lib.hid fun k hk => (b0.cell (p := ⟨p, 1 + k, none⟩) hp).trans (hm.1 k hk)
  have hpl := (b0.cell (p := ⟨p, 33, none⟩) hp).trans hm.2.1
  obtain ⟨PA, hpa⟩ := hm.2.2
  have hpa := (b0.cell (p := ⟨p, 0, none⟩) hp).trans hpa
  have hq0 := row_at b0 hq hr
  have HB := Lib.hid b0; have HK := Lib.hid hpk; have HZ := Lib.hid hz; have HQ := Lib.hid hq0; have HS := Lib.hid bs
  clear hm hr hpk b0 hz hq0 bs
  go_enter Tryd.func14, Tryd.ntmps14
  go_wp2_with fail
  generalize w.alloc (Obj.cells cs 34) = W at *
  go_loop [5] (fun k => ∃ r : Int, -1 ≤ r ∧ r ≤ 33 ∧ k = .int .i64 r) (fun k => (33 - intOf k).toNat)
  case atStart => exact ⟨-1, by omega, by omega, rfl⟩
  case round =>
    obtain ⟨r, hr0, hr1, rfl⟩ := hrel
    by_cases h33 : r = 33
    · subst h33
      go_wp2_with fail
      refine (HK.out W HB.out).mono ?_
      rintro e w2 ⟨A2, c2, rfl, hin, b2⟩
      have hpW : p < W.heap.size := Nat.lt_of_lt_of_le hp HB.out.size
      have cb0 := (b2.cell (p := ⟨w.heap.size, 0, none⟩) HS.out).trans bm
      have cb33 := (b2.cell (p := ⟨w.heap.size, 33, none⟩) HS.out).trans b33
      have cp0 := (b2.cell (p := ⟨p, 0, none⟩) hpW).trans hpa
      have cp33 := (b2.cell (p := ⟨p, 33, none⟩) hpW).trans hpl
      have cq := row_at b2 (Nat.lt_of_lt_of_le hq HB.out.size) HQ.out
      have s1 : ∀ k, (convert 22 9 (.slice A2 m.mem.length c2)).run Tryd.prog (w2.drewN k) = .ok (.string (strOfNums m.mem)) (w2.drewN k) := fun k => conv_in (w := w2.drewN k) hin
      have s2 : ∀ k, (convert 22 9 (.slice (some ⟨q', 0, none⟩) m.mem.length m.mem.length)).run Tryd.prog (w2.drewN k) = .ok (.string (strOfNums m.mem)) (w2.drewN k) := fun k => conv_in (w := w2.drewN k) fun h0 => ⟨q', 0, rfl, fun j hj => by
        rw [Nat.zero_add, cell_of_row _ _ j _ _ _ (show (w2.drewN k).heap[q']? = _ from cq)]; exact u8s_at _ _ hj⟩
      have HB2 := Lib.hid (HB.out.trans (b2.mono HB.out.size))
      clear bx hx0 b33 bm hpl hpa HB HQ HS hpW hin b2 cq HK
      generalize strOfNums m.mem = S at *
      generalize m.pl = PL at *
      generalize m.mem.length = N at *
      have hP : ∀ k, Calls Tryd.prog 20 #[.pointer (some ⟨p, 0, none⟩)] (w2.drewN k) fun e w' => e = .returned (.int .u64 PL) ∧ w2.drewN k = w' := fun k => place_any cp33
      have HP := Lib.hid hP
      clear hP
      have K1 := Lib.hid (peek_no 0 ((N : Int) + 1) cp0 hN (by omega) (by omega))
      have K2 := Lib.hid (peek_no (-1) 1 cp0 hN (by omega) (by omega))
      go_wp2_with fail
      with_reducible refine K1.out.mono ?_
      rintro e w3 ⟨rfl, rfl⟩
      go_wp2_with fail
      with_reducible refine K2.out.mono ?_
      rintro e w3 ⟨rfl, rfl⟩
      go_wp2_with fail
      go_quiet (with_reducible refine (HP.out _).mono ?_; rintro e w9 ⟨rfl, rfl⟩; exact ⟨rfl, _, rfl⟩)
      go_wp2
      go_ret
      exact ⟨rfl, HB2.out.os, HB2.out.tape, HB2.out.output, HB2.out.size, HB2.out.block⟩
    · by_cases hin : 0 ≤ r ∧ r < 32
      · obtain ⟨k, rfl⟩ := Int.eq_ofNat_of_zero_le hin.1
        have hk : k < 32 := by omega
        have e1 := bx.out k hk
        have e2 := hx0.out k hk
        generalize m.x.getD k 0 = v at *
        go_wp2_with (go_at_call 24; refine (reg_in p k _ _ hk e2).mono ?_; rintro e w1 ⟨rfl, rfl⟩)
        go_round
        case rel => exact ⟨(k : Int) + 1, by omega, by omega, by go_num⟩
        case measure => first | (simp [intOf]; done) | (simp [intOf]; omega)
      · have hd : (decide (0 ≤ r) && decide (r < 32)) = false := by simp; omega
        have hro : r < 0 ∨ 32 ≤ r := by omega
        rcases hro with hro | hro
        all_goals
          go_wp2_with (go_at_call 24; refine (reg_out p r _ (by omega)).mono ?_; rintro e w1 ⟨rfl, rfl⟩)
          go_round
          case rel => exact ⟨r + 1, by omega, by omega, by go_num⟩
          case measure => first | (simp [intOf]; done) | (simp [intOf]; omega)
end Go.Proofs.YtoehfncgkkfdeaaDoor
