/- What slices.Backward hands on: the numbers of a row, from the last on. Conditions: each theorem's. -/
import Derived.Test.YtfjobnljdkiihaaGreatDoorRows
import Derived.RangeFuncNested
import Derived.RangeFuncBound
import Derived.RangeFuncCalls
import Derived.RangeFuncLeaves
import Derived.RangeFuncBox
import Derived.Shelf.Abstract
import Derived.Shelf.RegionOpen
import Derived.WalkKit
import Derived.OwnWalkIn
import Derived.TacticsInMore
import Derived.LoopNIn
import Derived.LoopIn
import Derived.Maps.AppendAt
import Derived.Deep.MidRow
import Derived.Lib.Hide
import Derived.Test.YtfjobnljdkiihaaGreatDoorProg
namespace Go.Proofs.YtfjobnljdkiihaaGreatDoor
open Go.RowKit Go.Shelf
set_option linter.unusedVariables false
set_option linter.unusedSimpArgs false
set_option maxRecDepth 100000
attribute [local go_sem] Oper.semAt_some
def bwL (n : Nat) : List (Fin n) := (List.finRange n).reverse
theorem bwL_len (n : Nat) : (bwL n).length = n := by simp [bwL]
theorem bwL_get (n m : Nat) (h : m + 1 ≤ n) : (bwL n)[n - (m + 1)]? = some ⟨m, by omega⟩ := by
 unfold bwL
 rw [List.getElem?_reverse (by simp; omega), List.length_finRange, List.getElem?_eq_getElem (by simp; omega)]
 simp
 omega
theorem bwL_take (n m : Nat) (h : m + 1 ≤ n) : (bwL n).take (n - m) = (bwL n).take (n - (m + 1)) ++ [⟨m, by omega⟩] := by
 rw [show n - m = n - (m + 1) + 1 by omega, List.take_add_one, bwL_get n m h]
 rfl
theorem wpListIn_load_mid {F : Fence} {n : Nat} {P : Program} {ops : Array Oper} {rest : List Oper} {op : Oper} {a : Act} {w : World} {Q : Exit → Act → World → Prop} (hgd : op.guard = none) (ty : TypeId) (x : Operand) (ho : op.op = .load ty x)
  (b o : Nat) (hx : a.eval x = .pointer (some ⟨b, o, none⟩)) (cs : List Value) (d : TypeDesc) (hc : w.rangeAt b o cs)
  (hu : P.underlying ty = some d) (hd : d.isRow = true) (hi : (P.info? ty).map (·.size) = some cs.length)
  (h : wpListIn F n P ops Q rest (a.put op.dst (.agg cs.toArray)) w) : wpListIn F n P ops Q (op :: rest) a w := by
 refine wpListIn_plain hgd fun K hK => ?_
 unfold Oper.wpIn
 refine ⟨?_, ?_⟩
 ·simp [Oper.about, ho]
 ·rw [Oper.semAt_plain F _ _ (by rw [ho]; intro c hc'; cases hc')]
  unfold execOp
  simp only [ho, hx, Instr.loadAt, Instr.sureAddr, Sem.run_bind, Sem.run_pure, Result.andThen_ok, run_loadVar_mid w b o ty cs d hc hu hd hi]
  exact hK _ _ h
def Kb (b g : Nat) (w w' : World) : Prop := w'.heap[b]? = w.heap[b]? ∧ w'.heap[g]? = w.heap[g]?
theorem kb_t {b g : Nat} {x y z : World} (h : Kb b g x y) (k : Kb b g y z) : Kb b g x z := ⟨k.1.trans h.1, k.2.trans h.2⟩
theorem kb_b {b g : Nat} {w : World} (hb : b < w.heap.size) (hg : g < w.heap.size) (W : World) (l : Nat) (o o' : Obj) (hl : w.heap.size ≤ l) (_ : W.heap[l]? = some o) (_ : o.isCells = false) (_ : o.isWalk = false) : Kb b g W (W.putObj l o') :=
 ⟨World.putObj_heap_other (by omega), World.putObj_heap_other (by omega)⟩
set_option maxHeartbeats 4000000 in
theorem bwE_in (F : Fence) (n : Nat) (hF : F.fn 121) (hro : F.round = none) (hn : 1 ≤ n) (l b g o len cap : Nat) (cs : Fin len → Array Value) (hlen : len ≤ 4611686018427387904) (J Jx : List (Fin len) → World → Prop)
  (hY : ∀ pre x W, J pre W → pre.length < len → YieldAt F (n - 1) Tryz.prog l #[.int .i64 (x.val : Int), .agg (cs x)] W fun e W' =>
   (e = .returned (.bool true) ∧ J (pre ++ [x]) W' ∧ Kb b g W W') ∨ (e = .returned (.bool false) ∧ Jx (pre ++ [x]) W'))
  (W : World) (hb : W.heap[b]? = some (.cells #[.slice (some ⟨g, o, none⟩) len cap] 35)) (hc : ∀ j : Fin len, W.rangeAt g (o + j.val * 9) (cs j).toList ∧ (cs j).size = 9) (h0 : J [] W) :
  CallsIn F n Tryz.prog 121 #[.func (.yield l) #[] #[], .pointer (some ⟨b, 0, none⟩)] W fun e W' => (∃ v, e = .returned v) ∧
   ((∃ ys, ys = bwL len ∧ J ys W') ∨ (∃ pre, pre <+: bwL len ∧ Jx pre W')) := by
 refine callsIn_of_wp Tryz.func121 rfl hF ?_ hro
 simp only [Tryz.ntmps121, List.size_toArray, List.length_cons, List.length_nil, Nat.reduceAdd, Nat.reduceSub, Array.replicate_succ, Array.replicate_zero, List.push_toArray, List.append_toArray, List.nil_append, List.cons_append]
 have hbc : W.cell? ⟨b, 0, none⟩ = some (.slice (some ⟨g, o, none⟩) len cap) := by simp [World.cell?, hb]
 have hw0 : IntKind.i64.wrap ((len : Int) - 1) = (len : Int) - 1 := IntWalk.i64_in _ (by omega)
 have HK := Lib.hid hc
 have HB := Lib.hid hb
 clear hc hb
 gi_wp2
 gi_loopw [3] (fun i wr => ∃ m : Nat, m ≤ len ∧ i = .int .i64 ((m : Int) - 1) ∧ J ((bwL len).take (len - m)) wr ∧ Hid (Kb b g W wr))
  (fun i _ => (intOf i + 1).toNat)
 case atStart => exact ⟨len, Nat.le_refl _, rfl, by rw [Nat.sub_self]; exact h0, Lib.hid ⟨rfl, rfl⟩⟩
 case round =>
  obtain ⟨m, hm, rfl, hJs, hkb⟩ := hrel
  cases m with
  | zero =>
   gi_wp2
   go_end0
   exact ⟨⟨_, rfl⟩, .inl ⟨_, rfl, by rw [Nat.sub_zero, List.take_of_length_le (Nat.le_of_eq (bwL_len _))] at hJs; exact hJs⟩⟩
  | succ m =>
   have hx : (((m + 1 : Nat) : Int) - 1) = (m : Int) := by omega
   rw [hx]
   have hw1 : IntKind.i64.wrap ((m : Int) - 1) = (m : Int) - 1 := IntWalk.i64_in _ (by omega)
   have hbr : wr.cell? ⟨b, 0, none⟩ = some (.slice (some ⟨g, o, none⟩) len cap) := by have := hkb.out.1.trans HB.out; simp [World.cell?, this]
   obtain ⟨hc1, hc2⟩ := HK.out ⟨m, by omega⟩
   have hld : Hid (wr.rangeAt g (o + m * 9) (cs ⟨m, by omega⟩).toList) := Lib.hid (fun j u hj => (World.cell?_of_block (w := W) hkb.out.2).trans (hc1 j u hj))
   have hsz : Hid ((Tryz.prog.info? 39).map (·.size) = some (cs ⟨m, by omega⟩).toList.length) := Lib.hid (by rw [Array.length_toList, hc2]; kernel_rfl)
   obtain ⟨fn, tmps, assign, body, hy, hR⟩ := hY _ (⟨m, by omega⟩ : Fin len) wr hJs (by rw [List.length_take, bwL_len]; omega)
   dsimp only at hy
   clear hc1 hc2
   have hlt : (m : Int) < (len : Int) := by omega
   have hml : m < len := by omega
   gi_wp2_with ((with_reducible show wpListIn _ _ _ _ _ (Oper.mk (some 16) _ _ _ _ _ :: _) _ _); refine wpListIn_load_mid (op := ⟨some 16, _, _, _, _, _⟩) rfl 39 (.tmp 15) rfl g (o + m * 9) rfl _ _ hld.out Tryz.underlying39 rfl hsz.out ?_; (try simp only [Array.toArray_toList]))
   refine hR.mono ?_
   rintro e W3 (⟨rfl, hJ3, hk3⟩ | ⟨rfl, hJx3⟩)
   ·gi_wp2
    go_roundw
    case rel => exact ⟨m, by omega, rfl, by rw [bwL_take _ _ hm]; exact hJ3, Lib.hid (kb_t hkb.out hk3)⟩
    case measure => simp [intOf]
   ·gi_wp2
    refine bodyPost_ret (results_none rfl _ _ _) rfl ?_
    exact ⟨⟨_, rfl⟩, .inr ⟨_, by rw [← bwL_take _ _ hm]; exact List.take_prefix _ _, hJx3⟩⟩
set_option maxHeartbeats 1000000 in
theorem bwE_nil (F : Fence) (n : Nat) (hF : F.fn 121) (hro : F.round = none) (l b cap : Nat) (A : Option Addr) (J : World → Prop)
  (W : World) (hb : W.heap[b]? = some (.cells #[.slice A 0 cap] 35)) (h0 : J W) :
  CallsIn F n Tryz.prog 121 #[.func (.yield l) #[] #[], .pointer (some ⟨b, 0, none⟩)] W fun e W' => (∃ v, e = .returned v) ∧ J W' := by
 refine callsIn_of_wp Tryz.func121 rfl hF ?_ hro
 simp only [Tryz.ntmps121, List.size_toArray, List.length_cons, List.length_nil, Nat.reduceAdd, Nat.reduceSub, Array.replicate_succ, Array.replicate_zero, List.push_toArray, List.append_toArray, List.nil_append, List.cons_append]
 have hbc : W.cell? ⟨b, 0, none⟩ = some (.slice A 0 cap) := by simp [World.cell?, hb]
 clear hb
 gi_wp2
 gi_loopw [3] (fun i wr => i = .int .i64 (-1) ∧ J wr) (fun _ _ => 0)
 case atStart => exact ⟨rfl, h0⟩
 case round =>
  obtain ⟨rfl, hJs⟩ := hrel
  gi_wp2
  go_end0
  exact ⟨⟨_, rfl⟩, hJs⟩
set_option maxHeartbeats 1000000 in
theorem backE_in (F : Fence) (n : Nat) (hF : F.fn 98) (hro : F.round = none) (a : Option Addr) (len cap : Nat) (w : World) :
  CallsIn F n Tryz.prog 98 #[.slice a len cap] w fun e w' => e = .returned (.func (.func 121) #[] #[.pointer (some ⟨w.heap.size, 0, none⟩)]) ∧ w' = w.alloc (.cells #[.slice a len cap] 35) := by
 refine callsIn_of_wp Tryz.func98 rfl hF ?_ hro
 simp only [Tryz.ntmps98, List.size_toArray, List.length_cons, List.length_nil, Nat.reduceAdd, Nat.reduceSub, Array.replicate_succ, Array.replicate_zero, List.push_toArray, List.append_toArray, List.nil_append, List.cons_append]
 gi_wp2
 go_ret
 exact ⟨rfl, rfl⟩
theorem bwE_stops (F : Fence) (n : Nat) (hF : F.fn 121) (hro : F.round = none) (hn : 1 ≤ n) (b g o len cap : Nat) (A : Option Addr) (cs : Fin len → Array Value) (hlen : len ≤ 4611686018427387904) (w : World) (hg : g < w.heap.size)
  (hA : 0 < len → A = some ⟨g, o, none⟩) (hb : w.heap[b]? = some (.cells #[.slice A len cap] 35)) (hc : ∀ j : Fin len, w.rangeAt g (o + j.val * 9) (cs j).toList ∧ (cs j).size = 9) :
  SeqStopsK F n Tryz.prog 121 #[.pointer (some ⟨b, 0, none⟩)] (fun x : Fin len => #[Value.int .i64 (x.val : Int), .agg (cs x)]) (Kb b g) (fun ys => ys = bwL len) (fun pre => pre <+: bwL len) len w := fun l J Jx W hW _ _ hY h0 => by
 have hbl := (Array.getElem?_eq_some_iff.1 hb).1
 have hb' := (hW.block b hbl).trans hb
 by_cases h : len = 0
 ·subst h
  exact (bwE_nil F n hF hro l b cap A (J []) W hb' h0).mono fun e W' ⟨he, hj⟩ => ⟨he, .inl ⟨[], rfl, hj⟩⟩
 ·obtain rfl := hA (by omega)
  exact bwE_in F n hF hro hn l b g o len cap cs hlen J Jx hY W hb' (fun j => ⟨fun i u hu => (hW.cell (p := ⟨g, o + j.val * 9 + i, none⟩) hg).trans ((hc j).1 i u hu), (hc j).2⟩) h0
set_option maxHeartbeats 4000000 in
theorem bwS_in (F : Fence) (n : Nat) (hF : F.fn 97) (hro : F.round = none) (hn : 1 ≤ n) (l b g o len cap : Nat) (cs : Fin len → Array Value) (hlen : len ≤ 4611686018427387904) (J Jx : List (Fin len) → World → Prop)
  (hY : ∀ pre x W, J pre W → pre.length < len → YieldAt F (n - 1) Tryz.prog l #[.int .i64 (x.val : Int), .agg (cs x)] W fun e W' =>
   (e = .returned (.bool true) ∧ J (pre ++ [x]) W' ∧ Kb b g W W') ∨ (e = .returned (.bool false) ∧ Jx (pre ++ [x]) W'))
  (W : World) (hb : W.heap[b]? = some (.cells #[.slice (some ⟨g, o, none⟩) len cap] 40)) (hc : ∀ j : Fin len, W.rangeAt g (o + j.val * 10) (cs j).toList ∧ (cs j).size = 10) (h0 : J [] W) :
  CallsIn F n Tryz.prog 97 #[.func (.yield l) #[] #[], .pointer (some ⟨b, 0, none⟩)] W fun e W' => (∃ v, e = .returned v) ∧
   ((∃ ys, ys = bwL len ∧ J ys W') ∨ (∃ pre, pre <+: bwL len ∧ Jx pre W')) := by
 refine callsIn_of_wp Tryz.func97 rfl hF ?_ hro
 simp only [Tryz.ntmps97, List.size_toArray, List.length_cons, List.length_nil, Nat.reduceAdd, Nat.reduceSub, Array.replicate_succ, Array.replicate_zero, List.push_toArray, List.append_toArray, List.nil_append, List.cons_append]
 have hbc : W.cell? ⟨b, 0, none⟩ = some (.slice (some ⟨g, o, none⟩) len cap) := by simp [World.cell?, hb]
 have hw0 : IntKind.i64.wrap ((len : Int) - 1) = (len : Int) - 1 := IntWalk.i64_in _ (by omega)
 have HK := Lib.hid hc
 have HB := Lib.hid hb
 clear hc hb
 gi_wp2
 gi_loopw [3] (fun i wr => ∃ m : Nat, m ≤ len ∧ i = .int .i64 ((m : Int) - 1) ∧ J ((bwL len).take (len - m)) wr ∧ Hid (Kb b g W wr))
  (fun i _ => (intOf i + 1).toNat)
 case atStart => exact ⟨len, Nat.le_refl _, rfl, by rw [Nat.sub_self]; exact h0, Lib.hid ⟨rfl, rfl⟩⟩
 case round =>
  obtain ⟨m, hm, rfl, hJs, hkb⟩ := hrel
  cases m with
  | zero =>
   gi_wp2
   go_end0
   exact ⟨⟨_, rfl⟩, .inl ⟨_, rfl, by rw [Nat.sub_zero, List.take_of_length_le (Nat.le_of_eq (bwL_len _))] at hJs; exact hJs⟩⟩
  | succ m =>
   have hx : (((m + 1 : Nat) : Int) - 1) = (m : Int) := by omega
   rw [hx]
   have hw1 : IntKind.i64.wrap ((m : Int) - 1) = (m : Int) - 1 := IntWalk.i64_in _ (by omega)
   have hbr : wr.cell? ⟨b, 0, none⟩ = some (.slice (some ⟨g, o, none⟩) len cap) := by have := hkb.out.1.trans HB.out; simp [World.cell?, this]
   obtain ⟨hc1, hc2⟩ := HK.out ⟨m, by omega⟩
   have hld : Hid (wr.rangeAt g (o + m * 10) (cs ⟨m, by omega⟩).toList) := Lib.hid (fun j u hj => (World.cell?_of_block (w := W) hkb.out.2).trans (hc1 j u hj))
   have hsz : Hid ((Tryz.prog.info? 44).map (·.size) = some (cs ⟨m, by omega⟩).toList.length) := Lib.hid (by rw [Array.length_toList, hc2]; kernel_rfl)
   obtain ⟨fn, tmps, assign, body, hy, hR⟩ := hY _ (⟨m, by omega⟩ : Fin len) wr hJs (by rw [List.length_take, bwL_len]; omega)
   dsimp only at hy
   clear hc1 hc2
   have hlt : (m : Int) < (len : Int) := by omega
   have hml : m < len := by omega
   gi_wp2_with ((with_reducible show wpListIn _ _ _ _ _ (Oper.mk (some 16) _ _ _ _ _ :: _) _ _); refine wpListIn_load_mid (op := ⟨some 16, _, _, _, _, _⟩) rfl 44 (.tmp 15) rfl g (o + m * 10) rfl _ _ hld.out Tryz.underlying44 rfl hsz.out ?_; (try simp only [Array.toArray_toList]))
   refine hR.mono ?_
   rintro e W3 (⟨rfl, hJ3, hk3⟩ | ⟨rfl, hJx3⟩)
   ·gi_wp2
    go_roundw
    case rel => exact ⟨m, by omega, rfl, by rw [bwL_take _ _ hm]; exact hJ3, Lib.hid (kb_t hkb.out hk3)⟩
    case measure => simp [intOf]
   ·gi_wp2
    refine bodyPost_ret (results_none rfl _ _ _) rfl ?_
    exact ⟨⟨_, rfl⟩, .inr ⟨_, by rw [← bwL_take _ _ hm]; exact List.take_prefix _ _, hJx3⟩⟩
set_option maxHeartbeats 1000000 in
theorem bwS_nil (F : Fence) (n : Nat) (hF : F.fn 97) (hro : F.round = none) (l b cap : Nat) (A : Option Addr) (J : World → Prop)
  (W : World) (hb : W.heap[b]? = some (.cells #[.slice A 0 cap] 40)) (h0 : J W) :
  CallsIn F n Tryz.prog 97 #[.func (.yield l) #[] #[], .pointer (some ⟨b, 0, none⟩)] W fun e W' => (∃ v, e = .returned v) ∧ J W' := by
 refine callsIn_of_wp Tryz.func97 rfl hF ?_ hro
 simp only [Tryz.ntmps97, List.size_toArray, List.length_cons, List.length_nil, Nat.reduceAdd, Nat.reduceSub, Array.replicate_succ, Array.replicate_zero, List.push_toArray, List.append_toArray, List.nil_append, List.cons_append]
 have hbc : W.cell? ⟨b, 0, none⟩ = some (.slice A 0 cap) := by simp [World.cell?, hb]
 clear hb
 gi_wp2
 gi_loopw [3] (fun i wr => i = .int .i64 (-1) ∧ J wr) (fun _ _ => 0)
 case atStart => exact ⟨rfl, h0⟩
 case round =>
  obtain ⟨rfl, hJs⟩ := hrel
  gi_wp2
  go_end0
  exact ⟨⟨_, rfl⟩, hJs⟩
set_option maxHeartbeats 1000000 in
theorem backS_in (F : Fence) (n : Nat) (hF : F.fn 78) (hro : F.round = none) (a : Option Addr) (len cap : Nat) (w : World) :
  CallsIn F n Tryz.prog 78 #[.slice a len cap] w fun e w' => e = .returned (.func (.func 97) #[] #[.pointer (some ⟨w.heap.size, 0, none⟩)]) ∧ w' = w.alloc (.cells #[.slice a len cap] 40) := by
 refine callsIn_of_wp Tryz.func78 rfl hF ?_ hro
 simp only [Tryz.ntmps78, List.size_toArray, List.length_cons, List.length_nil, Nat.reduceAdd, Nat.reduceSub, Array.replicate_succ, Array.replicate_zero, List.push_toArray, List.append_toArray, List.nil_append, List.cons_append]
 gi_wp2
 go_ret
 exact ⟨rfl, rfl⟩
theorem bwS_stops (F : Fence) (n : Nat) (hF : F.fn 97) (hro : F.round = none) (hn : 1 ≤ n) (b g o len cap : Nat) (A : Option Addr) (cs : Fin len → Array Value) (hlen : len ≤ 4611686018427387904) (w : World) (hg : g < w.heap.size)
  (hA : 0 < len → A = some ⟨g, o, none⟩) (hb : w.heap[b]? = some (.cells #[.slice A len cap] 40)) (hc : ∀ j : Fin len, w.rangeAt g (o + j.val * 10) (cs j).toList ∧ (cs j).size = 10) :
  SeqStopsK F n Tryz.prog 97 #[.pointer (some ⟨b, 0, none⟩)] (fun x : Fin len => #[Value.int .i64 (x.val : Int), .agg (cs x)]) (Kb b g) (fun ys => ys = bwL len) (fun pre => pre <+: bwL len) len w := fun l J Jx W hW _ _ hY h0 => by
 have hbl := (Array.getElem?_eq_some_iff.1 hb).1
 have hb' := (hW.block b hbl).trans hb
 by_cases h : len = 0
 ·subst h
  exact (bwS_nil F n hF hro l b cap A (J []) W hb' h0).mono fun e W' ⟨he, hj⟩ => ⟨he, .inl ⟨[], rfl, hj⟩⟩
 ·obtain rfl := hA (by omega)
  exact bwS_in F n hF hro hn l b g o len cap cs hlen J Jx hY W hb' (fun j => ⟨fun i u hu => (hW.cell (p := ⟨g, o + j.val * 10 + i, none⟩) hg).trans ((hc j).1 i u hu), (hc j).2⟩) h0
end Go.Proofs.YtfjobnljdkiihaaGreatDoor
