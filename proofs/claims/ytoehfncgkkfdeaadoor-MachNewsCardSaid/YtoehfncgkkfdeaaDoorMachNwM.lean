/- MachNews answers true, of any bytes and size; at most new blocks in memory. Conditions: the tables as the program lays them, bytes that come in. -/
import Derived.Test.YtoehfncgkkfdeaaDoorMachM4
namespace Go.Proofs.YtoehfncgkkfdeaaDoor
open Go.RowKit Go.Maps
set_option linter.unusedVariables false
set_option linter.unusedSimpArgs false
set_option maxRecDepth 10000
open Pm Pc Pl
theorem ld36g {ops : Array Oper} {rest : List Oper} {Q : Exit → Act → World → Prop} {a : Act} {w : World} {dst : Option Tmp} {ty : TypeId} {pos : String} {af : Array Edge} {gd : Option (Nat × Bool)} {x : Operand} (g : Nat) (cs : Array Value)
    (hw : Region.wanted ⟨dst, .load 34 x, ty, pos, af, gd⟩ (yielded ops a.tmps) = true) (hx : a.eval x = .pointer (some ⟨g, 0, none⟩)) (hg : w.heap[g]? = some (.cells cs 34)) (hz : cs.size = 36) (h : wpList Tryd.prog ops Q rest (a.put dst (.agg cs)) w) : wpList Tryd.prog ops Q (⟨dst, .load 34 x, ty, pos, af, gd⟩ :: rest) a w :=
  wpList_step fun K hK => by rw [if_pos hw]; exact wp_load_row _ x rfl g hx _ cs (0, 0) _ hg Tryd.underlying34 rfl (by rw [hz]; exact szMach) (hK _ _ h)
theorem peek_all {w : World} {p q : Nat} {m : Ma} (hm : MachAt w p q m) (hok : m.ok) : Calls Tryd.prog 25 #[.pointer (some ⟨p, 0, none⟩), .int .i64 0, .int .i64 (m.mem.length : Nat)] w (PeekAll w m.mem) := by
  by_cases h0 : m.mem.length = 0
  · have c0 := hm.c0
    rw [h0] at c0
    rw [h0]
    refine (peek_0 c0).mono ?_
    rintro e w' ⟨rfl, hb⟩
    exact ⟨some ⟨w.heap.size, 0, none⟩, 0, by rw [h0], fun h => by omega, hb⟩
  · refine (peek_in 0 m.mem.length hm hok (by omega) (by omega)).mono ?_
    rintro e w' ⟨rfl, hr, hb⟩
    refine ⟨_, _, rfl, fun _ => ⟨w.heap.size, 0, rfl, fun j hj => ?_⟩, hb⟩
    rw [Nat.zero_add, cell_of_row _ _ j _ _ _ hr]
    simp only [List.drop_zero, List.take_length]
    exact u8s_at _ _ hj
theorem reads_of {w : World} {p q : Nat} {m : Ma} (hm : MachAt w p q m) (hok : m.ok) : Reads w p m := ⟨fun k hk => hm.cx hok.1 hk, hm.cpl hok.1, ⟨_, hm.c0⟩⟩
theorem tells_ma {w : World} {p q q' : Nat} {m : Ma} (hm : MachAt w p q m) (hok : m.ok) (hr : w.heap[q']? = some (.cells (u8s m.mem).toArray 5)) :
    Calls Tryd.prog 14 #[.pointer (some ⟨p, 0, none⟩), .agg (mcs m q')] w fun e w' => e = .returned (.bool true) ∧ Below w.heap.size w w' :=
  tells_any hok.1 hok.2.1 (reads_of hm hok) hm.lp (lt_of_at hr) hr fun W hb => peek_all (hm.keep (Fr.below (S := []) hb) (by simp) (by simp)) hok
theorem new_no {w : World} {A : Option Addr} {n c : Nat} {N : Int} (h : N < n ∨ 4194304 < N) :
    Calls Tryd.prog 8 #[.slice A n c, .int .i64 N] w fun e w' => e = .returned (.tuple #[.pointer none, .int .i64 1]) ∧ w' = w := by
  by_cases h1 : N < n
  all_goals
    go_enter Tryd.func8, Tryd.ntmps8
    go_wp2
    go_ret2
    exact ⟨rfl, rfl⟩
set_option maxRecDepth 100000 in
set_option maxHeartbeats 4000000 in
theorem machNews_walk (xs : List Int) (A : Option Addr) (c : Nat) (N : Int) (w : World) (hs : SrcIs w A xs) (hF : FormsIn w) (hO : OpsIn w) :
    Calls Tryd.prog 5 #[.slice A xs.length c, .int .i64 N] w fun e w' => e = .returned (.bool true) ∧ Below w.heap.size w w' := by
  by_cases h300 : xs.length ≤ 3000
  · have hd : decide (3000 < (xs.length : Int)) = false := decide_eq_false (by omega)
    by_cases hok : (xs.length : Int) ≤ N ∧ N ≤ 4194304
    · obtain ⟨N, rfl⟩ := Int.eq_ofNat_of_zero_le (show 0 ≤ N by omega)
      have hN : xs.length ≤ N := by omega
      have hN' : N ≤ 4194304 := by omega
      go_enter Tryd.func5, Tryd.ntmps5
      go_wp2_with fail
      refine (awake3 _ hF hO).mono ?_
      rintro e w1 ⟨rfl, b1⟩
      have hs1 : SrcIs w1 A xs := ⟨hs.1, fun h0 => by obtain ⟨ib, off, rfl, hr⟩ := hs.2 h0; exact ⟨ib, off, rfl, fun j hj => (b1.cell (p := ⟨ib, off + j, none⟩) (World.block_lt_of_cell? w _ (hr j hj))).trans (hr j hj)⟩⟩
      go_wp2_with fail
      refine (new_any (N := N) hN hN' hs1).mono ?_
      rintro e w2 ⟨rfl, hm2, b2⟩
      have hs2 : SrcIs w2 A xs := ⟨hs1.1, fun h0 => by obtain ⟨ib, off, rfl, hr⟩ := hs1.2 h0; exact ⟨ib, off, rfl, fun j hj => (b2.cell (p := ⟨ib, off + j, none⟩) (World.block_lt_of_cell? w1 _ (hr j hj))).trans (hr j hj)⟩⟩
      have hmok := maNew_ok hs.1 hN hN'
      go_wp2_with fail
      refine (rnew_any (N := N) hN hN' hs2).mono ?_
      rintro e w3 ⟨rfl, hr3, b3⟩
      have hm3 := hm2.keep (Fr.below (S := []) b3) (by simp) (by simp)
      have B3 := (b1.trans (b2.mono b1.size)).trans (b3.mono (Nat.le_trans b1.size b2.size))
      have hz := mcs_size hmok.1 (w2.heap.size + 1)
      have ha := mcs_all (maNew xs N) (w2.heap.size + 1)
      have hT := tells_ma (hm3.keep (Fr.below (S := []) ((Below.refl w3.heap.size w3).alloc (Nat.le_refl _) (Obj.cells (mcs (maNew xs N) (w2.heap.size + 1)) 34))) (by simp) (by simp)) hmok (row_at ((Below.refl w3.heap.size w3).alloc (Nat.le_refl _) (Obj.cells (mcs (maNew xs N) (w2.heap.size + 1)) 34)) (lt_of_at hr3) hr3)
      have HT := Lib.hid hT
      have HZ := Lib.hid hz
      have hX := heap_alloc_new w3 (Obj.cells (mcs (maNew xs N) (w2.heap.size + 1)) 34)
      have HX := Lib.hid hX
      have HB := Lib.hid (bw_alloc B3 (Obj.cells (mcs (maNew xs N) (w2.heap.size + 1)) 34))
      clear hT hz hX hm3 hr3 b3 hs2 hm2 b2 hs1 b1 B3 hF hO
      generalize mcs (maNew xs N) (w2.heap.size + 1) = cs at *
      by_cases h64 : N ≤ 65536
      · have hd64 : decide (65536 < (N : Int)) = false := decide_eq_false (by omega)
        go_wp2_with (first
          | ((with_reducible refine st36n w3.heap.size cs ?_ ?_ ?_ ?_ HZ.out ha ?_); rfl; rfl; rfl; rfl)
          | ((with_reducible refine ld36g w3.heap.size cs ?_ ?_ HX.out HZ.out ?_); rfl; rfl)
          | (go_at_call 14; (with_reducible refine HT.out.mono ?_); rintro e w5 ⟨rfl, b5⟩))
        go_ret
        exact ⟨rfl, HB.out.trans (b5.mono HB.out.size)⟩
      · go_wp2_with (first
          | ((with_reducible refine st36n w3.heap.size cs ?_ ?_ ?_ ?_ HZ.out ha ?_); rfl; rfl; rfl; rfl))
        go_ret
        exact ⟨rfl, HB.out⟩
    · have hno : N < (xs.length : Int) ∨ 4194304 < N := by omega
      go_enter Tryd.func5, Tryd.ntmps5
      go_wp2_with fail
      refine (awake3 _ hF hO).mono ?_
      rintro e w1 ⟨rfl, b1⟩
      go_wp2_with fail
      refine (new_no hno).mono ?_
      rintro e w2 ⟨rfl, rfl⟩
      go_wp2_with fail
      refine (rnew_no hno).mono ?_
      rintro e w3 ⟨rfl, b3⟩
      have ha := newC_all none 0
      have HZ := Lib.hid (newC_size none 0)
      have HB := Lib.hid (bw_alloc (b1.trans (b3.mono b1.size)) (Obj.cells (newC none 0) 34))
      clear hF hO hok hno b3 b1
      generalize newC none 0 = cs at *
      go_wp2_with (first
        | ((with_reducible refine st36n w3.heap.size cs ?_ ?_ ?_ ?_ HZ.out ha ?_); rfl; rfl; rfl; rfl))
      go_ret
      exact ⟨rfl, HB.out⟩
  · have hd : decide (3000 < (xs.length : Int)) = true := decide_eq_true (by omega)
    go_enter Tryd.func5, Tryd.ntmps5
    go_wp2_with fail
    refine (awake3 _ hF hO).mono ?_
    rintro e w1 ⟨rfl, b1⟩
    go_wp2_with fail
    refine (awake3 _ (hF.keep b1 (Nat.le_refl _)) (hO.below b1)).mono ?_
    rintro e w2 ⟨rfl, b2⟩
    go_wp2
    go_ret
    exact ⟨rfl, b1.trans (b2.mono b1.size)⟩
end Go.Proofs.YtoehfncgkkfdeaaDoor
