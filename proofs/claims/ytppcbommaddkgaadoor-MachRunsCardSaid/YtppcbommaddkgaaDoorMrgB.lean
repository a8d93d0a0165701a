/- Words for the machine of package mach: its block, its memory's block. No condition. Leaves of package mach: registers, places in memory, what is taken and put there. Conditions: each theorem's. -/
import Derived.Test.YtppcbommaddkgaaDoorMrgA
import Derived.Test.YtppcbommaddkgaaDoorCodeLawsH
import Derived.Below
import Derived.Laws.OwnMore
import Derived.Deep.AppendLies
import Derived.Deep.Draws
import Derived.Laws.Rows
import Derived.OwnWalk
import Derived.RegionTactic
import Derived.BigRegion
namespace Go.Proofs.YtppcbommaddkgaaDoor
open Go.RowKit
set_option linter.unusedVariables false
set_option linter.unusedSimpArgs false
set_option maxRecDepth 10000
namespace Pm
/-- A machine: memory, registers, place, how it stands, its code. -/
structure Ma where
  mem : List Int
  x : List Int
  pl : Int
  st : Int
  cd : Int
def u8s (l : List Int) : List Value := l.map (Value.int .u8)
def u64s (l : List Int) : List Value := l.map (Value.int .u64)
def Ma.cells (m : Ma) (q : Nat) : List Value := .slice (some ⟨q, 0, none⟩) m.mem.length m.mem.length :: (u64s m.x ++ [.int .u64 m.pl, .int .i64 m.st, .int .u8 m.cd])
def Ma.ok (m : Ma) : Prop := m.x.length = 32 ∧ m.mem.length ≤ 4194304 ∧ (∀ v ∈ m.x, 0 ≤ v ∧ v < 18446744073709551616) ∧ (∀ b ∈ m.mem, 0 ≤ b ∧ b < 256) ∧ (0 ≤ m.pl ∧ m.pl < 18446744073709551616) ∧ m.x.getD 0 0 = 0
end Pm
open Pm
def MachAt (w : World) (p q : Nat) (m : Ma) : Prop :=
  w.heap[p]? = some (.cells (m.cells q).toArray 63) ∧ w.heap[q]? = some (.cells (u8s m.mem).toArray 5)
end Go.Proofs.YtppcbommaddkgaaDoor
namespace Go.Proofs.YtppcbommaddkgaaDoor
open Go.RowKit
set_option linter.unusedVariables false
set_option linter.unusedSimpArgs false
set_option maxRecDepth 10000
open Pm
set_option maxHeartbeats 400000 in
theorem reg_in (p k : Nat) (v : Int) (w : World) (hk : k < 32) (hx : w.cell? ⟨p, 1 + k, none⟩ = some (.int .u64 v)) :
    Calls Tryd.prog 24 #[.pointer (some ⟨p, 0, none⟩), .int .i64 k] w fun e w' => e = .returned (.int .u64 v) ∧ w = w' := by
  go_enter Tryd.func24, Tryd.ntmps24
  go_wp2
  go_ret
  exact ⟨rfl, rfl⟩
theorem reg_out (p : Nat) (r : Int) (w : World) (hr : r < 0 ∨ 32 ≤ r) :
    Calls Tryd.prog 24 #[.pointer (some ⟨p, 0, none⟩), .int .i64 r] w fun e w' => e = .returned (.int .u64 0) ∧ w = w' := by
  rcases hr with h | h
  all_goals
    go_enter Tryd.func24, Tryd.ntmps24
    go_wp2
    go_ret
    exact ⟨rfl, rfl⟩
set_option maxHeartbeats 400000 in
theorem set_in (p k : Nat) (v old : Int) (w : World) (h0 : 0 < k) (hk : k < 32) (hx : w.cell? ⟨p, 1 + k, none⟩ = some (.int .u64 old)) (hf : w.frozen? ⟨p, 1 + k, none⟩ = false) :
    Calls Tryd.prog 19 #[.pointer (some ⟨p, 0, none⟩), .int .i64 k, .int .u64 v] w fun e w' => e = .returned (.tuple #[]) ∧ w' = w.setCell ⟨p, 1 + k, none⟩ (.int .u64 v) := by
  go_enter Tryd.func19, Tryd.ntmps19
  go_wp2
  go_end0
  exact ⟨rfl, rfl⟩
def hasB (at_ n N : Int) : Bool := decide (at_ % n = 0 ∧ at_ + n ≤ N)
theorem hasB_eq {at_ n N : Int} (hn : n = 1 ∨ n = 4 ∨ n = 8) {b : Bool} (h : b = hasB at_ n N) : Ending.returned (.bool b) = .returned (.bool (hasB at_ n N)) := by rw [h]
set_option maxHeartbeats 400000 in
theorem has_any (p N : Nat) (q : Option Addr) (at_ n : Int) (w : World) (h0 : 0 ≤ at_) (h1 : at_ < 18446744073709551616) (hn : n = 1 ∨ n = 4 ∨ n = 8) (hN : N ≤ 4194304)
    (hx : w.cell? ⟨p, 0, none⟩ = some (.slice q N N)) :
    Calls Tryd.prog 52 #[.pointer (some ⟨p, 0, none⟩), .int .u64 at_, .int .u64 n] w fun e w' => e = .returned (.bool (hasB at_ n N)) ∧ w = w' := by
  have hn' : 1 ≤ n ∧ n ≤ 8 := by omega
  go_enter Tryd.func52, Tryd.ntmps52
  go_wp2
  all_goals
    go_ret
    refine ⟨hasB_eq hn ?_, rfl⟩
    unfold hasB
    rcases hn with rfl | rfl | rfl <;> rw [Bool.eq_iff_iff] <;> simp <;> omega
/-- The number of n bytes from a place on, the lowest first. -/
def getV (l : List Int) (a : Nat) : Nat → Int
  | 0 => 0
  | n + 1 => l.getD a 0 + 256 * getV l (a + 1) n
theorem getV_range (l : List Int) (hb : ∀ i : Nat, 0 ≤ l.getD i 0 ∧ l.getD i 0 < 256) (n : Nat) : ∀ a, 0 ≤ getV l a n ∧ getV l a n < 256 ^ n := by
  induction n with
  | zero => intro a; simp [getV]
  | succ n ih =>
    intro a
    have := ih (a + 1)
    have := hb a
    rw [getV, Int.pow_succ]
    omega
theorem or_step (x b : Int) (h0 : 0 ≤ x) (h1 : x < 72057594037927936) (b0 : 0 ≤ b) (b1 : b < 256) : bits .or .u64 (x * 256) b = b + 256 * x := by
  obtain ⟨x, rfl⟩ := Int.eq_ofNat_of_zero_le h0
  obtain ⟨b, rfl⟩ := Int.eq_ofNat_of_zero_le b0
  have h3 : (BitVec.ofInt 64 ((x : Int) * 256)).toNat = x * 256 := by
    rw [show (x : Int) * 256 = ((x * 256 : Nat) : Int) by omega, BitVec.ofInt_natCast, BitVec.toNat_ofNat]; exact Nat.mod_eq_of_lt (by omega)
  have h2 : (BitVec.ofInt 64 (b : Int)).toNat = b := by
    rw [BitVec.ofInt_natCast, BitVec.toNat_ofNat]; exact Nat.mod_eq_of_lt (by omega)
  show IntKind.u64.wrap ((BitVec.ofInt 64 ((x : Int) * 256) ||| BitVec.ofInt 64 (b : Int)).toNat : Int) = _
  rw [BitVec.toNat_or, h3, h2, IntKind.wrap_u64, show x * 256 = 2 ^ 8 * x by omega, ← Nat.two_pow_add_eq_or_of_lt (show b < 2 ^ 8 by omega)]
  omega
theorem pow_small (n : Nat) (h : n ≤ 7) : (256 : Int) ^ n ≤ 72057594037927936 := by
  have : n = 0 ∨ n = 1 ∨ n = 2 ∨ n = 3 ∨ n = 4 ∨ n = 5 ∨ n = 6 ∨ n = 7 := by omega
  rcases this with rfl | rfl | rfl | rfl | rfl | rfl | rfl | rfl <;> decide
theorem ret_u64 {a b : Int} (h : a = b) : Ending.returned (.int .u64 a) = .returned (.int .u64 b) := by rw [h]
set_option maxHeartbeats 800000 in
theorem take_any (p N q a n : Nat) (l : List Int) (w : World) (hn : n ≤ 8) (ha : a + n ≤ N) (hl : l.length = N) (hN : N ≤ 4194304) (hb : ∀ i : Nat, 0 ≤ l.getD i 0 ∧ l.getD i 0 < 256)
    (hx : w.cell? ⟨p, 0, none⟩ = some (.slice (some ⟨q, 0, none⟩) N N)) (hm : ∀ i : Nat, i < N → w.cell? ⟨q, i, none⟩ = some (.int .u8 (l.getD i 0))) :
    Calls Tryd.prog 53 #[.pointer (some ⟨p, 0, none⟩), .int .u64 a, .int .u64 n] w fun e w' => e = .returned (.int .u64 (getV l a n)) ∧ w = w' := by
  have Hm := Lib.hid hm; clear hm
  have Hb := Lib.hid hb; clear hb
  go_enter Tryd.func53, Tryd.ntmps53
  go_wp2
  go_loop [7, 8] (fun x k => ∃ j : Nat, j ≤ n ∧ k = .int .u64 j ∧ x = .int .u64 (getV l (a + j) (n - j))) (fun _ k => (intOf k).toNat)
  case atStart => exact ⟨n, Nat.le_refl _, rfl, by simp [getV]⟩
  case round =>
    obtain ⟨j, hj, rfl, rfl⟩ := hrel
    by_cases h0 : 0 < j
    · have hm := Hm.out (a + j - 1) (by omega)
      obtain ⟨b, hbe⟩ : ∃ b, l.getD (a + j - 1) 0 = b := ⟨_, rfl⟩
      obtain ⟨v, hv⟩ : ∃ v, getV l (a + j) (n - j) = v := ⟨_, rfl⟩
      have hb0 := Hb.out (a + j - 1)
      have hv0 := getV_range l Hb.out (n - j) (a + j)
      have hp := pow_small (n - j) (by omega)
      have hgoal : getV l (a + (j - 1)) (n - (j - 1)) = b + 256 * v := by
        rw [show n - (j - 1) = (n - j) + 1 by omega, getV, show a + (j - 1) = a + j - 1 by omega, show a + j - 1 + 1 = a + j by omega, hbe, hv]
      rw [hbe] at hm hb0
      rw [hv] at hv0 ⊢
      have HG := Lib.hid hgoal
      clear hgoal hbe hv
      have hor := or_step v b hv0.1 (by omega) hb0.1 hb0.2
      have HO := Lib.hid hor; clear hor
      go_wp2
      go_round
      case rel => exact ⟨j - 1, by omega, by congr 1; omega, by rw [HO.out, HG.out]⟩
      case measure => simp [intOf]; omega
    · go_wp2
      go_ret
      obtain rfl : j = 0 := by omega
      exact ⟨ret_u64 (by simp), rfl⟩
theorem of_num (n : Int) (w : World) : Calls Tryd.prog 41 #[.int .i64 n] w fun e w' => e = .returned (.int .u64 (n % 18446744073709551616)) ∧ w = w' := by
  go_enter Tryd.func41, Tryd.ntmps41
  go_wp2
  go_ret
  exact ⟨rfl, rfl⟩
theorem signed_num (n : Int) (w : World) : Calls Tryd.prog 60 #[.int .u64 n] w fun e w' => e = .returned (.int .i64 (wrap64 n)) ∧ w = w' := by
  go_enter Tryd.func60, Tryd.ntmps60
  go_wp2
  go_ret
  exact ⟨rfl, rfl⟩
def widthV (op : Int) : Int := if op = 38 ∨ op = 39 ∨ op = 42 then 1 else if op = 40 ∨ op = 43 then 4 else 8
theorem width_any (op : Int) (w : World) (h : op = 38 ∨ op = 39 ∨ op = 40 ∨ op = 41 ∨ op = 42 ∨ op = 43 ∨ op = 44) : Calls Tryd.prog 56 #[.int .i64 op] w fun e w' => e = .returned (.int .u64 (widthV op)) ∧ w = w' := by
  rcases h with rfl | rfl | rfl | rfl | rfl | rfl | rfl
  all_goals
    go_enter Tryd.func56, Tryd.ntmps56
    go_wp2
    go_ret
    exact ⟨rfl, rfl⟩
theorem hold_eq {a b : Bool} (h : a = b) : Ending.returned (.bool a) = .returned (.bool b) := by rw [h]
def markB (op rd r1 r2 n : Int) : Bool := decide (op = 28 ∧ rd = 0 ∧ r1 = 0 ∧ r2 = 0 ∧ n = 1)
theorem mark_any (op rd r1 r2 n : Int) (w : World) : Calls Tryd.prog 47 #[ins op rd r1 r2 n] w fun e w' => e = .returned (.bool (markB op rd r1 r2 n)) ∧ Below w.heap.size w w' := by
  go_enter Tryd.func47, Tryd.ntmps47
  go_wp2
  all_goals
    go_ret
    refine ⟨hold_eq ?_, (Below.refl _ _).alloc (Nat.le_refl _) _⟩
    simp [markB, *]
def holdV (op a b : Int) : Bool :=
  if op = 45 then decide (a = b) else if op = 46 then decide (a ≠ b) else if op = 47 then decide (wrap64 a < wrap64 b) else if op = 48 then decide (wrap64 b ≤ wrap64 a) else if op = 49 then decide (a < b) else decide (b ≤ a)
theorem holds_any (op a b : Int) (w : World) (h : 45 ≤ op ∧ op ≤ 50) (ha : 0 ≤ a ∧ a < 18446744073709551616) (hb : 0 ≤ b ∧ b < 18446744073709551616) :
    Calls Tryd.prog 45 #[.int .i64 op, .int .u64 a, .int .u64 b] w fun e w' => e = .returned (.bool (holdV op a b)) ∧ w = w' := by
  have : op = 45 ∨ op = 46 ∨ op = 47 ∨ op = 48 ∨ op = 49 ∨ op = 50 := by omega
  rcases this with rfl | rfl | rfl | rfl | rfl | rfl
  all_goals
    go_enter Tryd.func45, Tryd.ntmps45
    go_wp2_with (go_at_call 60; refine (signed_num _ _).mono ?_; rintro e w1 ⟨rfl, rfl⟩)
    go_ret
    refine ⟨hold_eq ?_, rfl⟩
    first | (simp [holdV]; done) | (rw [Bool.eq_iff_iff]; simp [holdV]; done) | (rw [Bool.eq_iff_iff]; simp [holdV]; trace_state; omega)

/-- Only the listed blocks, of those that were, may have changed. -/
structure Fr (S : List Nat) (w w' : World) : Prop where
  os : w'.os = w.os
  tape : w'.tape = w.tape
  output : w'.output = w.output
  size : w.heap.size ≤ w'.heap.size
  block : ∀ k, k < w.heap.size → k ∉ S → w'.heap[k]? = w.heap[k]?
theorem Fr.refl (S : List Nat) (w : World) : Fr S w w := ⟨rfl, rfl, rfl, Nat.le_refl _, fun _ _ _ => rfl⟩
theorem Fr.trans {S : List Nat} {a b c : World} (h : Fr S a b) (g : Fr S b c) : Fr S a c :=
  ⟨g.os.trans h.os, g.tape.trans h.tape, g.output.trans h.output, Nat.le_trans h.size g.size, fun k hk hs => (g.block k (Nat.lt_of_lt_of_le hk h.size) hs).trans (h.block k hk hs)⟩
theorem Fr.mono {S T : List Nat} {a b : World} (h : Fr S a b) (hs : ∀ k, k ∈ S → k ∈ T) : Fr T a b := ⟨h.os, h.tape, h.output, h.size, fun k hk ht => h.block k hk fun x => ht (hs k x)⟩
theorem Fr.below {S : List Nat} {w w' : World} (h : Below w.heap.size w w') : Fr S w w' := ⟨h.os, h.tape, h.output, h.size, fun k hk _ => h.block k hk⟩
theorem Fr.drewN {S : List Nat} {w w' : World} (n : Nat) (h : Fr S w w') : Fr S w (w'.drewN n) := ⟨h.os, h.tape, h.output, h.size, h.block⟩
theorem Fr.set {S : List Nat} (w : World) (b o : Nat) (v : Value) (hb : b ∈ S) : Fr S w (w.setCell ⟨b, o, none⟩ v) :=
  ⟨rfl, rfl, rfl, by simp [World.setCell], fun k _ hs => Below.heap_setCell w _ v k (fun e => hs (by rw [e]; exact hb))⟩
theorem Fr.grown {S : List Nat} {w w' : World} {row : Option Nat} (h : w.grownBy w' row) (hs : ∀ g, row = some g → g ∈ S) : Fr S w w' :=
  ⟨h.os, h.tape, h.output, h.size, fun k hk hk' => h.block k hk fun e => hk' (hs k e.symm)⟩
theorem Fr.at_ {S : List Nat} {w w' : World} (h : Fr S w w') {g : Nat} {o : Obj} (hg : w.heap[g]? = some o) (hs : g ∉ S) : w'.heap[g]? = some o := by
  have hlt : g < w.heap.size := by
    rcases Nat.lt_or_ge g w.heap.size with hlt | hge
    · exact hlt
    · rw [Array.getElem?_eq_none hge] at hg; cases hg
  exact (h.block g hlt hs).trans hg
/-- A number's low bytes, put from a place on. -/
def putV (l : List Int) (a : Nat) (x : Int) : Nat → List Int
  | 0 => l
  | n + 1 => (putV l a x n).set (a + n) (x / 256 ^ n % 256)
theorem putV_len (l : List Int) (a : Nat) (x : Int) (n : Nat) : (putV l a x n).length = l.length := by
  induction n with
  | zero => rfl
  | succ n ih => simp [putV, ih]
theorem u8s_set (l : List Int) (i : Nat) (v : Int) : (u8s l).toArray.setIfInBounds i (.int .u8 v) = (u8s (l.set i v)).toArray := by
  simp [u8s]
theorem u8s_at (l : List Int) (i : Nat) (h : i < l.length) : (u8s l).toArray[i]? = some (.int .u8 (l.getD i 0)) := by
  simp [u8s, h]
set_option maxHeartbeats 800000 in
theorem mput_any (p N q a n : Nat) (x : Int) (l : List Int) (w : World) (hn : n ≤ 8) (ha : a + n ≤ N) (hl : l.length = N) (hN : N ≤ 4194304) (h0 : 0 ≤ x) (h1 : x < 18446744073709551616) (hpq : p ≠ q) (hp : p < w.heap.size)
    (hx : w.cell? ⟨p, 0, none⟩ = some (.slice (some ⟨q, 0, none⟩) N N)) (hm : w.heap[q]? = some (.cells (u8s l).toArray 5)) :
    Calls Tryd.prog 59 #[.pointer (some ⟨p, 0, none⟩), .int .u64 a, .int .u64 n, .int .u64 x] w fun e w' => e = .returned (.tuple #[]) ∧ w'.heap[q]? = some (.cells (u8s (putV l a x n)).toArray 5) ∧ Fr [q] w w' ∧ w'.heap.size = w.heap.size := by
  have Hm := Lib.hid hm; clear hm
  have Hx := Lib.hid hx; clear hx
  go_enter Tryd.func59, Tryd.ntmps59
  go_wp2
  go_loopw [10] (fun k wr => ∃ j : Nat, j ≤ n ∧ k = .int .u64 j ∧ wr.heap[q]? = some (.cells (u8s (putV l a x j)).toArray 5) ∧ Fr [q] w wr ∧ wr.heap.size = w.heap.size) (fun k _ => n - (intOf k).toNat)
  case atStart => exact ⟨0, Nat.zero_le _, rfl, Hm.out, Fr.refl _ _, rfl⟩
  case round =>
    obtain ⟨j, hj, rfl, hq, hf, hs⟩ := hrel
    have hpx : wr.cell? ⟨p, 0, none⟩ = some (.slice (some ⟨q, 0, none⟩) N N) := by
      rw [← Hx.out]; exact World.cell?_of_block (hf.block p hp (by simpa using hpq))
    by_cases hlt : j < n
    · have hc : wr.cell? ⟨q, a + j, none⟩ = some (.int .u8 ((putV l a x j).getD (a + j) 0)) := by rw [cell_of_row wr _ (a + j) _ _ _ hq]; exact u8s_at _ _ (by rw [putV_len]; omega)
      have hfr : wr.frozen? ⟨q, a + j, none⟩ = false := frozen_of_row wr _ (a + j) _ _ hq
      generalize (putV l a x j).getD (a + j) 0 = old at *
      have Hq := Lib.hid hq; clear hq
      have Hs := Lib.hid hs; clear hs
      go_wp2
      go_roundw
      case rel => exact ⟨j + 1, by omega, by go_num, by
          rw [heap_setCell_same _ _ _ _ _ _ Hq.out, u8s_set, putV, show (256 : Int) ^ j = 2 ^ (8 * j) by rw [Int.pow_mul]; rfl], hf.trans (Fr.set _ _ _ _ (by simp)), by simp [World.setCell]; exact Hs.out⟩
      case measure => simp [intOf]; omega
    · obtain rfl : j = n := by omega
      have Hq := Lib.hid hq; clear hq
      have Hs := Lib.hid hs; clear hs
      go_wp2
      go_end0
      exact ⟨rfl, Hq.out, hf, Hs.out⟩
end Go.Proofs.YtppcbommaddkgaaDoor
