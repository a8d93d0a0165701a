/- The state of a run of package mach in memory, and what keeps it; registers set, operations done. Conditions: each theorem's. -/
import Derived.Test.YtoehfncgkkfdeaaDoorMachB
import Derived.Deep.RegionLaw
namespace Go.Proofs.YtoehfncgkkfdeaaDoor
open Go.RowKit Go.Maps
set_option linter.unusedVariables false
set_option linter.unusedSimpArgs false
set_option maxRecDepth 10000
open Pm Pc Pl
namespace Pm
/-- A load or a store: place, address, size, whether it is a store. -/
structure Ac where
  pl : Int
  at_ : Int
  n : Int
  wr : Bool
/-- What a run has beside its machine. -/
structure Ru where
  out : List Int
  steps : Nat
  checks : Nat
  inp : List Int
  wat : Bool
  seen : List Ac
def accs (l : List Ac) : List Value := l.flatMap fun a => [.int .u64 a.pl, .int .u64 a.at_, .int .i64 a.n, .bool a.wr]
theorem accs_len (l : List Ac) : (accs l).length = l.length * 4 := by
  induction l with
  | nil => rfl
  | cons a l ih => simp [accs] at ih ⊢; omega
def Ma.reg (m : Ma) (r : Nat) : Int := m.x.getD r 0
def Ma.set (m : Ma) (r : Nat) (v : Int) : Ma := if 0 < r then { m with x := m.x.set r v } else m
end Pm
/-- What is left of the input. -/
def InpIs (w : World) (base p q : Nat) (A : Option Addr) (xs : List Int) : Prop :=
  (∀ i : Nat, 0 ≤ xs.getD i 0 ∧ xs.getD i 0 < 256) ∧ (0 < xs.length → ∃ ib off, A = some ⟨ib, off, none⟩ ∧ ib < base ∧ ib ≠ p ∧ ib ≠ q ∧ ∀ j, j < xs.length → w.cell? ⟨ib, off + j, none⟩ = some (.int .u8 (xs.getD j 0)))
def runC (p mb : Nat) (R : Ru) (ov sv : Value) (A : Option Addr) (c : Nat) : Array Value :=
  #[.pointer (some ⟨p, 0, none⟩), .int .i64 0, .int .u8 0, .int .i64 0, ov, .int .i64 R.steps, .int .i64 R.checks, .slice A R.inp.length c, .map (some mb), .bool R.wat, sv]
/-- A run in memory: its block, what it puts out, what it saw, what is left of its input, the words that it knows. -/
structure RunIs (w : World) (base p q rb : Nat) (R : Ru) (ov sv : Value) (A : Option Addr) (c mb cnt : Nat) (D : DataW Unit) : Prop where
  blk : w.heap[rb]? = some (.cells (runC p mb R ov sv A c) 69)
  out : w.ownsRow base 5 1 ov R.out.length (u8s R.out)
  seen : w.ownsRow base 81 4 sv R.seen.length (accs R.seen)
  inp : InpIs w base p q A R.inp
  map : w.ownsMap Tryd.prog 77 instrR mb cnt D
  mok : MapOk D
  lrb : base ≤ rb
  lmb : base ≤ mb
theorem lt_of_at {w : World} {g : Nat} {o : Obj} (hg : w.heap[g]? = some o) : g < w.heap.size := by
  rcases Nat.lt_or_ge g w.heap.size with hlt | hge
  · exact hlt
  · rw [Array.getElem?_eq_none hge] at hg; cases hg
theorem ownsRow_at {w w' : World} {base size n : Nat} {e : TypeId} {v : Value} {xs : List Value} (h : w.ownsRow base e size v n xs) (hk : ∀ g o, base ≤ g → w.heap[g]? = some o → w'.heap[g]? = some o) : w'.ownsRow base e size v n xs := by
  obtain ⟨hl, h⟩ := h
  refine ⟨hl, ?_⟩
  rcases h with h | ⟨g, cap, cur, h1, h2, h3, h4⟩
  · exact .inl h
  · exact .inr ⟨g, cap, cur, h1, h2, hk g _ h2 h3, h4⟩
theorem InpIs.at_ {w w' : World} {base p q : Nat} {A : Option Addr} {xs : List Int} (h : InpIs w base p q A xs) (hk : ∀ g, g < w.heap.size → g < base → g ≠ p → g ≠ q → w'.heap[g]? = w.heap[g]?) : InpIs w' base p q A xs := by
  refine ⟨h.1, fun h0 => ?_⟩
  obtain ⟨ib, off, h1, h2, h3, h4, h5⟩ := h.2 h0
  refine ⟨ib, off, h1, h2, h3, h4, fun j hj => ?_⟩
  have hc := h5 j hj
  have hlt := World.block_lt_of_cell? w _ hc
  rw [← hc]
  exact World.cell?_of_block (hk ib hlt h2 h3 h4)
/-- Blocks below a base that are neither of two stay. -/
structure Fb (base p q : Nat) (w w' : World) : Prop where
  os : w'.os = w.os
  tape : w'.tape = w.tape
  output : w'.output = w.output
  size : w.heap.size ≤ w'.heap.size
  block : ∀ k, k < w.heap.size → k < base → k ≠ p → k ≠ q → w'.heap[k]? = w.heap[k]?
theorem Fb.refl (base p q : Nat) (w : World) : Fb base p q w w := ⟨rfl, rfl, rfl, Nat.le_refl _, fun _ _ _ _ _ => rfl⟩
theorem Fb.trans {base p q : Nat} {a b c : World} (h : Fb base p q a b) (g : Fb base p q b c) : Fb base p q a c :=
  ⟨g.os.trans h.os, g.tape.trans h.tape, g.output.trans h.output, Nat.le_trans h.size g.size, fun k hk hb hp hq => (g.block k (Nat.lt_of_lt_of_le hk h.size) hb hp hq).trans (h.block k hk hb hp hq)⟩
theorem Fb.of {base p q : Nat} {S : List Nat} {w w' : World} (h : Fr S w w') (hS : ∀ k ∈ S, k < base → k = p ∨ k = q) : Fb base p q w w' :=
  ⟨h.os, h.tape, h.output, h.size, fun k hk hb hp hq => h.block k hk fun hs => by rcases hS k hs hb with e | e; exact hp e; exact hq e⟩
/-- A change of the machine's blocks alone keeps the run. -/
theorem RunIs.keep {w w' : World} {base p q rb : Nat} {R : Ru} {ov sv : Value} {A : Option Addr} {c mb cnt : Nat} {D : DataW Unit} (h : RunIs w base p q rb R ov sv A c mb cnt D) (hp : p < base) (hq : q < base) (hf : Fr [p, q] w w') : RunIs w' base p q rb R ov sv A c mb cnt D := by
  have hk : ∀ g o, base ≤ g → w.heap[g]? = some o → w'.heap[g]? = some o := fun g o hg h => hf.at_ h (by simp; omega)
  exact ⟨hk _ _ h.lrb h.blk, ownsRow_at h.out hk, ownsRow_at h.seen hk, h.inp.at_ fun g hg hb h1 h2 => hf.block g hg (by simp; exact ⟨h1, h2⟩), owns_at h.map fun o ho => hk _ _ h.lmb ho, h.mok, h.lrb, h.lmb⟩
theorem MachAt.keep {w w' : World} {p q : Nat} {m : Ma} {S : List Nat} (h : MachAt w p q m) (hf : Fr S w w') (hp : p ∉ S) (hq : q ∉ S) : MachAt w' p q m := ⟨hf.at_ h.1 hp, hf.at_ h.2 hq⟩
section
variable {w : World} {p q : Nat} {m : Ma}
theorem MachAt.c0 (h : MachAt w p q m) : w.cell? ⟨p, 0, none⟩ = some (.slice (some ⟨q, 0, none⟩) m.mem.length m.mem.length) := by rw [cell_of_row w _ 0 _ _ _ h.1]; rfl
theorem MachAt.cx (h : MachAt w p q m) (hl : m.x.length = 32) {k : Nat} (hk : k < 32) : w.cell? ⟨p, 1 + k, none⟩ = some (.int .u64 (m.reg k)) := by
  rw [cell_of_row w _ (1 + k) _ _ _ h.1, Nat.add_comm]
  simp [Ma.cells, u64s, List.getElem?_append, hl, hk, Ma.reg]
theorem MachAt.cpl (h : MachAt w p q m) (hl : m.x.length = 32) : w.cell? ⟨p, 33, none⟩ = some (.int .u64 m.pl) := by
  rw [cell_of_row w _ 33 _ _ _ h.1]
  simp [Ma.cells, u64s, List.getElem?_append, hl]
theorem MachAt.cst (h : MachAt w p q m) (hl : m.x.length = 32) : w.cell? ⟨p, 34, none⟩ = some (.int .i64 m.st) := by
  rw [cell_of_row w _ 34 _ _ _ h.1]
  simp [Ma.cells, u64s, List.getElem?_append, hl]
theorem MachAt.ccd (h : MachAt w p q m) (hl : m.x.length = 32) : w.cell? ⟨p, 35, none⟩ = some (.int .u8 m.cd) := by
  rw [cell_of_row w _ 35 _ _ _ h.1]
  simp [Ma.cells, u64s, List.getElem?_append, hl]
theorem MachAt.fr (h : MachAt w p q m) (i : Nat) : w.frozen? ⟨p, i, none⟩ = false := frozen_of_row w _ i _ _ h.1
theorem MachAt.lp (h : MachAt w p q m) : p < w.heap.size := lt_of_at h.1
theorem MachAt.lq (h : MachAt w p q m) : q < w.heap.size := lt_of_at h.2
theorem cells_x (m : Ma) (q k : Nat) (v : Int) (hl : m.x.length = 32) (hk : k < 32) : (m.cells q).toArray.setIfInBounds (1 + k) (.int .u64 v) = (Ma.cells { m with x := m.x.set k v } q).toArray := by
  simp [Ma.cells, u64s, Nat.add_comm 1 k, List.set_append, hl, hk, List.map_set]
theorem cells_pl (m : Ma) (q : Nat) (v : Int) (hl : m.x.length = 32) : (m.cells q).toArray.setIfInBounds 33 (.int .u64 v) = (Ma.cells { m with pl := v } q).toArray := by
  simp [Ma.cells, u64s, List.set_append, hl]
theorem cells_st (m : Ma) (q : Nat) (v : Int) (hl : m.x.length = 32) : (m.cells q).toArray.setIfInBounds 34 (.int .i64 v) = (Ma.cells { m with st := v } q).toArray := by
  simp [Ma.cells, u64s, List.set_append, hl]
theorem cells_cd (m : Ma) (q : Nat) (v : Int) (hl : m.x.length = 32) : (m.cells q).toArray.setIfInBounds 35 (.int .u8 v) = (Ma.cells { m with cd := v } q).toArray := by
  simp [Ma.cells, u64s, List.set_append, hl]
theorem MachAt.setX (h : MachAt w p q m) (hl : m.x.length = 32) {k : Nat} (hk : k < 32) (hpq : p ≠ q) (v : Int) : MachAt (w.setCell ⟨p, 1 + k, none⟩ (.int .u64 v)) p q { m with x := m.x.set k v } :=
  ⟨by rw [heap_setCell_same _ _ _ _ _ _ h.1, cells_x m q k v hl hk], by rw [heap_setCell_other _ _ _ _ (by simpa using hpq.symm)]; exact h.2⟩
theorem MachAt.setPl (h : MachAt w p q m) (hl : m.x.length = 32) (hpq : p ≠ q) (v : Int) : MachAt (w.setCell ⟨p, 33, none⟩ (.int .u64 v)) p q { m with pl := v } :=
  ⟨by rw [heap_setCell_same _ _ _ _ _ _ h.1, cells_pl m q v hl], by rw [heap_setCell_other _ _ _ _ (by simpa using hpq.symm)]; exact h.2⟩
theorem MachAt.setSt (h : MachAt w p q m) (hl : m.x.length = 32) (hpq : p ≠ q) (v : Int) : MachAt (w.setCell ⟨p, 34, none⟩ (.int .i64 v)) p q { m with st := v } :=
  ⟨by rw [heap_setCell_same _ _ _ _ _ _ h.1, cells_st m q v hl], by rw [heap_setCell_other _ _ _ _ (by simpa using hpq.symm)]; exact h.2⟩
theorem MachAt.setCd (h : MachAt w p q m) (hl : m.x.length = 32) (hpq : p ≠ q) (v : Int) : MachAt (w.setCell ⟨p, 35, none⟩ (.int .u8 v)) p q { m with cd := v } :=
  ⟨by rw [heap_setCell_same _ _ _ _ _ _ h.1, cells_cd m q v hl], by rw [heap_setCell_other _ _ _ _ (by simpa using hpq.symm)]; exact h.2⟩
end
/-- The world with a register as told. -/
def setW (w : World) (p k : Nat) (v : Int) : World := if 0 < k then w.setCell ⟨p, 1 + k, none⟩ (.int .u64 v) else w
theorem MachAt.setW {w : World} {p q : Nat} {m : Ma} (h : MachAt w p q m) (hl : m.x.length = 32) {k : Nat} (hk : k < 32) (hpq : p ≠ q) (v : Int) : MachAt (setW w p k v) p q (m.set k v) := by
  unfold Go.Proofs.YtoehfncgkkfdeaaDoor.setW Ma.set
  by_cases h0 : 0 < k
  · rw [if_pos h0, if_pos h0]; exact h.setX hl hk hpq v
  · rw [if_neg h0, if_neg h0]; exact h
theorem fr_setW (w : World) (p k : Nat) (v : Int) : Fr [p] w (setW w p k v) := by
  unfold setW
  split
  · exact Fr.set _ _ _ _ (by simp)
  · exact Fr.refl _ _
theorem set_any {w : World} {p q : Nat} {m : Ma} (h : MachAt w p q m) (hl : m.x.length = 32) {k : Nat} (hk : k < 32) (v : Int) :
    Calls Tryd.prog 19 #[.pointer (some ⟨p, 0, none⟩), .int .i64 k, .int .u64 v] w fun e w' => e = .returned (.tuple #[]) ∧ w' = setW w p k v := by
  by_cases h0 : 0 < k
  · refine (set_in p k v _ w h0 hk (h.cx hl hk) (h.fr _)).mono ?_
    rintro e w' ⟨rfl, rfl⟩
    exact ⟨rfl, by unfold setW; rw [if_pos h0]⟩
  · obtain rfl : k = 0 := by omega
    go_enter Tryd.func19, Tryd.ntmps19
    go_wp2
    go_end0
    exact ⟨rfl, by unfold setW; rw [if_neg (by omega)]⟩
theorem regs_any {w : World} {p q : Nat} {m : Ma} (h : MachAt w p q m) (hl : m.x.length = 32) {k : Nat} (hk : k < 32) :
    Calls Tryd.prog 24 #[.pointer (some ⟨p, 0, none⟩), .int .i64 k] w fun e w' => e = .returned (.int .u64 (m.reg k)) ∧ w = w' := reg_in p k _ w hk (h.cx hl hk)
theorem operate_any {w : World} {p q rb : Nat} {m : Ma} (op : Int) (k : Nat) (a b : Int) (h : MachAt w p q m) (hl : m.x.length = 32) (hk : k < 32) (h1 : 1 ≤ op) (h2 : op ≤ 27) (ha : 0 ≤ a ∧ a < 18446744073709551616) (hb : 0 ≤ b ∧ b < 18446744073709551616)
    (c0 : w.cell? ⟨rb, 0, none⟩ = some (.pointer (some ⟨p, 0, none⟩))) :
    Calls Tryd.prog 42 #[.pointer (some ⟨rb, 0, none⟩), .int .i64 op, .int .i64 k, .int .u64 a, .int .u64 b] w fun e w' => e = .returned (.tuple #[]) ∧ w' = setW w p k (opV op a b) := by
  go_enter Tryd.func42, Tryd.ntmps42
  go_wp2_with (first | (go_at_call 55; refine (doAnyC op a b _ h1 h2 ha.1 ha.2 hb.1 hb.2).mono ?_; rintro e w1 ⟨rfl, rfl⟩) | (go_at_call 19; refine (set_any h hl hk _).mono ?_; rintro e w1 ⟨rfl, rfl⟩))
  go_end0
  exact ⟨rfl, rfl⟩
end Go.Proofs.YtoehfncgkkfdeaaDoor
