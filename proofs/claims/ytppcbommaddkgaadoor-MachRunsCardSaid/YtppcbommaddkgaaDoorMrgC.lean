/- A run of package mach: its block, what it knows of words; the instruction at the place. Conditions: each theorem's. The state of a run of package mach in memory, and what keeps it; registers set, operations done. Conditions: each theorem's. -/
import Derived.Test.YtppcbommaddkgaaDoorMrgB
import Derived.Test.YtppcbommaddkgaaDoorCodeDec
import Derived.Test.YtppcbommaddkgaaDoorCodeRencH
import Derived.Deep.QuietTactic
import Derived.BigQuiet
import Derived.Maps.OwnSet
import Derived.StillTailTactics
import Derived.Deep.RegionLaw
namespace Go.Proofs.YtppcbommaddkgaaDoor
open Go.RowKit Go.Maps
set_option linter.unusedVariables false
set_option linter.unusedSimpArgs false
set_option maxRecDepth 10000
open Pm Pc
/-- How an instruction reads. -/
def instrR : Value → Option (DataW Unit × List MemPlace)
  | .agg cs => match cs.toList with
    | [.int .i64 a, .int .i64 b, .int .i64 c, .int .i64 d, .int .i64 e] => some (.agg [.lit (.int .i64 a), .lit (.int .i64 b), .lit (.int .i64 c), .lit (.int .i64 d), .lit (.int .i64 e)], [])
    | _ => none
  | _ => none
abbrev instrD (a b c d e : Int) : DataW Unit := .agg [.lit (.int .i64 a), .lit (.int .i64 b), .lit (.int .i64 c), .lit (.int .i64 d), .lit (.int .i64 e)]
theorem instrR_mk (a b c d e : Int) : instrR (ins a b c d e) = some (instrD a b c d e, []) := rfl
theorem instrR_inv {v : Value} {a b c d e : Int} {ps : List MemPlace} (h : instrR v = some (instrD a b c d e, ps)) : v = ins a b c d e := by
  unfold instrR at h
  split at h
  · rename_i cs
    split at h
    · rename_i x1 x2 x3 x4 x5 hl
      simp at h
      obtain ⟨⟨rfl, rfl, rfl, rfl, rfl⟩, -⟩ := h
      obtain ⟨cs⟩ := cs
      simp at hl
      rw [hl]
    · cases h
  · cases h
theorem lawU32 : Keyed Tryd.prog 77 := int_keyed Tryd.underlying77
/-- A word's instruction, of one that has any. -/
def decD (u : Int) : DataW Unit := instrD (findOp u) (dRd (rowOf (findOp u)).1 u) (dR1 (rowOf (findOp u)).1 u) (dR2 (rowOf (findOp u)).1 u) (dI (rowOf (findOp u)).1 u)
def decV (u : Int) : Value := ins (findOp u) (dRd (rowOf (findOp u)).1 u) (dR1 (rowOf (findOp u)).1 u) (dR2 (rowOf (findOp u)).1 u) (dI (rowOf (findOp u)).1 u)
def MapOk (D : DataW Unit) : Prop := IsMap D ∧ ∀ u : Int, 0 ≤ u → u < 4294967296 → has D (.int .u32 u) = true → findOp u ≠ 0 ∧ ∀ z, D.atKey (.int .u32 u) z = decD u
theorem MapOk.put {D : DataW Unit} (h : MapOk D) (u : Int) (hf : findOp u ≠ 0) : MapOk (D.put (.int .u32 u) (decD u)) := by
  refine ⟨?_, fun v v0 v1 hv => ?_⟩
  · exact h.1.put _ _
  · by_cases e : v = u
    · subst e
      exact ⟨hf, fun z => atKey_put_same h.1 (by simp [WideAt.IsKeyLit]) _ _⟩
    · have hne : Lit.int .u32 v ≠ Lit.int .u32 u := by simpa using e
      rw [has_put_other hne] at hv
      obtain ⟨h1, h2⟩ := h.2 v v0 v1 hv
      exact ⟨h1, fun z => by rw [atKey_put_other hne]; exact h2 z⟩
theorem zeroInstr (w : World) : (zeroValue 49).run Tryd.prog w = .ok (ins 0 0 0 0 0) w := by kernel_rfl
theorem wfU32 {n : Int} (h : 0 ≤ n ∧ n < 4294967296) : (Lit.int .u32 n).wf = true := by
  simp [Lit.wf, IntKind.min, IntKind.max, IntKind.signed, IntKind.bits]
  omega
theorem words_in {u : Int} {b n : Nat} {w : World} {D : DataW Unit} (h0 : 0 ≤ u) (h1 : u < 4294967296) (hown : w.ownsMap Tryd.prog 77 instrR b n D) (hD : MapOk D) (hh : has D (.int .u32 u) = true) :
    (Instr.lookup 67 (.map (some b)) (.int .u32 u) true).run Tryd.prog w = .ok (.tuple #[decV u, .bool true]) w := by
  obtain ⟨v, ps, hr, hv⟩ := hown.look_ok lawU32 Tryd.underlying67 (zeroInstr w) (instrR_mk 0 0 0 0 0) (keyOf_int_mk Tryd.underlying77 (wfU32 ⟨h0, h1⟩))
  rw [(hD.2 u h0 h1 hh).2] at hv
  rw [hr, instrR_inv hv, hh]
  rfl
theorem atKey_of_no {D : DataW Unit} {k : Lit} {z : DataW Unit} (h : has D k = false) : D.atKey k z = z := by
  cases D with
  | map es =>
    have hn : es.find? (fun p => p.1.sameKey k) = none := by
      rw [List.find?_eq_none]
      intro p hp hs
      have : es.any (fun p => p.1.sameKey k) = true := List.any_eq_true.2 ⟨p, hp, hs⟩
      rw [has_eq] at h
      rw [this] at h
      cases h
    simp [DataW.atKey, hn]
  | _ => rfl
theorem words_out {u : Int} {b n : Nat} {w : World} {D : DataW Unit} (h0 : 0 ≤ u) (h1 : u < 4294967296) (hown : w.ownsMap Tryd.prog 77 instrR b n D) (hh : has D (.int .u32 u) = false) :
    (Instr.lookup 67 (.map (some b)) (.int .u32 u) true).run Tryd.prog w = .ok (.tuple #[ins 0 0 0 0 0, .bool false]) w := by
  obtain ⟨v, ps, hr, hv⟩ := hown.look_ok lawU32 Tryd.underlying67 (zeroInstr w) (instrR_mk 0 0 0 0 0) (keyOf_int_mk Tryd.underlying77 (wfU32 ⟨h0, h1⟩))
  rw [atKey_of_no hh] at hv
  rw [hr, instrR_inv hv, hh]
theorem below_at {w w' : World} (h : Below w.heap.size w w') {g : Nat} {o : Obj} (hg : w.heap[g]? = some o) : w'.heap[g]? = some o := (Fr.below (S := []) h).at_ hg (by simp)
set_option maxHeartbeats 1000000 in
theorem instr_out (rb p N mb : Nat) (q : Option Addr) (pl : Int) (w : World) (h0 : 0 ≤ pl) (h1 : pl < 18446744073709551616) (hN : N ≤ 4194304) (hh : Hid (hasB pl 4 N = false))
    (c0 : w.cell? ⟨rb, 0, none⟩ = some (.pointer (some ⟨p, 0, none⟩))) (c1 : w.cell? ⟨p, 0, none⟩ = some (.slice q N N)) (c2 : w.cell? ⟨p, 33, none⟩ = some (.int .u64 pl)) :
    Calls Tryd.prog 40 #[.pointer (some ⟨rb, 0, none⟩)] w fun e w' => e = .returned (.tuple #[ins 0 0 0 0 0, .bool false]) ∧ Below w.heap.size w w' := by
  have l0 := World.block_lt_of_cell? w _ c0
  have l1 := World.block_lt_of_cell? w _ c1
  simp only at l0 l1
  go_enter Tryd.func40, Tryd.ntmps40
  go_wp2_with fail
  have hb0 : Below w.heap.size w (w.alloc (insB 0 0 0 0 0)) := (Below.refl _ _).alloc (Nat.le_refl _) _
  have z0 : (w.alloc (insB 0 0 0 0 0)).heap[w.heap.size]? = some (insB 0 0 0 0 0) := heap_alloc_new w _
  have c0' : (w.alloc (insB 0 0 0 0 0)).cell? ⟨rb, 0, none⟩ = some (.pointer (some ⟨p, 0, none⟩)) := (hb0.cell (p := ⟨rb, 0, none⟩) l0).trans c0
  have c1' : (w.alloc (insB 0 0 0 0 0)).cell? ⟨p, 0, none⟩ = some (.slice q N N) := (hb0.cell (p := ⟨p, 0, none⟩) l1).trans c1
  have c2' : (w.alloc (insB 0 0 0 0 0)).cell? ⟨p, 33, none⟩ = some (.int .u64 pl) := (hb0.cell (p := ⟨p, 33, none⟩) l1).trans c2
  clear c0 c1 c2 l0 l1
  have Z0 := Lib.hid z0; clear z0
  generalize w.alloc (insB 0 0 0 0 0) = X at *
  have q1 : ∀ n : Nat, (X.drewN n).cell? ⟨p, 0, none⟩ = some (.slice q N N) := fun _ => c1'
  go_quiet ((go_at_call 52; with_reducible refine (has_any p N q pl 4 _ h0 h1 (by omega) hN (q1 _)).mono ?_; rintro e w9 ⟨rfl, rfl⟩; exact ⟨rfl, _, rfl⟩))
  rw [hh.out]
  go_wp2_with (refine wpList_store_row (o := ⟨none, _, _, _, _, _⟩) rfl 49 (.tmp 2) (.tmp 22) rfl w.heap.size #[.int .i64 0, .int .i64 0, .int .i64 0, .int .i64 0, .int .i64 0] rfl rfl 49 _ Z0.out sizeInstr rfl (ins_one _ _ _ _ _) ?_)
  exact bodyPost_ret (v := .tuple #[ins 0 0 0 0 0, .bool false]) (res_cell_tmp Tryd.results40 _ _ w.heap.size 49 _ (0, 0) _ _ rfl rfl (setRow_heap _ w.heap.size _ _ _ _ Z0.out) Tryd.underlying49 rfl sizeInstr) rfl ⟨rfl, below_setRow (belowQ _ hb0) (Nat.le_refl _) _⟩

theorem take_4 (p N q a : Nat) (l : List Int) (w : World) (ha : a + 4 ≤ N) (hl : l.length = N) (hN : N ≤ 4194304) (hb : ∀ i : Nat, 0 ≤ l.getD i 0 ∧ l.getD i 0 < 256)
    (hx : w.cell? ⟨p, 0, none⟩ = some (.slice (some ⟨q, 0, none⟩) N N)) (hm : ∀ i : Nat, i < N → w.cell? ⟨q, i, none⟩ = some (.int .u8 (l.getD i 0))) :
    Calls Tryd.prog 53 #[.pointer (some ⟨p, 0, none⟩), .int .u64 a, .int .u64 4] w fun e w' => e = .returned (.int .u64 (getV l a 4)) ∧ w = w' := take_any p N q a 4 l w (by omega) ha hl hN hb hx hm
theorem owns_at {w w' : World} {b n : Nat} {D : DataW Unit} (h : w.ownsMap Tryd.prog 77 instrR b n D) (hk : ∀ o, w.heap[b]? = some o → w'.heap[b]? = some o) : w'.ownsMap Tryd.prog 77 instrR b n D := by
  obtain ⟨es, clock, hb, r⟩ := h
  exact ⟨es, clock, hk _ hb, r⟩
theorem decPost_0 {u : Int} {w w' : World} {e : Ending} (hf : findOp u = 0) (h : DecPost u w e w') : e = .returned (.tuple #[ins 0 0 0 0 0, .int .i64 2]) ∧ Below w.heap.size w w' := by
  unfold DecPost at h; simpa [hf] using h
theorem decPost_1 {u : Int} {w w' : World} {e : Ending} (hf : findOp u ≠ 0) (h : DecPost u w e w') : e = .returned (.tuple #[decV u, .int .i64 0]) ∧ Below w.heap.size w w' := by
  unfold DecPost at h; simpa [hf, decV] using h
theorem map_ne {w : World} {b n g : Nat} {D : DataW Unit} {cs : Array Value} {t : TypeId} {fr : Nat × Nat} (h : w.ownsMap Tryd.prog 77 instrR b n D) (hg : w.heap[g]? = some (.cells cs t fr)) : g ≠ b := by
  rintro rfl
  obtain ⟨es, clock, hb, r⟩ := h
  rw [hb] at hg
  cases hg
theorem grown_at {w w' : World} {b n g : Nat} {D : DataW Unit} {cs : Array Value} {t : TypeId} {fr : Nat × Nat} (hgr : w.grownBy w' (some b)) (h : w.ownsMap Tryd.prog 77 instrR b n D) (hg : w.heap[g]? = some (.cells cs t fr)) : w'.heap[g]? = some (.cells cs t fr) :=
  (Fr.grown (S := [b]) hgr (by simp)).at_ hg (by simpa using map_ne h hg)
theorem Fr.trans' {S : List Nat} {a b c : World} (h : Fr S a b) (g : Below a.heap.size b c) : Fr S a c :=
  ⟨g.os.trans h.os, g.tape.trans h.tape, g.output.trans h.output, Nat.le_trans h.size g.size, fun k hk hs => (g.block k hk).trans (h.block k hk hs)⟩
theorem Fr.setRow_new {S : List Nat} {w x : World} (h : Fr S w x) {g : Nat} (hg : w.heap.size ≤ g) (cs : Array Value) : Fr S w (x.setRow g cs) :=
  h.trans' ⟨rfl, rfl, rfl, by simp, fun k hk => setRow_other x g k cs (by omega)⟩
theorem wpStill_load_row {P : Program} {ops : Array Oper} {w : World} {Q : Act → Prop} {rest : List Oper} {a : Act} {o : Oper} (hw : Region.wanted o (yielded ops a.tmps) = true) (ty : TypeId) (x : Operand) (ho : o.op = .load ty x)
    (g : Nat) (hx : a.eval x = .pointer (some ⟨g, 0, none⟩)) (t : TypeId) (cs : Array Value) (fr : Nat × Nat) (d : TypeDesc) (hg : w.heap[g]? = some (.cells cs t fr))
    (hu : P.underlying ty = some d) (hd : (match d with | .struct _ | .array _ _ => true | _ => false) = true) (hi : (P.info? ty).map (·.size) = some cs.size)
    (h : wpStill P ops w Q rest (a.put o.dst (.agg cs))) : wpStill P ops w Q (o :: rest) a := by
  refine wpStill_step fun K hK => ?_
  rw [if_pos hw]
  unfold Oper.still execOp
  simp only [ho, hx, Instr.loadAt, Instr.sureAddr, Sem.run_bind, Sem.run_pure, Result.andThen_ok, run_loadVar_row w g t ty cs fr d hg hu hd hi]
  exact ⟨rfl, hK _ h⟩
/-- A word that wasn't known comes to be. -/
def InstrNew (w : World) (mb cnt : Nat) (D : DataW Unit) (u : Int) (e : Ending) (w' : World) : Prop :=
  e = .returned (.tuple #[decV u, .bool true]) ∧ w'.ownsMap Tryd.prog 77 instrR mb (cnt + 1) (D.put (.int .u32 u) (decD u)) ∧ Fr [mb] w w'
theorem instrNew_mk {w w' : World} {mb cnt : Nat} {D : DataW Unit} {u A B C E F : Int} (hde : decV u = ins A B C E F) (ho : w'.ownsMap Tryd.prog 77 instrR mb (cnt + 1) (D.put (.int .u32 u) (decD u))) (hf : Fr [mb] w w') :
    InstrNew w mb cnt D u (.returned (.tuple #[ins A B C E F, .bool true])) w' := ⟨by rw [hde], ho, hf⟩
set_option maxHeartbeats 2000000 in
theorem instr_old (rb p N mb qb a cnt : Nat) (l : List Int) (D : DataW Unit) (u : Int) (w : World) (hN : N ≤ 4194304) (hl : l.length = N) (hb : ∀ i : Nat, 0 ≤ l.getD i 0 ∧ l.getD i 0 < 256) (ha : a + 4 ≤ N) (ha4 : a % 4 = 0) (hu : Hid (getV l a 4 = u))
    (c0 : w.cell? ⟨rb, 0, none⟩ = some (.pointer (some ⟨p, 0, none⟩))) (c1 : w.cell? ⟨p, 0, none⟩ = some (.slice (some ⟨qb, 0, none⟩) N N)) (c2 : w.cell? ⟨p, 33, none⟩ = some (.int .u64 a)) (c3 : w.cell? ⟨rb, 8, none⟩ = some (.map (some mb)))
    (hm : w.heap[qb]? = some (.cells (u8s l).toArray 5)) (hown : w.ownsMap Tryd.prog 77 instrR mb cnt D) (hD : MapOk D) (hh : has D (.int .u32 u) = true) :
    Calls Tryd.prog 40 #[.pointer (some ⟨rb, 0, none⟩)] w fun e w' => e = .returned (.tuple #[decV u, .bool true]) ∧ Below w.heap.size w w' := by
  have l0 := World.block_lt_of_cell? w _ c0
  have l1 := World.block_lt_of_cell? w _ c1
  simp only at l0 l1
  have hur := getV_range l hb 4 a
  rw [hu.out] at hur
  obtain ⟨A, B, C, E, F, hde⟩ : ∃ A B C E F : Int, decV u = ins A B C E F := ⟨_, _, _, _, _, rfl⟩
  rw [hde]
  have Hde := Lib.hid hde; clear hde
  go_enter Tryd.func40, Tryd.ntmps40
  go_wp2_with fail
  have hb0 : Below w.heap.size w (w.alloc (insB 0 0 0 0 0)) := (Below.refl _ _).alloc (Nat.le_refl _) _
  have z0 : (w.alloc (insB 0 0 0 0 0)).heap[w.heap.size]? = some (insB 0 0 0 0 0) := heap_alloc_new w _
  have c0' : (w.alloc (insB 0 0 0 0 0)).cell? ⟨rb, 0, none⟩ = some (.pointer (some ⟨p, 0, none⟩)) := (hb0.cell (p := ⟨rb, 0, none⟩) l0).trans c0
  have c3' : (w.alloc (insB 0 0 0 0 0)).cell? ⟨rb, 8, none⟩ = some (.map (some mb)) := (hb0.cell (p := ⟨rb, 8, none⟩) l0).trans c3
  have c1' : (w.alloc (insB 0 0 0 0 0)).cell? ⟨p, 0, none⟩ = some (.slice (some ⟨qb, 0, none⟩) N N) := (hb0.cell (p := ⟨p, 0, none⟩) l1).trans c1
  have c2' : (w.alloc (insB 0 0 0 0 0)).cell? ⟨p, 33, none⟩ = some (.int .u64 a) := (hb0.cell (p := ⟨p, 33, none⟩) l1).trans c2
  have HM := Lib.hid (show (w.alloc (insB 0 0 0 0 0)).heap[qb]? = some (.cells (u8s l).toArray 5) from below_at hb0 hm)
  have hown' := hown.alloc (insB 0 0 0 0 0)
  clear c0 c1 c2 c3 hm hown
  have Z0 := Lib.hid z0; clear z0
  have zs : w.heap.size < (w.alloc (insB 0 0 0 0 0)).heap.size := by simp
  generalize w.alloc (insB 0 0 0 0 0) = X at *
  have q1 : ∀ n : Nat, (X.drewN n).cell? ⟨p, 0, none⟩ = some (.slice (some ⟨qb, 0, none⟩) N N) := fun _ => c1'
  have qm : ∀ n i : Nat, i < N → (X.drewN n).cell? ⟨qb, i, none⟩ = some (.int .u8 (l.getD i 0)) := fun n i hi => by
    rw [cell_of_row (X.drewN n) _ i _ _ _ HM.out]; exact u8s_at _ _ (by omega)
  have Qm := Lib.hid qm; clear qm
  have Q1 := Lib.hid q1; clear q1
  have hhas : hasB a 4 N = true := by unfold hasB; simp; omega
  have HH := Lib.hid hhas; clear hhas
  have Hb := Lib.hid hb; clear hb
  have Hh := Lib.hid hh; clear hh
  have HO := Lib.hid hown'; clear hown'
  go_quiet ((go_at_call 52; with_reducible refine (has_any p N (some ⟨qb, 0, none⟩) a 4 _ (by omega) (by omega) (by omega) hN (Q1.out _)).mono ?_; rintro e w9 ⟨rfl, rfl⟩; exact ⟨rfl, _, rfl⟩))
  rw [HH.out]
  revert nq; intro k1
  go_wp2_with fail
  go_quiet ((go_at_call 53; with_reducible refine (take_4 p N qb a l _ ha hl hN Hb.out (Q1.out _) (Qm.out _)).mono ?_; rintro e w9 ⟨rfl, rfl⟩; exact ⟨rfl, _, rfl⟩))
  revert nq; intro k2
  rw [hu.out, Int.emod_eq_of_lt hur.1 (by omega)]
  have hY1 : Below w.heap.size w ((X.drewN k1).drewN k2) := belowQ _ (belowQ _ hb0)
  have hY2 := Lib.hid (show ((X.drewN k1).drewN k2).heap[w.heap.size]? = some (insB 0 0 0 0 0) from Z0.out)
  have hY3 : ((X.drewN k1).drewN k2).cell? ⟨rb, 0, none⟩ = some (.pointer (some ⟨p, 0, none⟩)) := c0'
  have hY4 : ((X.drewN k1).drewN k2).cell? ⟨rb, 8, none⟩ = some (.map (some mb)) := c3'
  have hlk := words_in hur.1 (by omega) (show ((X.drewN k1).drewN k2).ownsMap Tryd.prog 77 instrR mb cnt D from HO.out) hD Hh.out
  have hY5 : w.heap.size < ((X.drewN k1).drewN k2).heap.size := zs
  rw [Hde.out] at hlk
  clear c0' c1' c2' c3' Z0 hb0 HM Qm Q1 HH HO zs
  generalize (X.drewN k1).drewN k2 = Y at *
  go_wp2_with (refine wpList_store_row (o := ⟨none, _, _, _, _, _⟩) rfl 49 (.tmp 2) (.tmp 46) rfl w.heap.size #[.int .i64 A, .int .i64 B, .int .i64 C, .int .i64 E, .int .i64 F] rfl rfl 49 _ (below_at ((Below.refl _ _).alloc (Nat.le_refl _) _) hY2.out) sizeInstr rfl (ins_one _ _ _ _ _) ?_)
  exact bodyPost_ret (v := .tuple #[ins A B C E F, .bool true]) (res_cell_tmp Tryd.results40 _ _ w.heap.size 49 _ (0, 0) _ _ rfl rfl (setRow_heap _ w.heap.size _ _ _ _ (below_at ((Below.refl _ _).alloc (Nat.le_refl _) _) hY2.out)) Tryd.underlying49 rfl sizeInstr) rfl ⟨rfl, below_setRow (hY1.alloc hY1.size _) (Nat.le_refl _) _⟩
set_option maxHeartbeats 2000000 in
theorem instr_none (rb p N mb qb a cnt : Nat) (l : List Int) (D : DataW Unit) (u : Int) (w : World) (hN : N ≤ 4194304) (hl : l.length = N) (hb : ∀ i : Nat, 0 ≤ l.getD i 0 ∧ l.getD i 0 < 256) (ha : a + 4 ≤ N) (ha4 : a % 4 = 0) (hu : Hid (getV l a 4 = u))
    (c0 : w.cell? ⟨rb, 0, none⟩ = some (.pointer (some ⟨p, 0, none⟩))) (c1 : w.cell? ⟨p, 0, none⟩ = some (.slice (some ⟨qb, 0, none⟩) N N)) (c2 : w.cell? ⟨p, 33, none⟩ = some (.int .u64 a)) (c3 : w.cell? ⟨rb, 8, none⟩ = some (.map (some mb)))
    (hm : w.heap[qb]? = some (.cells (u8s l).toArray 5)) (hown : w.ownsMap Tryd.prog 77 instrR mb cnt D) (hD : MapOk D) (hh : has D (.int .u32 u) = false) (hfo : findOp u = 0) (hF : FormsIn w) :
    Calls Tryd.prog 40 #[.pointer (some ⟨rb, 0, none⟩)] w fun e w' => e = .returned (.tuple #[ins 0 0 0 0 0, .bool false]) ∧ Below w.heap.size w w' := by
  have l0 := World.block_lt_of_cell? w _ c0
  have l1 := World.block_lt_of_cell? w _ c1
  simp only at l0 l1
  have hur := getV_range l hb 4 a
  rw [hu.out] at hur
  have HFO := Lib.hid hfo; clear hfo
  go_enter Tryd.func40, Tryd.ntmps40
  go_wp2_with fail
  have hb0 : Below w.heap.size w (w.alloc (insB 0 0 0 0 0)) := (Below.refl _ _).alloc (Nat.le_refl _) _
  have z0 : (w.alloc (insB 0 0 0 0 0)).heap[w.heap.size]? = some (insB 0 0 0 0 0) := heap_alloc_new w _
  have c0' : (w.alloc (insB 0 0 0 0 0)).cell? ⟨rb, 0, none⟩ = some (.pointer (some ⟨p, 0, none⟩)) := (hb0.cell (p := ⟨rb, 0, none⟩) l0).trans c0
  have c3' : (w.alloc (insB 0 0 0 0 0)).cell? ⟨rb, 8, none⟩ = some (.map (some mb)) := (hb0.cell (p := ⟨rb, 8, none⟩) l0).trans c3
  have c1' : (w.alloc (insB 0 0 0 0 0)).cell? ⟨p, 0, none⟩ = some (.slice (some ⟨qb, 0, none⟩) N N) := (hb0.cell (p := ⟨p, 0, none⟩) l1).trans c1
  have c2' : (w.alloc (insB 0 0 0 0 0)).cell? ⟨p, 33, none⟩ = some (.int .u64 a) := (hb0.cell (p := ⟨p, 33, none⟩) l1).trans c2
  have HM := Lib.hid (show (w.alloc (insB 0 0 0 0 0)).heap[qb]? = some (.cells (u8s l).toArray 5) from below_at hb0 hm)
  have hown' := hown.alloc (insB 0 0 0 0 0)
  clear c0 c1 c2 c3 hm hown
  have Z0 := Lib.hid z0; clear z0
  have zs : w.heap.size < (w.alloc (insB 0 0 0 0 0)).heap.size := by simp
  generalize w.alloc (insB 0 0 0 0 0) = X at *
  have q1 : ∀ n : Nat, (X.drewN n).cell? ⟨p, 0, none⟩ = some (.slice (some ⟨qb, 0, none⟩) N N) := fun _ => c1'
  have qm : ∀ n i : Nat, i < N → (X.drewN n).cell? ⟨qb, i, none⟩ = some (.int .u8 (l.getD i 0)) := fun n i hi => by
    rw [cell_of_row (X.drewN n) _ i _ _ _ HM.out]; exact u8s_at _ _ (by omega)
  have Qm := Lib.hid qm; clear qm
  have Q1 := Lib.hid q1; clear q1
  have hhas : hasB a 4 N = true := by unfold hasB; simp; omega
  have HH := Lib.hid hhas; clear hhas
  have Hb := Lib.hid hb; clear hb
  have Hh := Lib.hid hh; clear hh
  have HO := Lib.hid hown'; clear hown'
  go_quiet ((go_at_call 52; with_reducible refine (has_any p N (some ⟨qb, 0, none⟩) a 4 _ (by omega) (by omega) (by omega) hN (Q1.out _)).mono ?_; rintro e w9 ⟨rfl, rfl⟩; exact ⟨rfl, _, rfl⟩))
  rw [HH.out]
  revert nq; intro k1
  go_wp2_with fail
  go_quiet ((go_at_call 53; with_reducible refine (take_4 p N qb a l _ ha hl hN Hb.out (Q1.out _) (Qm.out _)).mono ?_; rintro e w9 ⟨rfl, rfl⟩; exact ⟨rfl, _, rfl⟩))
  revert nq; intro k2
  rw [hu.out, Int.emod_eq_of_lt hur.1 (by omega)]
  have hY1 : Below w.heap.size w ((X.drewN k1).drewN k2) := belowQ _ (belowQ _ hb0)
  have hY2 := Lib.hid (show ((X.drewN k1).drewN k2).heap[w.heap.size]? = some (insB 0 0 0 0 0) from Z0.out)
  have hY3 : ((X.drewN k1).drewN k2).cell? ⟨rb, 0, none⟩ = some (.pointer (some ⟨p, 0, none⟩)) := c0'
  have hY4 : ((X.drewN k1).drewN k2).cell? ⟨rb, 8, none⟩ = some (.map (some mb)) := c3'
  have hlk := words_out hur.1 (by omega) (show ((X.drewN k1).drewN k2).ownsMap Tryd.prog 77 instrR mb cnt D from HO.out) Hh.out
  have hYo := Lib.hid (show ((X.drewN k1).drewN k2).ownsMap Tryd.prog 77 instrR mb cnt D from HO.out)
  have hY5 : w.heap.size < ((X.drewN k1).drewN k2).heap.size := zs
  clear c0' c1' c2' c3' Z0 hb0 HM Qm Q1 HH HO zs
  generalize (X.drewN k1).drewN k2 = Y at *
  go_wp2_with fail
  refine (decode_gen u _ hur.1 (by omega) (hF.keep (hY1.alloc hY1.size _) (Nat.le_refl _))).mono ?_
  intro e w3 hdp
  have hdp' := decPost_0 HFO.out hdp
  clear hdp
  obtain ⟨rfl, h3⟩ := hdp'
  have hZ3 := Lib.hid (below_at h3 (below_at ((Below.refl _ _).alloc (Nat.le_refl _) (insB 0 0 0 0 0)) hY2.out))
  have hB3 := (hY1.alloc hY1.size (insB 0 0 0 0 0)).trans (h3.mono (by simp only [szA]; omega))
  have hz3 : w.heap.size < w3.heap.size := by have := h3.size; simp only [szA] at this; omega
  clear h3 hY3 hY4 hlk hYo hY1 hY2
  go_wp2_with (refine wpList_store_row (o := ⟨none, _, _, _, _, _⟩) rfl 49 (.tmp 2) (.tmp 54) rfl w.heap.size #[.int .i64 0, .int .i64 0, .int .i64 0, .int .i64 0, .int .i64 0] rfl rfl 49 _ (below_at ((Below.refl _ _).alloc (Nat.le_refl _) _) hZ3.out) sizeInstr rfl (ins_one _ _ _ _ _) ?_)
  exact bodyPost_ret (v := .tuple #[ins 0 0 0 0 0, .bool false]) (res_cell_tmp Tryd.results40 _ _ w.heap.size 49 _ (0, 0) _ _ rfl rfl (setRow_heap _ w.heap.size _ _ _ _ (below_at ((Below.refl _ _).alloc (Nat.le_refl _) _) hZ3.out)) Tryd.underlying49 rfl sizeInstr) rfl ⟨rfl, below_setRow (hB3.alloc hB3.size _) (Nat.le_refl _) _⟩

set_option maxHeartbeats 2000000 in
theorem instr_new (rb p N mb qb a cnt : Nat) (l : List Int) (D : DataW Unit) (u : Int) (w : World) (hN : N ≤ 4194304) (hl : l.length = N) (hb : ∀ i : Nat, 0 ≤ l.getD i 0 ∧ l.getD i 0 < 256) (ha : a + 4 ≤ N) (ha4 : a % 4 = 0) (hu : Hid (getV l a 4 = u))
    (c0 : w.cell? ⟨rb, 0, none⟩ = some (.pointer (some ⟨p, 0, none⟩))) (c1 : w.cell? ⟨p, 0, none⟩ = some (.slice (some ⟨qb, 0, none⟩) N N)) (c2 : w.cell? ⟨p, 33, none⟩ = some (.int .u64 a)) (c3 : w.cell? ⟨rb, 8, none⟩ = some (.map (some mb)))
    (hm : w.heap[qb]? = some (.cells (u8s l).toArray 5)) (hown : w.ownsMap Tryd.prog 77 instrR mb cnt D) (hD : MapOk D) (hh : has D (.int .u32 u) = false) (hfo : findOp u ≠ 0) (hF : FormsIn w) (hcnt : cnt < 4611686018427387904) :
    Calls Tryd.prog 40 #[.pointer (some ⟨rb, 0, none⟩)] w fun e w' => InstrNew w mb cnt D u e w' := by
  have l0 := World.block_lt_of_cell? w _ c0
  have l1 := World.block_lt_of_cell? w _ c1
  simp only at l0 l1
  have hur := getV_range l hb 4 a
  rw [hu.out] at hur
  have HFO := Lib.hid hfo; clear hfo
  go_enter Tryd.func40, Tryd.ntmps40
  go_wp2_with fail
  have hb0 : Below w.heap.size w (w.alloc (insB 0 0 0 0 0)) := (Below.refl _ _).alloc (Nat.le_refl _) _
  have z0 : (w.alloc (insB 0 0 0 0 0)).heap[w.heap.size]? = some (insB 0 0 0 0 0) := heap_alloc_new w _
  have c0' : (w.alloc (insB 0 0 0 0 0)).cell? ⟨rb, 0, none⟩ = some (.pointer (some ⟨p, 0, none⟩)) := (hb0.cell (p := ⟨rb, 0, none⟩) l0).trans c0
  have c3' : (w.alloc (insB 0 0 0 0 0)).cell? ⟨rb, 8, none⟩ = some (.map (some mb)) := (hb0.cell (p := ⟨rb, 8, none⟩) l0).trans c3
  have c1' : (w.alloc (insB 0 0 0 0 0)).cell? ⟨p, 0, none⟩ = some (.slice (some ⟨qb, 0, none⟩) N N) := (hb0.cell (p := ⟨p, 0, none⟩) l1).trans c1
  have c2' : (w.alloc (insB 0 0 0 0 0)).cell? ⟨p, 33, none⟩ = some (.int .u64 a) := (hb0.cell (p := ⟨p, 33, none⟩) l1).trans c2
  have HM := Lib.hid (show (w.alloc (insB 0 0 0 0 0)).heap[qb]? = some (.cells (u8s l).toArray 5) from below_at hb0 hm)
  have hown' := hown.alloc (insB 0 0 0 0 0)
  clear c0 c1 c2 c3 hm hown
  have Z0 := Lib.hid z0; clear z0
  have zs : w.heap.size < (w.alloc (insB 0 0 0 0 0)).heap.size := by simp
  generalize w.alloc (insB 0 0 0 0 0) = X at *
  have q1 : ∀ n : Nat, (X.drewN n).cell? ⟨p, 0, none⟩ = some (.slice (some ⟨qb, 0, none⟩) N N) := fun _ => c1'
  have qm : ∀ n i : Nat, i < N → (X.drewN n).cell? ⟨qb, i, none⟩ = some (.int .u8 (l.getD i 0)) := fun n i hi => by
    rw [cell_of_row (X.drewN n) _ i _ _ _ HM.out]; exact u8s_at _ _ (by omega)
  have Qm := Lib.hid qm; clear qm
  have Q1 := Lib.hid q1; clear q1
  have hhas : hasB a 4 N = true := by unfold hasB; simp; omega
  have HH := Lib.hid hhas; clear hhas
  have Hb := Lib.hid hb; clear hb
  have Hh := Lib.hid hh; clear hh
  have HO := Lib.hid hown'; clear hown'
  go_quiet ((go_at_call 52; with_reducible refine (has_any p N (some ⟨qb, 0, none⟩) a 4 _ (by omega) (by omega) (by omega) hN (Q1.out _)).mono ?_; rintro e w9 ⟨rfl, rfl⟩; exact ⟨rfl, _, rfl⟩))
  rw [HH.out]
  revert nq; intro k1
  go_wp2_with fail
  go_quiet ((go_at_call 53; with_reducible refine (take_4 p N qb a l _ ha hl hN Hb.out (Q1.out _) (Qm.out _)).mono ?_; rintro e w9 ⟨rfl, rfl⟩; exact ⟨rfl, _, rfl⟩))
  revert nq; intro k2
  rw [hu.out, Int.emod_eq_of_lt hur.1 (by omega)]
  have hY1 : Below w.heap.size w ((X.drewN k1).drewN k2) := belowQ _ (belowQ _ hb0)
  have hY2 := Lib.hid (show ((X.drewN k1).drewN k2).heap[w.heap.size]? = some (insB 0 0 0 0 0) from Z0.out)
  have hY3 : ((X.drewN k1).drewN k2).cell? ⟨rb, 0, none⟩ = some (.pointer (some ⟨p, 0, none⟩)) := c0'
  have hY4 : ((X.drewN k1).drewN k2).cell? ⟨rb, 8, none⟩ = some (.map (some mb)) := c3'
  have hlk := words_out hur.1 (by omega) (show ((X.drewN k1).drewN k2).ownsMap Tryd.prog 77 instrR mb cnt D from HO.out) Hh.out
  have hYo := Lib.hid (show ((X.drewN k1).drewN k2).ownsMap Tryd.prog 77 instrR mb cnt D from HO.out)
  have hY5 : w.heap.size < ((X.drewN k1).drewN k2).heap.size := zs
  clear c0' c1' c2' c3' Z0 hb0 HM Qm Q1 HH HO zs
  generalize (X.drewN k1).drewN k2 = Y at *
  go_wp2_with fail
  refine (decode_gen u _ hur.1 (by omega) (hF.keep (hY1.alloc hY1.size _) (Nat.le_refl _))).mono ?_
  intro e w3 hdp
  have hdp' := decPost_1 HFO.out hdp
  clear hdp
  obtain ⟨rfl, h3⟩ := hdp'
  have hZ3 := Lib.hid (below_at h3 (below_at ((Below.refl _ _).alloc (Nat.le_refl _) (insB 0 0 0 0 0)) hY2.out))
  have hB3 := (hY1.alloc hY1.size (insB 0 0 0 0 0)).trans (h3.mono (by simp only [szA]; omega))
  obtain ⟨A, B, C, E, F, hde⟩ : ∃ A B C E F : Int, decV u = ins A B C E F := ⟨_, _, _, _, _, rfl⟩
  have hdd : instrR (ins A B C E F) = some (decD u, []) := by rw [← hde]; rfl
  rw [hde]
  have Hde := Lib.hid hde; clear hde
  have Hdd := Lib.hid hdd; clear hdd
  have hz3 : w.heap.size < w3.heap.size ∧ Y.heap.size < w3.heap.size := by have := h3.size; simp only [szA] at this; omega
  have hl3 := World.block_lt_of_cell? Y _ hY3
  simp only at hl3
  have hY3' : w3.cell? ⟨rb, 0, none⟩ = some (.pointer (some ⟨p, 0, none⟩)) := (h3.cell (p := ⟨rb, 0, none⟩) (by simp only [szA]; omega)).trans ((World.cell?_alloc_lt _ _ _ hl3).trans hY3)
  have hY4' : w3.cell? ⟨rb, 8, none⟩ = some (.map (some mb)) := (h3.cell (p := ⟨rb, 8, none⟩) (by simp only [szA]; omega)).trans ((World.cell?_alloc_lt _ _ _ hl3).trans hY4)
  have hO3 := owns_at (hYo.out.alloc (insB 0 0 0 0 0)) (fun _ h => below_at h3 h)
  have hml : rb < w3.heap.size := World.block_lt_of_cell? w3 _ hY3'
  have HO3 := Lib.hid hO3
  clear h3 hY3 hY4 hlk hYo hY1 hY2 hl3 hO3
  go_wp2_with fail
  have hR := heap_alloc_new w3 (insB A B C E F)
  have hZ4 := Lib.hid (below_at ((Below.refl _ _).alloc (Nat.le_refl _) (insB A B C E F)) hZ3.out)
  have hY5' : (w3.alloc (insB A B C E F)).cell? ⟨rb, 0, none⟩ = some (.pointer (some ⟨p, 0, none⟩)) := (World.cell?_alloc_lt _ _ _ hml).trans hY3'
  have hY6 : (w3.alloc (insB A B C E F)).cell? ⟨rb, 8, none⟩ = some (.map (some mb)) := (World.cell?_alloc_lt _ _ _ hml).trans hY4'
  have hB4 := hB3.alloc hB3.size (insB A B C E F)
  have hO4 := Lib.hid (HO3.out.alloc (insB A B C E F))
  have HR := Lib.hid hR
  have hne3 : ¬ w3.heap.size = rb := by omega
  clear hY3' hY4' hB3 hR HO3 hZ3
  generalize w3.heap.size = r3 at *
  generalize w3.alloc (insB A B C E F) = Z at *
  go_still_tail 6, (by kernel_rfl)
  refine wpStill_load_row rfl 49 (.tmp 7) rfl r3 rfl 49 #[.int .i64 A, .int .i64 B, .int .i64 C, .int .i64 E, .int .i64 F] (0, 0) _ HR.out Tryd.underlying49 rfl sizeInstr ?_
  refine wpStill_nil ?_
  change wpList _ _ _ _ _ Z.drew
  have hB5 : Below w.heap.size w Z.drew := hB4.drew
  have hO5 : Z.drew.ownsMap Tryd.prog 77 instrR mb cnt D := hO4.out
  have hZ5 := Lib.hid (show Z.drew.heap[w.heap.size]? = some (insB 0 0 0 0 0) from hZ4.out)
  have hR5 := Lib.hid (show Z.drew.heap[r3]? = some (insB A B C E F) from HR.out)
  clear hB4 hO4 hZ4 HR hY5' hY6
  generalize Z.drew = T at *
  go_wp2_with (first | (at_mapUpdate; refine wpList_mapUpdate_own _ rfl _ _ _ 67 rfl 77 49 lawU32 Tryd.underlying67 instrR mb cnt _ rfl hO5 (by unfold maxLen; omega) (.int .u32 u) (ins A B C E F) (.int .u32 u) rfl rfl (keyOf_int_mk Tryd.underlying77 (wfU32 ⟨hur.1, by omega⟩)) (decD u) [] Hdd.out ?_; intro w6 hown6 hgrow6; have hR6 := Lib.hid (grown_at hgrow6 hO5 hR5.out); have hZ6 := Lib.hid (grown_at hgrow6 hO5 hZ5.out)) | (refine wpList_load_g (o := ⟨some 61, _, _, _, _, _⟩) rfl 49 (.tmp 7) rfl r3 rfl 49 _ (0, 0) _ hR6.out Tryd.underlying49 rfl sizeInstr ?_) | (refine wpList_store_row (o := ⟨none, _, _, _, _, _⟩) rfl 49 (.tmp 2) (.tmp 61) rfl w.heap.size #[.int .i64 A, .int .i64 B, .int .i64 C, .int .i64 E, .int .i64 F] rfl rfl 49 _ hZ6.out sizeInstr rfl (ins_one _ _ _ _ _) ?_))
  have hne6 : w.heap.size ≠ mb := map_ne hO5 hZ5.out
  exact bodyPost_ret (v := .tuple #[ins A B C E F, .bool true]) (res_cell_tmp Tryd.results40 _ _ w.heap.size 49 _ (0, 0) _ _ rfl rfl (setRow_heap _ w.heap.size _ _ _ _ hZ6.out) Tryd.underlying49 rfl sizeInstr) rfl
    (instrNew_mk Hde.out (owns_at hown6 fun o ho => (setRow_other _ _ _ _ (fun e => hne6 e.symm)).trans ho) ((((Fr.below hB5).trans (Fr.grown hgrow6 (by simp)))).setRow_new (Nat.le_refl _) _))

end Go.Proofs.YtppcbommaddkgaaDoor
namespace Go.Proofs.YtppcbommaddkgaaDoor
open Go.RowKit Go.Maps
set_option linter.unusedVariables false
set_option linter.unusedSimpArgs false
set_option maxRecDepth 10000
open Pm Pc Pl
namespace Pm
/-- A load or a store: place, address, size, whether it is a store. -/
structure Ac where
  pl : Int
  at_ : Int
  n : Int
  wr : Bool
/-- What a run has beside its machine. -/
structure Ru where
  out : List Int
  steps : Nat
  checks : Nat
  inp : List Int
  wat : Bool
  seen : List Ac
def accs (l : List Ac) : List Value := l.flatMap fun a => [.int .u64 a.pl, .int .u64 a.at_, .int .i64 a.n, .bool a.wr]
def Ma.reg (m : Ma) (r : Nat) : Int := m.x.getD r 0
def Ma.set (m : Ma) (r : Nat) (v : Int) : Ma := if 0 < r then { m with x := m.x.set r v } else m
end Pm
/-- What is left of the input. -/
def InpIs (w : World) (base p q : Nat) (A : Option Addr) (xs : List Int) : Prop :=
  (∀ i : Nat, 0 ≤ xs.getD i 0 ∧ xs.getD i 0 < 256) ∧ (0 < xs.length → ∃ ib off, A = some ⟨ib, off, none⟩ ∧ ib < base ∧ ib ≠ p ∧ ib ≠ q ∧ ∀ j, j < xs.length → w.cell? ⟨ib, off + j, none⟩ = some (.int .u8 (xs.getD j 0)))
def runC (p mb : Nat) (R : Ru) (ov sv : Value) (A : Option Addr) (c : Nat) : Array Value :=
  #[.pointer (some ⟨p, 0, none⟩), .int .i64 0, .int .u8 0, .int .i64 0, ov, .int .i64 R.steps, .int .i64 R.checks, .slice A R.inp.length c, .map (some mb), .bool R.wat, sv]
/-- A run in memory: its block, what it puts out, what it saw, what is left of its input, the words that it knows. -/
structure RunIs (w : World) (base p q rb : Nat) (R : Ru) (ov sv : Value) (A : Option Addr) (c mb cnt : Nat) (D : DataW Unit) : Prop where
  blk : w.heap[rb]? = some (.cells (runC p mb R ov sv A c) 69)
  out : w.ownsRow base 5 1 ov R.out.length (u8s R.out)
  seen : w.ownsRow base 81 4 sv R.seen.length (accs R.seen)
  inp : InpIs w base p q A R.inp
  map : w.ownsMap Tryd.prog 77 instrR mb cnt D
  mok : MapOk D
  lrb : base ≤ rb
  lmb : base ≤ mb
theorem lt_of_at {w : World} {g : Nat} {o : Obj} (hg : w.heap[g]? = some o) : g < w.heap.size := by
  rcases Nat.lt_or_ge g w.heap.size with hlt | hge
  · exact hlt
  · rw [Array.getElem?_eq_none hge] at hg; cases hg
theorem ownsRow_at {w w' : World} {base size n : Nat} {e : TypeId} {v : Value} {xs : List Value} (h : w.ownsRow base e size v n xs) (hk : ∀ g o, base ≤ g → w.heap[g]? = some o → w'.heap[g]? = some o) : w'.ownsRow base e size v n xs := by
  obtain ⟨hl, h⟩ := h
  refine ⟨hl, ?_⟩
  rcases h with h | ⟨g, cap, cur, h1, h2, h3, h4⟩
  · exact .inl h
  · exact .inr ⟨g, cap, cur, h1, h2, hk g _ h2 h3, h4⟩
theorem InpIs.at_ {w w' : World} {base p q : Nat} {A : Option Addr} {xs : List Int} (h : InpIs w base p q A xs) (hk : ∀ g, g < w.heap.size → g < base → g ≠ p → g ≠ q → w'.heap[g]? = w.heap[g]?) : InpIs w' base p q A xs := by
  refine ⟨h.1, fun h0 => ?_⟩
  obtain ⟨ib, off, h1, h2, h3, h4, h5⟩ := h.2 h0
  refine ⟨ib, off, h1, h2, h3, h4, fun j hj => ?_⟩
  have hc := h5 j hj
  have hlt := World.block_lt_of_cell? w _ hc
  rw [← hc]
  exact World.cell?_of_block (hk ib hlt h2 h3 h4)
/-- Blocks below a base that are neither of two stay. -/
structure Fb (base p q : Nat) (w w' : World) : Prop where
  os : w'.os = w.os
  tape : w'.tape = w.tape
  output : w'.output = w.output
  size : w.heap.size ≤ w'.heap.size
  block : ∀ k, k < w.heap.size → k < base → k ≠ p → k ≠ q → w'.heap[k]? = w.heap[k]?
theorem Fb.refl (base p q : Nat) (w : World) : Fb base p q w w := ⟨rfl, rfl, rfl, Nat.le_refl _, fun _ _ _ _ _ => rfl⟩
theorem Fb.trans {base p q : Nat} {a b c : World} (h : Fb base p q a b) (g : Fb base p q b c) : Fb base p q a c :=
  ⟨g.os.trans h.os, g.tape.trans h.tape, g.output.trans h.output, Nat.le_trans h.size g.size, fun k hk hb hp hq => (g.block k (Nat.lt_of_lt_of_le hk h.size) hb hp hq).trans (h.block k hk hb hp hq)⟩
theorem Fb.of {base p q : Nat} {S : List Nat} {w w' : World} (h : Fr S w w') (hS : ∀ k ∈ S, k < base → k = p ∨ k = q) : Fb base p q w w' :=
  ⟨h.os, h.tape, h.output, h.size, fun k hk hb hp hq => h.block k hk fun hs => by rcases hS k hs hb with e | e; exact hp e; exact hq e⟩
/-- A change of the machine's blocks alone keeps the run. -/
theorem RunIs.keep {w w' : World} {base p q rb : Nat} {R : Ru} {ov sv : Value} {A : Option Addr} {c mb cnt : Nat} {D : DataW Unit} (h : RunIs w base p q rb R ov sv A c mb cnt D) (hp : p < base) (hq : q < base) (hf : Fr [p, q] w w') : RunIs w' base p q rb R ov sv A c mb cnt D := by
  have hk : ∀ g o, base ≤ g → w.heap[g]? = some o → w'.heap[g]? = some o := fun g o hg h => hf.at_ h (by simp; omega)
  exact ⟨hk _ _ h.lrb h.blk, ownsRow_at h.out hk, ownsRow_at h.seen hk, h.inp.at_ fun g hg hb h1 h2 => hf.block g hg (by simp; exact ⟨h1, h2⟩), owns_at h.map fun o ho => hk _ _ h.lmb ho, h.mok, h.lrb, h.lmb⟩
theorem MachAt.keep {w w' : World} {p q : Nat} {m : Ma} {S : List Nat} (h : MachAt w p q m) (hf : Fr S w w') (hp : p ∉ S) (hq : q ∉ S) : MachAt w' p q m := ⟨hf.at_ h.1 hp, hf.at_ h.2 hq⟩
section
variable {w : World} {p q : Nat} {m : Ma}
theorem MachAt.c0 (h : MachAt w p q m) : w.cell? ⟨p, 0, none⟩ = some (.slice (some ⟨q, 0, none⟩) m.mem.length m.mem.length) := by rw [cell_of_row w _ 0 _ _ _ h.1]; rfl
theorem MachAt.cx (h : MachAt w p q m) (hl : m.x.length = 32) {k : Nat} (hk : k < 32) : w.cell? ⟨p, 1 + k, none⟩ = some (.int .u64 (m.reg k)) := by
  rw [cell_of_row w _ (1 + k) _ _ _ h.1, Nat.add_comm]
  simp [Ma.cells, u64s, List.getElem?_append, hl, hk, Ma.reg]
theorem MachAt.cpl (h : MachAt w p q m) (hl : m.x.length = 32) : w.cell? ⟨p, 33, none⟩ = some (.int .u64 m.pl) := by
  rw [cell_of_row w _ 33 _ _ _ h.1]
  simp [Ma.cells, u64s, List.getElem?_append, hl]
theorem MachAt.cst (h : MachAt w p q m) (hl : m.x.length = 32) : w.cell? ⟨p, 34, none⟩ = some (.int .i64 m.st) := by
  rw [cell_of_row w _ 34 _ _ _ h.1]
  simp [Ma.cells, u64s, List.getElem?_append, hl]
theorem MachAt.ccd (h : MachAt w p q m) (hl : m.x.length = 32) : w.cell? ⟨p, 35, none⟩ = some (.int .u8 m.cd) := by
  rw [cell_of_row w _ 35 _ _ _ h.1]
  simp [Ma.cells, u64s, List.getElem?_append, hl]
theorem MachAt.fr (h : MachAt w p q m) (i : Nat) : w.frozen? ⟨p, i, none⟩ = false := frozen_of_row w _ i _ _ h.1
theorem MachAt.lp (h : MachAt w p q m) : p < w.heap.size := lt_of_at h.1
theorem MachAt.lq (h : MachAt w p q m) : q < w.heap.size := lt_of_at h.2
theorem cells_x (m : Ma) (q k : Nat) (v : Int) (hl : m.x.length = 32) (hk : k < 32) : (m.cells q).toArray.setIfInBounds (1 + k) (.int .u64 v) = (Ma.cells { m with x := m.x.set k v } q).toArray := by
  simp [Ma.cells, u64s, Nat.add_comm 1 k, List.set_append, hl, hk, List.map_set]
theorem cells_pl (m : Ma) (q : Nat) (v : Int) (hl : m.x.length = 32) : (m.cells q).toArray.setIfInBounds 33 (.int .u64 v) = (Ma.cells { m with pl := v } q).toArray := by
  simp [Ma.cells, u64s, List.set_append, hl]
theorem cells_st (m : Ma) (q : Nat) (v : Int) (hl : m.x.length = 32) : (m.cells q).toArray.setIfInBounds 34 (.int .i64 v) = (Ma.cells { m with st := v } q).toArray := by
  simp [Ma.cells, u64s, List.set_append, hl]
theorem cells_cd (m : Ma) (q : Nat) (v : Int) (hl : m.x.length = 32) : (m.cells q).toArray.setIfInBounds 35 (.int .u8 v) = (Ma.cells { m with cd := v } q).toArray := by
  simp [Ma.cells, u64s, List.set_append, hl]
theorem MachAt.setX (h : MachAt w p q m) (hl : m.x.length = 32) {k : Nat} (hk : k < 32) (hpq : p ≠ q) (v : Int) : MachAt (w.setCell ⟨p, 1 + k, none⟩ (.int .u64 v)) p q { m with x := m.x.set k v } :=
  ⟨by rw [heap_setCell_same _ _ _ _ _ _ h.1, cells_x m q k v hl hk], by rw [heap_setCell_other _ _ _ _ (by simpa using hpq.symm)]; exact h.2⟩
theorem MachAt.setPl (h : MachAt w p q m) (hl : m.x.length = 32) (hpq : p ≠ q) (v : Int) : MachAt (w.setCell ⟨p, 33, none⟩ (.int .u64 v)) p q { m with pl := v } :=
  ⟨by rw [heap_setCell_same _ _ _ _ _ _ h.1, cells_pl m q v hl], by rw [heap_setCell_other _ _ _ _ (by simpa using hpq.symm)]; exact h.2⟩
theorem MachAt.setSt (h : MachAt w p q m) (hl : m.x.length = 32) (hpq : p ≠ q) (v : Int) : MachAt (w.setCell ⟨p, 34, none⟩ (.int .i64 v)) p q { m with st := v } :=
  ⟨by rw [heap_setCell_same _ _ _ _ _ _ h.1, cells_st m q v hl], by rw [heap_setCell_other _ _ _ _ (by simpa using hpq.symm)]; exact h.2⟩
theorem MachAt.setCd (h : MachAt w p q m) (hl : m.x.length = 32) (hpq : p ≠ q) (v : Int) : MachAt (w.setCell ⟨p, 35, none⟩ (.int .u8 v)) p q { m with cd := v } :=
  ⟨by rw [heap_setCell_same _ _ _ _ _ _ h.1, cells_cd m q v hl], by rw [heap_setCell_other _ _ _ _ (by simpa using hpq.symm)]; exact h.2⟩
end
/-- The world with a register as told. -/
def setW (w : World) (p k : Nat) (v : Int) : World := if 0 < k then w.setCell ⟨p, 1 + k, none⟩ (.int .u64 v) else w
theorem MachAt.setW {w : World} {p q : Nat} {m : Ma} (h : MachAt w p q m) (hl : m.x.length = 32) {k : Nat} (hk : k < 32) (hpq : p ≠ q) (v : Int) : MachAt (setW w p k v) p q (m.set k v) := by
  unfold Go.Proofs.YtppcbommaddkgaaDoor.setW Ma.set
  by_cases h0 : 0 < k
  · rw [if_pos h0, if_pos h0]; exact h.setX hl hk hpq v
  · rw [if_neg h0, if_neg h0]; exact h
theorem fr_setW (w : World) (p k : Nat) (v : Int) : Fr [p] w (setW w p k v) := by
  unfold setW
  split
  · exact Fr.set _ _ _ _ (by simp)
  · exact Fr.refl _ _
theorem set_any {w : World} {p q : Nat} {m : Ma} (h : MachAt w p q m) (hl : m.x.length = 32) {k : Nat} (hk : k < 32) (v : Int) :
    Calls Tryd.prog 19 #[.pointer (some ⟨p, 0, none⟩), .int .i64 k, .int .u64 v] w fun e w' => e = .returned (.tuple #[]) ∧ w' = setW w p k v := by
  by_cases h0 : 0 < k
  · refine (set_in p k v _ w h0 hk (h.cx hl hk) (h.fr _)).mono ?_
    rintro e w' ⟨rfl, rfl⟩
    exact ⟨rfl, by unfold setW; rw [if_pos h0]⟩
  · obtain rfl : k = 0 := by omega
    go_enter Tryd.func19, Tryd.ntmps19
    go_wp2
    go_end0
    exact ⟨rfl, by unfold setW; rw [if_neg (by omega)]⟩
theorem regs_any {w : World} {p q : Nat} {m : Ma} (h : MachAt w p q m) (hl : m.x.length = 32) {k : Nat} (hk : k < 32) :
    Calls Tryd.prog 24 #[.pointer (some ⟨p, 0, none⟩), .int .i64 k] w fun e w' => e = .returned (.int .u64 (m.reg k)) ∧ w = w' := reg_in p k _ w hk (h.cx hl hk)
theorem operate_any {w : World} {p q rb : Nat} {m : Ma} (op : Int) (k : Nat) (a b : Int) (h : MachAt w p q m) (hl : m.x.length = 32) (hk : k < 32) (h1 : 1 ≤ op) (h2 : op ≤ 27) (ha : 0 ≤ a ∧ a < 18446744073709551616) (hb : 0 ≤ b ∧ b < 18446744073709551616)
    (c0 : w.cell? ⟨rb, 0, none⟩ = some (.pointer (some ⟨p, 0, none⟩))) :
    Calls Tryd.prog 42 #[.pointer (some ⟨rb, 0, none⟩), .int .i64 op, .int .i64 k, .int .u64 a, .int .u64 b] w fun e w' => e = .returned (.tuple #[]) ∧ w' = setW w p k (opV op a b) := by
  go_enter Tryd.func42, Tryd.ntmps42
  go_wp2_with (first | (go_at_call 55; refine (doAnyC op a b _ h1 h2 ha.1 ha.2 hb.1 hb.2).mono ?_; rintro e w1 ⟨rfl, rfl⟩) | (go_at_call 19; refine (set_any h hl hk _).mono ?_; rintro e w1 ⟨rfl, rfl⟩))
  go_end0
  exact ⟨rfl, rfl⟩
end Go.Proofs.YtppcbommaddkgaaDoor
