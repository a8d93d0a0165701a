/- The parts of a step of package mach, as they change the state of a run. Conditions: each theorem's. Loads, stores, calls of package mach, as they change the state of a run. Conditions: each theorem's. An ECALL of package mach, and the instruction at its place, as they change the state of a run. Conditions: each theorem's. A step of package mach, form by form. Conditions: each theorem's. A step of package mach, form by form. Conditions: each theorem's. -/
import Derived.Test.YtppcbommaddkgaaDoorMrgD
namespace Go.Proofs.YtppcbommaddkgaaDoor
open Go.RowKit Go.Maps
set_option linter.unusedVariables false
set_option linter.unusedSimpArgs false
set_option maxRecDepth 10000
open Pm Pc Pl
namespace Pm
def Ru.note (R : Ru) (a : Ac) : Ru := if R.wat then { R with seen := R.seen ++ [a] } else R
end Pm
/-- .. and blocks of an instruction stay. -/
structure Fj (base p q : Nat) (w w' : World) : Prop where
  fb : Fb base p q w w'
  ins : ∀ (g : Nat) (cs : Array Value), w.heap[g]? = some (Obj.cells cs 49) → w'.heap[g]? = some (Obj.cells cs 49)
theorem Fj.refl (base p q : Nat) (w : World) : Fj base p q w w := ⟨Fb.refl _ _ _ _, fun _ _ h => h⟩
theorem Fj.trans {base p q : Nat} {a b c : World} (h : Fj base p q a b) (g : Fj base p q b c) : Fj base p q a c := ⟨h.fb.trans g.fb, fun _ _ x => g.ins _ _ (h.ins _ _ x)⟩
theorem Fj.of {base p q : Nat} {S : List Nat} {w w' : World} (h : Fr S w w') (hS : ∀ k ∈ S, k < base → k = p ∨ k = q) (hI : ∀ k ∈ S, ∀ cs : Array Value, w.heap[k]? ≠ some (Obj.cells cs 49)) : Fj base p q w w' :=
  ⟨Fb.of h hS, fun g cs hg => h.at_ hg (fun hm => hI g hm cs hg)⟩
/-- The state: machine, run; no list is longer than B. -/
def St (w : World) (base p q rb : Nat) (m : Ma) (R : Ru) (B : Nat) : Prop :=
  ∃ ov sv A c mb cnt D, RunIs w base p q rb R ov sv A c mb cnt D ∧ MachAt w p q m ∧ cnt ≤ B ∧ R.out.length ≤ B ∧ R.seen.length ≤ B ∧ R.inp.length ≤ c
def StTo (w : World) (base p q rb : Nat) (m : Ma) (R : Ru) (B : Nat) (v : Value) (e : Ending) (w' : World) : Prop := e = .returned v ∧ St w' base p q rb m R B ∧ Fj base p q w w'
/-- p, q are apart, below the base. -/
def Apart (base p q : Nat) : Prop := p ≠ q ∧ p < base ∧ q < base ∧ 1 < p ∧ 1 < q
theorem St.more {w : World} {base p q rb : Nat} {m : Ma} {R : Ru} {B B' : Nat} (h : St w base p q rb m R B) (hB : B ≤ B') : St w base p q rb m R B' := by
  obtain ⟨ov, sv, A, c, mb, cnt, D, h1, h2, h3, h4, h5, h6⟩ := h
  exact ⟨ov, sv, A, c, mb, cnt, D, h1, h2, by omega, by omega, by omega, h6⟩
/-- The machine alone changes. -/
theorem St.mach {w w' : World} {base p q rb : Nat} {m m' : Ma} {R : Ru} {B : Nat} (h : St w base p q rb m R B) (hA : Apart base p q) (hm : MachAt w' p q m') (hf : Fr [p, q] w w') : St w' base p q rb m' R B ∧ Fj base p q w w' := by
  obtain ⟨ov, sv, A, c, mb, cnt, D, h1, h2, h3⟩ := h
  refine ⟨⟨ov, sv, A, c, mb, cnt, D, h1.keep hA.2.1 hA.2.2.1 hf, hm, h3⟩, Fj.of hf (by simp) ?_⟩
  intro k hk cs
  simp only [List.mem_cons, List.not_mem_nil, or_false] at hk
  rcases hk with rfl | rfl
  · rw [h2.1]; intro e; injection e with e; injection e with _ e; exact absurd e (by decide)
  · rw [h2.2]; intro e; injection e with e; injection e with _ e; exact absurd e (by decide)
theorem Fr.alike {S : List Nat} {w w1 w' : World} (h : Fr S w w1) (ha : Alike2 w' w1) : Fr S w w' :=
  ⟨ha.1.trans h.os, ha.2.1.trans h.tape, ha.2.2.1.trans h.output, by rw [ha.2.2.2]; exact h.size, fun k hk hs => by rw [ha.2.2.2]; exact h.block k hk hs⟩
theorem MachAt.alike {w w' : World} {p q : Nat} {m : Ma} (h : MachAt w p q m) (ha : Alike2 w' w) : MachAt w' p q m := ⟨by rw [ha.2.2.2]; exact h.1, by rw [ha.2.2.2]; exact h.2⟩
theorem RunIs.c {w : World} {base p q rb : Nat} {R : Ru} {ov sv : Value} {A : Option Addr} {c mb cnt : Nat} {D : DataW Unit} (h : RunIs w base p q rb R ov sv A c mb cnt D) (i : Nat) : w.cell? ⟨rb, i, none⟩ = (runC p mb R ov sv A c)[i]? := cell_of_row w _ i _ _ _ h.blk
theorem RunIs.f {w : World} {base p q rb : Nat} {R : Ru} {ov sv : Value} {A : Option Addr} {c mb cnt : Nat} {D : DataW Unit} (h : RunIs w base p q rb R ov sv A c mb cnt D) (i : Nat) : w.frozen? ⟨rb, i, none⟩ = false := frozen_of_row w _ i _ _ h.blk
theorem RunIs.lr {w : World} {base p q rb : Nat} {R : Ru} {ov sv : Value} {A : Option Addr} {c mb cnt : Nat} {D : DataW Unit} (h : RunIs w base p q rb R ov sv A c mb cnt D) : base ≤ w.heap.size := by have := lt_of_at h.blk; have := h.lrb; omega
/-- A row of one's own is in no block that holds something else. -/
theorem own_ne {w : World} {base size n g : Nat} {e : TypeId} {v : Value} {xs : List Value} {o : Obj} (h : w.ownsRow base e size v n xs) (hg : w.heap[g]? = some o) (ho : ∀ cur, o ≠ .cells cur e) : v.ownBlock ≠ some g := by
  rcases h.2 with ⟨rfl, _⟩ | ⟨g', cap, cur, rfl, _, hh, _⟩
  · simp [Value.ownBlock]
  · intro he
    have : g' = g := by simpa [Value.ownBlock] using he
    subst this
    rw [hh] at hg
    exact ho cur (by injection hg with hg; exact hg.symm)
theorem own_base {w : World} {base size n g : Nat} {e : TypeId} {v : Value} {xs : List Value} (h : w.ownsRow base e size v n xs) (hg : g < base) : v.ownBlock ≠ some g := by
  rcases h.2 with ⟨rfl, _⟩ | ⟨g', cap, cur, rfl, hb, hh, _⟩
  · simp [Value.ownBlock]
  · intro he
    have : g' = g := by simpa [Value.ownBlock] using he
    omega
theorem ownsRow_at2 {w w' : World} {base size n : Nat} {e : TypeId} {v : Value} {xs : List Value} (h : w.ownsRow base e size v n xs) (hk : ∀ g cur, base ≤ g → w.heap[g]? = some (.cells cur e) → w'.heap[g]? = some (.cells cur e)) : w'.ownsRow base e size v n xs := by
  obtain ⟨hl, h⟩ := h
  refine ⟨hl, ?_⟩
  rcases h with h | ⟨g, cap, cur, h1, h2, h3, h4⟩
  · exact .inl h
  · exact .inr ⟨g, cap, cur, h1, h2, hk g _ h2 h3, h4⟩
section
variable {w : World} {base p q rb : Nat} {R : Ru} {ov sv : Value} {A : Option Addr} {c mb cnt B : Nat} {D : DataW Unit} {m : Ma}
/-- What a row grew, then a cell of the run's block set, leaves. -/
theorem grown_run {w1 : World} {v : Value} {i : Nat} {x : Value} {R' : Ru} {ov' sv' : Value} (h : RunIs w base p q rb R ov sv A c mb cnt D) (hm : MachAt w p q m) (hA : Apart base p q)
    (hg : w.grownBy w1 v.ownBlock) (n1 : v.ownBlock ≠ some rb) (n2 : v.ownBlock ≠ some p) (n3 : v.ownBlock ≠ some q) (n4 : v.ownBlock ≠ some mb) (n5 : ∀ g, g < base → v.ownBlock ≠ some g) (n6 : ∀ (g : Nat) (cs : Array Value), w.heap[g]? = some (Obj.cells cs 49) → v.ownBlock ≠ some g)
    (hc : (runC p mb R ov sv A c).setIfInBounds i x = runC p mb R' ov' sv' A c) (hi : R'.inp = R.inp)
    (ho : w1.ownsRow base 5 1 ov' R'.out.length (u8s R'.out)) (hs : w1.ownsRow base 81 4 sv' R'.seen.length (accs R'.seen)) :
    RunIs (w1.setCell ⟨rb, i, none⟩ x) base p q rb R' ov' sv' A c mb cnt D ∧ MachAt (w1.setCell ⟨rb, i, none⟩ x) p q m ∧ Fj base p q w (w1.setCell ⟨rb, i, none⟩ x) := by
  have keep : ∀ g o, w.heap[g]? = some o → v.ownBlock ≠ some g → w1.heap[g]? = some o := fun g o h1 h2 => (hg.block g (lt_of_at h1) (fun e => h2 e.symm)).trans h1
  have b1 := keep rb _ h.blk n1
  have hother : ∀ g, g ≠ rb → (w1.setCell ⟨rb, i, none⟩ x).heap[g]? = w1.heap[g]? := fun g hne => heap_setCell_other _ _ _ _ (by simpa using hne)
  have hrb := h.lrb
  have hrow : ∀ e, e ≠ 69 → ∀ g cur, base ≤ g → w1.heap[g]? = some (.cells cur e) → (w1.setCell ⟨rb, i, none⟩ x).heap[g]? = some (.cells cur e) := by
    intro e he g cur _ h1
    have : g ≠ rb := by
      rintro rfl
      rw [b1] at h1
      injection h1 with h1
      injection h1 with _ h1
      exact he h1.symm
    rw [hother g this]; exact h1
  have hmb : mb ≠ rb := by
    rintro rfl
    exact map_ne h.map h.blk rfl
  refine ⟨⟨?_, ownsRow_at2 ho (hrow _ (by decide)), ownsRow_at2 hs (hrow _ (by decide)), ?_, ?_, h.mok, h.lrb, h.lmb⟩, ?_, ?_⟩
  · rw [heap_setCell_same _ _ _ _ _ _ b1, hc]
  · rw [hi]
    refine h.inp.at_ fun g hg1 hg2 _ _ => ?_
    rw [hother g (by omega)]
    exact hg.block g hg1 (fun e => n5 g hg2 e.symm)
  · exact owns_at h.map fun o ho => by rw [hother mb hmb]; exact keep mb _ ho n4
  · exact ⟨by rw [hother p (by have := hA.2.1; omega)]; exact keep p _ hm.1 n2, by rw [hother q (by have := hA.2.2.1; omega)]; exact keep q _ hm.2 n3⟩
  · refine ⟨⟨hg.os, hg.tape, hg.output, by simpa [World.setCell] using hg.size, fun k hk hb _ _ => by rw [hother k (by omega)]; exact hg.block k hk (fun e => n5 k hb e.symm)⟩, fun g cs h1 => ?_⟩
    have : g ≠ rb := by
      rintro rfl
      rw [h.blk] at h1
      injection h1 with h1
      injection h1 with _ h1
      exact absurd h1 (by decide)
    rw [hother g this]; exact keep g _ h1 (n6 g cs h1)
theorem accs_snoc (l : List Ac) (a : Ac) : accs (l ++ [a]) = accs l ++ accs [a] := by simp [accs]
theorem note_st (h : St w base p q rb m R B) (hA : Apart base p q) (hl : m.x.length = 32) (hB : B < 1099511627776) (at_ k : Int) (wr : Bool) (h0 : 0 ≤ k) (h1 : k ≤ 8) :
    Calls Tryd.prog 57 #[.pointer (some ⟨rb, 0, none⟩), .int .u64 at_, .int .u64 k, .bool wr] w (StTo w base p q rb m (R.note ⟨m.pl, at_, k, wr⟩) (B + 1) (.tuple #[])) := by
  obtain ⟨ov, sv, A, c, mb, cnt, D, hr, hm, b1, b2, b3, b4⟩ := h
  cases hw : R.wat
  · refine (note_off (p := p) at_ k wr ((hr.c 0).trans rfl) ((hr.c 9).trans (by simp [runC, hw]))).mono ?_
    rintro e w' ⟨rfl, rfl⟩
    refine ⟨rfl, ?_, Fj.refl _ _ _ _⟩
    rw [Ru.note, if_neg (by simp [hw])]
    exact ⟨ov, sv, A, c, mb, cnt, D, hr, hm, by omega, by omega, by omega, b4⟩
  · have hne := own_ne hr.seen hr.blk (fun cur => by simp)
    refine (note_on m.pl at_ k wr h0 h1 (n := R.seen.length) (by omega) ((hr.c 0).trans rfl) (hm.cpl hl) ((hr.c 9).trans (by simp [runC, hw])) ((hr.c 10).trans rfl) (hr.f 10) hr.seen hne hr.lr).mono ?_
    rintro e w' ⟨rfl, g, cap, w1, ho, hg, rfl⟩
    have hN : R.note ⟨m.pl, at_, k, wr⟩ = { R with seen := R.seen ++ [⟨m.pl, at_, k, wr⟩] } := by rw [Ru.note, if_pos hw]
    rw [hN]
    have hout : w1.ownsRow base 5 1 ov R.out.length (u8s R.out) := ownsRow_at2 hr.out fun g' cur _ h1 => (hg.block g' (lt_of_at h1) (fun e => own_ne hr.seen h1 (fun cur => by simp) e.symm)).trans h1
    obtain ⟨r1, r2, r3⟩ := grown_run (i := 10) (R' := { R with seen := R.seen ++ [⟨m.pl, at_, k, wr⟩] }) hr hm hA hg hne (own_base hr.seen hA.2.1) (own_base hr.seen hA.2.2.1) (by
      obtain ⟨es, ck, hb, _⟩ := hr.map
      exact own_ne hr.seen hb (fun cur => by simp)) (fun g' hg' => own_base hr.seen hg') (fun g' cs h1 => own_ne hr.seen h1 (fun cur => by simp)) rfl rfl hout (by rw [accs_snoc]; simpa using ho)
    exact ⟨rfl, ⟨_, _, _, _, _, _, _, r1, r2, by omega, by show R.out.length ≤ _; omega, by simp; omega, b4⟩, r3⟩
end
end Go.Proofs.YtppcbommaddkgaaDoor
namespace Go.Proofs.YtppcbommaddkgaaDoor
open Go.RowKit Go.Maps
set_option linter.unusedVariables false
set_option linter.unusedSimpArgs false
set_option maxRecDepth 10000
open Pm Pc Pl
theorem mem_byte {m : Ma} (h : m.ok) (i : Nat) : 0 ≤ m.mem.getD i 0 ∧ m.mem.getD i 0 < 256 := by
  by_cases hi : i < m.mem.length
  · have e : m.mem.getD i 0 = m.mem[i] := by simp [List.getD, hi]
    rw [e]; exact h.2.2.2.1 _ (List.getElem_mem hi)
  · have e : m.mem.getD i 0 = 0 := by simp [List.getD, List.getElem?_eq_none (Nat.le_of_not_lt hi)]
    rw [e]; omega
theorem MachAt.cm {w : World} {p q : Nat} {m : Ma} (h : MachAt w p q m) (i : Nat) (hi : i < m.mem.length) : w.cell? ⟨q, i, none⟩ = some (.int .u8 (m.mem.getD i 0)) := by
  rw [cell_of_row w _ i _ _ _ h.2]; exact u8s_at _ _ hi
theorem hasB_out {a n : Int} {N : Nat} (h : hasB a n N = true) : a % n = 0 ∧ a + n ≤ N := by unfold hasB at h; simpa using h
section
variable {w : World} {base p q rb : Nat} {m : Ma} {R : Ru} {B : Nat}
theorem St.c0 (h : St w base p q rb m R B) : w.cell? ⟨rb, 0, none⟩ = some (.pointer (some ⟨p, 0, none⟩)) := by
  obtain ⟨ov, sv, A, c, mb, cnt, D, hr, -⟩ := h
  exact (hr.c 0).trans rfl
theorem St.m_ (h : St w base p q rb m R B) : MachAt w p q m := by
  obtain ⟨ov, sv, A, c, mb, cnt, D, hr, hm, -⟩ := h
  exact hm
set_option maxHeartbeats 1000000 in
theorem load_no (op : Int) (k a : Nat) (hop : op = 38 ∨ op = 39 ∨ op = 40 ∨ op = 41) (ha : a < 18446744073709551616) (h : St w base p q rb m R B) (hm : m.ok) (hh : hasB a (widthV op) m.mem.length = false) :
    Calls Tryd.prog 43 #[.pointer (some ⟨rb, 0, none⟩), .int .i64 op, .int .i64 k, .int .u64 a] w fun e w' => e = .returned (.bool false) ∧ w = w' := by
  have c0 := h.c0
  have hl := hm.1
  have cs := h.m_.c0
  have HH := Lib.hid hh; clear hh
  have hwd : widthV op = 1 ∨ widthV op = 4 ∨ widthV op = 8 := by rcases hop with rfl | rfl | rfl | rfl <;> simp [widthV]
  generalize hW : widthV op = W at *
  have HW := Lib.hid hW; clear hW
  go_enter Tryd.func43, Tryd.ntmps43
  go_wp2_with (first | (go_at_call 56; refine (width_any op _ (by omega)).mono ?_; rintro e w1 ⟨rfl, rfl⟩; rw [HW.out]) | (go_at_call 52; refine (has_any p m.mem.length _ a W _ (by omega) (by omega) hwd hm.2.1 cs).mono ?_; rintro e w1 ⟨rfl, rfl⟩; rw [HH.out]))
  go_ret
  exact ⟨rfl, rfl⟩
theorem take_1 (p N q a : Nat) (l : List Int) (w : World) (ha : a + 1 ≤ N) (hl : l.length = N) (hN : N ≤ 4194304) (hb : ∀ i : Nat, 0 ≤ l.getD i 0 ∧ l.getD i 0 < 256)
    (hx : w.cell? ⟨p, 0, none⟩ = some (.slice (some ⟨q, 0, none⟩) N N)) (hm : ∀ i : Nat, i < N → w.cell? ⟨q, i, none⟩ = some (.int .u8 (l.getD i 0))) :
    Calls Tryd.prog 53 #[.pointer (some ⟨p, 0, none⟩), .int .u64 a, .int .u64 1] w fun e w' => e = .returned (.int .u64 (getV l a 1)) ∧ w = w' := take_any p N q a 1 l w (by omega) ha hl hN hb hx hm
theorem take_8 (p N q a : Nat) (l : List Int) (w : World) (ha : a + 8 ≤ N) (hl : l.length = N) (hN : N ≤ 4194304) (hb : ∀ i : Nat, 0 ≤ l.getD i 0 ∧ l.getD i 0 < 256)
    (hx : w.cell? ⟨p, 0, none⟩ = some (.slice (some ⟨q, 0, none⟩) N N)) (hm : ∀ i : Nat, i < N → w.cell? ⟨q, i, none⟩ = some (.int .u8 (l.getD i 0))) :
    Calls Tryd.prog 53 #[.pointer (some ⟨p, 0, none⟩), .int .u64 a, .int .u64 8] w fun e w' => e = .returned (.int .u64 (getV l a 8)) ∧ w = w' := take_any p N q a 8 l w (by omega) ha hl hN hb hx hm
set_option maxHeartbeats 2000000 in
theorem load_38 (k a : Nat) (hk : k < 32) (ha : a < 18446744073709551616) (h : St w base p q rb m R B) (hA : Apart base p q) (hm : m.ok) (hB : B < 1099511627776) (hh : hasB a 1 m.mem.length = true) :
    Calls Tryd.prog 43 #[.pointer (some ⟨rb, 0, none⟩), .int .i64 38, .int .i64 k, .int .u64 a] w (StTo w base p q rb (m.set k (nrV true (getV m.mem a 1) 8)) (R.note ⟨m.pl, a, 1, false⟩) (B + 1) (.bool true)) := by
  have c0 := h.c0
  have hl := hm.1
  have cs := h.m_.c0
  obtain ⟨d1, d2⟩ := hasB_out hh
  have HH := Lib.hid hh; clear hh
  have hv := getV_range m.mem (mem_byte hm) 1 a
  generalize hV : getV m.mem a 1 = V at *
  have HV := Lib.hid hV; clear hV
  generalize hZ : nrV true V 8 = Z at *
  have HZ := Lib.hid hZ; clear hZ
  go_enter Tryd.func43, Tryd.ntmps43
  go_wp2_with (first | (go_at_call 56; refine (width_any 38 _ (by omega)).mono ?_; rintro e w1 ⟨rfl, rfl⟩; rw [show widthV 38 = 1 from rfl]) | (go_at_call 52; refine (has_any p m.mem.length _ a 1 _ (by omega) (by omega) (by omega) hm.2.1 cs).mono ?_; rintro e w1 ⟨rfl, rfl⟩; rw [HH.out]))
  refine (note_st h hA hl hB a 1 false (by omega) (by omega)).mono ?_
  rintro e w1 ⟨rfl, hs, hf⟩
  have c01 := hs.c0
  go_wp2_with fail
  refine (take_1 p m.mem.length q a m.mem _ (by omega) rfl hm.2.1 (mem_byte hm) hs.m_.c0 (fun i hi => hs.m_.cm i hi)).mono ?_
  rintro e w2 ⟨rfl, rfl⟩
  rw [HV.out]
  go_wp2_with fail
  refine (narrow_any true V 8 _ hv.1 (by omega) (by omega)).mono ?_
  rintro e w3 ⟨rfl, rfl⟩
  rw [HZ.out]
  go_wp2_with fail
  refine (set_any hs.m_ hl hk Z).mono ?_
  rintro e w4 ⟨rfl, rfl⟩
  go_wp2
  go_ret
  obtain ⟨s1, s2⟩ := hs.mach hA (hs.m_.setW hl hk hA.1 Z) ((fr_setW _ p k Z).mono (by simp))
  exact ⟨rfl, s1, hf.trans s2⟩
set_option maxHeartbeats 2000000 in
theorem load_39 (k a : Nat) (hk : k < 32) (ha : a < 18446744073709551616) (h : St w base p q rb m R B) (hA : Apart base p q) (hm : m.ok) (hB : B < 1099511627776) (hh : hasB a 1 m.mem.length = true) :
    Calls Tryd.prog 43 #[.pointer (some ⟨rb, 0, none⟩), .int .i64 39, .int .i64 k, .int .u64 a] w (StTo w base p q rb (m.set k (nrV false (getV m.mem a 1) 8)) (R.note ⟨m.pl, a, 1, false⟩) (B + 1) (.bool true)) := by
  have c0 := h.c0
  have hl := hm.1
  have cs := h.m_.c0
  obtain ⟨d1, d2⟩ := hasB_out hh
  have HH := Lib.hid hh; clear hh
  have hv := getV_range m.mem (mem_byte hm) 1 a
  generalize hV : getV m.mem a 1 = V at *
  have HV := Lib.hid hV; clear hV
  generalize hZ : nrV false V 8 = Z at *
  have HZ := Lib.hid hZ; clear hZ
  go_enter Tryd.func43, Tryd.ntmps43
  go_wp2_with (first | (go_at_call 56; refine (width_any 39 _ (by omega)).mono ?_; rintro e w1 ⟨rfl, rfl⟩; rw [show widthV 39 = 1 from rfl]) | (go_at_call 52; refine (has_any p m.mem.length _ a 1 _ (by omega) (by omega) (by omega) hm.2.1 cs).mono ?_; rintro e w1 ⟨rfl, rfl⟩; rw [HH.out]))
  refine (note_st h hA hl hB a 1 false (by omega) (by omega)).mono ?_
  rintro e w1 ⟨rfl, hs, hf⟩
  have c01 := hs.c0
  go_wp2_with fail
  refine (take_1 p m.mem.length q a m.mem _ (by omega) rfl hm.2.1 (mem_byte hm) hs.m_.c0 (fun i hi => hs.m_.cm i hi)).mono ?_
  rintro e w2 ⟨rfl, rfl⟩
  rw [HV.out]
  go_wp2_with fail
  refine (narrow_any false V 8 _ hv.1 (by omega) (by omega)).mono ?_
  rintro e w3 ⟨rfl, rfl⟩
  rw [HZ.out]
  go_wp2_with fail
  refine (set_any hs.m_ hl hk Z).mono ?_
  rintro e w4 ⟨rfl, rfl⟩
  go_wp2
  go_ret
  obtain ⟨s1, s2⟩ := hs.mach hA (hs.m_.setW hl hk hA.1 Z) ((fr_setW _ p k Z).mono (by simp))
  exact ⟨rfl, s1, hf.trans s2⟩
set_option maxHeartbeats 2000000 in
theorem load_40 (k a : Nat) (hk : k < 32) (ha : a < 18446744073709551616) (h : St w base p q rb m R B) (hA : Apart base p q) (hm : m.ok) (hB : B < 1099511627776) (hh : hasB a 4 m.mem.length = true) :
    Calls Tryd.prog 43 #[.pointer (some ⟨rb, 0, none⟩), .int .i64 40, .int .i64 k, .int .u64 a] w (StTo w base p q rb (m.set k (nrV true (getV m.mem a 4) 32)) (R.note ⟨m.pl, a, 4, false⟩) (B + 1) (.bool true)) := by
  have c0 := h.c0
  have hl := hm.1
  have cs := h.m_.c0
  obtain ⟨d1, d2⟩ := hasB_out hh
  have HH := Lib.hid hh; clear hh
  have hv := getV_range m.mem (mem_byte hm) 4 a
  generalize hV : getV m.mem a 4 = V at *
  have HV := Lib.hid hV; clear hV
  generalize hZ : nrV true V 32 = Z at *
  have HZ := Lib.hid hZ; clear hZ
  go_enter Tryd.func43, Tryd.ntmps43
  go_wp2_with (first | (go_at_call 56; refine (width_any 40 _ (by omega)).mono ?_; rintro e w1 ⟨rfl, rfl⟩; rw [show widthV 40 = 4 from rfl]) | (go_at_call 52; refine (has_any p m.mem.length _ a 4 _ (by omega) (by omega) (by omega) hm.2.1 cs).mono ?_; rintro e w1 ⟨rfl, rfl⟩; rw [HH.out]))
  refine (note_st h hA hl hB a 4 false (by omega) (by omega)).mono ?_
  rintro e w1 ⟨rfl, hs, hf⟩
  have c01 := hs.c0
  go_wp2_with fail
  refine (take_4 p m.mem.length q a m.mem _ (by omega) rfl hm.2.1 (mem_byte hm) hs.m_.c0 (fun i hi => hs.m_.cm i hi)).mono ?_
  rintro e w2 ⟨rfl, rfl⟩
  rw [HV.out]
  go_wp2_with fail
  refine (narrow_any true V 32 _ hv.1 (by omega) (by omega)).mono ?_
  rintro e w3 ⟨rfl, rfl⟩
  rw [HZ.out]
  go_wp2_with fail
  refine (set_any hs.m_ hl hk Z).mono ?_
  rintro e w4 ⟨rfl, rfl⟩
  go_wp2
  go_ret
  obtain ⟨s1, s2⟩ := hs.mach hA (hs.m_.setW hl hk hA.1 Z) ((fr_setW _ p k Z).mono (by simp))
  exact ⟨rfl, s1, hf.trans s2⟩
set_option maxHeartbeats 2000000 in
theorem load_41 (k a : Nat) (hk : k < 32) (ha : a < 18446744073709551616) (h : St w base p q rb m R B) (hA : Apart base p q) (hm : m.ok) (hB : B < 1099511627776) (hh : hasB a 8 m.mem.length = true) :
    Calls Tryd.prog 43 #[.pointer (some ⟨rb, 0, none⟩), .int .i64 41, .int .i64 k, .int .u64 a] w (StTo w base p q rb (m.set k (nrV true (getV m.mem a 8) 64)) (R.note ⟨m.pl, a, 8, false⟩) (B + 1) (.bool true)) := by
  have c0 := h.c0
  have hl := hm.1
  have cs := h.m_.c0
  obtain ⟨d1, d2⟩ := hasB_out hh
  have HH := Lib.hid hh; clear hh
  have hv := getV_range m.mem (mem_byte hm) 8 a
  generalize hV : getV m.mem a 8 = V at *
  have HV := Lib.hid hV; clear hV
  generalize hZ : nrV true V 64 = Z at *
  have HZ := Lib.hid hZ; clear hZ
  go_enter Tryd.func43, Tryd.ntmps43
  go_wp2_with (first | (go_at_call 56; refine (width_any 41 _ (by omega)).mono ?_; rintro e w1 ⟨rfl, rfl⟩; rw [show widthV 41 = 8 from rfl]) | (go_at_call 52; refine (has_any p m.mem.length _ a 8 _ (by omega) (by omega) (by omega) hm.2.1 cs).mono ?_; rintro e w1 ⟨rfl, rfl⟩; rw [HH.out]))
  refine (note_st h hA hl hB a 8 false (by omega) (by omega)).mono ?_
  rintro e w1 ⟨rfl, hs, hf⟩
  have c01 := hs.c0
  go_wp2_with fail
  refine (take_8 p m.mem.length q a m.mem _ (by omega) rfl hm.2.1 (mem_byte hm) hs.m_.c0 (fun i hi => hs.m_.cm i hi)).mono ?_
  rintro e w2 ⟨rfl, rfl⟩
  rw [HV.out]
  go_wp2_with fail
  refine (narrow_any true V 64 _ hv.1 (by omega) (by omega)).mono ?_
  rintro e w3 ⟨rfl, rfl⟩
  rw [HZ.out]
  go_wp2_with fail
  refine (set_any hs.m_ hl hk Z).mono ?_
  rintro e w4 ⟨rfl, rfl⟩
  go_wp2
  go_ret
  obtain ⟨s1, s2⟩ := hs.mach hA (hs.m_.setW hl hk hA.1 Z) ((fr_setW _ p k Z).mono (by simp))
  exact ⟨rfl, s1, hf.trans s2⟩
set_option maxHeartbeats 1000000 in
theorem store_no (op x : Int) (a : Nat) (hop : op = 42 ∨ op = 43 ∨ op = 44) (ha : a < 18446744073709551616) (h : St w base p q rb m R B) (hm : m.ok) (hh : hasB a (widthV op) m.mem.length = false) :
    Calls Tryd.prog 44 #[.pointer (some ⟨rb, 0, none⟩), .int .i64 op, .int .u64 a, .int .u64 x] w fun e w' => e = .returned (.bool false) ∧ w = w' := by
  have c0 := h.c0
  have hl := hm.1
  have cs := h.m_.c0
  have HH := Lib.hid hh; clear hh
  have hwd : widthV op = 1 ∨ widthV op = 4 ∨ widthV op = 8 := by rcases hop with rfl | rfl | rfl <;> simp [widthV]
  generalize hW : widthV op = W at *
  have HW := Lib.hid hW; clear hW
  go_enter Tryd.func44, Tryd.ntmps44
  go_wp2_with (first | (go_at_call 56; refine (width_any op _ (by omega)).mono ?_; rintro e w1 ⟨rfl, rfl⟩; rw [HW.out]) | (go_at_call 52; refine (has_any p m.mem.length _ a W _ (by omega) (by omega) hwd hm.2.1 cs).mono ?_; rintro e w1 ⟨rfl, rfl⟩; rw [HH.out]))
  go_ret
  exact ⟨rfl, rfl⟩
theorem MachAt.mem_ {w w' : World} {m : Ma} (h : MachAt w p q m) (hpq : p ≠ q) (l : List Int) (hl : l.length = m.mem.length) (hq : w'.heap[q]? = some (.cells (u8s l).toArray 5)) (hf : Fr [q] w w') : MachAt w' p q { m with mem := l } :=
  ⟨by rw [hf.at_ h.1 (by simpa using hpq)]; simp [Ma.cells, hl], hq⟩
set_option maxHeartbeats 2000000 in
theorem store_42 (x : Int) (a : Nat) (hx : 0 ≤ x ∧ x < 18446744073709551616) (ha : a < 18446744073709551616) (h : St w base p q rb m R B) (hA : Apart base p q) (hm : m.ok) (hB : B < 1099511627776) (hh : hasB a 1 m.mem.length = true) :
    Calls Tryd.prog 44 #[.pointer (some ⟨rb, 0, none⟩), .int .i64 42, .int .u64 a, .int .u64 x] w (StTo w base p q rb { m with mem := putV m.mem a x 1 } (R.note ⟨m.pl, a, 1, true⟩) (B + 1) (.bool true)) := by
  have c0 := h.c0
  have hl := hm.1
  have cs := h.m_.c0
  obtain ⟨d1, d2⟩ := hasB_out hh
  have HH := Lib.hid hh; clear hh
  go_enter Tryd.func44, Tryd.ntmps44
  go_wp2_with (first | (go_at_call 56; refine (width_any 42 _ (by omega)).mono ?_; rintro e w1 ⟨rfl, rfl⟩; rw [show widthV 42 = 1 from rfl]) | (go_at_call 52; refine (has_any p m.mem.length _ a 1 _ (by omega) (by omega) (by omega) hm.2.1 cs).mono ?_; rintro e w1 ⟨rfl, rfl⟩; rw [HH.out]))
  refine (note_st h hA hl hB a 1 true (by omega) (by omega)).mono ?_
  rintro e w1 ⟨rfl, hs, hf⟩
  have c01 := hs.c0
  go_wp2_with fail
  refine (mput_any p m.mem.length q a 1 x m.mem _ (by omega) (by omega) rfl hm.2.1 hx.1 hx.2 hA.1 hs.m_.lp hs.m_.c0 hs.m_.2).mono ?_
  rintro e w2 ⟨rfl, hq, hfr, hsz⟩
  go_wp2
  go_ret
  obtain ⟨s1, s2⟩ := hs.mach hA (hs.m_.mem_ hA.1 _ (putV_len _ _ _ _) hq hfr) (hfr.mono (by simp))
  exact ⟨rfl, s1, hf.trans s2⟩
set_option maxHeartbeats 2000000 in
theorem store_43 (x : Int) (a : Nat) (hx : 0 ≤ x ∧ x < 18446744073709551616) (ha : a < 18446744073709551616) (h : St w base p q rb m R B) (hA : Apart base p q) (hm : m.ok) (hB : B < 1099511627776) (hh : hasB a 4 m.mem.length = true) :
    Calls Tryd.prog 44 #[.pointer (some ⟨rb, 0, none⟩), .int .i64 43, .int .u64 a, .int .u64 x] w (StTo w base p q rb { m with mem := putV m.mem a x 4 } (R.note ⟨m.pl, a, 4, true⟩) (B + 1) (.bool true)) := by
  have c0 := h.c0
  have hl := hm.1
  have cs := h.m_.c0
  obtain ⟨d1, d2⟩ := hasB_out hh
  have HH := Lib.hid hh; clear hh
  go_enter Tryd.func44, Tryd.ntmps44
  go_wp2_with (first | (go_at_call 56; refine (width_any 43 _ (by omega)).mono ?_; rintro e w1 ⟨rfl, rfl⟩; rw [show widthV 43 = 4 from rfl]) | (go_at_call 52; refine (has_any p m.mem.length _ a 4 _ (by omega) (by omega) (by omega) hm.2.1 cs).mono ?_; rintro e w1 ⟨rfl, rfl⟩; rw [HH.out]))
  refine (note_st h hA hl hB a 4 true (by omega) (by omega)).mono ?_
  rintro e w1 ⟨rfl, hs, hf⟩
  have c01 := hs.c0
  go_wp2_with fail
  refine (mput_any p m.mem.length q a 4 x m.mem _ (by omega) (by omega) rfl hm.2.1 hx.1 hx.2 hA.1 hs.m_.lp hs.m_.c0 hs.m_.2).mono ?_
  rintro e w2 ⟨rfl, hq, hfr, hsz⟩
  go_wp2
  go_ret
  obtain ⟨s1, s2⟩ := hs.mach hA (hs.m_.mem_ hA.1 _ (putV_len _ _ _ _) hq hfr) (hfr.mono (by simp))
  exact ⟨rfl, s1, hf.trans s2⟩
set_option maxHeartbeats 2000000 in
theorem store_44 (x : Int) (a : Nat) (hx : 0 ≤ x ∧ x < 18446744073709551616) (ha : a < 18446744073709551616) (h : St w base p q rb m R B) (hA : Apart base p q) (hm : m.ok) (hB : B < 1099511627776) (hh : hasB a 8 m.mem.length = true) :
    Calls Tryd.prog 44 #[.pointer (some ⟨rb, 0, none⟩), .int .i64 44, .int .u64 a, .int .u64 x] w (StTo w base p q rb { m with mem := putV m.mem a x 8 } (R.note ⟨m.pl, a, 8, true⟩) (B + 1) (.bool true)) := by
  have c0 := h.c0
  have hl := hm.1
  have cs := h.m_.c0
  obtain ⟨d1, d2⟩ := hasB_out hh
  have HH := Lib.hid hh; clear hh
  go_enter Tryd.func44, Tryd.ntmps44
  go_wp2_with (first | (go_at_call 56; refine (width_any 44 _ (by omega)).mono ?_; rintro e w1 ⟨rfl, rfl⟩; rw [show widthV 44 = 8 from rfl]) | (go_at_call 52; refine (has_any p m.mem.length _ a 8 _ (by omega) (by omega) (by omega) hm.2.1 cs).mono ?_; rintro e w1 ⟨rfl, rfl⟩; rw [HH.out]))
  refine (note_st h hA hl hB a 8 true (by omega) (by omega)).mono ?_
  rintro e w1 ⟨rfl, hs, hf⟩
  have c01 := hs.c0
  go_wp2_with fail
  refine (mput_any p m.mem.length q a 8 x m.mem _ (by omega) (by omega) rfl hm.2.1 hx.1 hx.2 hA.1 hs.m_.lp hs.m_.c0 hs.m_.2).mono ?_
  rintro e w2 ⟨rfl, hq, hfr, hsz⟩
  go_wp2
  go_ret
  obtain ⟨s1, s2⟩ := hs.mach hA (hs.m_.mem_ hA.1 _ (putV_len _ _ _ _) hq hfr) (hfr.mono (by simp))
  exact ⟨rfl, s1, hf.trans s2⟩
end
end Go.Proofs.YtppcbommaddkgaaDoor
namespace Go.Proofs.YtppcbommaddkgaaDoor
open Go.RowKit Go.Maps
set_option linter.unusedVariables false
set_option linter.unusedSimpArgs false
set_option maxRecDepth 10000
open Pm Pc Pl
namespace Pm
/-- Behind an ECALL; none: there is no such one. -/
def callV (m : Ma) (R : Ru) : Option (Ma × Ru) :=
  if m.reg 17 = 1 then some (m, { R with out := R.out ++ [m.reg 10 % 256] })
  else if m.reg 17 = 2 then (match R.inp with
    | [] => some (m.set 10 18446744073709551615, R)
    | b :: l => some (m.set 10 b, { R with inp := l }))
  else if m.reg 17 = 3 then some ({ m with st := 1, cd := m.reg 10 % 256 }, R)
  else if m.reg 17 = 4 ∨ m.reg 17 = 5 then some ({ m with st := m.reg 17 - 2 }, R)
  else none
end Pm
/-- The outcome of a part of a step: done, or not, and then nothing has changed. -/
def OptTo (w : World) (base p q rb : Nat) (m : Ma) (R : Ru) (B : Nat) (o : Option (Ma × Ru)) (e : Ending) (w' : World) : Prop :=
  match o with
  | some x => StTo w base p q rb x.1 x.2 B (.bool true) e w'
  | none => StTo w base p q rb m R B (.bool false) e w'
theorem reg_range {m : Ma} (h : m.ok) (k : Nat) : 0 ≤ m.reg k ∧ m.reg k < 18446744073709551616 := by
  unfold Ma.reg
  by_cases hi : k < m.x.length
  · have e : m.x.getD k 0 = m.x[k] := by simp [List.getD, hi]
    rw [e]; exact h.2.2.1 _ (List.getElem_mem hi)
  · have e : m.x.getD k 0 = 0 := by simp [List.getD, List.getElem?_eq_none (Nat.le_of_not_lt hi)]
    rw [e]; omega
section
variable {w : World} {base p q rb : Nat} {m : Ma} {R : Ru} {B : Nat} {ov sv : Value} {A : Option Addr} {c mb cnt : Nat} {D : DataW Unit}
theorem run_cell (h : RunIs w base p q rb R ov sv A c mb cnt D) (hm : MachAt w p q m) (hA : Apart base p q) {i : Nat} {x : Value} {R' : Ru} {A' : Option Addr} {c' : Nat}
    (hc : (runC p mb R ov sv A c).setIfInBounds i x = runC p mb R' ov sv A' c') (ho : R'.out = R.out) (hs : R'.seen = R.seen) (hi : InpIs w base p q A' R'.inp) :
    RunIs (w.setCell ⟨rb, i, none⟩ x) base p q rb R' ov sv A' c' mb cnt D ∧ MachAt (w.setCell ⟨rb, i, none⟩ x) p q m ∧ Fj base p q w (w.setCell ⟨rb, i, none⟩ x) := by
  have hother : ∀ g, g ≠ rb → (w.setCell ⟨rb, i, none⟩ x).heap[g]? = w.heap[g]? := fun g hne => heap_setCell_other _ _ _ _ (by simpa using hne)
  have hrb := h.lrb
  have hrow : ∀ e, e ≠ 69 → ∀ g cur, base ≤ g → w.heap[g]? = some (.cells cur e) → (w.setCell ⟨rb, i, none⟩ x).heap[g]? = some (.cells cur e) := by
    intro e he g cur _ h1
    have : g ≠ rb := by
      rintro rfl
      rw [h.blk] at h1
      injection h1 with h1
      injection h1 with _ h1
      exact he h1.symm
    rw [hother g this]; exact h1
  have hmb : mb ≠ rb := by
    rintro rfl
    exact map_ne h.map h.blk rfl
  refine ⟨⟨?_, ?_, ?_, ?_, ?_, h.mok, h.lrb, h.lmb⟩, ?_, ?_⟩
  · rw [heap_setCell_same _ _ _ _ _ _ h.blk, hc]
  · rw [ho]; exact ownsRow_at2 h.out (hrow _ (by decide))
  · rw [hs]; exact ownsRow_at2 h.seen (hrow _ (by decide))
  · exact hi.at_ fun g hg1 hg2 _ _ => hother g (by omega)
  · exact owns_at h.map fun o ho => by rw [hother mb hmb]; exact ho
  · exact hm.keep (Fr.set (S := [rb]) _ _ _ _ (by simp)) (by have := hA.2.1; simp; omega) (by have := hA.2.2.1; simp; omega)
  · refine Fj.of (Fr.set (S := [rb]) _ _ _ _ (by simp)) (by simp; omega) ?_
    intro k hk cs
    simp only [List.mem_cons, List.not_mem_nil, or_false] at hk
    subst hk
    rw [h.blk]; intro e; injection e with e; injection e with _ e; exact absurd e (by decide)
theorem inp_tail {ib off : Nat} {b : Int} {l : List Int} (h : InpIs w base p q (some ⟨ib, off, none⟩) (b :: l)) (hc : (b :: l).length ≤ c) : InpIs w base p q (if c = 1 then some ⟨ib, off, none⟩ else some ⟨ib, off + 1, none⟩) l := by
  refine ⟨fun i => by simpa using h.1 (i + 1), fun h0 => ?_⟩
  obtain ⟨ib', off', he, h1, h2, h3, h4⟩ := h.2 (by simp)
  injection he with he
  injection he with e1 e2
  subst e1 e2
  have : c ≠ 1 := by simp at hc; omega
  rw [if_neg this]
  refine ⟨ib, off + 1, rfl, h1, h2, h3, fun j hj => ?_⟩
  have := h4 (j + 1) (by simp; omega)
  rw [show off + 1 + j = off + (j + 1) by omega, this]
  simp
theorem call_st (h : St w base p q rb m R B) (hA : Apart base p q) (hm : m.ok) (hB : B < 1099511627776) :
    Calls Tryd.prog 46 #[.pointer (some ⟨rb, 0, none⟩)] w (OptTo w base p q rb m R (B + 1) (callV m R)) := by
  have h' := h
  obtain ⟨ov, sv, A, c, mb, cnt, D, hr, hma, b1, b2, b3, b4⟩ := h
  have hl := hm.1
  have r10 := reg_range hm 10
  have lrb := hr.lrb
  have cr0 := hr.c 0
  by_cases k1 : m.reg 17 = 1
  · have hne := own_ne hr.out hr.blk (fun cur => by simp)
    refine (call_out hma hl (Lib.hid k1) r10 (n := R.out.length) (by omega) (cr0.trans rfl) ((hr.c 4).trans rfl) (hr.f 4) hr.out hne hr.lr).mono ?_
    rintro e w' ⟨rfl, g, cap, w1, ho, hg, rfl⟩
    rw [callV, if_pos k1]
    have hseen : w1.ownsRow base 81 4 sv R.seen.length (accs R.seen) := ownsRow_at2 hr.seen fun g' cur _ h1 => (hg.block g' (lt_of_at h1) (fun e => own_ne hr.out h1 (fun cur => by simp) e.symm)).trans h1
    obtain ⟨r1, r2, r3⟩ := grown_run (i := 4) (R' := { R with out := R.out ++ [m.reg 10 % 256] }) hr hma hA hg hne (own_base hr.out hA.2.1) (own_base hr.out hA.2.2.1) (by
      obtain ⟨es, ck, hb, _⟩ := hr.map
      exact own_ne hr.out hb (fun cur => by simp)) (fun g' hg' => own_base hr.out hg') (fun g' cs h1 => own_ne hr.out h1 (fun cur => by simp)) rfl rfl (by simpa [u8s] using ho) hseen
    exact ⟨rfl, ⟨_, _, _, _, _, _, _, r1, r2, by omega, by simp; omega, by show R.seen.length ≤ _; omega, b4⟩, r3⟩
  by_cases k2 : m.reg 17 = 2
  · rw [callV, if_neg k1, if_pos k2]
    have hin := hr.inp
    have c7 := hr.c 7
    cases hi : R.inp with
    | nil =>
      refine (call_take0 hma hl k2 (A := A) (c := c) (cr0.trans rfl) (c7.trans (by simp [runC, hi]))).mono ?_
      rintro e w' ⟨rfl, ha⟩
      obtain ⟨s1, s2⟩ := (h'.more (Nat.le_succ B)).mach hA ((hma.setW hl (by omega : 10 < 32) hA.1 18446744073709551615).alike ha) (((fr_setW w p 10 18446744073709551615).mono (by simp)).alike ha)
      exact ⟨rfl, s1, s2⟩
    | cons b l =>
      rw [hi] at hin b4
      obtain ⟨ib, off, hAe, i1, i2, i3, i4⟩ := hin.2 (by simp)
      subst hAe
      have hb := hin.1 0
      have ci := i4 0 (by simp)
      simp only [List.getD_cons_zero, Nat.add_zero] at hb ci
      simp only [List.length_cons] at b4
      refine (call_take1 (n := l.length) b (Lib.hid rfl) hb (by omega) hma hl k2 (by have := hA.2.1; omega) (cr0.trans rfl) (c7.trans (by simp [runC, hi])) (hr.f 7) ci).mono ?_
      rintro e w' ⟨rfl, ha⟩
      have hcap : (c : Int) - 1 = ((c - 1 : Nat) : Int) := by omega
      obtain ⟨r1, r2, r3⟩ := run_cell (i := 7) (R' := { R with inp := l }) (c' := c - 1) hr hma hA (x := .slice (if c = 1 then some ⟨ib, off, none⟩ else some ⟨ib, off + 1, none⟩) l.length (c - 1)) rfl rfl rfl (inp_tail hin (by simpa using b4))
      have hst : St (w.setCell ⟨rb, 7, none⟩ (.slice (if c = 1 then some ⟨ib, off, none⟩ else some ⟨ib, off + 1, none⟩) l.length (c - 1))) base p q rb m { R with inp := l } (B + 1) := ⟨_, _, _, _, _, _, _, r1, r2, by omega, by show R.out.length ≤ _; omega, by show R.seen.length ≤ _; omega, by show l.length ≤ _; omega⟩
      have hw := r2.setW hl (by omega : 10 < 32) hA.1 b
      have e10 : setW (w.setCell ⟨rb, 7, none⟩ (.slice (if c = 1 then some ⟨ib, off, none⟩ else some ⟨ib, off + 1, none⟩) l.length (c - 1))) p 10 b = (w.setCell ⟨rb, 7, none⟩ (.slice (if c = 1 then some ⟨ib, off, none⟩ else some ⟨ib, off + 1, none⟩) l.length (c - 1))).setCell ⟨p, 11, none⟩ (.int .u64 b) := by unfold setW; rw [if_pos (by omega)]
      have hfr := fr_setW (w.setCell ⟨rb, 7, none⟩ (.slice (if c = 1 then some ⟨ib, off, none⟩ else some ⟨ib, off + 1, none⟩) l.length (c - 1))) p 10 b
      rw [e10] at hw hfr
      obtain ⟨s1, s2⟩ := hst.mach hA (hw.alike ha) ((hfr.mono (by simp)).alike ha)
      exact ⟨rfl, s1, r3.trans s2⟩
  by_cases k3 : m.reg 17 = 3
  · refine (call_exit hma hl k3 r10 (cr0.trans rfl)).mono ?_
    rintro e w' ⟨rfl, ha⟩
    rw [callV, if_neg k1, if_neg k2, if_pos k3]
    have h1 := hma.setSt hl hA.1 1
    have h2 := h1.setCd hl hA.1 (m.reg 10 % 256)
    obtain ⟨s1, s2⟩ := (h'.more (Nat.le_succ B)).mach hA (h2.alike ha) ((((Fr.set (S := [p]) w p 34 (.int .i64 1) (by simp)).trans (Fr.set (S := [p]) _ p 35 (.int .u8 (m.reg 10 % 256)) (by simp))).mono (by simp)).alike ha)
    exact ⟨rfl, s1, s2⟩
  by_cases k4 : m.reg 17 = 4 ∨ m.reg 17 = 5
  · refine (call_stop hma hl _ rfl k4 (cr0.trans rfl)).mono ?_
    rintro e w' ⟨rfl, rfl⟩
    rw [callV, if_neg k1, if_neg k2, if_neg k3, if_pos k4]
    obtain ⟨s1, s2⟩ := (h'.more (Nat.le_succ B)).mach hA (hma.setSt hl hA.1 _) ((Fr.set (S := [p]) w p 34 _ (by simp)).mono (by simp))
    exact ⟨rfl, s1, s2⟩
  · refine (call_none hma hl _ rfl (by have := reg_range hm 17; omega) (cr0.trans rfl)).mono ?_
    rintro e w' ⟨rfl, rfl⟩
    rw [callV, if_neg k1, if_neg k2, if_neg k3, if_neg k4]
    exact ⟨rfl, h'.more (Nat.le_succ B), Fj.refl _ _ _ _⟩
theorem St.below {w' : World} (h : St w base p q rb m R B) (hA : Apart base p q) (hb : Below w.heap.size w w') : St w' base p q rb m R B ∧ Fj base p q w w' :=
  h.mach hA (h.m_.keep (Fr.below (S := []) hb) (by simp) (by simp)) (Fr.below hb)
/-- The word at the place. -/
def wordAt (m : Ma) : Int := getV m.mem m.pl.toNat 4
/-- What comes of the place. -/
def InstrTo (w : World) (base p q rb : Nat) (m : Ma) (R : Ru) (B : Nat) (e : Ending) (w' : World) : Prop :=
  St w' base p q rb m R B ∧ Fj base p q w w' ∧ if hasB m.pl 4 m.mem.length = true ∧ findOp (wordAt m) ≠ 0 then e = .returned (.tuple #[decV (wordAt m), .bool true]) else e = .returned (.tuple #[ins 0 0 0 0 0, .bool false])
theorem instr_st (h : St w base p q rb m R B) (hA : Apart base p q) (hm : m.ok) (hB : B < 1099511627776) (hF : FormsIn w) :
    Calls Tryd.prog 40 #[.pointer (some ⟨rb, 0, none⟩)] w (InstrTo w base p q rb m R (B + 1)) := by
  have h' := h
  obtain ⟨ov, sv, A, c, mb, cnt, D, hr, hma, b1, b2, b3, b4⟩ := h
  have hl := hm.1
  have hpl := hm.2.2.2.2.1
  by_cases hh : hasB m.pl 4 m.mem.length = true
  · obtain ⟨d1, d2⟩ := hasB_out hh
    obtain ⟨a, ha⟩ := Int.eq_ofNat_of_zero_le hpl.1
    have hwa : getV m.mem a 4 = wordAt m := by unfold wordAt; rw [ha]; rfl
    have cpl := hma.cpl hl
    rw [ha] at cpl
    have a1 : a + 4 ≤ m.mem.length := by omega
    have a2 : a % 4 = 0 := by omega
    cases hD : has D (.int .u32 (wordAt m))
    · by_cases hf : findOp (wordAt m) = 0
      · refine (instr_none rb p _ mb q a cnt m.mem D (wordAt m) w hm.2.1 rfl (mem_byte hm) a1 a2 (Lib.hid hwa) ((hr.c 0).trans rfl) hma.c0 cpl ((hr.c 8).trans rfl) hma.2 hr.map hr.mok hD hf hF).mono ?_
        rintro e w' ⟨rfl, hb⟩
        obtain ⟨s1, s2⟩ := (h'.more (Nat.le_succ B)).below hA hb
        exact ⟨s1, s2, by rw [if_neg (fun x => x.2 hf)]⟩
      · refine (instr_new rb p _ mb q a cnt m.mem D (wordAt m) w hm.2.1 rfl (mem_byte hm) a1 a2 (Lib.hid hwa) ((hr.c 0).trans rfl) hma.c0 cpl ((hr.c 8).trans rfl) hma.2 hr.map hr.mok hD hf hF (by omega)).mono ?_
        rintro e w' ⟨rfl, ho, hfr⟩
        have lmb := hr.lmb
        have lrb := hr.lrb
        have hmb : rb ≠ mb := map_ne hr.map hr.blk
        refine ⟨⟨ov, sv, A, c, mb, cnt + 1, D.put (.int .u32 (wordAt m)) (decD (wordAt m)), ⟨hfr.at_ hr.blk (by simpa using hmb), ?_, ?_, ?_, ho, hr.mok.put _ hf, lrb, lmb⟩, hma.keep hfr (by have := hA.2.1; simp; omega) (by have := hA.2.2.1; simp; omega), by omega, by omega, by omega, b4⟩, Fj.of hfr (by simp; omega) (fun k hk cs => by simp at hk; subst hk; exact fun e => map_ne hr.map e rfl), by rw [if_pos ⟨hh, hf⟩]⟩
        · exact ownsRow_at2 hr.out fun g cur _ h1 => hfr.at_ h1 (by simpa using map_ne hr.map h1)
        · exact ownsRow_at2 hr.seen fun g cur _ h1 => hfr.at_ h1 (by simpa using map_ne hr.map h1)
        · exact hr.inp.at_ fun g hg hgb _ _ => hfr.block g hg (by simp; omega)
    · refine (instr_old rb p _ mb q a cnt m.mem D (wordAt m) w hm.2.1 rfl (mem_byte hm) a1 a2 (Lib.hid hwa) ((hr.c 0).trans rfl) hma.c0 cpl ((hr.c 8).trans rfl) hma.2 hr.map hr.mok hD).mono ?_
      rintro e w' ⟨rfl, hb⟩
      obtain ⟨s1, s2⟩ := (h'.more (Nat.le_succ B)).below hA hb
      have hur := getV_range m.mem (mem_byte hm) 4 a
      rw [hwa] at hur
      exact ⟨s1, s2, by rw [if_pos ⟨hh, (hr.mok.2 _ hur.1 (by omega) hD).1⟩]⟩
  · have hh' : hasB m.pl 4 m.mem.length = false := by simpa using hh
    refine (instr_out rb p _ mb _ m.pl w hpl.1 hpl.2 hm.2.1 (Lib.hid hh') ((hr.c 0).trans rfl) hma.c0 (hma.cpl hl)).mono ?_
    rintro e w' ⟨rfl, hb⟩
    obtain ⟨s1, s2⟩ := (h'.more (Nat.le_succ B)).below hA hb
    exact ⟨s1, s2, by rw [if_neg (fun x => hh x.1)]⟩
end
end Go.Proofs.YtppcbommaddkgaaDoor
namespace Go.Proofs.YtppcbommaddkgaaDoor
open Go.RowKit Go.Maps
set_option linter.unusedVariables false
set_option linter.unusedSimpArgs false
set_option maxRecDepth 10000
open Pm Pc Pl
namespace Pm
theorem Ma.set_len {m : Ma} (k : Nat) (v : Int) (h : m.x.length = 32) : (m.set k v).x.length = 32 := by
  unfold Ma.set; split <;> simp [h]
theorem mark_no {op rd r1 r2 n : Int} (h : op ≠ 28) : markB op rd r1 r2 n = false := by unfold markB; simp [h]
theorem andn_nat (x : Nat) (h : x < 18446744073709551616) : x &&& 18446744073709551614 = x / 2 * 2 := by
  apply Nat.eq_of_testBit_eq
  intro i
  rw [Nat.testBit_and]
  cases i with
  | zero => simp
  | succ j =>
    rw [Nat.testBit_succ, Nat.testBit_succ, Nat.testBit_succ, Nat.mul_div_cancel _ (by decide : 0 < 2)]
    rw [show 18446744073709551614 / 2 = 2 ^ 63 - 1 by decide, Nat.testBit_two_pow_sub_one]
    by_cases hj : j < 63
    · simp [hj]
    · rw [Nat.testBit_lt_two_pow (Nat.lt_of_lt_of_le (show x / 2 < 2 ^ 63 by omega) (Nat.pow_le_pow_right (by decide) (by omega)))]; rfl
theorem andn_1 (x : Int) (h0 : 0 ≤ x) (h1 : x < 18446744073709551616) : bits .andNot .u64 x 1 = x / 2 * 2 := by
  obtain ⟨x, rfl⟩ := Int.eq_ofNat_of_zero_le h0
  have h2 : (BitVec.ofInt 64 (x : Int)).toNat = x := by
    rw [BitVec.ofInt_natCast, BitVec.toNat_ofNat]; exact Nat.mod_eq_of_lt (by omega)
  show IntKind.u64.wrap ((BitVec.ofInt 64 (x : Int) &&& ~~~ BitVec.ofInt 64 1).toNat : Int) = _
  rw [BitVec.toNat_and, h2, show (~~~ BitVec.ofInt 64 1 : BitVec 64).toNat = 18446744073709551614 by decide, andn_nat x (by omega), IntKind.wrap_u64]
  omega
end Pm
theorem set_st {w : World} {base p q rb : Nat} {m : Ma} {R : Ru} {B k : Nat} (h : St w base p q rb m R B) (hA : Apart base p q) (hl : m.x.length = 32) (hk : k < 32) (v : Int) :
    Calls Tryd.prog 19 #[.pointer (some ⟨p, 0, none⟩), .int .i64 k, .int .u64 v] w fun e w' => e = .returned (.tuple #[]) ∧ St w' base p q rb (m.set k v) R B ∧ Fj base p q w w' ∧ Fr [p] w w' := by
  refine (set_any h.m_ hl hk v).mono ?_
  rintro e w' ⟨rfl, rfl⟩
  obtain ⟨s, g⟩ := h.mach hA (h.m_.setW hl hk hA.1 v) ((fr_setW w p k v).mono (by simp))
  exact ⟨rfl, s, g, fr_setW w p k v⟩
theorem at_p {w w' : World} {p ib : Nat} {o : Obj} (hf : Fr [p] w w') (h : w.heap[ib]? = some o) (hp : ib ≠ p) : w'.heap[ib]? = some o := hf.at_ h (by simpa using hp)
set_option maxRecDepth 100000 in
set_option maxHeartbeats 8000000 in
theorem step_R {w : World} {base p q rb : Nat} {m m' : Ma} {R R' : Ru} {B : Nat} (op n : Int) (rd r1 r2 : Nat) (h : St w base p q rb m R B) (hA : Apart base p q) (hm : m.ok) (hB : B < 1099511627770) (hF : FormsIn w) (hd : rd < 32) (h1 : r1 < 32) (h2 : r2 < 32)
    (hop : 1 ≤ op ∧ op ≤ 27) (hh : Hid (hasB m.pl 4 m.mem.length = true)) (hf : Hid (findOp (wordAt m) ≠ 0)) (hdec : Hid (decV (wordAt m) = ins op rd r1 r2 n))
    (hm' : Hid (m' = { m.set rd (opV op (m.reg r1) (m.reg r2)) with pl := (m.pl + 4) % 18446744073709551616 })) (hR' : Hid (R' = R)) :
    Calls Tryd.prog 27 #[.pointer (some ⟨rb, 0, none⟩)] w (StTo w base p q rb m' R' (B + 5) (.bool true)) := by
  have hl := hm.1
  have hpl := hm.2.2.2.2.1
  have t27 : decide (op ≤ 27) = true := decide_eq_true hop.2
  have ra := reg_range hm r1
  have rb_ := reg_range hm r2
  go_enter Tryd.func27, Tryd.ntmps27
  go_wp2_with fail
  refine (instr_st h hA hm (by omega) hF).mono ?_
  rintro e w1 ⟨s1, f1, he⟩
  rw [if_pos ⟨hh.out, hf.out⟩, hdec.out] at he
  subst he
  go_wp2_with fail
  obtain ⟨s2, f2⟩ := s1.below hA ((Below.refl w1.heap.size w1).alloc (Nat.le_refl _) (insB op rd r1 r2 n))
  have i2 := heap_alloc_new w1 (insB op rd r1 r2 n)
  have z1 : w1.heap.size ≠ p := by have := s1.m_.lp; omega
  have z2 : w1.heap.size ≠ q := by have := s1.m_.lq; omega
  generalize w1.heap.size = ib at *
  generalize w1.alloc (insB op rd r1 r2 n) = w2 at *
  have ma := s2.m_
  have q0 : ∀ k : Nat, MachAt (w2.drewN k) p q m := fun _ => ma
  have c0 := s2.c0
  have j2 : w2.cell? ⟨ib, 2, none⟩ = some (.int .i64 r1) := by rw [cell_of_row w2 _ 2 _ _ _ i2]; rfl
  have j3 : w2.cell? ⟨ib, 3, none⟩ = some (.int .i64 r2) := by rw [cell_of_row w2 _ 3 _ _ _ i2]; rfl
  have j4 : w2.cell? ⟨ib, 4, none⟩ = some (.int .i64 n) := by rw [cell_of_row w2 _ 4 _ _ _ i2]; rfl
  go_quiet ((first | (go_at_call 24; with_reducible refine (regs_any (q0 _) hl h1).mono ?_; rintro e w9 ⟨rfl, rfl⟩; exact ⟨rfl, _, rfl⟩) | (go_at_call 24; with_reducible refine (regs_any (q0 _) hl h2).mono ?_; rintro e w9 ⟨rfl, rfl⟩; exact ⟨rfl, _, rfl⟩) | (go_at_call 41; with_reducible refine (of_num _ _).mono ?_; rintro e w9 ⟨rfl, rfl⟩; exact ⟨rfl, _, rfl⟩)))
  revert nq; intro kq
  obtain ⟨s3, f30⟩ := s2.below hA (belowQ kq (Below.refl _ w2))
  have f3 := (f1.trans f2).trans f30
  clear f30
  have i3 : (w2.drewN kq).heap[ib]? = some (insB op rd r1 r2 n) := i2
  clear s1 s2 f1 f2 i2 q0 c0 j2 j3 j4 ma h hF
  generalize w2.drewN kq = w3 at *
  have c0 := s3.c0
  have cp := s3.m_.cpl hl
  have j0 : w3.cell? ⟨ib, 0, none⟩ = some (.int .i64 op) := by rw [cell_of_row w3 _ 0 _ _ _ i3]; rfl
  have j1 : w3.cell? ⟨ib, 1, none⟩ = some (.int .i64 rd) := by rw [cell_of_row w3 _ 1 _ _ _ i3]; rfl
  have I3 := Lib.hid i3
  obtain ⟨a, ha⟩ : ∃ a, m.reg r1 = a := ⟨_, rfl⟩
  obtain ⟨b, hb⟩ : ∃ b, m.reg r2 = b := ⟨_, rfl⟩
  have HA := Lib.hid ha; have HB := Lib.hid hb
  rw [ha] at ra ⊢
  rw [hb] at rb_ ⊢
  have hk := Int.emod_nonneg n (by decide : (18446744073709551616 : Int) ≠ 0)
  have hk' := Int.emod_lt_of_pos n (by decide : (0 : Int) < 18446744073709551616)
  obtain ⟨k, hke⟩ : ∃ k, n % 18446744073709551616 = k := ⟨_, rfl⟩
  have HK := Lib.hid hke
  rw [hke] at hk hk' ⊢
  clear ha hb hke i3
  go_wp2_with fail
  refine (operate_any op rd a b s3.m_ hl hd hop.1 hop.2 ra rb_ c0).mono ?_
  rintro e w4 ⟨rfl, rfl⟩
  obtain ⟨s4, g4⟩ := s3.mach hA (s3.m_.setW hl hd hA.1 (opV op a b)) ((fr_setW w3 p rd _).mono (by simp))
  have f4 := f3.trans g4
  have i4 := Lib.hid (at_p (fr_setW w3 p rd (opV op a b)) I3.out z1)
  clear s3 f3 g4 c0 cp j0 j1
  generalize setW w3 p rd (opV op a b) = w4 at *
  have c04 := s4.c0
  go_wp2_with (refine wpList_load_g (o := ⟨some 189, _, _, _, _, _⟩) rfl 49 (.tmp 3) rfl ib rfl 49 _ (0, 0) _ i4.out Tryd.underlying49 rfl sizeInstr ?_)
  refine (mark_any op rd r1 r2 n _).mono ?_
  rintro e w5 ⟨rfl, hb5⟩
  rw [show markB op rd r1 r2 n = false from mark_no (by omega)]
  obtain ⟨s5, f5⟩ := s4.below hA hb5
  have c05 := s5.c0
  have cp5 := s5.m_.cpl (Ma.set_len _ _ hl)
  have fp5 := s5.m_.fr 33
  clear c04 s4 hb5
  go_wp2
  go_ret
  obtain ⟨s6, f6⟩ := s5.mach hA (s5.m_.setPl (Ma.set_len _ _ hl) hA.1 _) ((Fr.set (S := [p]) _ p 33 _ (by simp)).mono (by simp))
  refine ⟨rfl, ?_, (f4.trans f5).trans f6⟩
  rw [hm'.out, hR'.out]
  try simp only [HA.out, HB.out, HK.out]
  simp only [IntKind.wrap_u64] at s6 ⊢
  exact s6.more (by omega)
set_option maxRecDepth 100000 in
set_option maxHeartbeats 8000000 in
theorem step_lui {w : World} {base p q rb : Nat} {m m' : Ma} {R R' : Ru} {B : Nat} (n : Int) (rd r1 r2 : Nat) (h : St w base p q rb m R B) (hA : Apart base p q) (hm : m.ok) (hB : B < 1099511627770) (hF : FormsIn w) (hd : rd < 32) (h1 : r1 < 32) (h2 : r2 < 32)
     (hh : Hid (hasB m.pl 4 m.mem.length = true)) (hf : Hid (findOp (wordAt m) ≠ 0)) (hdec : Hid (decV (wordAt m) = ins 51 rd r1 r2 n))
    (hm' : Hid (m' = { m.set rd ((n % 18446744073709551616) * 4096 % 18446744073709551616) with pl := (m.pl + 4) % 18446744073709551616 })) (hR' : Hid (R' = R)) :
    Calls Tryd.prog 27 #[.pointer (some ⟨rb, 0, none⟩)] w (StTo w base p q rb m' R' (B + 5) (.bool true)) := by
  have hl := hm.1
  have hpl := hm.2.2.2.2.1
  have ra := reg_range hm r1
  have rb_ := reg_range hm r2
  go_enter Tryd.func27, Tryd.ntmps27
  go_wp2_with fail
  refine (instr_st h hA hm (by omega) hF).mono ?_
  rintro e w1 ⟨s1, f1, he⟩
  rw [if_pos ⟨hh.out, hf.out⟩, hdec.out] at he
  subst he
  go_wp2_with fail
  obtain ⟨s2, f2⟩ := s1.below hA ((Below.refl w1.heap.size w1).alloc (Nat.le_refl _) (insB 51 rd r1 r2 n))
  have i2 := heap_alloc_new w1 (insB 51 rd r1 r2 n)
  have z1 : w1.heap.size ≠ p := by have := s1.m_.lp; omega
  have z2 : w1.heap.size ≠ q := by have := s1.m_.lq; omega
  generalize w1.heap.size = ib at *
  generalize w1.alloc (insB 51 rd r1 r2 n) = w2 at *
  have ma := s2.m_
  have q0 : ∀ k : Nat, MachAt (w2.drewN k) p q m := fun _ => ma
  have c0 := s2.c0
  have j2 : w2.cell? ⟨ib, 2, none⟩ = some (.int .i64 r1) := by rw [cell_of_row w2 _ 2 _ _ _ i2]; rfl
  have j3 : w2.cell? ⟨ib, 3, none⟩ = some (.int .i64 r2) := by rw [cell_of_row w2 _ 3 _ _ _ i2]; rfl
  have j4 : w2.cell? ⟨ib, 4, none⟩ = some (.int .i64 n) := by rw [cell_of_row w2 _ 4 _ _ _ i2]; rfl
  go_quiet ((first | (go_at_call 24; with_reducible refine (regs_any (q0 _) hl h1).mono ?_; rintro e w9 ⟨rfl, rfl⟩; exact ⟨rfl, _, rfl⟩) | (go_at_call 24; with_reducible refine (regs_any (q0 _) hl h2).mono ?_; rintro e w9 ⟨rfl, rfl⟩; exact ⟨rfl, _, rfl⟩) | (go_at_call 41; with_reducible refine (of_num _ _).mono ?_; rintro e w9 ⟨rfl, rfl⟩; exact ⟨rfl, _, rfl⟩)))
  revert nq; intro kq
  obtain ⟨s3, f30⟩ := s2.below hA (belowQ kq (Below.refl _ w2))
  have f3 := (f1.trans f2).trans f30
  clear f30
  have i3 : (w2.drewN kq).heap[ib]? = some (insB 51 rd r1 r2 n) := i2
  clear s1 s2 f1 f2 i2 q0 c0 j2 j3 j4 ma h hF
  generalize w2.drewN kq = w3 at *
  have c0 := s3.c0
  have cp := s3.m_.cpl hl
  have j0 : w3.cell? ⟨ib, 0, none⟩ = some (.int .i64 51) := by rw [cell_of_row w3 _ 0 _ _ _ i3]; rfl
  have j1 : w3.cell? ⟨ib, 1, none⟩ = some (.int .i64 rd) := by rw [cell_of_row w3 _ 1 _ _ _ i3]; rfl
  have I3 := Lib.hid i3
  obtain ⟨a, ha⟩ : ∃ a, m.reg r1 = a := ⟨_, rfl⟩
  obtain ⟨b, hb⟩ : ∃ b, m.reg r2 = b := ⟨_, rfl⟩
  have HA := Lib.hid ha; have HB := Lib.hid hb
  rw [ha] at ra ⊢
  rw [hb] at rb_ ⊢
  have hk := Int.emod_nonneg n (by decide : (18446744073709551616 : Int) ≠ 0)
  have hk' := Int.emod_lt_of_pos n (by decide : (0 : Int) < 18446744073709551616)
  obtain ⟨k, hke⟩ : ∃ k, n % 18446744073709551616 = k := ⟨_, rfl⟩
  have HK := Lib.hid hke
  rw [hke] at hk hk' ⊢
  clear ha hb hke i3
  go_wp2_with fail
  go_still_tail 8, (by kernel_rfl)
  change wpList _ _ _ _ _ w3.drew
  obtain ⟨s3d, f3d⟩ := s3.below hA ((Below.refl _ w3).drew)
  have f3' := f3.trans f3d
  have I3' := Lib.hid (show w3.drew.heap[ib]? = some (insB 51 rd r1 r2 n) from I3.out)
  clear s3 f3 f3d c0 cp j0 j1 I3
  generalize w3.drew = w3 at *
  have c0 := s3d.c0
  go_wp2_with fail
  refine (set_st s3d hA hl hd _).mono ?_
  rintro e w4 ⟨rfl, s4, g4, r4⟩
  have f4 := f3'.trans g4
  have i4 := Lib.hid (at_p r4 I3'.out z1)
  clear g4 c0
  have c04 := s4.c0
  go_wp2_with (refine wpList_load_g (o := ⟨some 189, _, _, _, _, _⟩) rfl 49 (.tmp 3) rfl ib rfl 49 _ (0, 0) _ i4.out Tryd.underlying49 rfl sizeInstr ?_)
  refine (mark_any 51 rd r1 r2 n _).mono ?_
  rintro e w5 ⟨rfl, hb5⟩
  rw [show markB 51 rd r1 r2 n = false from mark_no (by omega)]
  obtain ⟨s5, f5⟩ := s4.below hA hb5
  have c05 := s5.c0
  have cp5 := s5.m_.cpl (Ma.set_len _ _ hl)
  have fp5 := s5.m_.fr 33
  clear c04 s4 hb5
  go_wp2
  go_ret
  obtain ⟨s6, f6⟩ := s5.mach hA (s5.m_.setPl (Ma.set_len _ _ hl) hA.1 _) ((Fr.set (S := [p]) _ p 33 _ (by simp)).mono (by simp))
  refine ⟨rfl, ?_, (f4.trans f5).trans f6⟩
  rw [hm'.out, hR'.out]
  try simp only [HA.out, HB.out, HK.out]
  simp only [IntKind.wrap_u64] at s6 ⊢
  exact s6.more (by omega)
set_option maxRecDepth 100000 in
set_option maxHeartbeats 8000000 in
theorem step_auipc {w : World} {base p q rb : Nat} {m m' : Ma} {R R' : Ru} {B : Nat} (n : Int) (rd r1 r2 : Nat) (h : St w base p q rb m R B) (hA : Apart base p q) (hm : m.ok) (hB : B < 1099511627770) (hF : FormsIn w) (hd : rd < 32) (h1 : r1 < 32) (h2 : r2 < 32)
     (hh : Hid (hasB m.pl 4 m.mem.length = true)) (hf : Hid (findOp (wordAt m) ≠ 0)) (hdec : Hid (decV (wordAt m) = ins 52 rd r1 r2 n))
    (hm' : Hid (m' = { m.set rd ((m.pl + (n % 18446744073709551616) * 4096 % 18446744073709551616) % 18446744073709551616) with pl := (m.pl + 4) % 18446744073709551616 })) (hR' : Hid (R' = R)) :
    Calls Tryd.prog 27 #[.pointer (some ⟨rb, 0, none⟩)] w (StTo w base p q rb m' R' (B + 5) (.bool true)) := by
  have hl := hm.1
  have hpl := hm.2.2.2.2.1
  have ra := reg_range hm r1
  have rb_ := reg_range hm r2
  go_enter Tryd.func27, Tryd.ntmps27
  go_wp2_with fail
  refine (instr_st h hA hm (by omega) hF).mono ?_
  rintro e w1 ⟨s1, f1, he⟩
  rw [if_pos ⟨hh.out, hf.out⟩, hdec.out] at he
  subst he
  go_wp2_with fail
  obtain ⟨s2, f2⟩ := s1.below hA ((Below.refl w1.heap.size w1).alloc (Nat.le_refl _) (insB 52 rd r1 r2 n))
  have i2 := heap_alloc_new w1 (insB 52 rd r1 r2 n)
  have z1 : w1.heap.size ≠ p := by have := s1.m_.lp; omega
  have z2 : w1.heap.size ≠ q := by have := s1.m_.lq; omega
  generalize w1.heap.size = ib at *
  generalize w1.alloc (insB 52 rd r1 r2 n) = w2 at *
  have ma := s2.m_
  have q0 : ∀ k : Nat, MachAt (w2.drewN k) p q m := fun _ => ma
  have c0 := s2.c0
  have j2 : w2.cell? ⟨ib, 2, none⟩ = some (.int .i64 r1) := by rw [cell_of_row w2 _ 2 _ _ _ i2]; rfl
  have j3 : w2.cell? ⟨ib, 3, none⟩ = some (.int .i64 r2) := by rw [cell_of_row w2 _ 3 _ _ _ i2]; rfl
  have j4 : w2.cell? ⟨ib, 4, none⟩ = some (.int .i64 n) := by rw [cell_of_row w2 _ 4 _ _ _ i2]; rfl
  go_quiet ((first | (go_at_call 24; with_reducible refine (regs_any (q0 _) hl h1).mono ?_; rintro e w9 ⟨rfl, rfl⟩; exact ⟨rfl, _, rfl⟩) | (go_at_call 24; with_reducible refine (regs_any (q0 _) hl h2).mono ?_; rintro e w9 ⟨rfl, rfl⟩; exact ⟨rfl, _, rfl⟩) | (go_at_call 41; with_reducible refine (of_num _ _).mono ?_; rintro e w9 ⟨rfl, rfl⟩; exact ⟨rfl, _, rfl⟩)))
  revert nq; intro kq
  obtain ⟨s3, f30⟩ := s2.below hA (belowQ kq (Below.refl _ w2))
  have f3 := (f1.trans f2).trans f30
  clear f30
  have i3 : (w2.drewN kq).heap[ib]? = some (insB 52 rd r1 r2 n) := i2
  clear s1 s2 f1 f2 i2 q0 c0 j2 j3 j4 ma h hF
  generalize w2.drewN kq = w3 at *
  have c0 := s3.c0
  have cp := s3.m_.cpl hl
  have j0 : w3.cell? ⟨ib, 0, none⟩ = some (.int .i64 52) := by rw [cell_of_row w3 _ 0 _ _ _ i3]; rfl
  have j1 : w3.cell? ⟨ib, 1, none⟩ = some (.int .i64 rd) := by rw [cell_of_row w3 _ 1 _ _ _ i3]; rfl
  have I3 := Lib.hid i3
  obtain ⟨a, ha⟩ : ∃ a, m.reg r1 = a := ⟨_, rfl⟩
  obtain ⟨b, hb⟩ : ∃ b, m.reg r2 = b := ⟨_, rfl⟩
  have HA := Lib.hid ha; have HB := Lib.hid hb
  rw [ha] at ra ⊢
  rw [hb] at rb_ ⊢
  have hk := Int.emod_nonneg n (by decide : (18446744073709551616 : Int) ≠ 0)
  have hk' := Int.emod_lt_of_pos n (by decide : (0 : Int) < 18446744073709551616)
  obtain ⟨k, hke⟩ : ∃ k, n % 18446744073709551616 = k := ⟨_, rfl⟩
  have HK := Lib.hid hke
  rw [hke] at hk hk' ⊢
  clear ha hb hke i3
  go_wp2_with fail
  go_still_tail 16, (by kernel_rfl)
  change wpList _ _ _ _ _ w3.drew
  obtain ⟨s3d, f3d⟩ := s3.below hA ((Below.refl _ w3).drew)
  have f3' := f3.trans f3d
  have I3' := Lib.hid (show w3.drew.heap[ib]? = some (insB 52 rd r1 r2 n) from I3.out)
  clear s3 f3 f3d c0 cp j0 j1 I3
  generalize w3.drew = w3 at *
  have c0 := s3d.c0
  go_wp2_with fail
  refine (set_st s3d hA hl hd _).mono ?_
  rintro e w4 ⟨rfl, s4, g4, r4⟩
  have f4 := f3'.trans g4
  have i4 := Lib.hid (at_p r4 I3'.out z1)
  clear g4 c0
  have c04 := s4.c0
  go_wp2_with (refine wpList_load_g (o := ⟨some 189, _, _, _, _, _⟩) rfl 49 (.tmp 3) rfl ib rfl 49 _ (0, 0) _ i4.out Tryd.underlying49 rfl sizeInstr ?_)
  refine (mark_any 52 rd r1 r2 n _).mono ?_
  rintro e w5 ⟨rfl, hb5⟩
  rw [show markB 52 rd r1 r2 n = false from mark_no (by omega)]
  obtain ⟨s5, f5⟩ := s4.below hA hb5
  have c05 := s5.c0
  have cp5 := s5.m_.cpl (Ma.set_len _ _ hl)
  have fp5 := s5.m_.fr 33
  clear c04 s4 hb5
  go_wp2
  go_ret
  obtain ⟨s6, f6⟩ := s5.mach hA (s5.m_.setPl (Ma.set_len _ _ hl) hA.1 _) ((Fr.set (S := [p]) _ p 33 _ (by simp)).mono (by simp))
  refine ⟨rfl, ?_, (f4.trans f5).trans f6⟩
  rw [hm'.out, hR'.out]
  try simp only [HA.out, HB.out, HK.out]
  simp only [IntKind.wrap_u64] at s6 ⊢
  exact s6.more (by omega)
set_option maxRecDepth 100000 in
set_option maxHeartbeats 8000000 in
theorem step_jal {w : World} {base p q rb : Nat} {m m' : Ma} {R R' : Ru} {B : Nat} (n : Int) (rd r1 r2 : Nat) (h : St w base p q rb m R B) (hA : Apart base p q) (hm : m.ok) (hB : B < 1099511627770) (hF : FormsIn w) (hd : rd < 32) (h1 : r1 < 32) (h2 : r2 < 32)
     (hh : Hid (hasB m.pl 4 m.mem.length = true)) (hf : Hid (findOp (wordAt m) ≠ 0)) (hdec : Hid (decV (wordAt m) = ins 53 rd r1 r2 n))
    (hm' : Hid (m' = { m.set rd ((m.pl + 4) % 18446744073709551616) with pl := (m.pl + (n % 18446744073709551616)) % 18446744073709551616 })) (hR' : Hid (R' = R)) :
    Calls Tryd.prog 27 #[.pointer (some ⟨rb, 0, none⟩)] w (StTo w base p q rb m' R' (B + 5) (.bool true)) := by
  have hl := hm.1
  have hpl := hm.2.2.2.2.1
  have ra := reg_range hm r1
  have rb_ := reg_range hm r2
  go_enter Tryd.func27, Tryd.ntmps27
  go_wp2_with fail
  refine (instr_st h hA hm (by omega) hF).mono ?_
  rintro e w1 ⟨s1, f1, he⟩
  rw [if_pos ⟨hh.out, hf.out⟩, hdec.out] at he
  subst he
  go_wp2_with fail
  obtain ⟨s2, f2⟩ := s1.below hA ((Below.refl w1.heap.size w1).alloc (Nat.le_refl _) (insB 53 rd r1 r2 n))
  have i2 := heap_alloc_new w1 (insB 53 rd r1 r2 n)
  have z1 : w1.heap.size ≠ p := by have := s1.m_.lp; omega
  have z2 : w1.heap.size ≠ q := by have := s1.m_.lq; omega
  generalize w1.heap.size = ib at *
  generalize w1.alloc (insB 53 rd r1 r2 n) = w2 at *
  have ma := s2.m_
  have q0 : ∀ k : Nat, MachAt (w2.drewN k) p q m := fun _ => ma
  have c0 := s2.c0
  have j2 : w2.cell? ⟨ib, 2, none⟩ = some (.int .i64 r1) := by rw [cell_of_row w2 _ 2 _ _ _ i2]; rfl
  have j3 : w2.cell? ⟨ib, 3, none⟩ = some (.int .i64 r2) := by rw [cell_of_row w2 _ 3 _ _ _ i2]; rfl
  have j4 : w2.cell? ⟨ib, 4, none⟩ = some (.int .i64 n) := by rw [cell_of_row w2 _ 4 _ _ _ i2]; rfl
  go_quiet ((first | (go_at_call 24; with_reducible refine (regs_any (q0 _) hl h1).mono ?_; rintro e w9 ⟨rfl, rfl⟩; exact ⟨rfl, _, rfl⟩) | (go_at_call 24; with_reducible refine (regs_any (q0 _) hl h2).mono ?_; rintro e w9 ⟨rfl, rfl⟩; exact ⟨rfl, _, rfl⟩) | (go_at_call 41; with_reducible refine (of_num _ _).mono ?_; rintro e w9 ⟨rfl, rfl⟩; exact ⟨rfl, _, rfl⟩)))
  revert nq; intro kq
  obtain ⟨s3, f30⟩ := s2.below hA (belowQ kq (Below.refl _ w2))
  have f3 := (f1.trans f2).trans f30
  clear f30
  have i3 : (w2.drewN kq).heap[ib]? = some (insB 53 rd r1 r2 n) := i2
  clear s1 s2 f1 f2 i2 q0 c0 j2 j3 j4 ma h hF
  generalize w2.drewN kq = w3 at *
  have c0 := s3.c0
  have cp := s3.m_.cpl hl
  have j0 : w3.cell? ⟨ib, 0, none⟩ = some (.int .i64 53) := by rw [cell_of_row w3 _ 0 _ _ _ i3]; rfl
  have j1 : w3.cell? ⟨ib, 1, none⟩ = some (.int .i64 rd) := by rw [cell_of_row w3 _ 1 _ _ _ i3]; rfl
  have I3 := Lib.hid i3
  obtain ⟨a, ha⟩ : ∃ a, m.reg r1 = a := ⟨_, rfl⟩
  obtain ⟨b, hb⟩ : ∃ b, m.reg r2 = b := ⟨_, rfl⟩
  have HA := Lib.hid ha; have HB := Lib.hid hb
  rw [ha] at ra ⊢
  rw [hb] at rb_ ⊢
  have hk := Int.emod_nonneg n (by decide : (18446744073709551616 : Int) ≠ 0)
  have hk' := Int.emod_lt_of_pos n (by decide : (0 : Int) < 18446744073709551616)
  obtain ⟨k, hke⟩ : ∃ k, n % 18446744073709551616 = k := ⟨_, rfl⟩
  have HK := Lib.hid hke
  rw [hke] at hk hk' ⊢
  clear ha hb hke i3
  go_wp2_with fail
  go_still_tail 7, (by kernel_rfl)
  change wpList _ _ _ _ _ w3.drew
  obtain ⟨s3d, f3d⟩ := s3.below hA ((Below.refl _ w3).drew)
  have f3' := f3.trans f3d
  have I3' := Lib.hid (show w3.drew.heap[ib]? = some (insB 53 rd r1 r2 n) from I3.out)
  clear s3 f3 f3d c0 cp j0 j1 I3
  generalize w3.drew = w3 at *
  have c0 := s3d.c0
  go_wp2_with fail
  refine (set_st s3d hA hl hd _).mono ?_
  rintro e w4 ⟨rfl, s4, g4, r4⟩
  have f4 := f3'.trans g4
  have i4 := Lib.hid (at_p r4 I3'.out z1)
  clear g4 c0
  have cp4 : w4.cell? ⟨p, 33, none⟩ = some (.int .u64 m.pl) := (s4.m_.cpl (Ma.set_len _ _ hl)).trans (by unfold Ma.set; split <;> rfl)
  have cq4 := s4.c0
  have j04 : w4.cell? ⟨ib, 0, none⟩ = some (.int .i64 53) := by rw [cell_of_row _ _ 0 _ _ _ i4.out]; rfl
  have c04 := s4.c0
  go_wp2_with (refine wpList_load_g (o := ⟨some 189, _, _, _, _, _⟩) rfl 49 (.tmp 3) rfl ib rfl 49 _ (0, 0) _ i4.out Tryd.underlying49 rfl sizeInstr ?_)
  refine (mark_any 53 rd r1 r2 n _).mono ?_
  rintro e w5 ⟨rfl, hb5⟩
  rw [show markB 53 rd r1 r2 n = false from mark_no (by omega)]
  obtain ⟨s5, f5⟩ := s4.below hA hb5
  have c05 := s5.c0
  have cp5 := s5.m_.cpl (Ma.set_len _ _ hl)
  have fp5 := s5.m_.fr 33
  clear c04 s4 hb5
  go_wp2
  go_ret
  obtain ⟨s6, f6⟩ := s5.mach hA (s5.m_.setPl (Ma.set_len _ _ hl) hA.1 _) ((Fr.set (S := [p]) _ p 33 _ (by simp)).mono (by simp))
  refine ⟨rfl, ?_, (f4.trans f5).trans f6⟩
  rw [hm'.out, hR'.out]
  try simp only [HA.out, HB.out, HK.out]
  simp only [IntKind.wrap_u64] at s6 ⊢
  exact s6.more (by omega)
set_option maxRecDepth 100000 in
set_option maxHeartbeats 8000000 in
theorem step_jalr {w : World} {base p q rb : Nat} {m m' : Ma} {R R' : Ru} {B : Nat} (n : Int) (rd r1 r2 : Nat) (h : St w base p q rb m R B) (hA : Apart base p q) (hm : m.ok) (hB : B < 1099511627770) (hF : FormsIn w) (hd : rd < 32) (h1 : r1 < 32) (h2 : r2 < 32)
     (hh : Hid (hasB m.pl 4 m.mem.length = true)) (hf : Hid (findOp (wordAt m) ≠ 0)) (hdec : Hid (decV (wordAt m) = ins 54 rd r1 r2 n))
    (hm' : Hid (m' = { m.set rd ((m.pl + 4) % 18446744073709551616) with pl := (m.reg r1 + (n % 18446744073709551616)) % 18446744073709551616 / 2 * 2 })) (hR' : Hid (R' = R)) :
    Calls Tryd.prog 27 #[.pointer (some ⟨rb, 0, none⟩)] w (StTo w base p q rb m' R' (B + 5) (.bool true)) := by
  have hl := hm.1
  have hpl := hm.2.2.2.2.1
  have ra := reg_range hm r1
  have rb_ := reg_range hm r2
  go_enter Tryd.func27, Tryd.ntmps27
  go_wp2_with fail
  refine (instr_st h hA hm (by omega) hF).mono ?_
  rintro e w1 ⟨s1, f1, he⟩
  rw [if_pos ⟨hh.out, hf.out⟩, hdec.out] at he
  subst he
  go_wp2_with fail
  obtain ⟨s2, f2⟩ := s1.below hA ((Below.refl w1.heap.size w1).alloc (Nat.le_refl _) (insB 54 rd r1 r2 n))
  have i2 := heap_alloc_new w1 (insB 54 rd r1 r2 n)
  have z1 : w1.heap.size ≠ p := by have := s1.m_.lp; omega
  have z2 : w1.heap.size ≠ q := by have := s1.m_.lq; omega
  generalize w1.heap.size = ib at *
  generalize w1.alloc (insB 54 rd r1 r2 n) = w2 at *
  have ma := s2.m_
  have q0 : ∀ k : Nat, MachAt (w2.drewN k) p q m := fun _ => ma
  have c0 := s2.c0
  have j2 : w2.cell? ⟨ib, 2, none⟩ = some (.int .i64 r1) := by rw [cell_of_row w2 _ 2 _ _ _ i2]; rfl
  have j3 : w2.cell? ⟨ib, 3, none⟩ = some (.int .i64 r2) := by rw [cell_of_row w2 _ 3 _ _ _ i2]; rfl
  have j4 : w2.cell? ⟨ib, 4, none⟩ = some (.int .i64 n) := by rw [cell_of_row w2 _ 4 _ _ _ i2]; rfl
  go_quiet ((first | (go_at_call 24; with_reducible refine (regs_any (q0 _) hl h1).mono ?_; rintro e w9 ⟨rfl, rfl⟩; exact ⟨rfl, _, rfl⟩) | (go_at_call 24; with_reducible refine (regs_any (q0 _) hl h2).mono ?_; rintro e w9 ⟨rfl, rfl⟩; exact ⟨rfl, _, rfl⟩) | (go_at_call 41; with_reducible refine (of_num _ _).mono ?_; rintro e w9 ⟨rfl, rfl⟩; exact ⟨rfl, _, rfl⟩)))
  revert nq; intro kq
  obtain ⟨s3, f30⟩ := s2.below hA (belowQ kq (Below.refl _ w2))
  have f3 := (f1.trans f2).trans f30
  clear f30
  have i3 : (w2.drewN kq).heap[ib]? = some (insB 54 rd r1 r2 n) := i2
  clear s1 s2 f1 f2 i2 q0 c0 j2 j3 j4 ma h hF
  generalize w2.drewN kq = w3 at *
  have c0 := s3.c0
  have cp := s3.m_.cpl hl
  have j0 : w3.cell? ⟨ib, 0, none⟩ = some (.int .i64 54) := by rw [cell_of_row w3 _ 0 _ _ _ i3]; rfl
  have j1 : w3.cell? ⟨ib, 1, none⟩ = some (.int .i64 rd) := by rw [cell_of_row w3 _ 1 _ _ _ i3]; rfl
  have I3 := Lib.hid i3
  obtain ⟨a, ha⟩ : ∃ a, m.reg r1 = a := ⟨_, rfl⟩
  obtain ⟨b, hb⟩ : ∃ b, m.reg r2 = b := ⟨_, rfl⟩
  have HA := Lib.hid ha; have HB := Lib.hid hb
  rw [ha] at ra ⊢
  rw [hb] at rb_ ⊢
  have hk := Int.emod_nonneg n (by decide : (18446744073709551616 : Int) ≠ 0)
  have hk' := Int.emod_lt_of_pos n (by decide : (0 : Int) < 18446744073709551616)
  obtain ⟨k, hke⟩ : ∃ k, n % 18446744073709551616 = k := ⟨_, rfl⟩
  have HK := Lib.hid hke
  rw [hke] at hk hk' ⊢
  clear ha hb hke i3
  go_wp2_with fail
  go_still_tail 7, (by kernel_rfl)
  change wpList _ _ _ _ _ w3.drew
  obtain ⟨s3d, f3d⟩ := s3.below hA ((Below.refl _ w3).drew)
  have f3' := f3.trans f3d
  have I3' := Lib.hid (show w3.drew.heap[ib]? = some (insB 54 rd r1 r2 n) from I3.out)
  clear s3 f3 f3d c0 cp j0 j1 I3
  generalize w3.drew = w3 at *
  have c0 := s3d.c0
  go_wp2_with fail
  refine (set_st s3d hA hl hd _).mono ?_
  rintro e w4 ⟨rfl, s4, g4, r4⟩
  have f4 := f3'.trans g4
  have i4 := Lib.hid (at_p r4 I3'.out z1)
  clear g4 c0
  have han := andn_1 ((a + k) % 18446744073709551616) (Int.emod_nonneg _ (by decide)) (Int.emod_lt_of_pos _ (by decide))
  have HAN := Lib.hid han; clear han
  have c04 := s4.c0
  go_wp2_with (refine wpList_load_g (o := ⟨some 189, _, _, _, _, _⟩) rfl 49 (.tmp 3) rfl ib rfl 49 _ (0, 0) _ i4.out Tryd.underlying49 rfl sizeInstr ?_)
  refine (mark_any 54 rd r1 r2 n _).mono ?_
  rintro e w5 ⟨rfl, hb5⟩
  rw [show markB 54 rd r1 r2 n = false from mark_no (by omega)]
  obtain ⟨s5, f5⟩ := s4.below hA hb5
  have c05 := s5.c0
  have cp5 := s5.m_.cpl (Ma.set_len _ _ hl)
  have fp5 := s5.m_.fr 33
  clear c04 s4 hb5
  go_wp2
  go_ret
  obtain ⟨s6, f6⟩ := s5.mach hA (s5.m_.setPl (Ma.set_len _ _ hl) hA.1 _) ((Fr.set (S := [p]) _ p 33 _ (by simp)).mono (by simp))
  refine ⟨rfl, ?_, (f4.trans f5).trans f6⟩
  rw [hm'.out, hR'.out]
  try simp only [HA.out, HB.out, HK.out]
  simp only [IntKind.wrap_u64, HAN.out] at s6 ⊢
  exact s6.more (by omega)
end Go.Proofs.YtppcbommaddkgaaDoor
namespace Go.Proofs.YtppcbommaddkgaaDoor
open Go.RowKit Go.Maps
set_option linter.unusedVariables false
set_option linter.unusedSimpArgs false
set_option maxRecDepth 10000
open Pm Pc Pl
set_option maxRecDepth 100000 in
set_option maxHeartbeats 8000000 in
theorem step_br {w : World} {base p q rb : Nat} {m m' : Ma} {R R' : Ru} {B : Nat} (op n : Int) (rd r1 r2 : Nat) (h : St w base p q rb m R B) (hA : Apart base p q) (hm : m.ok) (hB : B < 1099511627770) (hF : FormsIn w) (hd : rd < 32) (h1 : r1 < 32) (h2 : r2 < 32)
    (hop : 45 ≤ op ∧ op ≤ 50) (hh : Hid (hasB m.pl 4 m.mem.length = true)) (hf : Hid (findOp (wordAt m) ≠ 0)) (hdec : Hid (decV (wordAt m) = ins op rd r1 r2 n))
    (hm' : Hid (m' = { m with pl := if holdV op (m.reg r1) (m.reg r2) = true then (m.pl + (n % 18446744073709551616)) % 18446744073709551616 else (m.pl + 4) % 18446744073709551616 })) (hR' : Hid (R' = R)) :
    Calls Tryd.prog 27 #[.pointer (some ⟨rb, 0, none⟩)] w (StTo w base p q rb m' R' (B + 5) (.bool true)) := by
  have hl := hm.1
  have hpl := hm.2.2.2.2.1
  have t27 : decide (op ≤ 27) = false := decide_eq_false (by omega)
  have t37 : decide (op ≤ 37) = false := decide_eq_false (by omega)
  have t41 : decide (op ≤ 41) = false := decide_eq_false (by omega)
  have t44 : decide (op ≤ 44) = false := decide_eq_false (by omega)
  have t50 : decide (op ≤ 50) = true := decide_eq_true hop.2
  have ra := reg_range hm r1
  have rb_ := reg_range hm r2
  go_enter Tryd.func27, Tryd.ntmps27
  go_wp2_with fail
  refine (instr_st h hA hm (by omega) hF).mono ?_
  rintro e w1 ⟨s1, f1, he⟩
  rw [if_pos ⟨hh.out, hf.out⟩, hdec.out] at he
  subst he
  go_wp2_with fail
  obtain ⟨s2, f2⟩ := s1.below hA ((Below.refl w1.heap.size w1).alloc (Nat.le_refl _) (insB op rd r1 r2 n))
  have i2 := heap_alloc_new w1 (insB op rd r1 r2 n)
  have z1 : w1.heap.size ≠ p := by have := s1.m_.lp; omega
  have z2 : w1.heap.size ≠ q := by have := s1.m_.lq; omega
  generalize w1.heap.size = ib at *
  generalize w1.alloc (insB op rd r1 r2 n) = w2 at *
  have ma := s2.m_
  have q0 : ∀ k : Nat, MachAt (w2.drewN k) p q m := fun _ => ma
  have c0 := s2.c0
  have j2 : w2.cell? ⟨ib, 2, none⟩ = some (.int .i64 r1) := by rw [cell_of_row w2 _ 2 _ _ _ i2]; rfl
  have j3 : w2.cell? ⟨ib, 3, none⟩ = some (.int .i64 r2) := by rw [cell_of_row w2 _ 3 _ _ _ i2]; rfl
  have j4 : w2.cell? ⟨ib, 4, none⟩ = some (.int .i64 n) := by rw [cell_of_row w2 _ 4 _ _ _ i2]; rfl
  go_quiet ((first | (go_at_call 24; with_reducible refine (regs_any (q0 _) hl h1).mono ?_; rintro e w9 ⟨rfl, rfl⟩; exact ⟨rfl, _, rfl⟩) | (go_at_call 24; with_reducible refine (regs_any (q0 _) hl h2).mono ?_; rintro e w9 ⟨rfl, rfl⟩; exact ⟨rfl, _, rfl⟩) | (go_at_call 41; with_reducible refine (of_num _ _).mono ?_; rintro e w9 ⟨rfl, rfl⟩; exact ⟨rfl, _, rfl⟩)))
  revert nq; intro kq
  obtain ⟨s3, f30⟩ := s2.below hA (belowQ kq (Below.refl _ w2))
  have f3 := (f1.trans f2).trans f30
  clear f30
  have i3 : (w2.drewN kq).heap[ib]? = some (insB op rd r1 r2 n) := i2
  clear s1 s2 f1 f2 i2 q0 c0 j2 j3 j4 ma h hF
  generalize w2.drewN kq = w3 at *
  have c0 := s3.c0
  have cp := s3.m_.cpl hl
  have j0 : w3.cell? ⟨ib, 0, none⟩ = some (.int .i64 op) := by rw [cell_of_row w3 _ 0 _ _ _ i3]; rfl
  have j1 : w3.cell? ⟨ib, 1, none⟩ = some (.int .i64 rd) := by rw [cell_of_row w3 _ 1 _ _ _ i3]; rfl
  have I3 := Lib.hid i3
  obtain ⟨a, ha⟩ : ∃ a, m.reg r1 = a := ⟨_, rfl⟩
  obtain ⟨b, hb⟩ : ∃ b, m.reg r2 = b := ⟨_, rfl⟩
  have HA := Lib.hid ha; have HB := Lib.hid hb
  rw [ha] at ra ⊢
  rw [hb] at rb_ ⊢
  have hk := Int.emod_nonneg n (by decide : (18446744073709551616 : Int) ≠ 0)
  have hk' := Int.emod_lt_of_pos n (by decide : (0 : Int) < 18446744073709551616)
  obtain ⟨k, hke⟩ : ∃ k, n % 18446744073709551616 = k := ⟨_, rfl⟩
  have HK := Lib.hid hke
  rw [hke] at hk hk' ⊢
  clear ha hb hke i3
  have hho := holds_any op a b w3 hop ra rb_
  cases hv : holdV op a b
  all_goals
    rw [hv] at hho
    have HO := Lib.hid hho
    have HV := Lib.hid hv
    clear hho hv
    have s4 := s3
    have f4 := f3
    have i4 := I3
    go_wp2_with (first | (go_at_call 45; refine HO.out.mono ?_; rintro e w9 ⟨rfl, rfl⟩) | (refine wpList_load_g (o := ⟨some 189, _, _, _, _, _⟩) rfl 49 (.tmp 3) rfl ib rfl 49 _ (0, 0) _ i4.out Tryd.underlying49 rfl sizeInstr ?_))
    refine (mark_any op rd r1 r2 n _).mono ?_
    rintro e w5 ⟨rfl, hb5⟩
    rw [show markB op rd r1 r2 n = false from mark_no (by omega)]
    obtain ⟨s5, f5⟩ := s4.below hA hb5
    have c05 := s5.c0
    have cp5 := s5.m_.cpl (hl)
    have fp5 := s5.m_.fr 33
    clear s4 hb5
    go_wp2
    go_ret
    obtain ⟨s6, f6⟩ := s5.mach hA (s5.m_.setPl (hl) hA.1 _) ((Fr.set (S := [p]) _ p 33 _ (by simp)).mono (by simp))
    refine ⟨rfl, ?_, (f4.trans f5).trans f6⟩
    rw [hm'.out, hR'.out]
    try simp only [HA.out, HB.out, HK.out]
    rw [HV.out]
    try rw [if_pos rfl]
    try rw [if_neg (by decide)]
    simp only [IntKind.wrap_u64] at s6 ⊢
    exact s6.more (by omega)
set_option maxRecDepth 100000 in
set_option maxHeartbeats 8000000 in
theorem step_ld38 {w : World} {base p q rb : Nat} {m m' : Ma} {R R' : Ru} {B : Nat} (n : Int) (rd r1 r2 : Nat) (h : St w base p q rb m R B) (hA : Apart base p q) (hm : m.ok) (hB : B < 1099511627770) (hF : FormsIn w) (hd : rd < 32) (h1 : r1 < 32) (h2 : r2 < 32)
     (hhas : Hid (hasB ((m.reg r1 + (n % 18446744073709551616)) % 18446744073709551616) 1 m.mem.length = true)) (hh : Hid (hasB m.pl 4 m.mem.length = true)) (hf : Hid (findOp (wordAt m) ≠ 0)) (hdec : Hid (decV (wordAt m) = ins 38 rd r1 r2 n))
    (hm' : Hid (m' = { m.set rd (nrV true (getV m.mem ((m.reg r1 + (n % 18446744073709551616)) % 18446744073709551616).toNat 1) 8) with pl := (m.pl + 4) % 18446744073709551616 })) (hR' : Hid (R' = R.note ⟨m.pl, ((m.reg r1 + (n % 18446744073709551616)) % 18446744073709551616), 1, false⟩)) :
    Calls Tryd.prog 27 #[.pointer (some ⟨rb, 0, none⟩)] w (StTo w base p q rb m' R' (B + 5) (.bool true)) := by
  have hl := hm.1
  have hpl := hm.2.2.2.2.1
  have ra := reg_range hm r1
  have rb_ := reg_range hm r2
  go_enter Tryd.func27, Tryd.ntmps27
  go_wp2_with fail
  refine (instr_st h hA hm (by omega) hF).mono ?_
  rintro e w1 ⟨s1, f1, he⟩
  rw [if_pos ⟨hh.out, hf.out⟩, hdec.out] at he
  subst he
  go_wp2_with fail
  obtain ⟨s2, f2⟩ := s1.below hA ((Below.refl w1.heap.size w1).alloc (Nat.le_refl _) (insB 38 rd r1 r2 n))
  have i2 := heap_alloc_new w1 (insB 38 rd r1 r2 n)
  have z1 : w1.heap.size ≠ p := by have := s1.m_.lp; omega
  have z2 : w1.heap.size ≠ q := by have := s1.m_.lq; omega
  generalize w1.heap.size = ib at *
  generalize w1.alloc (insB 38 rd r1 r2 n) = w2 at *
  have ma := s2.m_
  have q0 : ∀ k : Nat, MachAt (w2.drewN k) p q m := fun _ => ma
  have c0 := s2.c0
  have j2 : w2.cell? ⟨ib, 2, none⟩ = some (.int .i64 r1) := by rw [cell_of_row w2 _ 2 _ _ _ i2]; rfl
  have j3 : w2.cell? ⟨ib, 3, none⟩ = some (.int .i64 r2) := by rw [cell_of_row w2 _ 3 _ _ _ i2]; rfl
  have j4 : w2.cell? ⟨ib, 4, none⟩ = some (.int .i64 n) := by rw [cell_of_row w2 _ 4 _ _ _ i2]; rfl
  go_quiet ((first | (go_at_call 24; with_reducible refine (regs_any (q0 _) hl h1).mono ?_; rintro e w9 ⟨rfl, rfl⟩; exact ⟨rfl, _, rfl⟩) | (go_at_call 24; with_reducible refine (regs_any (q0 _) hl h2).mono ?_; rintro e w9 ⟨rfl, rfl⟩; exact ⟨rfl, _, rfl⟩) | (go_at_call 41; with_reducible refine (of_num _ _).mono ?_; rintro e w9 ⟨rfl, rfl⟩; exact ⟨rfl, _, rfl⟩)))
  revert nq; intro kq
  obtain ⟨s3, f30⟩ := s2.below hA (belowQ kq (Below.refl _ w2))
  have f3 := (f1.trans f2).trans f30
  clear f30
  have i3 : (w2.drewN kq).heap[ib]? = some (insB 38 rd r1 r2 n) := i2
  clear s1 s2 f1 f2 i2 q0 c0 j2 j3 j4 ma h hF
  generalize w2.drewN kq = w3 at *
  have c0 := s3.c0
  have cp := s3.m_.cpl hl
  have j0 : w3.cell? ⟨ib, 0, none⟩ = some (.int .i64 38) := by rw [cell_of_row w3 _ 0 _ _ _ i3]; rfl
  have j1 : w3.cell? ⟨ib, 1, none⟩ = some (.int .i64 rd) := by rw [cell_of_row w3 _ 1 _ _ _ i3]; rfl
  have I3 := Lib.hid i3
  obtain ⟨a, ha⟩ : ∃ a, m.reg r1 = a := ⟨_, rfl⟩
  obtain ⟨b, hb⟩ : ∃ b, m.reg r2 = b := ⟨_, rfl⟩
  have HA := Lib.hid ha; have HB := Lib.hid hb
  rw [ha] at ra ⊢
  rw [hb] at rb_ ⊢
  have hk := Int.emod_nonneg n (by decide : (18446744073709551616 : Int) ≠ 0)
  have hk' := Int.emod_lt_of_pos n (by decide : (0 : Int) < 18446744073709551616)
  obtain ⟨k, hke⟩ : ∃ k, n % 18446744073709551616 = k := ⟨_, rfl⟩
  have HK := Lib.hid hke
  rw [hke] at hk hk' ⊢
  clear ha hb hke i3
  obtain ⟨ad, had⟩ := Int.eq_ofNat_of_zero_le (Int.emod_nonneg (a + k) (by decide : (18446744073709551616 : Int) ≠ 0))
  have had1 := Int.emod_lt_of_pos (a + k) (by decide : (0 : Int) < 18446744073709551616)
  have hwr : IntKind.u64.wrap (a + k) = (ad : Int) := by rw [IntKind.wrap_u64]; exact had
  rw [had] at had1
  have hhh := hhas.out
  rw [HA.out, HK.out, had] at hhh
  have HHH := Lib.hid hhh
  have HAD := Lib.hid had
  clear hhh had
  go_wp2_with fail
  refine (load_38 rd ad hd (by omega) s3 hA hm (by omega) HHH.out).mono ?_
  rintro e w4 ⟨rfl, s4, g4⟩
  have f4 := f3.trans g4
  have i4 := Lib.hid (g4.ins _ _ I3.out)
  have r4 : ∀ x y, (R.note x).wat = y → True := fun _ _ _ => trivial
  clear s3 f3 g4 c0 cp j0 j1 r4 hwr
  have c04 := s4.c0
  go_wp2_with (refine wpList_load_g (o := ⟨some 189, _, _, _, _, _⟩) rfl 49 (.tmp 3) rfl ib rfl 49 _ (0, 0) _ i4.out Tryd.underlying49 rfl sizeInstr ?_)
  refine (mark_any 38 rd r1 r2 n _).mono ?_
  rintro e w5 ⟨rfl, hb5⟩
  rw [show markB 38 rd r1 r2 n = false from mark_no (by omega)]
  obtain ⟨s5, f5⟩ := s4.below hA hb5
  have c05 := s5.c0
  have cp5 := s5.m_.cpl (Ma.set_len _ _ hl)
  have fp5 := s5.m_.fr 33
  clear c04 s4 hb5
  go_wp2
  go_ret
  obtain ⟨s6, f6⟩ := s5.mach hA (s5.m_.setPl (Ma.set_len _ _ hl) hA.1 _) ((Fr.set (S := [p]) _ p 33 _ (by simp)).mono (by simp))
  refine ⟨rfl, ?_, (f4.trans f5).trans f6⟩
  rw [hm'.out, hR'.out]
  simp only [HA.out, HB.out, HK.out, HAD.out]
  simp only [IntKind.wrap_u64] at s6 ⊢
  exact s6.more (by omega)
set_option maxRecDepth 100000 in
set_option maxHeartbeats 8000000 in
theorem step_ld39 {w : World} {base p q rb : Nat} {m m' : Ma} {R R' : Ru} {B : Nat} (n : Int) (rd r1 r2 : Nat) (h : St w base p q rb m R B) (hA : Apart base p q) (hm : m.ok) (hB : B < 1099511627770) (hF : FormsIn w) (hd : rd < 32) (h1 : r1 < 32) (h2 : r2 < 32)
     (hhas : Hid (hasB ((m.reg r1 + (n % 18446744073709551616)) % 18446744073709551616) 1 m.mem.length = true)) (hh : Hid (hasB m.pl 4 m.mem.length = true)) (hf : Hid (findOp (wordAt m) ≠ 0)) (hdec : Hid (decV (wordAt m) = ins 39 rd r1 r2 n))
    (hm' : Hid (m' = { m.set rd (nrV false (getV m.mem ((m.reg r1 + (n % 18446744073709551616)) % 18446744073709551616).toNat 1) 8) with pl := (m.pl + 4) % 18446744073709551616 })) (hR' : Hid (R' = R.note ⟨m.pl, ((m.reg r1 + (n % 18446744073709551616)) % 18446744073709551616), 1, false⟩)) :
    Calls Tryd.prog 27 #[.pointer (some ⟨rb, 0, none⟩)] w (StTo w base p q rb m' R' (B + 5) (.bool true)) := by
  have hl := hm.1
  have hpl := hm.2.2.2.2.1
  have ra := reg_range hm r1
  have rb_ := reg_range hm r2
  go_enter Tryd.func27, Tryd.ntmps27
  go_wp2_with fail
  refine (instr_st h hA hm (by omega) hF).mono ?_
  rintro e w1 ⟨s1, f1, he⟩
  rw [if_pos ⟨hh.out, hf.out⟩, hdec.out] at he
  subst he
  go_wp2_with fail
  obtain ⟨s2, f2⟩ := s1.below hA ((Below.refl w1.heap.size w1).alloc (Nat.le_refl _) (insB 39 rd r1 r2 n))
  have i2 := heap_alloc_new w1 (insB 39 rd r1 r2 n)
  have z1 : w1.heap.size ≠ p := by have := s1.m_.lp; omega
  have z2 : w1.heap.size ≠ q := by have := s1.m_.lq; omega
  generalize w1.heap.size = ib at *
  generalize w1.alloc (insB 39 rd r1 r2 n) = w2 at *
  have ma := s2.m_
  have q0 : ∀ k : Nat, MachAt (w2.drewN k) p q m := fun _ => ma
  have c0 := s2.c0
  have j2 : w2.cell? ⟨ib, 2, none⟩ = some (.int .i64 r1) := by rw [cell_of_row w2 _ 2 _ _ _ i2]; rfl
  have j3 : w2.cell? ⟨ib, 3, none⟩ = some (.int .i64 r2) := by rw [cell_of_row w2 _ 3 _ _ _ i2]; rfl
  have j4 : w2.cell? ⟨ib, 4, none⟩ = some (.int .i64 n) := by rw [cell_of_row w2 _ 4 _ _ _ i2]; rfl
  go_quiet ((first | (go_at_call 24; with_reducible refine (regs_any (q0 _) hl h1).mono ?_; rintro e w9 ⟨rfl, rfl⟩; exact ⟨rfl, _, rfl⟩) | (go_at_call 24; with_reducible refine (regs_any (q0 _) hl h2).mono ?_; rintro e w9 ⟨rfl, rfl⟩; exact ⟨rfl, _, rfl⟩) | (go_at_call 41; with_reducible refine (of_num _ _).mono ?_; rintro e w9 ⟨rfl, rfl⟩; exact ⟨rfl, _, rfl⟩)))
  revert nq; intro kq
  obtain ⟨s3, f30⟩ := s2.below hA (belowQ kq (Below.refl _ w2))
  have f3 := (f1.trans f2).trans f30
  clear f30
  have i3 : (w2.drewN kq).heap[ib]? = some (insB 39 rd r1 r2 n) := i2
  clear s1 s2 f1 f2 i2 q0 c0 j2 j3 j4 ma h hF
  generalize w2.drewN kq = w3 at *
  have c0 := s3.c0
  have cp := s3.m_.cpl hl
  have j0 : w3.cell? ⟨ib, 0, none⟩ = some (.int .i64 39) := by rw [cell_of_row w3 _ 0 _ _ _ i3]; rfl
  have j1 : w3.cell? ⟨ib, 1, none⟩ = some (.int .i64 rd) := by rw [cell_of_row w3 _ 1 _ _ _ i3]; rfl
  have I3 := Lib.hid i3
  obtain ⟨a, ha⟩ : ∃ a, m.reg r1 = a := ⟨_, rfl⟩
  obtain ⟨b, hb⟩ : ∃ b, m.reg r2 = b := ⟨_, rfl⟩
  have HA := Lib.hid ha; have HB := Lib.hid hb
  rw [ha] at ra ⊢
  rw [hb] at rb_ ⊢
  have hk := Int.emod_nonneg n (by decide : (18446744073709551616 : Int) ≠ 0)
  have hk' := Int.emod_lt_of_pos n (by decide : (0 : Int) < 18446744073709551616)
  obtain ⟨k, hke⟩ : ∃ k, n % 18446744073709551616 = k := ⟨_, rfl⟩
  have HK := Lib.hid hke
  rw [hke] at hk hk' ⊢
  clear ha hb hke i3
  obtain ⟨ad, had⟩ := Int.eq_ofNat_of_zero_le (Int.emod_nonneg (a + k) (by decide : (18446744073709551616 : Int) ≠ 0))
  have had1 := Int.emod_lt_of_pos (a + k) (by decide : (0 : Int) < 18446744073709551616)
  have hwr : IntKind.u64.wrap (a + k) = (ad : Int) := by rw [IntKind.wrap_u64]; exact had
  rw [had] at had1
  have hhh := hhas.out
  rw [HA.out, HK.out, had] at hhh
  have HHH := Lib.hid hhh
  have HAD := Lib.hid had
  clear hhh had
  go_wp2_with fail
  refine (load_39 rd ad hd (by omega) s3 hA hm (by omega) HHH.out).mono ?_
  rintro e w4 ⟨rfl, s4, g4⟩
  have f4 := f3.trans g4
  have i4 := Lib.hid (g4.ins _ _ I3.out)
  have r4 : ∀ x y, (R.note x).wat = y → True := fun _ _ _ => trivial
  clear s3 f3 g4 c0 cp j0 j1 r4 hwr
  have c04 := s4.c0
  go_wp2_with (refine wpList_load_g (o := ⟨some 189, _, _, _, _, _⟩) rfl 49 (.tmp 3) rfl ib rfl 49 _ (0, 0) _ i4.out Tryd.underlying49 rfl sizeInstr ?_)
  refine (mark_any 39 rd r1 r2 n _).mono ?_
  rintro e w5 ⟨rfl, hb5⟩
  rw [show markB 39 rd r1 r2 n = false from mark_no (by omega)]
  obtain ⟨s5, f5⟩ := s4.below hA hb5
  have c05 := s5.c0
  have cp5 := s5.m_.cpl (Ma.set_len _ _ hl)
  have fp5 := s5.m_.fr 33
  clear c04 s4 hb5
  go_wp2
  go_ret
  obtain ⟨s6, f6⟩ := s5.mach hA (s5.m_.setPl (Ma.set_len _ _ hl) hA.1 _) ((Fr.set (S := [p]) _ p 33 _ (by simp)).mono (by simp))
  refine ⟨rfl, ?_, (f4.trans f5).trans f6⟩
  rw [hm'.out, hR'.out]
  simp only [HA.out, HB.out, HK.out, HAD.out]
  simp only [IntKind.wrap_u64] at s6 ⊢
  exact s6.more (by omega)
set_option maxRecDepth 100000 in
set_option maxHeartbeats 8000000 in
theorem step_ld40 {w : World} {base p q rb : Nat} {m m' : Ma} {R R' : Ru} {B : Nat} (n : Int) (rd r1 r2 : Nat) (h : St w base p q rb m R B) (hA : Apart base p q) (hm : m.ok) (hB : B < 1099511627770) (hF : FormsIn w) (hd : rd < 32) (h1 : r1 < 32) (h2 : r2 < 32)
     (hhas : Hid (hasB ((m.reg r1 + (n % 18446744073709551616)) % 18446744073709551616) 4 m.mem.length = true)) (hh : Hid (hasB m.pl 4 m.mem.length = true)) (hf : Hid (findOp (wordAt m) ≠ 0)) (hdec : Hid (decV (wordAt m) = ins 40 rd r1 r2 n))
    (hm' : Hid (m' = { m.set rd (nrV true (getV m.mem ((m.reg r1 + (n % 18446744073709551616)) % 18446744073709551616).toNat 4) 32) with pl := (m.pl + 4) % 18446744073709551616 })) (hR' : Hid (R' = R.note ⟨m.pl, ((m.reg r1 + (n % 18446744073709551616)) % 18446744073709551616), 4, false⟩)) :
    Calls Tryd.prog 27 #[.pointer (some ⟨rb, 0, none⟩)] w (StTo w base p q rb m' R' (B + 5) (.bool true)) := by
  have hl := hm.1
  have hpl := hm.2.2.2.2.1
  have ra := reg_range hm r1
  have rb_ := reg_range hm r2
  go_enter Tryd.func27, Tryd.ntmps27
  go_wp2_with fail
  refine (instr_st h hA hm (by omega) hF).mono ?_
  rintro e w1 ⟨s1, f1, he⟩
  rw [if_pos ⟨hh.out, hf.out⟩, hdec.out] at he
  subst he
  go_wp2_with fail
  obtain ⟨s2, f2⟩ := s1.below hA ((Below.refl w1.heap.size w1).alloc (Nat.le_refl _) (insB 40 rd r1 r2 n))
  have i2 := heap_alloc_new w1 (insB 40 rd r1 r2 n)
  have z1 : w1.heap.size ≠ p := by have := s1.m_.lp; omega
  have z2 : w1.heap.size ≠ q := by have := s1.m_.lq; omega
  generalize w1.heap.size = ib at *
  generalize w1.alloc (insB 40 rd r1 r2 n) = w2 at *
  have ma := s2.m_
  have q0 : ∀ k : Nat, MachAt (w2.drewN k) p q m := fun _ => ma
  have c0 := s2.c0
  have j2 : w2.cell? ⟨ib, 2, none⟩ = some (.int .i64 r1) := by rw [cell_of_row w2 _ 2 _ _ _ i2]; rfl
  have j3 : w2.cell? ⟨ib, 3, none⟩ = some (.int .i64 r2) := by rw [cell_of_row w2 _ 3 _ _ _ i2]; rfl
  have j4 : w2.cell? ⟨ib, 4, none⟩ = some (.int .i64 n) := by rw [cell_of_row w2 _ 4 _ _ _ i2]; rfl
  go_quiet ((first | (go_at_call 24; with_reducible refine (regs_any (q0 _) hl h1).mono ?_; rintro e w9 ⟨rfl, rfl⟩; exact ⟨rfl, _, rfl⟩) | (go_at_call 24; with_reducible refine (regs_any (q0 _) hl h2).mono ?_; rintro e w9 ⟨rfl, rfl⟩; exact ⟨rfl, _, rfl⟩) | (go_at_call 41; with_reducible refine (of_num _ _).mono ?_; rintro e w9 ⟨rfl, rfl⟩; exact ⟨rfl, _, rfl⟩)))
  revert nq; intro kq
  obtain ⟨s3, f30⟩ := s2.below hA (belowQ kq (Below.refl _ w2))
  have f3 := (f1.trans f2).trans f30
  clear f30
  have i3 : (w2.drewN kq).heap[ib]? = some (insB 40 rd r1 r2 n) := i2
  clear s1 s2 f1 f2 i2 q0 c0 j2 j3 j4 ma h hF
  generalize w2.drewN kq = w3 at *
  have c0 := s3.c0
  have cp := s3.m_.cpl hl
  have j0 : w3.cell? ⟨ib, 0, none⟩ = some (.int .i64 40) := by rw [cell_of_row w3 _ 0 _ _ _ i3]; rfl
  have j1 : w3.cell? ⟨ib, 1, none⟩ = some (.int .i64 rd) := by rw [cell_of_row w3 _ 1 _ _ _ i3]; rfl
  have I3 := Lib.hid i3
  obtain ⟨a, ha⟩ : ∃ a, m.reg r1 = a := ⟨_, rfl⟩
  obtain ⟨b, hb⟩ : ∃ b, m.reg r2 = b := ⟨_, rfl⟩
  have HA := Lib.hid ha; have HB := Lib.hid hb
  rw [ha] at ra ⊢
  rw [hb] at rb_ ⊢
  have hk := Int.emod_nonneg n (by decide : (18446744073709551616 : Int) ≠ 0)
  have hk' := Int.emod_lt_of_pos n (by decide : (0 : Int) < 18446744073709551616)
  obtain ⟨k, hke⟩ : ∃ k, n % 18446744073709551616 = k := ⟨_, rfl⟩
  have HK := Lib.hid hke
  rw [hke] at hk hk' ⊢
  clear ha hb hke i3
  obtain ⟨ad, had⟩ := Int.eq_ofNat_of_zero_le (Int.emod_nonneg (a + k) (by decide : (18446744073709551616 : Int) ≠ 0))
  have had1 := Int.emod_lt_of_pos (a + k) (by decide : (0 : Int) < 18446744073709551616)
  have hwr : IntKind.u64.wrap (a + k) = (ad : Int) := by rw [IntKind.wrap_u64]; exact had
  rw [had] at had1
  have hhh := hhas.out
  rw [HA.out, HK.out, had] at hhh
  have HHH := Lib.hid hhh
  have HAD := Lib.hid had
  clear hhh had
  go_wp2_with fail
  refine (load_40 rd ad hd (by omega) s3 hA hm (by omega) HHH.out).mono ?_
  rintro e w4 ⟨rfl, s4, g4⟩
  have f4 := f3.trans g4
  have i4 := Lib.hid (g4.ins _ _ I3.out)
  have r4 : ∀ x y, (R.note x).wat = y → True := fun _ _ _ => trivial
  clear s3 f3 g4 c0 cp j0 j1 r4 hwr
  have c04 := s4.c0
  go_wp2_with (refine wpList_load_g (o := ⟨some 189, _, _, _, _, _⟩) rfl 49 (.tmp 3) rfl ib rfl 49 _ (0, 0) _ i4.out Tryd.underlying49 rfl sizeInstr ?_)
  refine (mark_any 40 rd r1 r2 n _).mono ?_
  rintro e w5 ⟨rfl, hb5⟩
  rw [show markB 40 rd r1 r2 n = false from mark_no (by omega)]
  obtain ⟨s5, f5⟩ := s4.below hA hb5
  have c05 := s5.c0
  have cp5 := s5.m_.cpl (Ma.set_len _ _ hl)
  have fp5 := s5.m_.fr 33
  clear c04 s4 hb5
  go_wp2
  go_ret
  obtain ⟨s6, f6⟩ := s5.mach hA (s5.m_.setPl (Ma.set_len _ _ hl) hA.1 _) ((Fr.set (S := [p]) _ p 33 _ (by simp)).mono (by simp))
  refine ⟨rfl, ?_, (f4.trans f5).trans f6⟩
  rw [hm'.out, hR'.out]
  simp only [HA.out, HB.out, HK.out, HAD.out]
  simp only [IntKind.wrap_u64] at s6 ⊢
  exact s6.more (by omega)
set_option maxRecDepth 100000 in
set_option maxHeartbeats 8000000 in
theorem step_ld41 {w : World} {base p q rb : Nat} {m m' : Ma} {R R' : Ru} {B : Nat} (n : Int) (rd r1 r2 : Nat) (h : St w base p q rb m R B) (hA : Apart base p q) (hm : m.ok) (hB : B < 1099511627770) (hF : FormsIn w) (hd : rd < 32) (h1 : r1 < 32) (h2 : r2 < 32)
     (hhas : Hid (hasB ((m.reg r1 + (n % 18446744073709551616)) % 18446744073709551616) 8 m.mem.length = true)) (hh : Hid (hasB m.pl 4 m.mem.length = true)) (hf : Hid (findOp (wordAt m) ≠ 0)) (hdec : Hid (decV (wordAt m) = ins 41 rd r1 r2 n))
    (hm' : Hid (m' = { m.set rd (nrV true (getV m.mem ((m.reg r1 + (n % 18446744073709551616)) % 18446744073709551616).toNat 8) 64) with pl := (m.pl + 4) % 18446744073709551616 })) (hR' : Hid (R' = R.note ⟨m.pl, ((m.reg r1 + (n % 18446744073709551616)) % 18446744073709551616), 8, false⟩)) :
    Calls Tryd.prog 27 #[.pointer (some ⟨rb, 0, none⟩)] w (StTo w base p q rb m' R' (B + 5) (.bool true)) := by
  have hl := hm.1
  have hpl := hm.2.2.2.2.1
  have ra := reg_range hm r1
  have rb_ := reg_range hm r2
  go_enter Tryd.func27, Tryd.ntmps27
  go_wp2_with fail
  refine (instr_st h hA hm (by omega) hF).mono ?_
  rintro e w1 ⟨s1, f1, he⟩
  rw [if_pos ⟨hh.out, hf.out⟩, hdec.out] at he
  subst he
  go_wp2_with fail
  obtain ⟨s2, f2⟩ := s1.below hA ((Below.refl w1.heap.size w1).alloc (Nat.le_refl _) (insB 41 rd r1 r2 n))
  have i2 := heap_alloc_new w1 (insB 41 rd r1 r2 n)
  have z1 : w1.heap.size ≠ p := by have := s1.m_.lp; omega
  have z2 : w1.heap.size ≠ q := by have := s1.m_.lq; omega
  generalize w1.heap.size = ib at *
  generalize w1.alloc (insB 41 rd r1 r2 n) = w2 at *
  have ma := s2.m_
  have q0 : ∀ k : Nat, MachAt (w2.drewN k) p q m := fun _ => ma
  have c0 := s2.c0
  have j2 : w2.cell? ⟨ib, 2, none⟩ = some (.int .i64 r1) := by rw [cell_of_row w2 _ 2 _ _ _ i2]; rfl
  have j3 : w2.cell? ⟨ib, 3, none⟩ = some (.int .i64 r2) := by rw [cell_of_row w2 _ 3 _ _ _ i2]; rfl
  have j4 : w2.cell? ⟨ib, 4, none⟩ = some (.int .i64 n) := by rw [cell_of_row w2 _ 4 _ _ _ i2]; rfl
  go_quiet ((first | (go_at_call 24; with_reducible refine (regs_any (q0 _) hl h1).mono ?_; rintro e w9 ⟨rfl, rfl⟩; exact ⟨rfl, _, rfl⟩) | (go_at_call 24; with_reducible refine (regs_any (q0 _) hl h2).mono ?_; rintro e w9 ⟨rfl, rfl⟩; exact ⟨rfl, _, rfl⟩) | (go_at_call 41; with_reducible refine (of_num _ _).mono ?_; rintro e w9 ⟨rfl, rfl⟩; exact ⟨rfl, _, rfl⟩)))
  revert nq; intro kq
  obtain ⟨s3, f30⟩ := s2.below hA (belowQ kq (Below.refl _ w2))
  have f3 := (f1.trans f2).trans f30
  clear f30
  have i3 : (w2.drewN kq).heap[ib]? = some (insB 41 rd r1 r2 n) := i2
  clear s1 s2 f1 f2 i2 q0 c0 j2 j3 j4 ma h hF
  generalize w2.drewN kq = w3 at *
  have c0 := s3.c0
  have cp := s3.m_.cpl hl
  have j0 : w3.cell? ⟨ib, 0, none⟩ = some (.int .i64 41) := by rw [cell_of_row w3 _ 0 _ _ _ i3]; rfl
  have j1 : w3.cell? ⟨ib, 1, none⟩ = some (.int .i64 rd) := by rw [cell_of_row w3 _ 1 _ _ _ i3]; rfl
  have I3 := Lib.hid i3
  obtain ⟨a, ha⟩ : ∃ a, m.reg r1 = a := ⟨_, rfl⟩
  obtain ⟨b, hb⟩ : ∃ b, m.reg r2 = b := ⟨_, rfl⟩
  have HA := Lib.hid ha; have HB := Lib.hid hb
  rw [ha] at ra ⊢
  rw [hb] at rb_ ⊢
  have hk := Int.emod_nonneg n (by decide : (18446744073709551616 : Int) ≠ 0)
  have hk' := Int.emod_lt_of_pos n (by decide : (0 : Int) < 18446744073709551616)
  obtain ⟨k, hke⟩ : ∃ k, n % 18446744073709551616 = k := ⟨_, rfl⟩
  have HK := Lib.hid hke
  rw [hke] at hk hk' ⊢
  clear ha hb hke i3
  obtain ⟨ad, had⟩ := Int.eq_ofNat_of_zero_le (Int.emod_nonneg (a + k) (by decide : (18446744073709551616 : Int) ≠ 0))
  have had1 := Int.emod_lt_of_pos (a + k) (by decide : (0 : Int) < 18446744073709551616)
  have hwr : IntKind.u64.wrap (a + k) = (ad : Int) := by rw [IntKind.wrap_u64]; exact had
  rw [had] at had1
  have hhh := hhas.out
  rw [HA.out, HK.out, had] at hhh
  have HHH := Lib.hid hhh
  have HAD := Lib.hid had
  clear hhh had
  go_wp2_with fail
  refine (load_41 rd ad hd (by omega) s3 hA hm (by omega) HHH.out).mono ?_
  rintro e w4 ⟨rfl, s4, g4⟩
  have f4 := f3.trans g4
  have i4 := Lib.hid (g4.ins _ _ I3.out)
  have r4 : ∀ x y, (R.note x).wat = y → True := fun _ _ _ => trivial
  clear s3 f3 g4 c0 cp j0 j1 r4 hwr
  have c04 := s4.c0
  go_wp2_with (refine wpList_load_g (o := ⟨some 189, _, _, _, _, _⟩) rfl 49 (.tmp 3) rfl ib rfl 49 _ (0, 0) _ i4.out Tryd.underlying49 rfl sizeInstr ?_)
  refine (mark_any 41 rd r1 r2 n _).mono ?_
  rintro e w5 ⟨rfl, hb5⟩
  rw [show markB 41 rd r1 r2 n = false from mark_no (by omega)]
  obtain ⟨s5, f5⟩ := s4.below hA hb5
  have c05 := s5.c0
  have cp5 := s5.m_.cpl (Ma.set_len _ _ hl)
  have fp5 := s5.m_.fr 33
  clear c04 s4 hb5
  go_wp2
  go_ret
  obtain ⟨s6, f6⟩ := s5.mach hA (s5.m_.setPl (Ma.set_len _ _ hl) hA.1 _) ((Fr.set (S := [p]) _ p 33 _ (by simp)).mono (by simp))
  refine ⟨rfl, ?_, (f4.trans f5).trans f6⟩
  rw [hm'.out, hR'.out]
  simp only [HA.out, HB.out, HK.out, HAD.out]
  simp only [IntKind.wrap_u64] at s6 ⊢
  exact s6.more (by omega)
set_option maxRecDepth 100000 in
set_option maxHeartbeats 8000000 in
theorem step_st42 {w : World} {base p q rb : Nat} {m m' : Ma} {R R' : Ru} {B : Nat} (n : Int) (rd r1 r2 : Nat) (h : St w base p q rb m R B) (hA : Apart base p q) (hm : m.ok) (hB : B < 1099511627770) (hF : FormsIn w) (hd : rd < 32) (h1 : r1 < 32) (h2 : r2 < 32)
     (hhas : Hid (hasB ((m.reg r1 + (n % 18446744073709551616)) % 18446744073709551616) 1 m.mem.length = true)) (hh : Hid (hasB m.pl 4 m.mem.length = true)) (hf : Hid (findOp (wordAt m) ≠ 0)) (hdec : Hid (decV (wordAt m) = ins 42 rd r1 r2 n))
    (hm' : Hid (m' = { m with mem := putV m.mem ((m.reg r1 + (n % 18446744073709551616)) % 18446744073709551616).toNat (m.reg r2) 1, pl := (m.pl + 4) % 18446744073709551616 })) (hR' : Hid (R' = R.note ⟨m.pl, ((m.reg r1 + (n % 18446744073709551616)) % 18446744073709551616), 1, true⟩)) :
    Calls Tryd.prog 27 #[.pointer (some ⟨rb, 0, none⟩)] w (StTo w base p q rb m' R' (B + 5) (.bool true)) := by
  have hl := hm.1
  have hpl := hm.2.2.2.2.1
  have ra := reg_range hm r1
  have rb_ := reg_range hm r2
  go_enter Tryd.func27, Tryd.ntmps27
  go_wp2_with fail
  refine (instr_st h hA hm (by omega) hF).mono ?_
  rintro e w1 ⟨s1, f1, he⟩
  rw [if_pos ⟨hh.out, hf.out⟩, hdec.out] at he
  subst he
  go_wp2_with fail
  obtain ⟨s2, f2⟩ := s1.below hA ((Below.refl w1.heap.size w1).alloc (Nat.le_refl _) (insB 42 rd r1 r2 n))
  have i2 := heap_alloc_new w1 (insB 42 rd r1 r2 n)
  have z1 : w1.heap.size ≠ p := by have := s1.m_.lp; omega
  have z2 : w1.heap.size ≠ q := by have := s1.m_.lq; omega
  generalize w1.heap.size = ib at *
  generalize w1.alloc (insB 42 rd r1 r2 n) = w2 at *
  have ma := s2.m_
  have q0 : ∀ k : Nat, MachAt (w2.drewN k) p q m := fun _ => ma
  have c0 := s2.c0
  have j2 : w2.cell? ⟨ib, 2, none⟩ = some (.int .i64 r1) := by rw [cell_of_row w2 _ 2 _ _ _ i2]; rfl
  have j3 : w2.cell? ⟨ib, 3, none⟩ = some (.int .i64 r2) := by rw [cell_of_row w2 _ 3 _ _ _ i2]; rfl
  have j4 : w2.cell? ⟨ib, 4, none⟩ = some (.int .i64 n) := by rw [cell_of_row w2 _ 4 _ _ _ i2]; rfl
  go_quiet ((first | (go_at_call 24; with_reducible refine (regs_any (q0 _) hl h1).mono ?_; rintro e w9 ⟨rfl, rfl⟩; exact ⟨rfl, _, rfl⟩) | (go_at_call 24; with_reducible refine (regs_any (q0 _) hl h2).mono ?_; rintro e w9 ⟨rfl, rfl⟩; exact ⟨rfl, _, rfl⟩) | (go_at_call 41; with_reducible refine (of_num _ _).mono ?_; rintro e w9 ⟨rfl, rfl⟩; exact ⟨rfl, _, rfl⟩)))
  revert nq; intro kq
  obtain ⟨s3, f30⟩ := s2.below hA (belowQ kq (Below.refl _ w2))
  have f3 := (f1.trans f2).trans f30
  clear f30
  have i3 : (w2.drewN kq).heap[ib]? = some (insB 42 rd r1 r2 n) := i2
  clear s1 s2 f1 f2 i2 q0 c0 j2 j3 j4 ma h hF
  generalize w2.drewN kq = w3 at *
  have c0 := s3.c0
  have cp := s3.m_.cpl hl
  have j0 : w3.cell? ⟨ib, 0, none⟩ = some (.int .i64 42) := by rw [cell_of_row w3 _ 0 _ _ _ i3]; rfl
  have j1 : w3.cell? ⟨ib, 1, none⟩ = some (.int .i64 rd) := by rw [cell_of_row w3 _ 1 _ _ _ i3]; rfl
  have I3 := Lib.hid i3
  obtain ⟨a, ha⟩ : ∃ a, m.reg r1 = a := ⟨_, rfl⟩
  obtain ⟨b, hb⟩ : ∃ b, m.reg r2 = b := ⟨_, rfl⟩
  have HA := Lib.hid ha; have HB := Lib.hid hb
  rw [ha] at ra ⊢
  rw [hb] at rb_ ⊢
  have hk := Int.emod_nonneg n (by decide : (18446744073709551616 : Int) ≠ 0)
  have hk' := Int.emod_lt_of_pos n (by decide : (0 : Int) < 18446744073709551616)
  obtain ⟨k, hke⟩ : ∃ k, n % 18446744073709551616 = k := ⟨_, rfl⟩
  have HK := Lib.hid hke
  rw [hke] at hk hk' ⊢
  clear ha hb hke i3
  obtain ⟨ad, had⟩ := Int.eq_ofNat_of_zero_le (Int.emod_nonneg (a + k) (by decide : (18446744073709551616 : Int) ≠ 0))
  have had1 := Int.emod_lt_of_pos (a + k) (by decide : (0 : Int) < 18446744073709551616)
  have hwr : IntKind.u64.wrap (a + k) = (ad : Int) := by rw [IntKind.wrap_u64]; exact had
  rw [had] at had1
  have hhh := hhas.out
  rw [HA.out, HK.out, had] at hhh
  have HHH := Lib.hid hhh
  have HAD := Lib.hid had
  clear hhh had
  go_wp2_with fail
  refine (store_42 b ad rb_ (by omega) s3 hA hm (by omega) HHH.out).mono ?_
  rintro e w4 ⟨rfl, s4, g4⟩
  have f4 := f3.trans g4
  have i4 := Lib.hid (g4.ins _ _ I3.out)
  have r4 : ∀ x y, (R.note x).wat = y → True := fun _ _ _ => trivial
  clear s3 f3 g4 c0 cp j0 j1 r4 hwr
  have c04 := s4.c0
  go_wp2_with (refine wpList_load_g (o := ⟨some 189, _, _, _, _, _⟩) rfl 49 (.tmp 3) rfl ib rfl 49 _ (0, 0) _ i4.out Tryd.underlying49 rfl sizeInstr ?_)
  refine (mark_any 42 rd r1 r2 n _).mono ?_
  rintro e w5 ⟨rfl, hb5⟩
  rw [show markB 42 rd r1 r2 n = false from mark_no (by omega)]
  obtain ⟨s5, f5⟩ := s4.below hA hb5
  have c05 := s5.c0
  have cp5 := s5.m_.cpl (hl)
  have fp5 := s5.m_.fr 33
  clear c04 s4 hb5
  go_wp2
  go_ret
  obtain ⟨s6, f6⟩ := s5.mach hA (s5.m_.setPl (hl) hA.1 _) ((Fr.set (S := [p]) _ p 33 _ (by simp)).mono (by simp))
  refine ⟨rfl, ?_, (f4.trans f5).trans f6⟩
  rw [hm'.out, hR'.out]
  simp only [HA.out, HB.out, HK.out, HAD.out]
  simp only [IntKind.wrap_u64] at s6 ⊢
  exact s6.more (by omega)
set_option maxRecDepth 100000 in
set_option maxHeartbeats 8000000 in
theorem step_st43 {w : World} {base p q rb : Nat} {m m' : Ma} {R R' : Ru} {B : Nat} (n : Int) (rd r1 r2 : Nat) (h : St w base p q rb m R B) (hA : Apart base p q) (hm : m.ok) (hB : B < 1099511627770) (hF : FormsIn w) (hd : rd < 32) (h1 : r1 < 32) (h2 : r2 < 32)
     (hhas : Hid (hasB ((m.reg r1 + (n % 18446744073709551616)) % 18446744073709551616) 4 m.mem.length = true)) (hh : Hid (hasB m.pl 4 m.mem.length = true)) (hf : Hid (findOp (wordAt m) ≠ 0)) (hdec : Hid (decV (wordAt m) = ins 43 rd r1 r2 n))
    (hm' : Hid (m' = { m with mem := putV m.mem ((m.reg r1 + (n % 18446744073709551616)) % 18446744073709551616).toNat (m.reg r2) 4, pl := (m.pl + 4) % 18446744073709551616 })) (hR' : Hid (R' = R.note ⟨m.pl, ((m.reg r1 + (n % 18446744073709551616)) % 18446744073709551616), 4, true⟩)) :
    Calls Tryd.prog 27 #[.pointer (some ⟨rb, 0, none⟩)] w (StTo w base p q rb m' R' (B + 5) (.bool true)) := by
  have hl := hm.1
  have hpl := hm.2.2.2.2.1
  have ra := reg_range hm r1
  have rb_ := reg_range hm r2
  go_enter Tryd.func27, Tryd.ntmps27
  go_wp2_with fail
  refine (instr_st h hA hm (by omega) hF).mono ?_
  rintro e w1 ⟨s1, f1, he⟩
  rw [if_pos ⟨hh.out, hf.out⟩, hdec.out] at he
  subst he
  go_wp2_with fail
  obtain ⟨s2, f2⟩ := s1.below hA ((Below.refl w1.heap.size w1).alloc (Nat.le_refl _) (insB 43 rd r1 r2 n))
  have i2 := heap_alloc_new w1 (insB 43 rd r1 r2 n)
  have z1 : w1.heap.size ≠ p := by have := s1.m_.lp; omega
  have z2 : w1.heap.size ≠ q := by have := s1.m_.lq; omega
  generalize w1.heap.size = ib at *
  generalize w1.alloc (insB 43 rd r1 r2 n) = w2 at *
  have ma := s2.m_
  have q0 : ∀ k : Nat, MachAt (w2.drewN k) p q m := fun _ => ma
  have c0 := s2.c0
  have j2 : w2.cell? ⟨ib, 2, none⟩ = some (.int .i64 r1) := by rw [cell_of_row w2 _ 2 _ _ _ i2]; rfl
  have j3 : w2.cell? ⟨ib, 3, none⟩ = some (.int .i64 r2) := by rw [cell_of_row w2 _ 3 _ _ _ i2]; rfl
  have j4 : w2.cell? ⟨ib, 4, none⟩ = some (.int .i64 n) := by rw [cell_of_row w2 _ 4 _ _ _ i2]; rfl
  go_quiet ((first | (go_at_call 24; with_reducible refine (regs_any (q0 _) hl h1).mono ?_; rintro e w9 ⟨rfl, rfl⟩; exact ⟨rfl, _, rfl⟩) | (go_at_call 24; with_reducible refine (regs_any (q0 _) hl h2).mono ?_; rintro e w9 ⟨rfl, rfl⟩; exact ⟨rfl, _, rfl⟩) | (go_at_call 41; with_reducible refine (of_num _ _).mono ?_; rintro e w9 ⟨rfl, rfl⟩; exact ⟨rfl, _, rfl⟩)))
  revert nq; intro kq
  obtain ⟨s3, f30⟩ := s2.below hA (belowQ kq (Below.refl _ w2))
  have f3 := (f1.trans f2).trans f30
  clear f30
  have i3 : (w2.drewN kq).heap[ib]? = some (insB 43 rd r1 r2 n) := i2
  clear s1 s2 f1 f2 i2 q0 c0 j2 j3 j4 ma h hF
  generalize w2.drewN kq = w3 at *
  have c0 := s3.c0
  have cp := s3.m_.cpl hl
  have j0 : w3.cell? ⟨ib, 0, none⟩ = some (.int .i64 43) := by rw [cell_of_row w3 _ 0 _ _ _ i3]; rfl
  have j1 : w3.cell? ⟨ib, 1, none⟩ = some (.int .i64 rd) := by rw [cell_of_row w3 _ 1 _ _ _ i3]; rfl
  have I3 := Lib.hid i3
  obtain ⟨a, ha⟩ : ∃ a, m.reg r1 = a := ⟨_, rfl⟩
  obtain ⟨b, hb⟩ : ∃ b, m.reg r2 = b := ⟨_, rfl⟩
  have HA := Lib.hid ha; have HB := Lib.hid hb
  rw [ha] at ra ⊢
  rw [hb] at rb_ ⊢
  have hk := Int.emod_nonneg n (by decide : (18446744073709551616 : Int) ≠ 0)
  have hk' := Int.emod_lt_of_pos n (by decide : (0 : Int) < 18446744073709551616)
  obtain ⟨k, hke⟩ : ∃ k, n % 18446744073709551616 = k := ⟨_, rfl⟩
  have HK := Lib.hid hke
  rw [hke] at hk hk' ⊢
  clear ha hb hke i3
  obtain ⟨ad, had⟩ := Int.eq_ofNat_of_zero_le (Int.emod_nonneg (a + k) (by decide : (18446744073709551616 : Int) ≠ 0))
  have had1 := Int.emod_lt_of_pos (a + k) (by decide : (0 : Int) < 18446744073709551616)
  have hwr : IntKind.u64.wrap (a + k) = (ad : Int) := by rw [IntKind.wrap_u64]; exact had
  rw [had] at had1
  have hhh := hhas.out
  rw [HA.out, HK.out, had] at hhh
  have HHH := Lib.hid hhh
  have HAD := Lib.hid had
  clear hhh had
  go_wp2_with fail
  refine (store_43 b ad rb_ (by omega) s3 hA hm (by omega) HHH.out).mono ?_
  rintro e w4 ⟨rfl, s4, g4⟩
  have f4 := f3.trans g4
  have i4 := Lib.hid (g4.ins _ _ I3.out)
  have r4 : ∀ x y, (R.note x).wat = y → True := fun _ _ _ => trivial
  clear s3 f3 g4 c0 cp j0 j1 r4 hwr
  have c04 := s4.c0
  go_wp2_with (refine wpList_load_g (o := ⟨some 189, _, _, _, _, _⟩) rfl 49 (.tmp 3) rfl ib rfl 49 _ (0, 0) _ i4.out Tryd.underlying49 rfl sizeInstr ?_)
  refine (mark_any 43 rd r1 r2 n _).mono ?_
  rintro e w5 ⟨rfl, hb5⟩
  rw [show markB 43 rd r1 r2 n = false from mark_no (by omega)]
  obtain ⟨s5, f5⟩ := s4.below hA hb5
  have c05 := s5.c0
  have cp5 := s5.m_.cpl (hl)
  have fp5 := s5.m_.fr 33
  clear c04 s4 hb5
  go_wp2
  go_ret
  obtain ⟨s6, f6⟩ := s5.mach hA (s5.m_.setPl (hl) hA.1 _) ((Fr.set (S := [p]) _ p 33 _ (by simp)).mono (by simp))
  refine ⟨rfl, ?_, (f4.trans f5).trans f6⟩
  rw [hm'.out, hR'.out]
  simp only [HA.out, HB.out, HK.out, HAD.out]
  simp only [IntKind.wrap_u64] at s6 ⊢
  exact s6.more (by omega)
set_option maxRecDepth 100000 in
set_option maxHeartbeats 8000000 in
theorem step_st44 {w : World} {base p q rb : Nat} {m m' : Ma} {R R' : Ru} {B : Nat} (n : Int) (rd r1 r2 : Nat) (h : St w base p q rb m R B) (hA : Apart base p q) (hm : m.ok) (hB : B < 1099511627770) (hF : FormsIn w) (hd : rd < 32) (h1 : r1 < 32) (h2 : r2 < 32)
     (hhas : Hid (hasB ((m.reg r1 + (n % 18446744073709551616)) % 18446744073709551616) 8 m.mem.length = true)) (hh : Hid (hasB m.pl 4 m.mem.length = true)) (hf : Hid (findOp (wordAt m) ≠ 0)) (hdec : Hid (decV (wordAt m) = ins 44 rd r1 r2 n))
    (hm' : Hid (m' = { m with mem := putV m.mem ((m.reg r1 + (n % 18446744073709551616)) % 18446744073709551616).toNat (m.reg r2) 8, pl := (m.pl + 4) % 18446744073709551616 })) (hR' : Hid (R' = R.note ⟨m.pl, ((m.reg r1 + (n % 18446744073709551616)) % 18446744073709551616), 8, true⟩)) :
    Calls Tryd.prog 27 #[.pointer (some ⟨rb, 0, none⟩)] w (StTo w base p q rb m' R' (B + 5) (.bool true)) := by
  have hl := hm.1
  have hpl := hm.2.2.2.2.1
  have ra := reg_range hm r1
  have rb_ := reg_range hm r2
  go_enter Tryd.func27, Tryd.ntmps27
  go_wp2_with fail
  refine (instr_st h hA hm (by omega) hF).mono ?_
  rintro e w1 ⟨s1, f1, he⟩
  rw [if_pos ⟨hh.out, hf.out⟩, hdec.out] at he
  subst he
  go_wp2_with fail
  obtain ⟨s2, f2⟩ := s1.below hA ((Below.refl w1.heap.size w1).alloc (Nat.le_refl _) (insB 44 rd r1 r2 n))
  have i2 := heap_alloc_new w1 (insB 44 rd r1 r2 n)
  have z1 : w1.heap.size ≠ p := by have := s1.m_.lp; omega
  have z2 : w1.heap.size ≠ q := by have := s1.m_.lq; omega
  generalize w1.heap.size = ib at *
  generalize w1.alloc (insB 44 rd r1 r2 n) = w2 at *
  have ma := s2.m_
  have q0 : ∀ k : Nat, MachAt (w2.drewN k) p q m := fun _ => ma
  have c0 := s2.c0
  have j2 : w2.cell? ⟨ib, 2, none⟩ = some (.int .i64 r1) := by rw [cell_of_row w2 _ 2 _ _ _ i2]; rfl
  have j3 : w2.cell? ⟨ib, 3, none⟩ = some (.int .i64 r2) := by rw [cell_of_row w2 _ 3 _ _ _ i2]; rfl
  have j4 : w2.cell? ⟨ib, 4, none⟩ = some (.int .i64 n) := by rw [cell_of_row w2 _ 4 _ _ _ i2]; rfl
  go_quiet ((first | (go_at_call 24; with_reducible refine (regs_any (q0 _) hl h1).mono ?_; rintro e w9 ⟨rfl, rfl⟩; exact ⟨rfl, _, rfl⟩) | (go_at_call 24; with_reducible refine (regs_any (q0 _) hl h2).mono ?_; rintro e w9 ⟨rfl, rfl⟩; exact ⟨rfl, _, rfl⟩) | (go_at_call 41; with_reducible refine (of_num _ _).mono ?_; rintro e w9 ⟨rfl, rfl⟩; exact ⟨rfl, _, rfl⟩)))
  revert nq; intro kq
  obtain ⟨s3, f30⟩ := s2.below hA (belowQ kq (Below.refl _ w2))
  have f3 := (f1.trans f2).trans f30
  clear f30
  have i3 : (w2.drewN kq).heap[ib]? = some (insB 44 rd r1 r2 n) := i2
  clear s1 s2 f1 f2 i2 q0 c0 j2 j3 j4 ma h hF
  generalize w2.drewN kq = w3 at *
  have c0 := s3.c0
  have cp := s3.m_.cpl hl
  have j0 : w3.cell? ⟨ib, 0, none⟩ = some (.int .i64 44) := by rw [cell_of_row w3 _ 0 _ _ _ i3]; rfl
  have j1 : w3.cell? ⟨ib, 1, none⟩ = some (.int .i64 rd) := by rw [cell_of_row w3 _ 1 _ _ _ i3]; rfl
  have I3 := Lib.hid i3
  obtain ⟨a, ha⟩ : ∃ a, m.reg r1 = a := ⟨_, rfl⟩
  obtain ⟨b, hb⟩ : ∃ b, m.reg r2 = b := ⟨_, rfl⟩
  have HA := Lib.hid ha; have HB := Lib.hid hb
  rw [ha] at ra ⊢
  rw [hb] at rb_ ⊢
  have hk := Int.emod_nonneg n (by decide : (18446744073709551616 : Int) ≠ 0)
  have hk' := Int.emod_lt_of_pos n (by decide : (0 : Int) < 18446744073709551616)
  obtain ⟨k, hke⟩ : ∃ k, n % 18446744073709551616 = k := ⟨_, rfl⟩
  have HK := Lib.hid hke
  rw [hke] at hk hk' ⊢
  clear ha hb hke i3
  obtain ⟨ad, had⟩ := Int.eq_ofNat_of_zero_le (Int.emod_nonneg (a + k) (by decide : (18446744073709551616 : Int) ≠ 0))
  have had1 := Int.emod_lt_of_pos (a + k) (by decide : (0 : Int) < 18446744073709551616)
  have hwr : IntKind.u64.wrap (a + k) = (ad : Int) := by rw [IntKind.wrap_u64]; exact had
  rw [had] at had1
  have hhh := hhas.out
  rw [HA.out, HK.out, had] at hhh
  have HHH := Lib.hid hhh
  have HAD := Lib.hid had
  clear hhh had
  go_wp2_with fail
  refine (store_44 b ad rb_ (by omega) s3 hA hm (by omega) HHH.out).mono ?_
  rintro e w4 ⟨rfl, s4, g4⟩
  have f4 := f3.trans g4
  have i4 := Lib.hid (g4.ins _ _ I3.out)
  have r4 : ∀ x y, (R.note x).wat = y → True := fun _ _ _ => trivial
  clear s3 f3 g4 c0 cp j0 j1 r4 hwr
  have c04 := s4.c0
  go_wp2_with (refine wpList_load_g (o := ⟨some 189, _, _, _, _, _⟩) rfl 49 (.tmp 3) rfl ib rfl 49 _ (0, 0) _ i4.out Tryd.underlying49 rfl sizeInstr ?_)
  refine (mark_any 44 rd r1 r2 n _).mono ?_
  rintro e w5 ⟨rfl, hb5⟩
  rw [show markB 44 rd r1 r2 n = false from mark_no (by omega)]
  obtain ⟨s5, f5⟩ := s4.below hA hb5
  have c05 := s5.c0
  have cp5 := s5.m_.cpl (hl)
  have fp5 := s5.m_.fr 33
  clear c04 s4 hb5
  go_wp2
  go_ret
  obtain ⟨s6, f6⟩ := s5.mach hA (s5.m_.setPl (hl) hA.1 _) ((Fr.set (S := [p]) _ p 33 _ (by simp)).mono (by simp))
  refine ⟨rfl, ?_, (f4.trans f5).trans f6⟩
  rw [hm'.out, hR'.out]
  simp only [HA.out, HB.out, HK.out, HAD.out]
  simp only [IntKind.wrap_u64] at s6 ⊢
  exact s6.more (by omega)
end Go.Proofs.YtppcbommaddkgaaDoor
