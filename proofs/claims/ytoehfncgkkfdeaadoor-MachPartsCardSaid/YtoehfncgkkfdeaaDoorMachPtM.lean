/- MachParts answers true, of any bytes, registers and steps; at most new blocks in memory. Conditions: the tables as the program lays them, what comes in. -/
import Derived.Test.YtoehfncgkkfdeaaDoorMachM3
import Derived.Test.YtoehfncgkkfdeaaDoorMachM4
import Derived.Test.YtoehfncgkkfdeaaDoorMachM2
import Derived.Deep.RegionHeld3
namespace Go.Proofs.YtoehfncgkkfdeaaDoor
open Go.RowKit Go.Maps
set_option linter.unusedVariables false
set_option linter.unusedSimpArgs false
set_option maxRecDepth 10000
open Pm Pc Pl
namespace Pm
/-- Behind Set of the k-th register, be there one or not. -/
def Ma.setR (m : Ma) (k : Nat) (v : Int) : Ma := if k < 32 then m.set k v else m
/-- Behind the first n of a list of registers. -/
def setN (m : Ma) (ys : List Int) : Nat → Ma
  | 0 => m
  | n + 1 => (setN m ys n).setR n (ys.getD n 0)
end Pm
theorem ks_setR {w0 w : World} {p q : Nat} {m : Ma} (h : Ks w0 w p q m) (k : Nat) (v : Int) (hv : 0 ≤ v ∧ v < 18446744073709551616) :
    Calls Tryd.prog 19 #[.pointer (some ⟨p, 0, none⟩), .int .i64 k, .int .u64 v] w fun e w' => e = .returned (.tuple #[]) ∧ Ks w0 w' p q (m.setR k v) ∧ Fr [p] w w' := by
  by_cases hk : k < 32
  · rw [Ma.setR, if_pos hk]
    refine (set_any h.at_ h.ok.1 hk v).mono ?_
    rintro e w' ⟨rfl, rfl⟩
    exact ⟨rfl, h.next (h.at_.setW h.ok.1 hk h.pq v) (Ma.set_ok h.ok k hv) (fj_p h (fr_setW w p k v)), fr_setW w p k v⟩
  · rw [Ma.setR, if_neg hk]
    have hk' : 32 ≤ k := by omega
    clear hk
    go_enter Tryd.func19, Tryd.ntmps19
    go_wp2
    go_end0
    exact ⟨rfl, h, Fr.refl _ _⟩
/-- A statement's machine stays when another one changes. -/
theorem ks_fj {w0 w w' : World} {p q p' q' : Nat} {m : Ma} (h : Ks w0 w p' q' m) (hf : Fj w.heap.size p q w w') (h1 : p' ≠ p ∧ p' ≠ q ∧ q' ≠ p ∧ q' ≠ q) (hF : FormsIn w') (hO : OpsIn w') (hB : Below w0.heap.size w0 w') : Ks w0 w' p' q' m :=
  ⟨⟨(hf.fb.block p' h.at_.lp h.at_.lp h1.1 h1.2.1).trans h.at_.1, (hf.fb.block q' h.at_.lq h.at_.lq h1.2.2.1 h1.2.2.2).trans h.at_.2⟩, h.ok, hF, hO, hB, h.pq, h.lp, h.lq, h.two⟩
theorem ks_fr {w0 w w' : World} {p p' q' : Nat} {m : Ma} (h : Ks w0 w p' q' m) (hf : Fr [p] w w') (h1 : p' ≠ p ∧ q' ≠ p) (hF : FormsIn w') (hO : OpsIn w') (hB : Below w0.heap.size w0 w') : Ks w0 w' p' q' m :=
  ⟨h.at_.keep hf (by simpa using h1.1) (by simpa using h1.2), h.ok, hF, hO, hB, h.pq, h.lp, h.lq, h.two⟩
/-- Numbers that come in. -/
def U64s (w : World) (A : Option Addr) (ys : List Int) : Prop := (∀ v ∈ ys, 0 ≤ v ∧ v < 18446744073709551616) ∧ (0 < ys.length → ∃ g o, A = some ⟨g, o, none⟩ ∧ g < w.heap.size ∧ ∀ j, j < ys.length → w.cell? ⟨g, o + j, none⟩ = some (.int .u64 (ys.getD j 0)))
theorem U64s.below {w w' : World} {A : Option Addr} {ys : List Int} (h : U64s w A ys) (hb : Below w.heap.size w w') : U64s w' A ys :=
  ⟨h.1, fun h0 => by obtain ⟨g, o, e, hg, hr⟩ := h.2 h0; exact ⟨g, o, e, Nat.lt_of_lt_of_le hg hb.size, fun j hj => (hb.cell (p := ⟨g, o + j, none⟩) hg).trans (hr j hj)⟩⟩
theorem SrcIs.below {w w' : World} {A : Option Addr} {xs : List Int} (h : SrcIs w A xs) (hb : Below w.heap.size w w') : SrcIs w' A xs :=
  ⟨h.1, fun h0 => by obtain ⟨ib, off, e, hr⟩ := h.2 h0; subst e; exact ⟨ib, off, rfl, fun j hj => (hb.cell (p := ⟨ib, off + j, none⟩) (World.block_lt_of_cell? w _ (hr j hj))).trans (hr j hj)⟩⟩
theorem getD_u64 {ys : List Int} (h : ∀ v ∈ ys, 0 ≤ v ∧ v < 18446744073709551616) (j : Nat) : 0 ≤ ys.getD j 0 ∧ ys.getD j 0 < 18446744073709551616 := by
  by_cases hj : j < ys.length
  · have e : ys.getD j 0 = ys[j] := by simp [List.getD, hj]
    rw [e]; exact h _ (List.getElem_mem hj)
  · have e : ys.getD j 0 = 0 := by simp [List.getD, List.getElem?_eq_none (Nat.le_of_not_lt hj)]
    rw [e]; omega
theorem ks_new2 {w0 w : World} {A : Option Addr} {c N : Nat} {xs : List Int} (hN : xs.length ≤ N) (hN' : N ≤ 4194304) (hr : SrcIs w A xs) (hF : FormsIn w) (hO : OpsIn w) (hb : Below w0.heap.size w0 w) (h2 : 1 < w0.heap.size) {n : Int} (hn : n = N) :
    Calls Tryd.prog 8 #[.slice A xs.length c, .int .i64 n] w fun e w' => e = .returned (.tuple #[.pointer (some ⟨w.heap.size + 1, 0, none⟩), .int .i64 0]) ∧ Ks w0 w' (w.heap.size + 1) w.heap.size (maNew xs N) ∧ Below w.heap.size w w' ∧ w.heap.size + 2 ≤ w'.heap.size := by
  subst hn
  refine (new_any hN hN' hr).mono ?_
  rintro e w' ⟨rfl, hm, hb2⟩
  have := hb.size
  exact ⟨rfl, ⟨hm, maNew_ok hr.1 hN hN', hF.keep hb2 (Nat.le_refl _), hO.below hb2, hb.trans (hb2.mono hb.size), by omega, by omega, by omega, h2⟩, hb2, hm.lp⟩
theorem U64s.fr {w w' : World} {A : Option Addr} {ys : List Int} {S : List Nat} (h : U64s w A ys) (hf : Fr S w w') (hS : ∀ g ∈ S, w.heap.size ≤ g) : U64s w' A ys :=
  ⟨h.1, fun h0 => by obtain ⟨g, o, e, hg, hr⟩ := h.2 h0; exact ⟨g, o, e, Nat.lt_of_lt_of_le hg hf.size, fun j hj => (World.cell?_of_block (hf.block g hg (fun hm => by have := hS g hm; omega))).trans (hr j hj)⟩⟩
/-- Behind the loop that sets registers. -/
structure SetTo (w0 w w' : World) (p q : Nat) (m : Ma) : Prop where
  ks : Ks w0 w' p q m
  fr : Fr [p] w w'
def ptO (b : Bool) (p : Nat) : Value := .pointer (if b then some ⟨p, 0, none⟩ else none)
/-- The first j of three machines, made since a world; their pointers stand in a box. -/
structure Three (w0 w : World) (tb : Nat) (M : Ma) (Q : Nat → Nat) (j : Nat) : Prop where
  ks : ∀ i, i < j → Ks w0 w (Q i + 1) (Q i) M
  up : ∀ i i', i < i' → i' < j → Q i + 1 < Q i'
  box : w.heap[tb]? = some (.cells #[ptO (decide (0 < j)) (Q 0 + 1), ptO (decide (1 < j)) (Q 1 + 1), ptO (decide (2 < j)) (Q 2 + 1)] 58)
  lt : ∀ i, i < j → tb < Q i
  lb : w0.heap.size ≤ tb
  below : Below w0.heap.size w0 w
  forms : FormsIn w
  ops : OpsIn w
/-- One more is made. -/
theorem three_new {w0 w w1 w2 : World} {tb j : Nat} {M : Ma} {Q : Nat → Nat} (h : Three w0 w tb M Q j) (hj : j < 3) (hb : Below w.heap.size w w1) (hk : Ks w0 w2 (w.heap.size + 1) w.heap.size M) (hf : Fr [w.heap.size + 1] w1 w2) (hz : w.heap.size + 2 ≤ w1.heap.size) :
    Three w0 (w2.setCell ⟨tb, j, none⟩ (.pointer (some ⟨w.heap.size + 1, 0, none⟩))) tb M (fun i => if i = j then w.heap.size else Q i) (j + 1) := by
  have ltb := lt_of_at h.box
  have hB : w2.heap[tb]? = some (.cells #[ptO (decide (0 < j)) (Q 0 + 1), ptO (decide (1 < j)) (Q 1 + 1), ptO (decide (2 < j)) (Q 2 + 1)] 58) := hf.at_ (row_at hb ltb h.box) (by simp; omega)
  have fs : Fr [tb] w2 (w2.setCell ⟨tb, j, none⟩ (.pointer (some ⟨w.heap.size + 1, 0, none⟩))) := Fr.set _ _ _ _ (by simp)
  have bl : Below w0.heap.size w0 (w2.setCell ⟨tb, j, none⟩ (.pointer (some ⟨w.heap.size + 1, 0, none⟩))) := hk.below.setCell h.lb _
  have fF : FormsIn (w2.setCell ⟨tb, j, none⟩ (.pointer (some ⟨w.heap.size + 1, 0, none⟩))) := by
    have two := hk.two
    have lb := h.lb
    refine ⟨Nat.lt_of_lt_of_le hk.forms.1 fs.size, fun j v hv => (World.cell?_of_block (fs.block 1 hk.forms.1 ?_)).trans (hk.forms.2 j v hv)⟩
    simp only [List.mem_cons, List.not_mem_nil, or_false]
    show (1 : Nat) ≠ tb
    omega
  have fO : OpsIn (w2.setCell ⟨tb, j, none⟩ (.pointer (some ⟨w.heap.size + 1, 0, none⟩))) := fun o a b => by
    have two := hk.two
    have lb := h.lb
    refine (World.cell?_of_block (fs.block 0 (World.block_lt_of_cell? w2 _ (hk.ops o a b)) ?_)).trans (hk.ops o a b)
    simp only [List.mem_cons, List.not_mem_nil, or_false]
    show (0 : Nat) ≠ tb
    omega
  refine ⟨fun i hi => ?_, fun i i' h1 h2 => ?_, ?_, fun i hi => ?_, h.lb, bl, fF, fO⟩
  · by_cases hij : i = j
    · subst hij
      simp only [if_true]
      exact ks_fr hk fs ⟨by omega, by omega⟩ fF fO bl
    · have hi' : i < j := by omega
      simp only [hij, if_false]
      have k0 := h.ks i hi'
      have k1 : Ks w0 w1 (Q i + 1) (Q i) M := k0.grow hb
      have p0 := k0.at_.lp
      have p1 := h.lt i hi'
      have k2 : MachAt w2 (Q i + 1) (Q i) M := k1.at_.keep hf (by simp; omega) (by simp; omega)
      exact ⟨k2.keep fs (by simp; omega) (by simp; omega), k0.ok, fF, fO, bl, by omega, k0.lp, k0.lq, k0.two⟩
  · by_cases hi' : i' = j
    · subst hi'
      have hne : i ≠ i' := by omega
      simp only [hne, if_false, if_true]
      exact (h.ks i h1).at_.lp
    · have hne : i ≠ j := by omega
      simp only [hi', hne, if_false]
      exact h.up i i' h1 (by omega)
  · rw [heap_setCell_same _ _ _ _ _ _ hB]
    have : j = 0 ∨ j = 1 ∨ j = 2 := by omega
    rcases this with rfl | rfl | rfl <;> rfl
  · by_cases hij : i = j
    · simp only [hij, if_true]; exact ltb
    · simp only [hij, if_false]; exact h.lt i (by omega)
theorem row_fj {w w' : World} {p q g : Nat} {o : Obj} (h : w.heap[g]? = some o) (hf : Fj w.heap.size p q w w') (h1 : g ≠ p) (h2 : g ≠ q) : w'.heap[g]? = some o := (hf.fb.block g (lt_of_at h) (lt_of_at h) h1 h2).trans h
theorem own_fj {w w' : World} {p q B n s : Nat} {e : TypeId} {v : Value} {xs : List Value} (h : w.ownsRow B e s v n xs) (hf : Fj w.heap.size p q w w') (h1 : p < B) (h2 : q < B) : w'.ownsRow B e s v n xs :=
  ownsRow_at2 h fun g cur hg hc => row_fj hc hf (by omega) (by omega)
theorem own_bw {w w' : World} {B n s : Nat} {e : TypeId} {v : Value} {xs : List Value} (h : w.ownsRow B e s v n xs) (hf : Below w.heap.size w w') : w'.ownsRow B e s v n xs :=
  ownsRow_at2 h fun g cur hg hc => row_at hf (lt_of_at hc) hc
theorem ks_two {w0 w w' : World} {p q p' q' : Nat} {m m' : Ma} (h : Ks w0 w p q m) (h' : Ks w0 w' p' q' m') (hf : Fj w.heap.size p' q' w w') (h1 : p ≠ p' ∧ p ≠ q' ∧ q ≠ p' ∧ q ≠ q') : Ks w0 w' p q m := ks_fj h hf h1 h'.forms h'.ops h'.below
theorem kr_run {w0 w : World} {p q : Nat} {m : Ma} {fin : Ma × Ru} (h : Ks w0 w p q m) (f : Int) (N : Nat) (hN : f = N) (hf : N ≤ 1073741824) (hfin : runV N m aw0 = fin) :
    Calls Tryd.prog 11 #[.pointer (some ⟨p, 0, none⟩), .slice none 0 0, .int .i64 f] w fun e w' => ∃ oA n oc st cd s k, e = .returned (.agg #[.int .i64 st, .int .u8 cd, .int .i64 0, .slice oA n oc, .int .i64 s, .int .i64 k]) ∧ Hid (st = fin.1.st ∧ cd = fin.1.cd ∧ s = fin.2.steps ∧ k = fin.2.checks) ∧ w'.ownsRow w.heap.size 5 1 (.slice oA n oc) fin.2.out.length (u8s fin.2.out) ∧ Ks w0 w' p q fin.1 ∧ Fj w.heap.size p q w w' := by
  subst hfin hN
  refine (run_any (A := none) (c := 0) (xs := []) (N : Int) h.at_ h.ok h.pq h.one ⟨fun i => by simp, fun h0 => by simp at h0⟩ (by decide) h.forms h.ops (by omega)).mono ?_
  rintro e w' ⟨ov, rfl, hov, hm, hok, -, hfj⟩
  obtain ⟨oA, n, oc, rfl⟩ := own_slice hov
  exact ⟨oA, n, oc, _, _, _, _, rfl, Lib.hid ⟨rfl, rfl, rfl, rfl⟩, hov, h.next hm hok hfj, hfj⟩
theorem kr_watch {w0 w : World} {p q : Nat} {m : Ma} {fin : Ma × Ru} (h : Ks w0 w p q m) (f : Int) (N : Nat) (hN : f = N) (hf : N ≤ 1073741824) (hfin : runV N m w0R = fin) :
    Calls Tryd.prog 17 #[.pointer (some ⟨p, 0, none⟩), .slice none 0 0, .int .i64 f] w fun e w' => ∃ oA n oc sA sn sc st cd s k, e = .returned (.tuple #[.agg #[.int .i64 st, .int .u8 cd, .int .i64 0, .slice oA n oc, .int .i64 s, .int .i64 k], .slice sA sn sc]) ∧ Hid (st = fin.1.st ∧ cd = fin.1.cd ∧ s = fin.2.steps ∧ k = fin.2.checks) ∧ w'.ownsRow w.heap.size 5 1 (.slice oA n oc) fin.2.out.length (u8s fin.2.out) ∧ w'.ownsRow w.heap.size 81 4 (.slice sA sn sc) fin.2.seen.length (accs fin.2.seen) ∧ Ks w0 w' p q fin.1 ∧ Fj w.heap.size p q w w' := by
  subst hfin hN
  refine (watch_any (A := none) (c := 0) (xs := []) (N : Int) h.at_ h.ok h.pq h.one ⟨fun i => by simp, fun h0 => by simp at h0⟩ (by decide) h.forms h.ops (by omega)).mono ?_
  rintro e w' ⟨ov, sv, rfl, hov, hsv, hm, hok, -, hfj⟩
  obtain ⟨oA, n, oc, rfl⟩ := own_slice hov
  obtain ⟨sA, sn, sc, rfl⟩ := own_slice hsv
  exact ⟨oA, n, oc, sA, sn, sc, _, _, _, _, rfl, Lib.hid ⟨rfl, rfl, rfl, rfl⟩, hov, hsv, h.next hm hok hfj, hfj⟩
/-- The three machines, the box of their pointers, the box of the two numbers. -/
structure Kp (w X : World) (tb q0 q1 q2 : Nat) (a b : Nat) (m0 m1 m2 : Ma) : Prop where
  k0 : Ks w X (q0 + 1) q0 m0
  k1 : Ks w X (q1 + 1) q1 m1
  k2 : Ks w X (q2 + 1) q2 m2
  box : X.heap[tb]? = some (.cells #[.pointer (some ⟨q0 + 1, 0, none⟩), .pointer (some ⟨q1 + 1, 0, none⟩), .pointer (some ⟨q2 + 1, 0, none⟩)] 58)
  num : X.heap[w.heap.size]? = some (.cells #[.int .u8 a, .int .u8 b] 57)
  u01 : q0 + 1 < q1
  u12 : q1 + 1 < q2
  lt : w.heap.size < tb ∧ tb < q0
section
variable {w X X' : World} {tb q0 q1 q2 a b : Nat} {m0 m1 m2 m' : Ma}
theorem Kp.grow (h : Kp w X tb q0 q1 q2 a b m0 m1 m2) (hb : Below X.heap.size X X') : Kp w X' tb q0 q1 q2 a b m0 m1 m2 :=
  ⟨h.k0.grow hb, h.k1.grow hb, h.k2.grow hb, row_at hb (lt_of_at h.box) h.box, row_at hb (lt_of_at h.num) h.num, h.u01, h.u12, h.lt⟩
theorem Kp.next0 (h : Kp w X tb q0 q1 q2 a b m0 m1 m2) (hf : Fj X.heap.size (q0 + 1) q0 X X') (hk : Ks w X' (q0 + 1) q0 m') : Kp w X' tb q0 q1 q2 a b m' m1 m2 := by
  have := h.u01; have := h.u12; have := h.lt
  exact ⟨hk, ks_two h.k1 hk hf ⟨by omega, by omega, by omega, by omega⟩, ks_two h.k2 hk hf ⟨by omega, by omega, by omega, by omega⟩, row_fj h.box hf (by omega) (by omega), row_fj h.num hf (by omega) (by omega), h.u01, h.u12, h.lt⟩
theorem Kp.next1 (h : Kp w X tb q0 q1 q2 a b m0 m1 m2) (hf : Fj X.heap.size (q1 + 1) q1 X X') (hk : Ks w X' (q1 + 1) q1 m') : Kp w X' tb q0 q1 q2 a b m0 m' m2 := by
  have := h.u01; have := h.u12; have := h.lt
  exact ⟨ks_two h.k0 hk hf ⟨by omega, by omega, by omega, by omega⟩, hk, ks_two h.k2 hk hf ⟨by omega, by omega, by omega, by omega⟩, row_fj h.box hf (by omega) (by omega), row_fj h.num hf (by omega) (by omega), h.u01, h.u12, h.lt⟩
theorem Kp.next2 (h : Kp w X tb q0 q1 q2 a b m0 m1 m2) (hf : Fj X.heap.size (q2 + 1) q2 X X') (hk : Ks w X' (q2 + 1) q2 m') : Kp w X' tb q0 q1 q2 a b m0 m1 m' := by
  have := h.u01; have := h.u12; have := h.lt
  exact ⟨ks_two h.k0 hk hf ⟨by omega, by omega, by omega, by omega⟩, ks_two h.k1 hk hf ⟨by omega, by omega, by omega, by omega⟩, hk, row_fj h.box hf (by omega) (by omega), row_fj h.num hf (by omega) (by omega), h.u01, h.u12, h.lt⟩
theorem Kp.c0 (h : Kp w X tb q0 q1 q2 a b m0 m1 m2) : X.cell? ⟨tb, 0, none⟩ = some (.pointer (some ⟨q0 + 1, 0, none⟩)) := by rw [cell_of_row _ _ 0 _ _ _ h.box]; rfl
theorem Kp.c1 (h : Kp w X tb q0 q1 q2 a b m0 m1 m2) : X.cell? ⟨tb, 1, none⟩ = some (.pointer (some ⟨q1 + 1, 0, none⟩)) := by rw [cell_of_row _ _ 1 _ _ _ h.box]; rfl
theorem Kp.c2 (h : Kp w X tb q0 q1 q2 a b m0 m1 m2) : X.cell? ⟨tb, 2, none⟩ = some (.pointer (some ⟨q2 + 1, 0, none⟩)) := by rw [cell_of_row _ _ 2 _ _ _ h.box]; rfl
theorem Kp.n0 (h : Kp w X tb q0 q1 q2 a b m0 m1 m2) : X.cell? ⟨w.heap.size, 0, none⟩ = some (.int .u8 a) := by rw [cell_of_row _ _ 0 _ _ _ h.num]; rfl
theorem Kp.n1 (h : Kp w X tb q0 q1 q2 a b m0 m1 m2) : X.cell? ⟨w.heap.size, 1, none⟩ = some (.int .u8 b) := by rw [cell_of_row _ _ 1 _ _ _ h.num]; rfl
theorem Kp.sz (h : Kp w X tb q0 q1 q2 a b m0 m1 m2) : q0 + 1 < X.heap.size ∧ q1 + 1 < X.heap.size ∧ q2 + 1 < X.heap.size := ⟨h.k0.at_.lp, h.k1.at_.lp, h.k2.at_.lp⟩
end
theorem accs_one (l : List Ac) : ∀ u ∈ accs l, u.oneCell' = true := by
  intro u hu
  simp only [accs, List.mem_flatMap, List.mem_cons, List.not_mem_nil, or_false] at hu
  obtain ⟨a, _, h⟩ := hu
  rcases h with rfl | rfl | rfl | rfl <;> rfl
theorem accs_cat (l k : List Ac) : accs (l ++ k) = accs l ++ accs k := by simp [accs]
theorem accIn_own {w : World} {B : Nat} {A : Option Addr} {n c : Nat} {l : List Ac} (h : w.ownsRow B 81 4 (.slice A n c) l.length (accs l)) : n = l.length ∧ AccIn w A l := by
  rcases h.2 with ⟨hv, hn⟩ | ⟨g, cap, cur, hv, hg, hh, hnc, _, hsz, htk⟩
  · injection hv with h1 h2 h3
    subst h1 h2
    exact ⟨hn.symm, fun h0 => by omega⟩
  · injection hv with h1 h2 h3
    subst h1 h2 h3
    refine ⟨rfl, fun h0 => ⟨g, 0, rfl, fun j v hj => ?_⟩⟩
    rw [Nat.zero_add, cell_of_row w g j _ _ _ hh]
    rw [← htk, List.getElem?_take] at hj
    split at hj
    · simpa using hj
    · cases hj
set_option maxHeartbeats 1000000 in
/-- An append of one's own row of loads and stores to another one, whatever their lengths, as one step of a region. -/
theorem step_app {ops : Array Oper} {o : Oper} {a : Act} {w : World} {K : Act → World → Prop} {Q : Exit → Act → World → Prop} {E : Prop} (hw : Region.wanted o (yielded ops a.tmps) = true) (s x : Operand)
    (ho : o.op = .call { callee := .builtin .append, args := #[s, x], argTypes := #[41, 41] }) (base base' n m : Nat) (xs ys : List Value) (v sv : Value) (hs : a.eval s = v) (hx : a.eval x = sv)
    (hown : w.ownsRow base 81 4 v n xs) (hown' : w.ownsRow base' 81 4 sv m ys) (hys : ∀ u ∈ ys, u.oneCell' = true) (hn : n + m ≤ 1073741824) (hb : base ≤ w.heap.size)
    (hK : ∀ v' w', w'.ownsRow base 81 4 v' (n + m) (xs ++ ys) → Below base w w' → K (a.put o.dst v') w') :
    if Region.wanted o (yielded ops a.tmps) = true then Oper.wp Tryd.prog o a w K Q else E := by
  rw [if_pos hw]
  obtain ⟨i0, hi0, hz0, hz1, hz2⟩ := info_parts infoAcc
  have hrun : ∃ v' w', (Builtin.append_ #[41, 41] o.type #[v, sv]).run Tryd.prog w = .ok v' w' ∧ w'.ownsRow base 81 4 v' (n + m) (xs ++ ys) ∧ Below base w w' := by
    rcases hown'.2 with ⟨rfl, hm0⟩ | ⟨g, cap, cur, rfl, hg, hh, hnc, hcm, hsz, htk⟩
    · have hl := hown'.1
      have hm : m = 0 := by omega
      subst hm
      have hy : ys = [] := List.eq_nil_of_length_eq_zero (by omega)
      subst hy
      exact ⟨v, w, run_append_owned_none w base _ _ _ i0 4 Tryd.underlying41 hi0 v n xs hown, by simpa using hown, Below.refl _ _⟩
    · obtain ⟨v', w', h1, h2, h3, -⟩ := run_append_own (P := Tryd.prog) w base 41 o.type 81 i0 _ 4 32 Tryd.underlying41 hi0 hz0 hz1 hz2 rfl (by omega) v n xs hown ⟨g, 0, none⟩ m cap ys hown'.1 (fun j u hu => by
        rw [add_at, Nat.zero_add, cell_of_row w g j _ _ _ hh]
        rw [← htk, List.getElem?_take] at hu
        split at hu
        · simpa using hu
        · cases hu) hys (by unfold maxLen; omega) (by omega) hb
      exact ⟨v', w', h1, h2, (Below.refl base w).grown h3 hb fun k hk => by
        rcases Nat.lt_or_ge k base with hlt' | hge
        · exact absurd hk (own_base hown hlt')
        · exact hge⟩
  obtain ⟨v', w', h1, h2, h3⟩ := hrun
  unfold Oper.wp execOp
  simp only [ho, resolve, invoke, builtin, Sem.run_bind, Sem.run_pure, Result.andThen_ok, List.map_toArray, List.map_cons, List.map_nil, hs, hx, h1]
  exact hK _ _ h2 h3
theorem bw4 {Y W : World} (h : Below Y.heap.size Y W) (o : Obj) : Below Y.heap.size Y (W.alloc o) := h.alloc h.size o
theorem own_lit0 {Y W : World} (h : Below Y.heap.size Y W) : (W.alloc (.cells #[] 81)).ownsRow Y.heap.size 81 4 (.slice (some ⟨W.heap.size, 0, none⟩) 0 0) 0 [] := World.ownsRow_lit W #[] 0 h.size (by decide) rfl
theorem str_cat (l k : List Int) : strOfNums l ++ strOfNums k = strOfNums (l ++ k) := by
  apply ByteArray.ext
  show (strOfNums l ++ strOfNums k).data = _
  rw [ByteArray.data_append]
  simp [strOfNums]
end Go.Proofs.YtoehfncgkkfdeaaDoor
namespace Go.Proofs.YtoehfncgkkfdeaaDoor
open Go.RowKit Go.Maps
set_option linter.unusedVariables false
set_option linter.unusedSimpArgs false
set_option maxRecDepth 10000
open Pm Pc Pl
namespace Pm
def Bd (R R' : Ru) : Prop := R'.steps = R.steps ∧ R'.checks ≤ R.checks + 1 ∧ R'.seen.length ≤ R.seen.length + 1 ∧ R'.out.length ≤ R.out.length + 1
theorem Bd.refl (R : Ru) : Bd R R := ⟨rfl, Nat.le_succ _, Nat.le_succ _, Nat.le_succ _⟩
theorem bd_note (R : Ru) (a : Ac) : Bd R (R.note a) := by
  unfold Ru.note
  split
  · exact ⟨rfl, Nat.le_succ _, by simp, Nat.le_succ _⟩
  · exact Bd.refl R
theorem bd_call {m : Ma} {R : Ru} {x : Ma × Ru} (h : callV m R = some x) : Bd R x.2 := by
  unfold callV at h
  split at h
  · injection h with h; subst h; exact ⟨rfl, Nat.le_succ _, Nat.le_succ _, by simp⟩
  split at h
  · split at h
    · injection h with h; subst h; exact Bd.refl R
    · injection h with h; subst h; exact ⟨rfl, Nat.le_succ _, Nat.le_succ _, Nat.le_succ _⟩
  split at h
  · injection h with h; subst h; exact Bd.refl R
  split at h
  · injection h with h; subst h; exact Bd.refl R
  · cases h
theorem bd_step {m : Ma} {R : Ru} {x : Ma × Ru} (h : stepV m R = some x) : Bd R x.2 := by
  unfold stepV at h
  split at h
  · unfold doV at h
    split at h
    · injection h with h; subst h; exact Bd.refl R
    split at h
    · injection h with h; subst h
      dsimp only
      split
      · exact ⟨rfl, Nat.le_refl _, Nat.le_succ _, Nat.le_succ _⟩
      · exact Bd.refl R
    split at h
    · split at h
      · injection h with h; subst h; exact bd_note R _
      · cases h
    split at h
    · split at h
      · injection h with h; subst h; exact bd_note R _
      · cases h
    split at h
    · injection h with h; subst h; exact Bd.refl R
    split at h
    · injection h with h; subst h; exact Bd.refl R
    split at h
    · injection h with h; subst h; exact Bd.refl R
    split at h
    · injection h with h; subst h; exact Bd.refl R
    split at h
    · injection h with h; subst h; exact Bd.refl R
    split at h
    · rename_i y hy
      injection h with h; subst h; exact (bd_call hy : Bd R y.2)
    · cases h
  · cases h
theorem bd_run (n : Nat) (m : Ma) (R : Ru) : (runV n m R).2.steps ≤ R.steps + n ∧ (runV n m R).2.checks ≤ R.checks + n ∧ (runV n m R).2.seen.length ≤ R.seen.length + n ∧ (runV n m R).2.out.length ≤ R.out.length + n := by
  induction n generalizing m R with
  | zero => exact ⟨Nat.le_refl _, Nat.le_refl _, Nat.le_refl _, Nat.le_refl _⟩
  | succ n ih =>
    rw [runV]
    split
    · cases hs : stepV m R with
      | none => exact ⟨Nat.le_add_right _ _, Nat.le_add_right _ _, Nat.le_add_right _ _, Nat.le_add_right _ _⟩
      | some x =>
        have h1 := bd_step hs
        have h2 := ih x.1 { x.2 with steps := x.2.steps + 1 }
        obtain ⟨a, b, c, d⟩ := h1
        dsimp only at h2 ⊢
        refine ⟨?_, ?_, ?_, ?_⟩ <;> omega
    · exact ⟨Nat.le_add_right _ _, Nat.le_add_right _ _, Nat.le_add_right _ _, Nat.le_add_right _ _⟩
end Pm
end Go.Proofs.YtoehfncgkkfdeaaDoor
namespace Go.Proofs.YtoehfncgkkfdeaaDoor
open Go.RowKit Go.Maps
set_option linter.unusedVariables false
set_option linter.unusedSimpArgs false
set_option maxRecDepth 10000
open Pm Pc Pl
set_option maxRecDepth 100000 in
set_option maxHeartbeats 8000000 in
theorem machParts_in (xs ys : List Int) (A A' : Option Addr) (c c' a b : Nat) (w : World) (hs : SrcIs w A xs) (hy : U64s w A' ys) (ha : a < 256) (hb : b < 256) (hF : FormsIn w) (hO : OpsIn w) (h2000 : xs.length ≤ 2000) (h40 : ys.length ≤ 40) :
    Calls Tryd.prog 6 #[.slice A xs.length c, .slice A' ys.length c', .agg #[.int .u8 a, .int .u8 b]] w fun e w' => e = .returned (.bool true) ∧ Below w.heap.size w w' := by
  have h2 := hO.two hF
  obtain ⟨x, y, hxr, hyr, hzr, hzw⟩ := run_parts a b (setN (maNew xs (xs.length + 256)) ys ys.length)
  have hd1 : decide (2000 < (xs.length : Int)) = false := decide_eq_false (by omega)
  have hd2 : decide (40 < (ys.length : Int)) = false := decide_eq_false (by omega)
  go_enter Tryd.func6, Tryd.ntmps6
  go_wp2_with fail
  refine (awake3 _ (hF.keep (bw_alloc (Below.refl _ _) _) (Nat.le_refl _)) (hO.below (bw_alloc (Below.refl _ _) _))).mono ?_
  rintro e w1 ⟨rfl, b1⟩
  have b1' : Below w.heap.size w w1 := (bw_alloc (Below.refl w.heap.size w) _).trans (b1.mono (by simp))
  have t5 := row_at b1 (by simp) (heap_alloc_new w _)
  have hF1 := hF.keep b1' (Nat.le_refl _)
  have hO1 := hO.below b1'
  have hs1 := hs.below b1'
  have hy1 := hy.below b1'
  clear b1 hF hO hs hy
  go_wp2_with fail
  have hN1 : xs.length ≤ xs.length + 256 := by omega
  have T0 : Three w (w1.alloc (Obj.cells #[.pointer none, .pointer none, .pointer none] 58)) w1.heap.size (setN (maNew xs (xs.length + 256)) ys ys.length) (fun _ => 0) 0 :=
    ⟨fun i hi => absurd hi (Nat.not_lt_zero i), fun i i' _ hi => absurd hi (Nat.not_lt_zero i'), heap_alloc_new _ _, fun i hi => absurd hi (Nat.not_lt_zero i), b1'.size, bw_alloc b1' _, hF1.keep (bw_alloc (Below.refl _ _) _) (Nat.le_refl _), hO1.below (bw_alloc (Below.refl _ _) _)⟩
  have hbA : Below w1.heap.size w1 (w1.alloc (Obj.cells #[.pointer none, .pointer none, .pointer none] 58)) := bw_alloc (Below.refl _ _) _
  have HT0 := Lib.hid T0; have HBA := Lib.hid hbA
  have HS := Lib.hid hs1; have HY := Lib.hid hy1; have T5 := Lib.hid t5
  have h5 : w.heap.size < w1.heap.size := lt_of_at t5
  generalize hM : setN (maNew xs (xs.length + 256)) ys ys.length = M at *
  have HM := Lib.hid hM
  clear hF1 hO1 T0 hbA b1' hs1 hy1 t5 hM
  go_loopw [33] (fun k wr => ∃ j : Nat, j ≤ 3 ∧ k = .int .i64 j ∧ ∃ Q : Nat → Nat, Three w wr w1.heap.size M Q j ∧ Below w1.heap.size w1 wr) (fun k _ => 3 - (intOf k).toNat)
  case atStart => exact ⟨0, Nat.zero_le _, rfl, _, HT0.out, HBA.out⟩
  case round =>
    obtain ⟨j, hj, rfl, Q, hT, hB⟩ := hrel
    by_cases hj3 : j < 3
    · rename World => wo
      have hsr := HS.out.below (hB.mono (Nat.le_refl _))
      have HT := Lib.hid hT
      have hyr := HY.out.below hB
      have HN := Lib.hid (ks_new2 (w0 := w) (N := xs.length + 256) (c := c) hN1 (by omega) hsr hT.forms hT.ops hT.below h2 (n := (xs.length : Int) + 256) (by omega))
      have HBr := Lib.hid hB
      clear hsr hT hB
      go_wp2_with fail
      with_reducible refine HN.out.mono ?_
      rintro e w2 ⟨rfl, k2, bn2, z2⟩
      have hy2 := hyr
      have K2 := Lib.hid k2; have HY2 := Lib.hid hy2; have BN2 := Lib.hid bn2
      clear k2 bn2 hyr hy2 HN
      go_wp2_with fail
      go_loopw [52] (fun k w3 => ∃ i : Nat, i ≤ ys.length ∧ k = .int .i64 i ∧ SetTo w w2 w3 (wo.heap.size + 1) wo.heap.size (setN (maNew xs (xs.length + 256)) ys i)) (fun k _ => ys.length - (intOf k).toNat)
      case atStart => exact ⟨0, Nat.zero_le _, rfl, K2.out, Fr.refl _ _⟩
      case round =>
        obtain ⟨i, hi, rfl, hst⟩ := hrel
        by_cases hlt : i < ys.length
        · obtain ⟨g, o, rfl, hg, hr⟩ := HY2.out.2 (by omega)
          have hc : wr.cell? ⟨g, o + i, none⟩ = some (.int .u64 (ys.getD i 0)) := (World.cell?_of_block (hst.fr.block g (Nat.lt_of_lt_of_le hg BN2.out.size) (by simp; omega))).trans ((BN2.out.cell (p := ⟨g, o + i, none⟩) hg).trans (hr i hlt))
          have hS := Lib.hid (ks_setR hst.ks i (ys.getD i 0) (getD_u64 HY2.out.1 i))
          have hsn : (setN (maNew xs (xs.length + 256)) ys i).setR i (ys.getD i 0) = setN (maNew xs (xs.length + 256)) ys (i + 1) := rfl
          rw [hsn] at hS
          have HST := Lib.hid hst.fr
          clear hst hsn hr
          generalize ys.getD i 0 = v at *
          go_wp2_with fail
          with_reducible refine hS.out.mono ?_
          rintro e w4 ⟨rfl, k4, f4⟩
          have K4 := Lib.hid k4; have F4 := Lib.hid f4
          clear k4 f4
          go_wp2_with fail
          go_roundw
          case rel => exact ⟨i + 1, by omega, by go_num, K4.out, HST.out.trans F4.out⟩
          case measure => simp [intOf]; omega
        · obtain rfl : i = ys.length := by omega
          rw [HM.out] at hst
          have hx := three_new HT.out hj3 BN2.out hst.ks hst.fr z2
          have hbx := row_at BN2.out (lt_of_at HT.out.box) HT.out.box
          have ltb := lt_of_at HT.out.box
          have hb3 := hst.fr.at_ hbx (by simp; omega)
          have hcb : ∃ old, wr.cell? ⟨w1.heap.size, j, none⟩ = some old ∧ wr.frozen? ⟨w1.heap.size, j, none⟩ = false := by
            have : j = 0 ∨ j = 1 ∨ j = 2 := by omega
            rcases this with rfl | rfl | rfl
            · exact ⟨ptO (decide (0 < 0)) (Q 0 + 1), by rw [cell_of_row _ _ 0 _ _ _ hb3]; rfl, frozen_of_row _ _ 0 _ _ hb3⟩
            · exact ⟨ptO (decide (1 < 1)) (Q 1 + 1), by rw [cell_of_row _ _ 1 _ _ _ hb3]; rfl, frozen_of_row _ _ 1 _ _ hb3⟩
            · exact ⟨ptO (decide (2 < 2)) (Q 2 + 1), by rw [cell_of_row _ _ 2 _ _ _ hb3]; rfl, frozen_of_row _ _ 2 _ _ hb3⟩
          obtain ⟨old, hc, hf⟩ := hcb
          have HX := Lib.hid hx
          have HB3 : Hid (Below w1.heap.size w1 (wr.setCell ⟨w1.heap.size, j, none⟩ (.pointer (some ⟨wo.heap.size + 1, 0, none⟩)))) := Lib.hid (((HBr.out.trans (BN2.out.mono (by omega))).trans ⟨hst.fr.os, hst.fr.tape, hst.fr.output, hst.fr.size, fun k hk => hst.fr.block k (by omega) (by simp; omega)⟩).setCell (Nat.le_refl _) _)
          clear hx hbx hb3 hst
          go_wp2_with fail
          go_roundw
          case rel => exact ⟨j + 1, by omega, by go_num, _, HX.out, HB3.out⟩
          case measure => simp [intOf]; omega
    · obtain rfl : j = 3 := by omega
      have kp : Kp w wr w1.heap.size (Q 0) (Q 1) (Q 2) a b M M M := ⟨hT.ks 0 (by omega), hT.ks 1 (by omega), hT.ks 2 (by omega), hT.box, row_at hB h5 T5.out, hT.up 0 1 (by omega) (by omega), hT.up 1 2 (by omega) (by omega), h5, hT.lt 0 (by omega)⟩
      clear HM HT0 HBA HS HY T5 hT hB
      generalize Q 0 = q0 at *
      generalize Q 1 = q1 at *
      generalize Q 2 = q2 at *
      generalize wr = Y0 at *
      clear Q hj hj3 hd1 hd2 hN1
      have HZW := Lib.hid hzw; have HZR := Lib.hid hzr; have HXR := Lib.hid hxr; have HYR := Lib.hid hyr
      clear hzr hzw hxr hyr
      have tc0 := kp.c0; have tn0 := kp.n0; have tn1 := kp.n1
      have KP := Lib.hid kp
      have hcall := Lib.hid (kr_run kp.k0 ((a : Int) + b) (a + b) (by omega) (by omega) HZW.out)
      clear kp
      go_wp2_with fail
      with_reducible refine hcall.out.mono ?_
      rintro e X1 ⟨oA1, on1, oc1, st1, cd1, s1, k1, rfl, E1, ov1, hk, f1⟩
      have sz := KP.out.sz
      have fz := f1.fb.size
      have bw : Below X1.heap.size X1 (X1.alloc (Obj.cells #[.int .i64 st1, .int .u8 cd1, .int .i64 0, .slice oA1 on1 oc1, .int .i64 s1, .int .i64 k1] 39)) := bw_alloc (Below.refl _ _) _
      have kp := (KP.out.next0 f1 hk).grow bw
      have r1 := heap_alloc_new X1 (Obj.cells #[.int .i64 st1, .int .u8 cd1, .int .i64 0, .slice oA1 on1 oc1, .int .i64 s1, .int .i64 k1] 39)
      have ov1 := own_bw ov1 bw
      have hz1 : X1.heap.size < (X1.alloc (Obj.cells #[.int .i64 st1, .int .u8 cd1, .int .i64 0, .slice oA1 on1 oc1, .int .i64 s1, .int .i64 k1] 39)).heap.size := by simp
      have tc0 := kp.c0; have tc1 := kp.c1; have tc2 := kp.c2; have tn0 := kp.n0; have tn1 := kp.n1
      clear KP 
      have R1 := Lib.hid r1; have O1 := Lib.hid ov1
      have KP := Lib.hid kp
      clear r1 ov1  hk f1 bw
      have hcall1 := Lib.hid (kr_watch kp.k1 (a : Int) a (by omega) (by omega) HXR.out)
      clear kp
      go_wp2_with fail
      generalize hY1 : (X1.alloc (Obj.cells #[.int .i64 st1, .int .u8 cd1, .int .i64 0, .slice oA1 on1 oc1, .int .i64 s1, .int .i64 k1] 39)) = Y1 at *
      clear hY1 tc0 tc1 tc2 tn0 tn1
      with_reducible refine hcall1.out.mono ?_
      rintro e X2 ⟨oA2, on2, oc2, sA2, sn2, sc2, st2, cd2, s2, k2, rfl, E2, ov2, sv2, hk, f2⟩
      have sz := KP.out.sz
      have fz := f2.fb.size
      have bw : Below X2.heap.size X2 (X2.alloc (Obj.cells #[.int .i64 st2, .int .u8 cd2, .int .i64 0, .slice oA2 on2 oc2, .int .i64 s2, .int .i64 k2] 39)) := bw_alloc (Below.refl _ _) _
      have kp := (KP.out.next1 f2 hk).grow bw
      have r2 := heap_alloc_new X2 (Obj.cells #[.int .i64 st2, .int .u8 cd2, .int .i64 0, .slice oA2 on2 oc2, .int .i64 s2, .int .i64 k2] 39)
      have ov2 := own_bw ov2 bw
      have sv2 := own_bw sv2 bw
      have r1 := row_at bw (lt_of_at (row_fj R1.out f2 (by omega) (by omega))) (row_fj R1.out f2 (by omega) (by omega))
      have ov1 := own_bw (own_fj O1.out f2 (by omega) (by omega)) bw
      have hz2 : X2.heap.size < (X2.alloc (Obj.cells #[.int .i64 st2, .int .u8 cd2, .int .i64 0, .slice oA2 on2 oc2, .int .i64 s2, .int .i64 k2] 39)).heap.size := by simp
      have tc0 := kp.c0; have tc1 := kp.c1; have tc2 := kp.c2; have tn0 := kp.n0; have tn1 := kp.n1
      clear KP R1 O1
      have R1 := Lib.hid r1; have O1 := Lib.hid ov1
      have R2 := Lib.hid r2; have O2 := Lib.hid ov2; have V2 := Lib.hid sv2
      have KP := Lib.hid kp
      clear r1 r2 ov1 ov2 sv2 hk f2 bw
      have hcall2 := Lib.hid (kr_watch kp.k1 (b : Int) b (by omega) (by omega) HYR.out)
      clear kp
      go_wp2_with fail
      generalize hY2 : (X2.alloc (Obj.cells #[.int .i64 st2, .int .u8 cd2, .int .i64 0, .slice oA2 on2 oc2, .int .i64 s2, .int .i64 k2] 39)) = Y2 at *
      clear hY2 tc0 tc1 tc2 tn0 tn1
      with_reducible refine hcall2.out.mono ?_
      rintro e X3 ⟨oA3, on3, oc3, sA3, sn3, sc3, st3, cd3, s3, k3, rfl, E3, ov3, sv3, hk, f3⟩
      have sz := KP.out.sz
      have fz := f3.fb.size
      have bw : Below X3.heap.size X3 (X3.alloc (Obj.cells #[.int .i64 st3, .int .u8 cd3, .int .i64 0, .slice oA3 on3 oc3, .int .i64 s3, .int .i64 k3] 39)) := bw_alloc (Below.refl _ _) _
      have kp := (KP.out.next1 f3 hk).grow bw
      have r3 := heap_alloc_new X3 (Obj.cells #[.int .i64 st3, .int .u8 cd3, .int .i64 0, .slice oA3 on3 oc3, .int .i64 s3, .int .i64 k3] 39)
      have ov3 := own_bw ov3 bw
      have sv3 := own_bw sv3 bw
      have r1 := row_at bw (lt_of_at (row_fj R1.out f3 (by omega) (by omega))) (row_fj R1.out f3 (by omega) (by omega))
      have ov1 := own_bw (own_fj O1.out f3 (by omega) (by omega)) bw
      have r2 := row_at bw (lt_of_at (row_fj R2.out f3 (by omega) (by omega))) (row_fj R2.out f3 (by omega) (by omega))
      have ov2 := own_bw (own_fj O2.out f3 (by omega) (by omega)) bw
      have sv2 := own_bw (own_fj V2.out f3 (by omega) (by omega)) bw
      have hz3 : X3.heap.size < (X3.alloc (Obj.cells #[.int .i64 st3, .int .u8 cd3, .int .i64 0, .slice oA3 on3 oc3, .int .i64 s3, .int .i64 k3] 39)).heap.size := by simp
      have tc0 := kp.c0; have tc1 := kp.c1; have tc2 := kp.c2; have tn0 := kp.n0; have tn1 := kp.n1
      clear KP R1 O1 R2 O2 V2
      have R1 := Lib.hid r1; have O1 := Lib.hid ov1
      have R2 := Lib.hid r2; have O2 := Lib.hid ov2; have V2 := Lib.hid sv2
      have R3 := Lib.hid r3; have O3 := Lib.hid ov3; have V3 := Lib.hid sv3
      have KP := Lib.hid kp
      clear r1 r2 r3 ov1 ov2 ov3 sv2 sv3 hk f3 bw
      have hcall3 := Lib.hid (kr_watch kp.k2 ((a : Int) + b) (a + b) (by omega) (by omega) HZR.out)
      clear kp
      go_wp2_with fail
      generalize hY3 : (X3.alloc (Obj.cells #[.int .i64 st3, .int .u8 cd3, .int .i64 0, .slice oA3 on3 oc3, .int .i64 s3, .int .i64 k3] 39)) = Y3 at *
      clear hY3 tc0 tc1 tc2 tn0 tn1
      with_reducible refine hcall3.out.mono ?_
      rintro e X4 ⟨oA4, on4, oc4, sA4, sn4, sc4, st4, cd4, s4, k4, rfl, E4, ov4, sv4, hk, f4⟩
      have sz := KP.out.sz
      have fz := f4.fb.size
      have bw : Below X4.heap.size X4 (X4.alloc (Obj.cells #[.int .i64 st4, .int .u8 cd4, .int .i64 0, .slice oA4 on4 oc4, .int .i64 s4, .int .i64 k4] 39)) := bw_alloc (Below.refl _ _) _
      have kp := (KP.out.next2 f4 hk).grow bw
      have r4 := heap_alloc_new X4 (Obj.cells #[.int .i64 st4, .int .u8 cd4, .int .i64 0, .slice oA4 on4 oc4, .int .i64 s4, .int .i64 k4] 39)
      have ov4 := own_bw ov4 bw
      have sv4 := own_bw sv4 bw
      have r1 := row_at bw (lt_of_at (row_fj R1.out f4 (by omega) (by omega))) (row_fj R1.out f4 (by omega) (by omega))
      have ov1 := own_bw (own_fj O1.out f4 (by omega) (by omega)) bw
      have r2 := row_at bw (lt_of_at (row_fj R2.out f4 (by omega) (by omega))) (row_fj R2.out f4 (by omega) (by omega))
      have ov2 := own_bw (own_fj O2.out f4 (by omega) (by omega)) bw
      have sv2 := own_bw (own_fj V2.out f4 (by omega) (by omega)) bw
      have r3 := row_at bw (lt_of_at (row_fj R3.out f4 (by omega) (by omega))) (row_fj R3.out f4 (by omega) (by omega))
      have ov3 := own_bw (own_fj O3.out f4 (by omega) (by omega)) bw
      have sv3 := own_bw (own_fj V3.out f4 (by omega) (by omega)) bw
      have hz4 : X4.heap.size < (X4.alloc (Obj.cells #[.int .i64 st4, .int .u8 cd4, .int .i64 0, .slice oA4 on4 oc4, .int .i64 s4, .int .i64 k4] 39)).heap.size := by simp
      have tc0 := kp.c0; have tc1 := kp.c1; have tc2 := kp.c2; have tn0 := kp.n0; have tn1 := kp.n1
      clear KP R1 O1 R2 O2 V2 R3 O3 V3
      have R1 := Lib.hid r1; have O1 := Lib.hid ov1
      have R2 := Lib.hid r2; have O2 := Lib.hid ov2; have V2 := Lib.hid sv2
      have R3 := Lib.hid r3; have O3 := Lib.hid ov3; have V3 := Lib.hid sv3
      have R4 := Lib.hid r4; have O4 := Lib.hid ov4; have V4 := Lib.hid sv4
      have KP := Lib.hid kp
      clear r1 r2 r3 r4 ov1 ov2 ov3 ov4 sv2 sv3 sv4 hk f4 bw
      clear kp
      go_wp2_with fail
      generalize hY4 : (X4.alloc (Obj.cells #[.int .i64 st4, .int .u8 cd4, .int .i64 0, .slice oA4 on4 oc4, .int .i64 s4, .int .i64 k4] 39)) = Y4 at *
      clear hY4
      obtain ⟨hn2, -⟩ := accIn_own V2.out
      obtain ⟨hn3, -⟩ := accIn_own V3.out
      obtain ⟨hn4, -⟩ := accIn_own V4.out
      subst hn2 hn3 hn4
      have e1 := E1.out; have e2 := E2.out; have e3 := E3.out; have e4 := E4.out
      obtain rfl : st4 = st1 := e4.1.trans e1.1.symm
      obtain rfl : cd4 = cd1 := e4.2.1.trans e1.2.1.symm
      obtain rfl : s4 = s1 := e4.2.2.1.trans e1.2.2.1.symm
      obtain rfl : k4 = k1 := e4.2.2.2.trans e1.2.2.2.symm
      obtain rfl : st3 = st4 := e3.1.trans e4.1.symm
      obtain rfl : cd3 = cd4 := e3.2.1.trans e4.2.1.symm
      have es : s4 = s2 + s3 := by rw [e4.2.2.1, e2.2.2.1, e3.2.2.1]; omega
      have ek : k4 = k2 + k3 := by rw [e4.2.2.2, e2.2.2.2, e3.2.2.2]; omega
      have bx := bd_run a M w0R
      have by' := bd_run b x.1 w0R
      rw [HXR.out] at bx
      rw [HYR.out] at by'
      have b1 := e2.2.2.1; have b2 := e2.2.2.2; have b3 := e3.2.2.1; have b4 := e3.2.2.2
      have b5 : x.2.steps ≤ a ∧ x.2.checks ≤ a ∧ x.2.seen.length ≤ a ∧ x.2.out.length ≤ a := by simpa [w0R] using bx
      have b6 : y.2.steps ≤ b ∧ y.2.checks ≤ b ∧ y.2.seen.length ≤ b ∧ y.2.out.length ≤ b := by simpa [w0R] using by'
      have hss : (0 ≤ s2 ∧ s2 < 256) ∧ (0 ≤ s3 ∧ s3 < 256) ∧ (0 ≤ k2 ∧ k2 < 256) ∧ (0 ≤ k3 ∧ k3 < 256) := by omega
      have hse : x.2.seen.length < 256 ∧ y.2.seen.length < 256 := by omega
      have hso : x.2.out.length < 256 ∧ y.2.out.length < 256 := by omega
      clear bx by' b1 b2 b3 b4 b5 b6
      clear e1 e2 e3 e4 E1 E2 E3 E4 hcall hcall1 hcall2 hcall3 HZW HZR HXR HYR tc0 tc1 tc2 tn0 tn1
      generalize x.2.out = l2 at *
      generalize y.2.out = l3 at *
      generalize x.2.seen = e2 at *
      generalize y.2.seen = e3 at *
      have HS1 := Lib.hid (same_true st3 cd3 s4 k4 (own_bw O1.out (Below.refl Y4.heap.size Y4).drew) (own_bw O4.out (Below.refl Y4.heap.size Y4).drew))
      have HSW : Hid (∀ W : World, Below Y4.heap.size Y4 W → (Below Y4.heap.size Y4 W ∧ W.cell? ⟨X1.heap.size, 0, none⟩ = some (.int .i64 st3) ∧ W.cell? ⟨X1.heap.size, 1, none⟩ = some (.int .u8 cd3) ∧ W.cell? ⟨X1.heap.size, 2, none⟩ = some (.int .i64 0) ∧ W.cell? ⟨X1.heap.size, 3, none⟩ = some (.slice oA1 on1 oc1) ∧ W.cell? ⟨X1.heap.size, 4, none⟩ = some (.int .i64 s4) ∧ W.cell? ⟨X1.heap.size, 5, none⟩ = some (.int .i64 k4) ∧ W.cell? ⟨X4.heap.size, 0, none⟩ = some (.int .i64 st3) ∧ W.cell? ⟨X4.heap.size, 1, none⟩ = some (.int .u8 cd3) ∧ W.cell? ⟨X4.heap.size, 2, none⟩ = some (.int .i64 0) ∧ W.cell? ⟨X4.heap.size, 3, none⟩ = some (.slice oA4 on4 oc4) ∧ W.cell? ⟨X4.heap.size, 4, none⟩ = some (.int .i64 s4) ∧ W.cell? ⟨X4.heap.size, 5, none⟩ = some (.int .i64 k4) ∧ W.cell? ⟨w1.heap.size, 0, none⟩ = some (.pointer (some ⟨q0 + 1, 0, none⟩)) ∧ W.cell? ⟨w1.heap.size, 1, none⟩ = some (.pointer (some ⟨q1 + 1, 0, none⟩)))) := Lib.hid fun W hW => by
        have r1 := row_at hW (lt_of_at R1.out) R1.out
        have r4 := row_at hW (lt_of_at R4.out) R4.out
        have rb := row_at hW (lt_of_at KP.out.box) KP.out.box
        refine ⟨hW, ?_, ?_, ?_, ?_, ?_, ?_, ?_, ?_, ?_, ?_, ?_, ?_, ?_, ?_⟩
        all_goals first | (rw [cell_of_row _ _ _ _ _ _ r1]; rfl) | (rw [cell_of_row _ _ _ _ _ _ r4]; rfl) | (rw [cell_of_row _ _ _ _ _ _ rb]; rfl)
      have h00 := HSW.out Y4 (Below.refl _ _)
      obtain ⟨-, f0, f1, f2, f3, f4, f5, f6, f7, f8, f9, f10, f11, f12, f13⟩ := h00
      have HLEN := Lib.hid (show (e2 ++ e3).length = e2.length + e3.length from List.length_append)
      have ES := Lib.hid es; have EK := Lib.hid ek
      clear es ek
      have hY4 : Y4.heap.size ≤ Y4.heap.size := Nat.le_refl _
      clear sz fz
      go_region_held3 (fun W => Below Y4.heap.size Y4 W ∧ W.cell? ⟨X1.heap.size, 0, none⟩ = some (.int .i64 st3) ∧ W.cell? ⟨X1.heap.size, 1, none⟩ = some (.int .u8 cd3) ∧ W.cell? ⟨X1.heap.size, 2, none⟩ = some (.int .i64 0) ∧ W.cell? ⟨X1.heap.size, 3, none⟩ = some (.slice oA1 on1 oc1) ∧ W.cell? ⟨X1.heap.size, 4, none⟩ = some (.int .i64 s4) ∧ W.cell? ⟨X1.heap.size, 5, none⟩ = some (.int .i64 k4) ∧ W.cell? ⟨X4.heap.size, 0, none⟩ = some (.int .i64 st3) ∧ W.cell? ⟨X4.heap.size, 1, none⟩ = some (.int .u8 cd3) ∧ W.cell? ⟨X4.heap.size, 2, none⟩ = some (.int .i64 0) ∧ W.cell? ⟨X4.heap.size, 3, none⟩ = some (.slice oA4 on4 oc4) ∧ W.cell? ⟨X4.heap.size, 4, none⟩ = some (.int .i64 s4) ∧ W.cell? ⟨X4.heap.size, 5, none⟩ = some (.int .i64 k4) ∧ W.cell? ⟨w1.heap.size, 0, none⟩ = some (.pointer (some ⟨q0 + 1, 0, none⟩)) ∧ W.cell? ⟨w1.heap.size, 1, none⟩ = some (.pointer (some ⟨q1 + 1, 0, none⟩)))
        ((refine HSW.out _ ?_; first | assumption | exact (Below.refl _ _).drew | exact bw4 (by assumption) _))
        (first
          | (go_at_call 13; (with_reducible refine HS1.out.mono ?_); rintro e W1 ⟨rfl, bS1⟩; have B1 : Below Y4.heap.size Y4 W1 := (Below.refl Y4.heap.size Y4).drew.trans bS1)
          | (refine step_app (by rfl) _ _ (by rfl) Y4.heap.size Y1.heap.size 0 e2.length [] (accs e2) _ (.slice sA2 e2.length sc2) (by rfl) (by rfl) (own_lit0 B1) (own_bw V2.out (bw4 B1 _)) (accs_one _) (by omega) (bw4 B1 _).size ?_; intro v2 W2 hv2 bS2; have B2 : Below Y4.heap.size Y4 W2 := (bw4 B1 _).trans bS2)
          | (refine step_app (by rfl) _ _ (by rfl) Y4.heap.size Y2.heap.size (0 + e2.length) e3.length ([] ++ accs e2) (accs e3) _ (.slice sA3 e3.length sc3) (by rfl) (by rfl) hv2 (own_bw V3.out B2) (accs_one _) (by omega) B2.size ?_; intro v3 W3 hv3 bS3; have B3 : Below Y4.heap.size Y4 W3 := B2.trans bS3; obtain ⟨A3, n3, c3, rfl⟩ := own_slice hv3; have hv3' : W3.ownsRow Y4.heap.size 81 4 (.slice A3 n3 c3) (e2 ++ e3).length (accs (e2 ++ e3)) := (by rw [accs_cat, HLEN.out]; simpa using hv3); obtain ⟨hn3, ha3⟩ := accIn_own hv3'; subst hn3; have hsn := seen_true (c := sc4) (c' := c3) (l := e2 ++ e3) (by rw [HLEN.out]; omega) (accIn_own (own_bw V4.out B3)).2 ha3; rw [HLEN.out] at hsn ⊢; have HSN := Lib.hid hsn; clear hv3 hv3' ha3 hsn)
          | (go_at_call 18; (with_reducible refine HSN.out.mono ?_); rintro e W4 ⟨rfl, bS4⟩; have B4 : Below Y4.heap.size Y4 W4 := B3.trans (bS4.mono B3.size); have HP0 := Lib.hid (ks_place (KP.out.grow B4).k0); have HP1 := Lib.hid (ks_place (KP.out.grow B4).k1))
          | (go_at_call 20; first | ((with_reducible refine HP0.out.mono ?_); rintro e W5 ⟨rfl, rfl⟩) | ((with_reducible refine HP1.out.mono ?_); rintro e W6 ⟨rfl, rfl⟩) | fail)
          | fail)
      obtain ⟨-, t1⟩ := conv_own (own_bw O1.out B4)
      obtain ⟨-, t2⟩ := conv_own (own_bw O2.out B4)
      obtain ⟨-, t3⟩ := conv_own (own_bw O3.out B4)
      have hcat := str_cat l2 l3
      have hsz : ¬ 9223372036854775807 < (strOfNums l2).size + (strOfNums l3).size := by rw [strOfNums_size, strOfNums_size]; omega
      have r1 := row_at B4 (lt_of_at R1.out) R1.out
      have r2 := row_at B4 (lt_of_at R2.out) R2.out
      have r3 := row_at B4 (lt_of_at R3.out) R3.out
      have hfin : Hid (Below w.heap.size w W4) := Lib.hid (KP.out.k0.below.trans (B4.mono KP.out.k0.below.size))
      have p0 : W4.cell? ⟨X1.heap.size, 0, none⟩ = some (.int .i64 st3) := by rw [cell_of_row _ _ 0 _ _ _ r1]; rfl
      have p1 : W4.cell? ⟨X1.heap.size, 1, none⟩ = some (.int .u8 cd3) := by rw [cell_of_row _ _ 1 _ _ _ r1]; rfl
      have p3 : W4.cell? ⟨X1.heap.size, 3, none⟩ = some (.slice oA1 on1 oc1) := by rw [cell_of_row _ _ 3 _ _ _ r1]; rfl
      have p4 : W4.cell? ⟨X1.heap.size, 4, none⟩ = some (.int .i64 s4) := by rw [cell_of_row _ _ 4 _ _ _ r1]; rfl
      have p5 : W4.cell? ⟨X1.heap.size, 5, none⟩ = some (.int .i64 k4) := by rw [cell_of_row _ _ 5 _ _ _ r1]; rfl
      have v3 : W4.cell? ⟨X2.heap.size, 3, none⟩ = some (.slice oA2 on2 oc2) := by rw [cell_of_row _ _ 3 _ _ _ r2]; rfl
      have v4 : W4.cell? ⟨X2.heap.size, 4, none⟩ = some (.int .i64 s2) := by rw [cell_of_row _ _ 4 _ _ _ r2]; rfl
      have v5 : W4.cell? ⟨X2.heap.size, 5, none⟩ = some (.int .i64 k2) := by rw [cell_of_row _ _ 5 _ _ _ r2]; rfl
      have u0 : W4.cell? ⟨X3.heap.size, 0, none⟩ = some (.int .i64 st3) := by rw [cell_of_row _ _ 0 _ _ _ r3]; rfl
      have u1 : W4.cell? ⟨X3.heap.size, 1, none⟩ = some (.int .u8 cd3) := by rw [cell_of_row _ _ 1 _ _ _ r3]; rfl
      have u3 : W4.cell? ⟨X3.heap.size, 3, none⟩ = some (.slice oA3 on3 oc3) := by rw [cell_of_row _ _ 3 _ _ _ r3]; rfl
      have u4 : W4.cell? ⟨X3.heap.size, 4, none⟩ = some (.int .i64 s3) := by rw [cell_of_row _ _ 4 _ _ _ r3]; rfl
      have u5 : W4.cell? ⟨X3.heap.size, 5, none⟩ = some (.int .i64 k3) := by rw [cell_of_row _ _ 5 _ _ _ r3]; rfl
      have es := ES.out; have ek := EK.out
      obtain ⟨x2, x3, x4, x5⟩ := hss
      clear r1 r2 r3 B4 HP0 HP1 HSN HS1 HSW f0 f1 f2 f3 f4 f5 f6 f7 f8 f9 f10 f11 f12 f13 bS4 bS3 bS2 bS1 B1 B2 B3 O1 O2 O3 O4 V2 V3 V4 R1 R2 R3 R4 KP ES EK
      generalize strOfNums (l2 ++ l3) = SS at *
      generalize strOfNums l2 = S2 at *
      generalize strOfNums l3 = S3 at *
      go_wp2_with fail
      go_ret
      exact ⟨rfl, hfin.out⟩
set_option maxRecDepth 100000 in
set_option maxHeartbeats 4000000 in
theorem machParts_out (xs ys : List Int) (A A' : Option Addr) (c c' : Nat) (a b : Int) (w : World) (hF : FormsIn w) (hO : OpsIn w) (h : 2000 < xs.length ∨ (xs.length ≤ 2000 ∧ 40 < ys.length)) :
    Calls Tryd.prog 6 #[.slice A xs.length c, .slice A' ys.length c', .agg #[.int .u8 a, .int .u8 b]] w fun e w' => e = .returned (.bool true) ∧ Below w.heap.size w w' := by
  rcases h with h | ⟨h, h'⟩
  · have hd1 : decide (2000 < (xs.length : Int)) = true := decide_eq_true (by omega)
    go_enter Tryd.func6, Tryd.ntmps6
    go_wp2_with fail
    refine (awake3 _ (hF.keep (bw_alloc (Below.refl _ _) _) (Nat.le_refl _)) (hO.below (bw_alloc (Below.refl _ _) _))).mono ?_
    rintro e w1 ⟨rfl, b1⟩
    have b1' : Below w.heap.size w w1 := (bw_alloc (Below.refl w.heap.size w) _).trans (b1.mono (by simp))
    go_wp2_with fail
    refine (awake3 _ (hF.keep b1' (Nat.le_refl _)) (hO.below b1')).mono ?_
    rintro e w2 ⟨rfl, b2⟩
    go_wp2
    go_ret
    exact ⟨rfl, b1'.trans (b2.mono b1'.size)⟩
  · have hd1 : decide (2000 < (xs.length : Int)) = false := decide_eq_false (by omega)
    have hd2 : decide (40 < (ys.length : Int)) = true := decide_eq_true (by omega)
    go_enter Tryd.func6, Tryd.ntmps6
    go_wp2_with fail
    refine (awake3 _ (hF.keep (bw_alloc (Below.refl _ _) _) (Nat.le_refl _)) (hO.below (bw_alloc (Below.refl _ _) _))).mono ?_
    rintro e w1 ⟨rfl, b1⟩
    have b1' : Below w.heap.size w w1 := (bw_alloc (Below.refl w.heap.size w) _).trans (b1.mono (by simp))
    go_wp2_with fail
    refine (awake3 _ (hF.keep b1' (Nat.le_refl _)) (hO.below b1')).mono ?_
    rintro e w2 ⟨rfl, b2⟩
    go_wp2
    go_ret
    exact ⟨rfl, b1'.trans (b2.mono b1'.size)⟩
theorem machParts_walk (xs ys : List Int) (A A' : Option Addr) (c c' : Nat) (a b : Int) (w : World) (hs : SrcIs w A xs) (hy : U64s w A' ys) (ha : 0 ≤ a ∧ a < 256) (hb : 0 ≤ b ∧ b < 256) (hF : FormsIn w) (hO : OpsIn w) :
    Calls Tryd.prog 6 #[.slice A xs.length c, .slice A' ys.length c', .agg #[.int .u8 a, .int .u8 b]] w fun e w' => e = .returned (.bool true) ∧ Below w.heap.size w w' := by
  by_cases h : xs.length ≤ 2000 ∧ ys.length ≤ 40
  · obtain ⟨a, rfl⟩ := Int.eq_ofNat_of_zero_le ha.1
    obtain ⟨b, rfl⟩ := Int.eq_ofNat_of_zero_le hb.1
    exact machParts_in xs ys A A' c c' a b w hs hy (by omega) (by omega) hF hO h.1 h.2
  · exact machParts_out xs ys A A' c c' a b w hF hO (by omega)
end Go.Proofs.YtoehfncgkkfdeaaDoor
