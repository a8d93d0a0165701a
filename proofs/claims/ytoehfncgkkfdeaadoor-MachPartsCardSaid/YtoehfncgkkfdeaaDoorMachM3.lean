/- Runs one behind the other; the instructions of a list in memory. Conditions: each theorem's. -/
import Derived.Test.YtoehfncgkkfdeaaDoorMachM2
import Derived.Deep.MidRow
import Derived.Deep.RegionHeld
import Derived.Deep.OwnRows
import Derived.Laws.CopyOwn
namespace Go.Proofs.YtoehfncgkkfdeaaDoor
open Go.RowKit Go.Maps
set_option linter.unusedVariables false
set_option linter.unusedSimpArgs false
set_option maxRecDepth 10000
open Pm Pc Pl
namespace Pm
theorem runV_add (a b : Nat) (m : Ma) (R : Ru) : runV (a + b) m R = runV b (runV a m R).1 (runV a m R).2 := by
  induction a generalizing m R with
  | zero => simp [runV]
  | succ a ih =>
    rw [show a + 1 + b = (a + b) + 1 by omega]
    by_cases h0 : m.st = 0
    · rw [runV_go h0, runV_go h0]
      cases hs : stepV m R with
      | none => simp only []; rw [runV_stop (.inl (by simp))]
      | some x => simp only []; exact ih _ _
    · rw [runV_stop (.inl h0), runV_stop (.inl h0), runV_stop (.inl h0)]
/-- An instruction's word in a memory is that instruction. -/
theorem dec_word {M : List Int} {a : Nat} {op n : Int} {rd r1 r2 : Nat} (hs : encS op rd r1 r2 n = 0) (hh : hasB a 4 M.length = true) (hg : getV M a 4 = encW op rd r1 r2 n) : DecAt M a op rd r1 r2 n := by
  obtain ⟨o1, o2, hs', hw⟩ := encS_zero hs
  obtain ⟨mm, d1, d2, d3, d4, -⟩ := enc_dec _ _ _ _ rd r1 r2 n (rowOf_ok op o1 o2) hs'
  rw [← hw] at mm d1 d2 d3 d4
  have hf := findOp_of op _ o1 o2 mm
  refine ⟨hh, by omega, ?_⟩
  rw [hg]
  unfold kOf
  rw [hf, d1, d2, d3, d4]
  exact ⟨rfl, Int.toNat_natCast _, Int.toNat_natCast _, Int.toNat_natCast _, rfl⟩
theorem getV_word {M : List Int} {a : Nat} {w : Int} (h0 : M.getD a 0 = w % 256) (h1 : M.getD (a + 1) 0 = w / 256 % 256) (h2 : M.getD (a + 2) 0 = w / 65536 % 256) (h3 : M.getD (a + 3) 0 = w / 16777216) : getV M a 4 = w := by
  simp only [getV, Nat.add_assoc]
  rw [h0, h1, show 1 + 1 = 2 from rfl, h2, show 1 + 2 = 3 from rfl, h3]
  omega
def markL (rd : Int) : Nat → List In5
  | 0 => []
  | n + 1 => markL rd n ++ [(28, 0, 0, 0, 1), (28, rd, 0, 0, 2)]
theorem markL_len (rd : Int) (n : Nat) : (markL rd n).length = 2 * n := by
  induction n with
  | zero => rfl
  | succ n ih => simp [markL, ih]; omega
def wA : Int := encW 28 0 0 0 1
def wB (rd : Int) : Int := encW 28 rd 0 0 2
theorem encA : encS 28 0 0 0 1 = 0 := by decide +kernel
theorem encB : ∀ rd : Nat, rd < 32 → encS 28 (rd : Int) 0 0 2 = 0 := by decide +kernel
def mkU (rd : Int) : List Int := wordB wA ++ wordB (wB rd)
theorem mark_bytes (rd : Nat) (hr : rd < 32) (n : Nat) : (bytesOf (markL rd n)).length = 8 * n ∧ ∀ j i, j < n → i < 8 → (bytesOf (markL rd n))[8 * j + i]? = (mkU rd)[i]? := by
  induction n with
  | zero => exact ⟨rfl, fun j i hj => by omega⟩
  | succ n ih =>
    have hA : bytesI (28, 0, 0, 0, 1) = wordB wA := by unfold bytesI; exact if_pos encA
    have hB : bytesI (28, (rd : Int), 0, 0, 2) = wordB (wB rd) := by unfold bytesI; exact if_pos (encB rd hr)
    have e : bytesOf (markL rd (n + 1)) = bytesOf (markL rd n) ++ mkU rd := by
      simp only [markL, bytesOf, List.flatMap_append, List.flatMap_cons, List.flatMap_nil, hA, hB, mkU, List.append_nil]
    have hu : (mkU rd).length = 8 := by simp [mkU, wordB]
    rw [e]
    refine ⟨by rw [List.length_append, ih.1, hu]; omega, fun j i hj hi => ?_⟩
    by_cases hjn : j < n
    · rw [List.getElem?_append_left (by rw [ih.1]; omega)]
      exact ih.2 j i hjn hi
    · obtain rfl : j = n := by omega
      rw [List.getElem?_append_right (by rw [ih.1]; omega), ih.1]
      congr 1
      omega
def mkM (rd n : Nat) : Ma := maNew (bytesOf (markL rd n)) (8 * n + 8)
theorem mk_len (rd n : Nat) (hr : rd < 32) : (mkM rd n).mem.length = 8 * n + 8 := by
  have := (mark_bytes rd hr n).1
  exact maNew_len (by omega)
theorem mk_at (rd n : Nat) (hr : rd < 32) (j i : Nat) (hj : j < n) (hi : i < 8) : (mkM rd n).mem.getD (8 * j + i) 0 = (mkU rd).getD i 0 := by
  have h := (mark_bytes rd hr n).2 j i hj hi
  have hl := (mark_bytes rd hr n).1
  simp only [mkM, maNew, List.getD_eq_getElem?_getD]
  rw [List.getElem?_append_left (by omega), h]
theorem mk_decA (rd n : Nat) (hr : rd < 32) (j : Nat) (hj : j < n) : DecAt (mkM rd n).mem (8 * j) 28 0 0 0 1 := by
  refine dec_word encA (by unfold hasB; rw [mk_len rd n hr]; simp; omega) (getV_word ?_ ?_ ?_ ?_)
  · exact mk_at rd n hr j 0 hj (by omega)
  · exact mk_at rd n hr j 1 hj (by omega)
  · exact mk_at rd n hr j 2 hj (by omega)
  · exact mk_at rd n hr j 3 hj (by omega)
theorem mk_decB (rd n : Nat) (hr : rd < 32) (j : Nat) (hj : j < n) : DecAt (mkM rd n).mem (8 * j + 4) 28 rd 0 0 2 := by
  refine dec_word (encB rd hr) (by unfold hasB; rw [mk_len rd n hr]; simp; omega) (getV_word ?_ ?_ ?_ ?_)
  · exact mk_at rd n hr j 4 hj (by omega)
  · exact mk_at rd n hr j 5 hj (by omega)
  · exact mk_at rd n hr j 6 hj (by omega)
  · exact mk_at rd n hr j 7 hj (by omega)
theorem mk_run (rd n : Nat) (hr : rd < 32) (hn : n < 1000000) (j : Nat) (hj : j ≤ n) : ∃ x : List Int, runV (2 * j) (mkM rd n) aw0 = (⟨(mkM rd n).mem, x, 8 * j, 0, 0⟩, ⟨[], 2 * j, j, [], false, []⟩) ∧ x.length = 32 ∧ x.getD 0 0 = 0 := by
  induction j with
  | zero => exact ⟨List.replicate 32 0, rfl, rfl, rfl⟩
  | succ j ih =>
    obtain ⟨x, h1, h2, h3⟩ := ih (by omega)
    rw [show 2 * (j + 1) = 2 * j + 1 + 1 by omega, runV_add (2 * j + 1) 1, runV_add (2 * j) 1, h1]
    have dA : doV ⟨(mkM rd n).mem, x, 8 * j, 0, 0⟩ ⟨[], 2 * j, j, [], false, []⟩ 28 0 0 0 1 = some (⟨(mkM rd n).mem, x, 8 * j + 4, 0, 0⟩, ⟨[], 2 * j, j + 1, [], false, []⟩) := by
      unfold doV
      rw [if_neg (by omega), if_pos (by omega), if_pos (by decide)]
      simp only [Ma.set, Ma.nx]
      congr 2
      simp
      omega
    have s1 := (stepV_dec (m := ⟨(mkM rd n).mem, x, 8 * j, 0, 0⟩) (R := ⟨[], 2 * j, j, [], false, []⟩) (a := 8 * j) (by simp) (mk_decA rd n hr j (by omega))).trans dA
    rw [runV_one rfl s1]
    refine ⟨if 0 < rd then x.set rd (opV 1 (x.getD 0 0) 2) else x, ?_, ?_, ?_⟩
    · have dB : doV ⟨(mkM rd n).mem, x, 8 * j + 4, 0, 0⟩ ⟨[], 2 * j + 1, j + 1, [], false, []⟩ 28 rd 0 0 2 = some (⟨(mkM rd n).mem, if 0 < rd then x.set rd (opV 1 (x.getD 0 0) 2) else x, 8 * (j + 1), 0, 0⟩, ⟨[], 2 * j + 1, j + 1, [], false, []⟩) := by
        unfold doV
        rw [if_neg (by omega), if_pos (by omega), if_neg (by simp [markB])]
        unfold Ma.set Ma.nx Ma.reg
        by_cases h0 : 0 < rd
        · rw [if_pos h0, if_pos h0]; simp [opTab]; omega
        · rw [if_neg h0, if_neg h0]; simp; omega
      have s2 := (stepV_dec (m := ⟨(mkM rd n).mem, x, 8 * j + 4, 0, 0⟩) (R := ⟨[], 2 * j + 1, j + 1, [], false, []⟩) (a := 8 * j + 4) (by simp) (mk_decB rd n hr j (by omega))).trans dB
      rw [runV_one rfl s2]
      simp
    · split <;> simp [h2]
    · split
      · simp only [List.getD_eq_getElem?_getD] at h3 ⊢
        rw [List.getElem?_set_ne (by omega)]; exact h3
      · exact h3
end Pm
theorem infoIns : (Tryd.prog.info? 49).map (fun i => (i.zero, i.size, i.bytes)) = some (some (.agg #[.int .i64 0, .int .i64 0, .int .i64 0, .int .i64 0, .int .i64 0]), 5, 40) := by kernel_rfl
theorem insAt_own {w : World} {base : Nat} {v : Value} {l : List In5} (h : w.ownsRow base 49 5 v l.length (l.flatMap in5)) : ∃ A c, v = .slice A l.length c ∧ InsAt w A l := by
  rcases h.2 with ⟨rfl, hn⟩ | ⟨g, cap, cur, rfl, hg, hh, hnc, _, hsz, htk⟩
  · exact ⟨none, 0, by rw [hn], fun h0 => by omega⟩
  · refine ⟨_, cap, rfl, fun h0 => ⟨g, rfl, lt_of_at hh, fun k hk j u hu => ?_⟩⟩
    have h1 := flat5 l k hk j u hu
    rw [cell_of_row w g _ _ _ _ hh]
    rw [← htk, List.getElem?_take] at h1
    split at h1
    · simpa using h1
    · cases h1
theorem flat_snoc (rd : Int) (j : Nat) : (markL rd (j + 1)).flatMap in5 = (markL rd j).flatMap in5 ++ [.int .i64 28, .int .i64 0, .int .i64 0, .int .i64 0, .int .i64 1, .int .i64 28, .int .i64 rd, .int .i64 0, .int .i64 0, .int .i64 2] := by
  simp [markL, in5]
end Go.Proofs.YtoehfncgkkfdeaaDoor
/- What stands in the memory of a machine that was made of instructions' bytes. Condition: each has a word. -/
namespace Go.Proofs.YtoehfncgkkfdeaaDoor
open Go.RowKit Go.Maps
set_option linter.unusedVariables false
set_option linter.unusedSimpArgs false
set_option maxRecDepth 10000
open Pm Pc Pl
namespace Pm
theorem prog_bytes (l : List In5) (h : ∀ i ∈ l, i5S i = 0) : (bytesOf l).length = 4 * l.length ∧ ∀ j i, j < l.length → i < 4 → (bytesOf l)[4 * j + i]? = (wordB (i5W (l.getD j (0, 0, 0, 0, 0))))[i]? := by
  induction l with
  | nil => exact ⟨rfl, fun j i hj => by simp at hj⟩
  | cons x l ih =>
    have ih := ih fun i hi => h i (List.mem_cons_of_mem _ hi)
    have hx : bytesI x = wordB (i5W x) := by unfold bytesI; exact if_pos (h x (List.mem_cons_self ..))
    have e : bytesOf (x :: l) = wordB (i5W x) ++ bytesOf l := by simp only [bytesOf, List.flatMap_cons, hx]
    have hw : (wordB (i5W x)).length = 4 := rfl
    rw [e]
    refine ⟨by rw [List.length_append, ih.1, hw, List.length_cons]; omega, fun j i hj hi => ?_⟩
    cases j with
    | zero =>
      rw [List.getElem?_append_left (by rw [hw]; omega), List.getD_cons_zero]
      congr 1
      omega
    | succ j =>
      rw [List.getElem?_append_right (by rw [hw]; omega), hw, List.getD_cons_succ, ← ih.2 j i (by simpa using hj) hi]
      congr 1
      omega
/-- At 4 j stands the j-th. -/
theorem prog_dec (l : List In5) (N : Nat) (h : ∀ i ∈ l, i5S i = 0) (hN : 4 * l.length ≤ N) (j : Nat) (hj : j < l.length) {op n : Int} {rd r1 r2 : Nat} (hg : l.getD j (0, 0, 0, 0, 0) = (op, (rd : Int), (r1 : Int), (r2 : Int), n)) : DecAt (maNew (bytesOf l) N).mem (4 * j) op rd r1 r2 n := by
  obtain ⟨hl, hb⟩ := prog_bytes l h
  have hmem : (l.getD j (0, 0, 0, 0, 0)) ∈ l := by
    have e : l.getD j (0, 0, 0, 0, 0) = l[j] := by simp [List.getD, hj]
    rw [e]; exact List.getElem_mem hj
  have hs : encS op rd r1 r2 n = 0 := by have := h _ hmem; rw [hg] at this; exact this
  have hw : i5W (l.getD j (0, 0, 0, 0, 0)) = encW op rd r1 r2 n := by rw [hg]; rfl
  have hat : ∀ i, i < 4 → (maNew (bytesOf l) N).mem.getD (4 * j + i) 0 = (wordB (encW op rd r1 r2 n)).getD i 0 := by
    intro i hi
    have := hb j i hj hi
    rw [hw] at this
    simp only [maNew, List.getD_eq_getElem?_getD]
    rw [List.getElem?_append_left (by omega), this]
  refine dec_word hs (by unfold hasB; rw [maNew_len (by omega)]; simp; omega) (getV_word ?_ ?_ ?_ ?_)
  · exact hat 0 (by omega)
  · exact hat 1 (by omega)
  · exact hat 2 (by omega)
  · exact hat 3 (by omega)
/-- Stores elsewhere leave an instruction's word. -/
theorem getV_put (l : List Int) (a b : Nat) (x : Int) (n k : Nat) (h : b + k ≤ a ∨ a + n ≤ b) : getV (putV l a x n) b k = getV l b k := by
  have hp : ∀ i, (i < a ∨ a + n ≤ i) → (putV l a x n).getD i 0 = l.getD i 0 := by
    intro i hi
    induction n with
    | zero => rfl
    | succ n ih =>
      rw [putV]
      have := ih (by omega) (by omega)
      simp only [List.getD_eq_getElem?_getD] at this ⊢
      rw [List.getElem?_set_ne (by omega)]; exact this
  induction k generalizing b with
  | zero => rfl
  | succ k ih => rw [getV, getV, hp b (by omega), ih (b + 1) (by omega)]
/-- What was put is taken. -/
theorem getV_putV (l : List Int) (a : Nat) (x : Int) (n : Nat) (h : a + n ≤ l.length) (j : Nat) (hj : j < n) : (putV l a x n).getD (a + j) 0 = x / 256 ^ j % 256 := by
  induction n with
  | zero => omega
  | succ n ih =>
    rw [putV]
    by_cases hjn : j = n
    · subst hjn
      simp only [List.getD_eq_getElem?_getD]
      rw [List.getElem?_set_self (by rw [putV_len]; omega)]
      rfl
    · have := ih (by omega) (by omega)
      simp only [List.getD_eq_getElem?_getD] at this ⊢
      rw [List.getElem?_set_ne (by omega)]; exact this
end Pm
end Go.Proofs.YtoehfncgkkfdeaaDoor
/- A run of package mach that is watched. Conditions: each theorem's. -/
namespace Go.Proofs.YtoehfncgkkfdeaaDoor
open Go.RowKit Go.Maps
set_option linter.unusedVariables false
set_option linter.unusedSimpArgs false
set_option maxRecDepth 10000
open Pm Pc Pl
theorem own_fr {w w' : World} {base size n : Nat} {e : TypeId} {v : Value} {xs : List Value} (h : w.ownsRow (base + 1) e size v n xs) (hf : Fr [base] w w') : w'.ownsRow base e size v n xs := by
  obtain ⟨hl, h⟩ := h
  refine ⟨hl, ?_⟩
  rcases h with h | ⟨g, cap, cur, h1, h2, h3, h4⟩
  · exact .inl h
  · exact .inr ⟨g, cap, cur, h1, by omega, hf.at_ h3 (by simp; omega), h4⟩
theorem watch_frame {w w0 w1 w2 w3 : World} {p q : Nat} (h0 : Below w.heap.size w w0) (z0 : w0.heap.size = w.heap.size + 1) (h1 : Below (w.heap.size + 1) w0 w1) (h2 : Fj (w.heap.size + 1) p q w1 w2) (h3 : Fr [w.heap.size] w2 w3) : Fj w.heap.size p q w w3 := by
  have s0 := h0.size
  have s1 := h1.size
  have s2 := h2.fb.size
  refine ⟨⟨h3.os.trans (h2.fb.os.trans (h1.os.trans h0.os)), h3.tape.trans (h2.fb.tape.trans (h1.tape.trans h0.tape)), h3.output.trans (h2.fb.output.trans (h1.output.trans h0.output)), by have := h3.size; omega, fun k hk hb hp hq => ?_⟩, fun g c hg => ?_⟩
  · rw [h3.block k (by omega) (by simp; omega), h2.fb.block k (by omega) (by omega) hp hq, h1.block k (by omega), h0.block k hk]
  · have hlt := lt_of_at hg
    exact h3.at_ (h2.ins _ _ ((h1.block g (by omega)).trans ((h0.block g hlt).trans hg))) (by simp; omega)
theorem six_set {w : World} {b : Nat} {cs : Array Value} {t : TypeId} (h : w.heap[b]? = some (.cells cs t)) (x0 x1 x2 x3 x4 x5 : Value) :
    ((((((w.setCell ⟨b, 0, none⟩ x0).setCell ⟨b, 1, none⟩ x1).setCell ⟨b, 2, none⟩ x2).setCell ⟨b, 3, none⟩ x3).setCell ⟨b, 4, none⟩ x4).setCell ⟨b, 5, none⟩ x5).heap[b]? = some (.cells ((((((cs.setIfInBounds 0 x0).setIfInBounds 1 x1).setIfInBounds 2 x2).setIfInBounds 3 x3).setIfInBounds 4 x4).setIfInBounds 5 x5) t) := by
  have h0 := heap_setCell_same w b 0 _ _ x0 h
  have h1 := heap_setCell_same _ b 1 _ _ x1 h0
  have h2 := heap_setCell_same _ b 2 _ _ x2 h1
  have h3 := heap_setCell_same _ b 3 _ _ x3 h2
  have h4 := heap_setCell_same _ b 4 _ _ x4 h3
  exact heap_setCell_same _ b 5 _ _ x5 h4
theorem six_fr (w : World) (b : Nat) (x0 x1 x2 x3 x4 x5 : Value) :
    Fr [b] w ((((((w.setCell ⟨b, 0, none⟩ x0).setCell ⟨b, 1, none⟩ x1).setCell ⟨b, 2, none⟩ x2).setCell ⟨b, 3, none⟩ x3).setCell ⟨b, 4, none⟩ x4).setCell ⟨b, 5, none⟩ x5) :=
  (((((Fr.set (S := [b]) w b 0 x0 (by simp)).trans (Fr.set _ b 1 x1 (by simp))).trans (Fr.set _ b 2 x2 (by simp))).trans (Fr.set _ b 3 x3 (by simp))).trans (Fr.set _ b 4 x4 (by simp))).trans (Fr.set _ b 5 x5 (by simp))
/-- What a watched run answers, and leaves. -/
def WatchTo (w : World) (p q : Nat) (len : Nat) (fin : Ma × Ru) (e : Ending) (w' : World) : Prop :=
  ∃ ov sv, e = .returned (.tuple #[.agg #[.int .i64 fin.1.st, .int .u8 fin.1.cd, .int .i64 0, ov, .int .i64 fin.2.steps, .int .i64 fin.2.checks], sv]) ∧ w'.ownsRow w.heap.size 5 1 ov fin.2.out.length (u8s fin.2.out) ∧ w'.ownsRow w.heap.size 81 4 sv fin.2.seen.length (accs fin.2.seen) ∧ MachAt w' p q fin.1 ∧ fin.1.ok ∧ fin.1.mem.length = len ∧ Fj w.heap.size p q w w'
theorem wat_up {w : World} {base p q rb : Nat} {m : Ma} {R : Ru} {B : Nat} (h : St w base p q rb m R B) (hA : Apart base p q) : St (w.setCell ⟨rb, 9, none⟩ (.bool true)) base p q rb m { R with wat := true } B ∧ Fj base p q w (w.setCell ⟨rb, 9, none⟩ (.bool true)) := by
  obtain ⟨ov, sv, A, c, mb, cnt, D, hr, hm, b⟩ := h
  obtain ⟨r1, r2, r3⟩ := run_cell (i := 9) (x := .bool true) (R' := { R with wat := true }) (A' := A) (c' := c) hr hm hA (by simp [runC]) rfl rfl hr.inp
  exact ⟨⟨_, _, _, _, _, _, _, r1, r2, b⟩, r3⟩
theorem wat_cell {w : World} {base p q rb : Nat} {m : Ma} {R : Ru} {B : Nat} (h : St w base p q rb m R B) : w.cell? ⟨rb, 9, none⟩ = some (.bool R.wat) := by
  obtain ⟨ov, sv, A, c, mb, cnt, D, hr, -⟩ := h
  exact (hr.c 9).trans rfl
set_option maxRecDepth 100000 in
set_option maxHeartbeats 4000000 in
theorem watch_any {w : World} {p q : Nat} {m : Ma} {A : Option Addr} {c : Nat} {xs : List Int} (f : Int) (hm : MachAt w p q m) (hok : m.ok) (hpq : p ≠ q) (hp1 : 1 < p ∧ 1 < q) (hi : InpIs w w.heap.size p q A xs) (hc : xs.length ≤ c) (hF : FormsIn w) (hO : OpsIn w) (hf : f ≤ 1073741824) :
    Calls Tryd.prog 17 #[.pointer (some ⟨p, 0, none⟩), .slice A xs.length c, .int .i64 f] w (WatchTo w p q m.mem.length (runV f.toNat m ⟨[], 0, 0, xs, true, []⟩)) := by
  have lp := hm.lp
  have lq := hm.lq
  go_enter Tryd.func17, Tryd.ntmps17
  go_wp2_with fail
  have R0b := (Below.refl w.heap.size w).alloc (Nat.le_refl _) (Obj.cells #[.int .i64 0, .int .u8 0, .int .i64 0, .slice none 0 0, .int .i64 0, .int .i64 0] 39)
  have R0 := heap_alloc_new w (Obj.cells #[.int .i64 0, .int .u8 0, .int .i64 0, .slice none 0 0, .int .i64 0, .int .i64 0] 39)
  have hF0 := hF.keep R0b (Nat.le_refl _)
  have hO0 : OpsIn (w.alloc (Obj.cells #[.int .i64 0, .int .u8 0, .int .i64 0, .slice none 0 0, .int .i64 0, .int .i64 0] 39)) := fun o a b => (World.cell?_alloc_lt w _ _ (World.block_lt_of_cell? w _ (hO o a b))).trans (hO o a b)
  have hm0 : MachAt (w.alloc (Obj.cells #[.int .i64 0, .int .u8 0, .int .i64 0, .slice none 0 0, .int .i64 0, .int .i64 0] 39)) p q m := hm.keep (Fr.below (S := []) R0b) (by simp) (by simp)
  have hi0 : InpIs (w.alloc (Obj.cells #[.int .i64 0, .int .u8 0, .int .i64 0, .slice none 0 0, .int .i64 0, .int .i64 0] 39)) (w.alloc (Obj.cells #[.int .i64 0, .int .u8 0, .int .i64 0, .slice none 0 0, .int .i64 0, .int .i64 0] 39)).heap.size p q A xs := by
    have h1 := hi.at_ (w' := w.alloc (Obj.cells #[.int .i64 0, .int .u8 0, .int .i64 0, .slice none 0 0, .int .i64 0, .int .i64 0] 39)) fun g hg _ _ _ => R0b.block g hg
    exact ⟨h1.1, fun h0 => by obtain ⟨ib, off, a, b, r⟩ := h1.2 h0; exact ⟨ib, off, a, by simp only [szA]; omega, r⟩⟩
  have hz0 : (w.alloc (Obj.cells #[.int .i64 0, .int .u8 0, .int .i64 0, .slice none 0 0, .int .i64 0, .int .i64 0] 39)).heap.size = w.heap.size + 1 := szA _ _
  generalize w.alloc (Obj.cells #[.int .i64 0, .int .u8 0, .int .i64 0, .slice none 0 0, .int .i64 0, .int .i64 0] 39) = w0 at *
  clear hF hO hm hi
  refine (begin_st hm0 hi0 hc).mono ?_
  rintro e w1 ⟨rfl, s1, b1⟩
  rw [hz0] at s1 b1 ⊢
  have hA : Apart (w.heap.size + 1) p q := ⟨hpq, by omega, by omega, by omega, by omega⟩
  have hF1 := hF0.keep b1 (by omega)
  have hO1 : OpsIn w1 := fun o a b => (b1.cell (p := ⟨0, o, none⟩) (by show 0 < w.heap.size + 1; omega)).trans (hO0 o a b)
  have R1 := row_at b1 (by omega) R0
  clear hF0 hO0 hm0 hi0
  have w9 := wat_cell s1
  have f9 := s1.cf 9
  obtain ⟨s1', f1'⟩ := wat_up s1 hA
  have hF2 := hF1.fj hA f1'
  have hO2 := hO1.fj hA hp1 f1'
  have R1' : (w1.setCell ⟨w.heap.size + 1 + 1, 9, none⟩ (.bool true)).heap[w.heap.size]? = some (Obj.cells #[.int .i64 0, .int .u8 0, .int .i64 0, .slice none 0 0, .int .i64 0, .int .i64 0] 39) := by
    have hlt := lt_of_at R1
    rw [← R1]; exact f1'.fb.block _ hlt (by omega) (by omega) (by omega)
  go_wp2_with fail
  refine (steps_any f f.toNat 6000000000 s1' hA hp1 hok hF2 hO2 rfl rfl rfl (by omega) (by omega)).mono ?_
  intro e w2 hst
  obtain ⟨rfl, ov, sv, A', c', mb, hblk, hout, hseen, hma, hok2, hlen, hfj, hrb⟩ := steps_out (w1 := w1) hA hst
  have hfj' := f1'.trans hfj
  clear hst s1 s1' hF1 hO1 hF2 hO2 w9 f9
  obtain ⟨oA, on, oc, rfl⟩ := own_slice hout
  obtain ⟨sA, sn, sc, rfl⟩ := own_slice hseen
  have R2 : w2.heap[w.heap.size]? = some (Obj.cells #[.int .i64 0, .int .u8 0, .int .i64 0, .slice none 0 0, .int .i64 0, .int .i64 0] 39) := by
    have hlt := lt_of_at R1
    rw [← R1]; exact hfj'.fb.block _ hlt (by omega) (by omega) (by omega)
  generalize runV f.toNat m ⟨[], 0, 0, xs, true, []⟩ = fin at *
  have hrg := range_of_row 1 [.int .i64 fin.1.st, .int .u8 fin.1.cd, .int .i64 0, .slice oA on oc, .int .i64 fin.2.steps, .int .i64 fin.2.checks] hblk rfl
  have hc10 : w2.cell? ⟨w.heap.size + 1 + 1, 10, none⟩ = some (.slice sA sn sc) := by rw [cell_of_row w2 _ 10 _ _ _ hblk]; rfl
  have hz2 : w.heap.size + 1 + 1 < w2.heap.size := lt_of_at hblk
  go_wp2_with fail
  have hq0 : w2.cell? ⟨w.heap.size + 1 + 1, 1, none⟩ = some (.int .i64 fin.1.st) := by rw [cell_of_row w2 _ 1 _ _ _ hblk]; rfl
  have hq1 : w2.cell? ⟨w.heap.size + 1 + 1, 2, none⟩ = some (.int .u8 fin.1.cd) := by rw [cell_of_row w2 _ 2 _ _ _ hblk]; rfl
  have hq2 : w2.cell? ⟨w.heap.size + 1 + 1, 3, none⟩ = some (.int .i64 0) := by rw [cell_of_row w2 _ 3 _ _ _ hblk]; rfl
  have hq3 : w2.cell? ⟨w.heap.size + 1 + 1, 4, none⟩ = some (.slice oA on oc) := by rw [cell_of_row w2 _ 4 _ _ _ hblk]; rfl
  have hq4 : w2.cell? ⟨w.heap.size + 1 + 1, 5, none⟩ = some (.int .i64 fin.2.steps) := by rw [cell_of_row w2 _ 5 _ _ _ hblk]; rfl
  have hq5 : w2.cell? ⟨w.heap.size + 1 + 1, 6, none⟩ = some (.int .i64 fin.2.checks) := by rw [cell_of_row w2 _ 6 _ _ _ hblk]; rfl
  have hr0 : w2.cell? ⟨w.heap.size, 0, none⟩ = some (.int .i64 0) := by rw [cell_of_row w2 _ 0 _ _ _ R2]; rfl
  have hf0 : w2.frozen? ⟨w.heap.size, 0, none⟩ = false := frozen_of_row w2 _ 0 _ _ R2
  have hr1 : w2.cell? ⟨w.heap.size, 1, none⟩ = some (.int .u8 0) := by rw [cell_of_row w2 _ 1 _ _ _ R2]; rfl
  have hf1 : w2.frozen? ⟨w.heap.size, 1, none⟩ = false := frozen_of_row w2 _ 1 _ _ R2
  have hr2 : w2.cell? ⟨w.heap.size, 2, none⟩ = some (.int .i64 0) := by rw [cell_of_row w2 _ 2 _ _ _ R2]; rfl
  have hf2 : w2.frozen? ⟨w.heap.size, 2, none⟩ = false := frozen_of_row w2 _ 2 _ _ R2
  have hr3 : w2.cell? ⟨w.heap.size, 3, none⟩ = some (.slice none 0 0) := by rw [cell_of_row w2 _ 3 _ _ _ R2]; rfl
  have hf3 : w2.frozen? ⟨w.heap.size, 3, none⟩ = false := frozen_of_row w2 _ 3 _ _ R2
  have hr4 : w2.cell? ⟨w.heap.size, 4, none⟩ = some (.int .i64 0) := by rw [cell_of_row w2 _ 4 _ _ _ R2]; rfl
  have hf4 : w2.frozen? ⟨w.heap.size, 4, none⟩ = false := frozen_of_row w2 _ 4 _ _ R2
  have hr5 : w2.cell? ⟨w.heap.size, 5, none⟩ = some (.int .i64 0) := by rw [cell_of_row w2 _ 5 _ _ _ R2]; rfl
  have hf5 : w2.frozen? ⟨w.heap.size, 5, none⟩ = false := frozen_of_row w2 _ 5 _ _ R2
  have HB := Lib.hid hblk; have HR2 := Lib.hid R2; have HG := Lib.hid hrg
  clear hblk R2 hrg
  go_region
  have hS := six_set HR2.out (.int .i64 fin.1.st) (.int .u8 fin.1.cd) (.int .i64 0) (.slice oA on oc) (.int .i64 fin.2.steps) (.int .i64 fin.2.checks)
  have hFr := six_fr w2 w.heap.size (.int .i64 fin.1.st) (.int .u8 fin.1.cd) (.int .i64 0) (.slice oA on oc) (.int .i64 fin.2.steps) (.int .i64 fin.2.checks)
  generalize (((((w2.setCell ⟨w.heap.size, 0, none⟩ (.int .i64 fin.1.st)).setCell ⟨w.heap.size, 1, none⟩ (.int .u8 fin.1.cd)).setCell ⟨w.heap.size, 2, none⟩ (.int .i64 0)).setCell ⟨w.heap.size, 3, none⟩ (.slice oA on oc)).setCell ⟨w.heap.size, 4, none⟩ (.int .i64 fin.2.steps)).setCell ⟨w.heap.size, 5, none⟩ (.int .i64 fin.2.checks) = Y at *
  have hFd : Fr [w.heap.size] w2 Y.drew := ⟨hFr.os, hFr.tape, hFr.output, hFr.size, hFr.block⟩
  have hSd : Y.drew.heap[w.heap.size]? = some (Obj.cells #[.int .i64 fin.1.st, .int .u8 fin.1.cd, .int .i64 0, .slice oA on oc, .int .i64 fin.2.steps, .int .i64 fin.2.checks] 39) := hS
  clear hS hFr
  go_wp2
  exact bodyPost_ret (v := .tuple #[.agg #[.int .i64 fin.1.st, .int .u8 fin.1.cd, .int .i64 0, .slice oA on oc, .int .i64 fin.2.steps, .int .i64 fin.2.checks], .slice sA sn sc]) (res_cell_tmp Tryd.results17 _ _ w.heap.size 39 _ (0, 0) _ _ rfl rfl hSd Tryd.underlying39 rfl size52) rfl
    ⟨_, _, rfl, own_fr hout hFd, own_fr hseen hFd, hma.keep hFd (by simp; omega) (by simp; omega), hok2, hlen, watch_frame R0b hz0 b1 hfj' hFd⟩
end Go.Proofs.YtoehfncgkkfdeaaDoor
/- Peek of package mach. Conditions: each theorem's. -/
namespace Go.Proofs.YtoehfncgkkfdeaaDoor
open Go.RowKit Go.Maps
set_option linter.unusedVariables false
set_option linter.unusedSimpArgs false
set_option maxRecDepth 10000
open Pm Pc Pl
theorem u8s_one (l : List Int) : ∀ v ∈ u8s l, v.oneCell' = true := by
  intro v hv
  simp only [u8s, List.mem_map] at hv
  obtain ⟨x, _, rfl⟩ := hv
  rfl
theorem made_u8' (N : Nat) : madeCells #[Value.int .u8 0] N = (u8s (List.replicate N 0)).toArray := made_u8 N
theorem cat_peek (l : List Int) (a n : Nat) (h : a + n ≤ l.length) : (u8s ((l.drop a).take n) ++ List.drop (u8s ((l.drop a).take n)).length (u8s (List.replicate n 0))).toArray = (u8s ((l.drop a).take n)).toArray := by
  have : (u8s ((l.drop a).take n)).length = n := by simp [u8s]; omega
  rw [this, show List.drop n (u8s (List.replicate n 0)) = [] from List.drop_eq_nil_of_le (by simp [u8s]), List.append_nil]
set_option maxHeartbeats 2000000 in
theorem peek_in {w : World} {p q : Nat} {m : Ma} (a n : Nat) (hm : MachAt w p q m) (hok : m.ok) (hn : 0 < n) (ha : a + n ≤ m.mem.length) :
    Calls Tryd.prog 25 #[.pointer (some ⟨p, 0, none⟩), .int .i64 a, .int .i64 n] w fun e w' => e = .returned (.tuple #[.slice (some ⟨w.heap.size, 0, none⟩) n n, .int .i64 0]) ∧ w'.heap[w.heap.size]? = some (.cells (u8s ((m.mem.drop a).take n)).toArray 5) ∧ Below w.heap.size w w' := by
  have hN := hok.2.1
  have hmk := run_make_row' (P := Tryd.prog) 22 5 (.int .u8 0) 1 Tryd.underlying22 (by kernel_rfl) rfl .i64 .i64 n (by omega) (by omega)
  rw [made_u8] at hmk
  have c0 := hm.c0
  have lp := hm.lp
  have lq := hm.lq
  have hlen : (u8s ((m.mem.drop a).take n)).length = Nat.min (m.mem.length - a) n := by
    rw [show Nat.min (m.mem.length - a) n = n from Nat.min_eq_right (by omega)]
    simp [u8s]; omega
  have hsrc : ∀ j v, (u8s ((m.mem.drop a).take n))[j]? = some v → (w.alloc (.cells (u8s (List.replicate n 0)).toArray 5)).cell? ((⟨q, a, none⟩ : Addr).add j) = some v := by
    intro j v hv
    have hj : j < n := by
      rcases Nat.lt_or_ge j n with h | h
      · exact h
      · rw [List.getElem?_eq_none (by simp [u8s]; omega)] at hv; cases hv
    rw [add_at, World.cell?_alloc_lt _ _ _ lq, hm.cm (a + j) (by omega)]
    have hlt : a + j < m.mem.length := by omega
    simp [u8s, List.getElem?_take, hj, hlt] at hv ⊢
    exact hv
  have HL := Lib.hid hlen; have HS := Lib.hid hsrc
  clear hlen hsrc
  obtain ⟨N, hNe⟩ : ∃ N, m.mem.length = N := ⟨_, rfl⟩
  have HNE := Lib.hid hNe
  rw [hNe] at c0 ha hN
  clear hNe
  have d1 : decide ((a : Int) > (N : Int) - (n : Int)) = false := by simp; omega
  have hcap : ¬ N = a := by omega
  have hmin : (u8s ((m.mem.drop a).take n)).length = Nat.min (N - a) n := by rw [HL.out, HNE.out]
  have hfit : 0 + (u8s ((m.mem.drop a).take n)).length ≤ (u8s (List.replicate n 0)).toArray.size := by
    rw [hmin, show Nat.min (N - a) n = n from Nat.min_eq_right (by omega)]; simp [u8s]
  have HMIN := Lib.hid hmin; have HFIT := Lib.hid hfit
  clear hmin hfit
  go_enter Tryd.func25, Tryd.ntmps25
  go_wp2_with (refine wpList_copy_own (o := ⟨some 35, _, _, _, _, _⟩) rfl (.tmp 28) (.tmp 34) 22 22 rfl 5 Tryd.underlying22 (by kernel_rfl) w.heap.size 0 n n ⟨q, a, none⟩ (N - a) (N - a) rfl rfl (u8s (List.replicate n 0)).toArray 5 (heap_alloc_new w _) (u8s ((m.mem.drop a).take n)) HMIN.out HS.out HFIT.out (u8s_one _) ?_)
  go_ret2
  refine ⟨rfl, ?_, below_setRow ((Below.refl _ _).alloc (Nat.le_refl _) _) (Nat.le_refl _) _⟩
  rw [setRow_heap _ w.heap.size _ _ _ _ (heap_alloc_new w _), cat_peek m.mem a n (by rw [HNE.out]; exact ha)]
end Go.Proofs.YtoehfncgkkfdeaaDoor
/- Runs that begin with something told already: the same, behind it. No condition. -/
namespace Go.Proofs.YtoehfncgkkfdeaaDoor
open Go.RowKit Go.Maps
set_option linter.unusedVariables false
set_option linter.unusedSimpArgs false
set_option maxRecDepth 10000
open Pm Pc Pl
namespace Pm
/-- What D tells, behind R. -/
def shf (R D : Ru) : Ru := ⟨R.out ++ D.out, R.steps + D.steps, R.checks + D.checks, D.inp, R.wat, if R.wat then R.seen ++ D.seen else R.seen⟩
def shO (R : Ru) (o : Option (Ma × Ru)) : Option (Ma × Ru) := match o with
  | some x => some (x.1, shf R x.2)
  | none => none
theorem shf_note (R D : Ru) (a : Ac) (hd : D.wat = true) : (shf R D).note a = shf R (D.note a) ∧ (D.note a).wat = true ∧ (D.inp = [] → (D.note a).inp = []) := by
  obtain ⟨o, s, c, i, w, e⟩ := R
  obtain ⟨o2, s2, c2, i2, w2, e2⟩ := D
  cases hd
  cases w <;> simp [shf, Ru.note]
theorem shf_call (m : Ma) (R D : Ru) (hd : D.wat = true) : callV m (shf R D) = shO R (callV m D) ∧ ∀ x, callV m D = some x → x.2.wat = true ∧ (D.inp = [] → x.2.inp = []) := by
  obtain ⟨o, s, c, i, w, e⟩ := R
  obtain ⟨o2, s2, c2, i2, w2, e2⟩ := D
  cases hd
  unfold callV
  by_cases h1 : m.reg 17 = 1
  · rw [if_pos h1, if_pos h1]
    refine ⟨by simp [shO, shf], fun x hx => ?_⟩
    injection hx with hx
    rw [← hx]
    exact ⟨rfl, id⟩
  rw [if_neg h1, if_neg h1]
  by_cases h2 : m.reg 17 = 2
  · rw [if_pos h2, if_pos h2]
    cases i2 with
    | nil => exact ⟨rfl, fun x hx => by injection hx with hx; rw [← hx]; exact ⟨rfl, id⟩⟩
    | cons b l => exact ⟨rfl, fun x hx => by injection hx with hx; rw [← hx]; exact ⟨rfl, fun h => by cases h⟩⟩
  rw [if_neg h2, if_neg h2]
  by_cases h3 : m.reg 17 = 3
  · rw [if_pos h3, if_pos h3]
    exact ⟨rfl, fun x hx => by injection hx with hx; rw [← hx]; exact ⟨rfl, id⟩⟩
  rw [if_neg h3, if_neg h3]
  by_cases h4 : m.reg 17 = 4 ∨ m.reg 17 = 5
  · rw [if_pos h4, if_pos h4]
    exact ⟨rfl, fun x hx => by injection hx with hx; rw [← hx]; exact ⟨rfl, id⟩⟩
  rw [if_neg h4, if_neg h4]
  exact ⟨rfl, fun x hx => by cases hx⟩
theorem shf_do (m : Ma) (R D : Ru) (hd : D.wat = true) (op : Int) (rd r1 r2 : Nat) (n : Int) : doV m (shf R D) op rd r1 r2 n = shO R (doV m D op rd r1 r2 n) ∧ ∀ x, doV m D op rd r1 r2 n = some x → x.2.wat = true ∧ (D.inp = [] → x.2.inp = []) := by
  unfold doV
  by_cases k1 : op ≤ 27
  · rw [if_pos k1, if_pos k1]
    exact ⟨rfl, fun x hx => by injection hx with hx; rw [← hx]; exact ⟨hd, id⟩⟩
  rw [if_neg k1, if_neg k1]
  by_cases k2 : op ≤ 37
  · rw [if_pos k2, if_pos k2]
    by_cases hk : markB op rd r1 r2 n = true
    · rw [if_pos hk, if_pos hk]
      exact ⟨rfl, fun x hx => by injection hx with hx; rw [← hx]; exact ⟨hd, id⟩⟩
    · rw [if_neg hk, if_neg hk]
      exact ⟨rfl, fun x hx => by injection hx with hx; rw [← hx]; exact ⟨hd, id⟩⟩
  rw [if_neg k2, if_neg k2]
  by_cases k3 : op ≤ 41
  · rw [if_pos k3, if_pos k3]
    by_cases hb : hasB (m.ad r1 n) (widthV op) m.mem.length = true
    · rw [if_pos hb, if_pos hb]
      have := shf_note R D ⟨m.pl, m.ad r1 n, widthV op, false⟩ hd
      exact ⟨by rw [this.1]; rfl, fun x hx => by injection hx with hx; rw [← hx]; exact this.2⟩
    · rw [if_neg hb, if_neg hb]
      exact ⟨rfl, fun x hx => by cases hx⟩
  rw [if_neg k3, if_neg k3]
  by_cases k4 : op ≤ 44
  · rw [if_pos k4, if_pos k4]
    by_cases hb : hasB (m.ad r1 n) (widthV op) m.mem.length = true
    · rw [if_pos hb, if_pos hb]
      have := shf_note R D ⟨m.pl, m.ad r1 n, widthV op, true⟩ hd
      exact ⟨by rw [this.1]; rfl, fun x hx => by injection hx with hx; rw [← hx]; exact this.2⟩
    · rw [if_neg hb, if_neg hb]
      exact ⟨rfl, fun x hx => by cases hx⟩
  rw [if_neg k4, if_neg k4]
  by_cases k5 : op ≤ 50
  · rw [if_pos k5, if_pos k5]
    exact ⟨rfl, fun x hx => by injection hx with hx; rw [← hx]; exact ⟨hd, id⟩⟩
  rw [if_neg k5, if_neg k5]
  by_cases k6 : op = 51
  · rw [if_pos k6, if_pos k6]
    exact ⟨rfl, fun x hx => by injection hx with hx; rw [← hx]; exact ⟨hd, id⟩⟩
  rw [if_neg k6, if_neg k6]
  by_cases k7 : op = 52
  · rw [if_pos k7, if_pos k7]
    exact ⟨rfl, fun x hx => by injection hx with hx; rw [← hx]; exact ⟨hd, id⟩⟩
  rw [if_neg k7, if_neg k7]
  by_cases k8 : op = 53
  · rw [if_pos k8, if_pos k8]
    exact ⟨rfl, fun x hx => by injection hx with hx; rw [← hx]; exact ⟨hd, id⟩⟩
  rw [if_neg k8, if_neg k8]
  by_cases k9 : op = 54
  · rw [if_pos k9, if_pos k9]
    exact ⟨rfl, fun x hx => by injection hx with hx; rw [← hx]; exact ⟨hd, id⟩⟩
  rw [if_neg k9, if_neg k9]
  obtain ⟨c1, c2⟩ := shf_call m R D hd
  rw [c1]
  cases hc : callV m D with
  | none => exact ⟨rfl, fun x hx => by cases hx⟩
  | some y => exact ⟨rfl, fun x hx => by injection hx with hx; rw [← hx]; exact c2 y hc⟩
theorem shf_step (m : Ma) (R D : Ru) (hd : D.wat = true) : stepV m (shf R D) = shO R (stepV m D) ∧ ∀ x, stepV m D = some x → x.2.wat = true ∧ (D.inp = [] → x.2.inp = []) := by
  unfold stepV
  by_cases h : hasB m.pl 4 m.mem.length = true ∧ findOp (wordAt m) ≠ 0
  · rw [if_pos h, if_pos h]
    exact shf_do m R D hd _ _ _ _ _
  · rw [if_neg h, if_neg h]
    exact ⟨rfl, fun x hx => by cases hx⟩
theorem shf_run (n : Nat) (m : Ma) (R D : Ru) (hd : D.wat = true) : runV n m (shf R D) = ((runV n m D).1, shf R (runV n m D).2) ∧ (runV n m D).2.wat = true := by
  induction n generalizing m D with
  | zero => exact ⟨rfl, hd⟩
  | succ n ih =>
    by_cases h0 : m.st = 0
    · rw [runV_go h0, runV_go h0, (shf_step m R D hd).1]
      have h2 := (shf_step m R D hd).2
      cases hs : stepV m D with
      | none => exact ⟨rfl, hd⟩
      | some x =>
        have := ih x.1 { x.2 with steps := x.2.steps + 1 } (h2 x hs).1
        exact ⟨this.1, this.2⟩
    · rw [runV_stop (.inl h0), runV_stop (.inl h0)]
      exact ⟨rfl, hd⟩
theorem run_inp (n : Nat) (m : Ma) (D : Ru) (hd : D.wat = true) (hi : D.inp = []) : (runV n m D).2.inp = [] := by
  induction n generalizing m D with
  | zero => exact hi
  | succ n ih =>
    by_cases h0 : m.st = 0
    · rw [runV_go h0]
      have h2 := (shf_step m aw0 D hd).2
      cases hs : stepV m D with
      | none => exact hi
      | some x =>
        have := h2 x hs
        exact ih x.1 { x.2 with steps := x.2.steps + 1 } this.1 (this.2 hi)
    · rw [runV_stop (.inl h0)]
      exact hi
def w0R : Ru := ⟨[], 0, 0, [], true, []⟩
/-- A run of a steps and one of b are a run of a + b; watched or not all is the same. -/
theorem run_parts (a b : Nat) (m : Ma) : ∃ x y : Ma × Ru, runV a m w0R = x ∧ runV b x.1 w0R = y ∧
    runV (a + b) m w0R = (y.1, ⟨x.2.out ++ y.2.out, x.2.steps + y.2.steps, x.2.checks + y.2.checks, [], true, x.2.seen ++ y.2.seen⟩) ∧
    runV (a + b) m aw0 = (y.1, ⟨x.2.out ++ y.2.out, x.2.steps + y.2.steps, x.2.checks + y.2.checks, [], false, []⟩) := by
  have h1 := runV_add a b m w0R
  have hw := (shf_run a m aw0 w0R rfl).2
  have hi := run_inp a m w0R rfl rfl
  have hs : (runV a m w0R).2 = shf (runV a m w0R).2 w0R := by
    unfold shf w0R
    rw [show (runV a m ⟨[], 0, 0, [], true, []⟩).2 = (runV a m w0R).2 from rfl]
    generalize (runV a m w0R).2 = X at *
    obtain ⟨o, s, c, i, w, e⟩ := X
    cases hw
    cases hi
    simp
  have h2 := (shf_run b (runV a m w0R).1 (runV a m w0R).2 w0R rfl).1
  rw [← hs] at h2
  rw [h2] at h1
  have hib := run_inp b (runV a m w0R).1 w0R rfl rfl
  have e1 : runV (a + b) m w0R = ((runV b (runV a m w0R).1 w0R).1, ⟨(runV a m w0R).2.out ++ (runV b (runV a m w0R).1 w0R).2.out, (runV a m w0R).2.steps + (runV b (runV a m w0R).1 w0R).2.steps, (runV a m w0R).2.checks + (runV b (runV a m w0R).1 w0R).2.checks, [], true, (runV a m w0R).2.seen ++ (runV b (runV a m w0R).1 w0R).2.seen⟩) := by
    rw [h1]
    unfold shf
    rw [hib, hw]
    rfl
  refine ⟨_, _, rfl, rfl, e1, ?_⟩
  have h3 := (shf_run (a + b) m aw0 w0R rfl).1
  have e3 : shf aw0 w0R = aw0 := rfl
  rw [e3, e1] at h3
  rw [h3]
  simp [shf, aw0]
end Pm
end Go.Proofs.YtoehfncgkkfdeaaDoor
