/- A region that draws its order and whose last operation, for which all others are waited, may change what the others read. Conditions: each theorem's. A machine made, a run begun, a run whole: package mach. Conditions: each theorem's. A run of package mach, whole; watched or not. Conditions: each theorem's. The bytes of instructions' words, as the statements of layer 3 make them; the fixed fact. Conditions: each theorem's. The fixed fact of the statements of layer 3. Conditions: the tables as the program lays them. The calls of package mach as the statements make them, on a machine of their own. Conditions: each theorem's. How much a run tells at most. No condition. -/
import Derived.OrdersHeld
import Derived.Deep.RegionHeld
import Derived.StillTail
import Derived.Test.YtppcbommaddkgaaDoorMrgF
import Derived.Deep.OwnRows
import Derived.Laws.CopyOwn
import Derived.Test.YtppcbommaddkgaaDoorCodeRencAny
namespace Go.Proofs.YtppcbommaddkgaaDoor
set_option linter.unusedVariables false
set_option linter.unusedSimpArgs false
section
variable {P : Program} {md : Region.Mode} {ops : Array Oper} {Q : Exit → Act → World → Prop} {S : World → Prop} {z : Nat}
/-- Whatever comes next: S is kept by all but operation z. -/
def wpLast (P : Program) (md : Region.Mode) (ops : Array Oper) (Q : Exit → Act → World → Prop) (S : World → Prop) (z : Nat) : Nat → Array Bool → Act → World → Prop
  | 0, l, a, w => Region.ready md ops l = [] ∧ Q .normal a w
  | f + 1, l, a, w => (Region.ready md ops l = [] → Q .normal a w) ∧ ∀ i, i ∈ Region.ready md ops l → wpOp P ops Q i (fun a' w' => (i ≠ z → S w') ∧ wpLast P md ops Q S z f (l.setIfInBounds i true) a' w') a w
theorem wpLast_any (f : Nat) : ∀ (l : Array Bool) (a : Act) (w : World), wpLast P md ops Q S z f l a w → wpAny P md ops Q f l a w := by
  induction f with
  | zero => exact fun _ _ _ h => h
  | succ f ih => exact fun l a w h => ⟨h.1, fun i hi => wpOp_mono (fun a' w' h' => ih _ a' w' h'.2) (h.2 i hi)⟩
/-- Operation i first. -/
theorem wpLast_take' {i : Nat} {oi : Oper} {v : Value} (hi : ops[i]? = some oi) (hiz : i ≠ z) (hz : ∃ oz, ops[z]? = some oz ∧ ∃ e ∈ oz.after, Region.binds md e = true ∧ e.on = i) (hsel : ∀ (j : Nat) (o : Oper) cs b, ops[j]? = some o → o.op ≠ .select cs b)
    (hQ : ∀ c a w, Q (.panic c) (a.put oi.dst v) w → Q (.panic c) a w) (f : Nat) : ∀ (l : Array Bool) (a : Act) (w : World),
      (∀ j oj, ops[j]? = some oj → j ≠ i → l.getD j true = false → (∀ e ∈ oj.after, Region.binds md e = true → e.on ≠ i) → oi.apart ops oj = true) →
      i ∈ Region.ready md ops l → YieldsIf P ops S oi v a → S w → wpLast P md ops Q S z f (l.setIfInBounds i true) (a.put oi.dst v) w → wpLast P md ops Q S z (f + 1) l a w := by
  induction f with
  | zero =>
    intro l a w hfree hr hy hS H
    refine ⟨fun h0 => absurd hr (by rw [h0]; simp), fun j hj => ?_⟩
    by_cases hji : j = i
    · subst hji; exact hy.wpOp hi hS ⟨fun _ => hS, H⟩
    · exact absurd (ready_mono hj hji) (by rw [H.1]; simp)
  | succ f ih =>
    intro l a w hfree hr hy hS H
    refine ⟨fun h0 => absurd hr (by rw [h0]; simp), fun j hj => ?_⟩
    by_cases hji : j = i
    · subst hji; exact hy.wpOp hi hS ⟨fun _ => hS, H⟩
    · obtain ⟨hjun, oj, hoj, hall⟩ := mem_ready.1 hj
      have hun := (mem_ready.1 hr).1
      have hfal : l.getD i false = false := getD_both hun
      have hnot : ∀ e ∈ oj.after, Region.binds md e = true → e.on ≠ i := fun e he hb heq => by
        have h1 := hall e he hb
        rw [heq, hfal] at h1
        cases h1
      have hjz : j ≠ z := by
        rintro rfl
        obtain ⟨oz, hoz, e, he, hb, hon⟩ := hz
        rw [hoj] at hoz
        injection hoz with hoz
        subst hoz
        exact hnot e he hb hon
      have h2 := wpOp_putIf hoj (hfree j oj hoj hji hjun hnot) (fun cs b => hsel i oi cs b hi) (fun cs b => hsel j oj cs b hoj) hQ hy (H.2 j (ready_mono hj hji))
      refine wpOp_mono (fun a' w' h3 => ⟨h3.2.1, ih (l.setIfInBounds j true) a' w' (fun k ok hk hki hku hno => hfree k ok hk hki ?_ hno) (ready_mono hr (Ne.symm hji)) h3.1 (h3.2.1 hjz) ?_⟩) h2
      · by_cases hjk : j = k
        · subst hjk; exact hjun
        · rw [getD_set_ne true hjk] at hku; exact hku
      · rw [Array.setIfInBounds_comm _ _ hji]; exact h3.2.2
theorem wpLast_take {i : Nat} {oi : Oper} {v : Value} {f : Nat} {l : Array Bool} {a : Act} {w : World} (hi : ops[i]? = some oi) (hs : Region.noSelect ops = true) (hf : Region.free md ops l i = true) (hr : (Region.ready md ops l).contains i = true) (hz : (i != z && Region.waitsFor md ops z i) = true)
    (hQ : ∀ c a w, Q (.panic c) (a.put oi.dst v) w → Q (.panic c) a w) (hy : YieldsIf P ops S oi v a) (hS : S w) (h : wpLast P md ops Q S z f (l.setIfInBounds i true) (a.put oi.dst v) w) : wpLast P md ops Q S z (f + 1) l a w := by
  rw [Bool.and_eq_true] at hz
  exact wpLast_take' hi (by simpa using hz.1) (Region.waitsFor_spec hz.2) (Region.noSelect_spec hs) hQ f l a w (Region.free_spec hi hf) (by simpa using hr) hy hS h
/-- Shut, so that no tactic looks into it. -/
def Hid' (p : Prop) : Prop := p
theorem Hid'.out {p : Prop} (h : Hid' p) : p := h
/-- One alone may come. -/
theorem wpLast_one {i : Nat} {o : Oper} {f : Nat} {l : Array Bool} {a : Act} {w : World} (hr : Region.ready md ops l = [i]) (ho : ops[i]? = some o) (hw : Region.wanted o (yielded ops a.tmps) = true)
    (h : ∀ K : Act → World → Prop, Hid' (∀ a' w', (i ≠ z → S w') → ((i ≠ z → S w') → wpLast P md ops Q S z f (l.setIfInBounds i true) a' w') → K a' w') → Oper.wp P o a w K Q) : wpLast P md ops Q S z (f + 1) l a w := by
  refine ⟨fun h0 => absurd h0 (by rw [hr]; simp), fun j hj => ?_⟩
  rw [hr] at hj
  obtain rfl : j = i := by simpa using hj
  unfold wpOp
  rw [ho]
  simp only [hw, if_true]
  exact .inl (h _ fun a' w' h1 h2 => ⟨h1, h2 h1⟩)
theorem wpLast_done {f : Nat} {l : Array Bool} {a : Act} {w : World} (hr : Region.ready md ops l = []) (h : Q .normal a w) : wpLast P md ops Q S z f l a w := by
  cases f with
  | zero => exact ⟨hr, h⟩
  | succ f => exact ⟨fun _ => h, fun i hi => absurd hi (by rw [hr]; simp)⟩
theorem wp_region_last {id : Nat} {a : Act} {w : World} (hm : P.follows .mixedOrders = true) (hS : S w.drew) (h : S w.drew → wpLast P .any ops Q S z ops.size (Array.replicate ops.size false) a w.drew) : (Code.region id ops true).wp P Q a w :=
  wp_region_any hm (wpLast_any _ _ _ _ (h hS))
end
end Go.Proofs.YtppcbommaddkgaaDoor
namespace Go.Proofs.YtppcbommaddkgaaDoor
open Go.RowKit Go.Maps
set_option linter.unusedVariables false
set_option linter.unusedSimpArgs false
set_option maxRecDepth 10000
open Pm Pc Pl
/-- Bytes that come in. -/
def SrcIs (w : World) (A : Option Addr) (xs : List Int) : Prop :=
  (∀ b ∈ xs, 0 ≤ b ∧ b < 256) ∧ (0 < xs.length → ∃ ib off, A = some ⟨ib, off, none⟩ ∧ ∀ j, j < xs.length → w.cell? ⟨ib, off + j, none⟩ = some (.int .u8 (xs.getD j 0)))
def maNew (xs : List Int) (N : Nat) : Ma := ⟨xs ++ List.replicate (N - xs.length) 0, List.replicate 32 0, 0, 0, 0⟩
theorem maNew_ok {xs : List Int} {N : Nat} (hb : ∀ b ∈ xs, 0 ≤ b ∧ b < 256) (hN : xs.length ≤ N) (hN' : N ≤ 4194304) : (maNew xs N).ok := by
  refine ⟨rfl, by simp [maNew]; omega, ?_, ?_, ⟨Int.le_refl 0, by show (0 : Int) < _; decide⟩, rfl⟩
  · intro v hv
    simp [maNew] at hv
    omega
  · intro b h
    simp [maNew] at h
    rcases h with h | h
    · exact hb b h
    · omega
theorem maNew_len {xs : List Int} {N : Nat} (hN : xs.length ≤ N) : (maNew xs N).mem.length = N := by simp [maNew]; omega
theorem begin_any {w : World} {p q : Nat} {m : Ma} {A : Option Addr} {c : Nat} {xs : List Int} (hm : MachAt w p q m) :
    Calls Tryd.prog 21 #[.pointer (some ⟨p, 0, none⟩), .slice A xs.length c] w fun e w' => e = .returned (.pointer (some ⟨w.heap.size + 1, 0, none⟩)) ∧ w' = (w.alloc (.map #[] 0)).alloc (.cells (runC p w.heap.size ⟨[], 0, 0, xs, false, []⟩ (.slice none 0 0) (.slice none 0 0) A c) 69) := by
  have hmk : ∀ W : World, (Instr.makeMap 67 none).run Tryd.prog W = .ok (.map (some W.heap.size)) (W.alloc (.map #[] 0)) := fun W => by kernel_rfl
  go_enter Tryd.func21, Tryd.ntmps21
  go_wp2
  go_ret
  exact ⟨rfl, rfl⟩
theorem begin_st {w : World} {p q : Nat} {m : Ma} {A : Option Addr} {c : Nat} {xs : List Int} (hm : MachAt w p q m) (hi : InpIs w w.heap.size p q A xs) (hc : xs.length ≤ c) :
    Calls Tryd.prog 21 #[.pointer (some ⟨p, 0, none⟩), .slice A xs.length c] w fun e w' => e = .returned (.pointer (some ⟨w.heap.size + 1, 0, none⟩)) ∧ St w' w.heap.size p q (w.heap.size + 1) m ⟨[], 0, 0, xs, false, []⟩ 0 ∧ Below w.heap.size w w' := by
  refine (begin_any (xs := xs) hm).mono ?_
  rintro e w' ⟨rfl, rfl⟩
  have hb := below2 w (.map #[] 0) (.cells (runC p w.heap.size ⟨[], 0, 0, xs, false, []⟩ (.slice none 0 0) (.slice none 0 0) A c) 69)
  refine ⟨rfl, ⟨_, _, A, c, w.heap.size, 0, .map [], ⟨heap_alloc2_new w _ _, ⟨rfl, .inl ⟨rfl, rfl⟩⟩, ⟨rfl, .inl ⟨rfl, rfl⟩⟩, ?_, (World.ownsMap_made _ _ _ _).alloc _, ⟨isMap_empty, fun u _ _ h => by simp [has] at h⟩, by omega, Nat.le_refl _⟩, ?_, by omega, by simp, by simp, hc⟩, hb⟩
  · exact hi.at_ fun g hg _ _ _ => hb.block g hg
  · exact hm.keep (Fr.below (S := []) hb) (by simp) (by simp)
theorem made_u8 (N : Nat) : madeCells #[Value.int .u8 0] N = (u8s (List.replicate N 0)).toArray := by
  apply Array.ext
  · simp [madeCells, u8s]
  · intro i h1 h2
    simp [madeCells, u8s, Nat.mod_one]
theorem add_at (b o j : Nat) : (⟨b, o, none⟩ : Addr).add j = ⟨b, o + j, none⟩ := by
  unfold Addr.add
  split
  · rename_i h; subst h; rfl
  · rfl
theorem new_at {w : World} {xs : List Int} {N : Nat} (hN : xs.length ≤ N) {C : Obj} (hC : C = .cells (Value.slice (some ⟨w.heap.size, 0, none⟩) N N :: (u64s (List.replicate 32 0) ++ [.int .u64 0, .int .i64 0, .int .u8 0])).toArray 63) {X : World} (hp : X.heap[w.heap.size + 1]? = some C) (hq : X.heap[w.heap.size]? = some (.cells (u8s (xs ++ List.replicate (N - xs.length) 0)).toArray 5)) : MachAt X (w.heap.size + 1) w.heap.size (maNew xs N) := by
  refine ⟨?_, hq⟩
  rw [hp, hC, Ma.cells, maNew_len hN]
  rfl
theorem cat_new (xs : List Int) (N : Nat) : (u8s xs ++ List.drop (u8s xs).length (u8s (List.replicate N 0))).toArray = (u8s (xs ++ List.replicate (N - xs.length) 0)).toArray := by
  simp [u8s]
set_option maxHeartbeats 1000000 in
theorem new_any {w : World} {A : Option Addr} {c N : Nat} {xs : List Int} (hN : xs.length ≤ N) (hN' : N ≤ 4194304) (hr : SrcIs w A xs) :
    Calls Tryd.prog 8 #[.slice A xs.length c, .int .i64 N] w fun e w' => e = .returned (.tuple #[.pointer (some ⟨w.heap.size + 1, 0, none⟩), .int .i64 0]) ∧ MachAt w' (w.heap.size + 1) w.heap.size (maNew xs N) ∧ Below w.heap.size w w' := by
  have hmk := run_make_row' (P := Tryd.prog) 22 5 (.int .u8 0) 1 Tryd.underlying22 (by kernel_rfl) rfl .i64 .i64 N (by omega) (by omega)
  rw [made_u8] at hmk
  by_cases h0 : xs.length = 0
  · have hx : xs = [] := List.eq_nil_of_length_eq_zero h0
    subst hx
    go_enter Tryd.func8, Tryd.ntmps8
    go_wp2_with (refine wpList_copy_nothing (o := ⟨some 24, _, _, _, _, _⟩) rfl (.tmp 22) (.tmp 23) 22 22 rfl 5 Tryd.underlying22 (by kernel_rfl) (some ⟨w.heap.size, 0, none⟩) A N N 0 c rfl rfl (by simp) ?_)
    go_ret2
    exact ⟨rfl, new_at (by simp) rfl (heap_alloc2_new w _ _) (by rw [heap_alloc2_old]; simp), below2 _ _ _⟩
  · obtain ⟨ib, off, rfl, hsrc⟩ := hr.2 (by omega)
    have hlt : ib < w.heap.size := World.block_lt_of_cell? w _ (hsrc 0 (by omega))
    have hlen : (u8s xs).length = Nat.min xs.length N := by rw [show Nat.min xs.length N = xs.length from Nat.min_eq_left hN]; simp [u8s]
    have Hsrc : Hid (∀ (C D : Obj) (j : Nat) (v : Value), (u8s xs)[j]? = some v → ((w.alloc C).alloc D).cell? ((⟨ib, off, none⟩ : Addr).add j) = some v) := Lib.hid fun C D j v hv => by
      have hj : j < xs.length := by
        rcases Nat.lt_or_ge j xs.length with h | h
        · exact h
        · rw [List.getElem?_eq_none (by simpa [u8s] using h)] at hv; cases hv
      rw [add_at, World.cell?_alloc_lt _ _ _ (by simp; omega), World.cell?_alloc_lt _ _ _ hlt, hsrc j hj]
      simpa [u8s, hj] using hv
    have HL := Lib.hid hlen
    clear hsrc hr hlen
    go_enter Tryd.func8, Tryd.ntmps8
    go_wp2_with (refine wpList_copy_own (o := ⟨some 24, _, _, _, _, _⟩) rfl (.tmp 22) (.tmp 23) 22 22 rfl 5 Tryd.underlying22 (by kernel_rfl) w.heap.size 0 N N ⟨ib, off, none⟩ xs.length c rfl rfl (u8s (List.replicate N 0)).toArray 5 (heap_alloc2_old w _ _) (u8s xs) HL.out (Hsrc.out _ _) (by simp [u8s]; omega) (by simp [u8s, Value.oneCell']) ?_)
    go_ret2
    refine ⟨rfl, new_at hN rfl ((setRow_other _ _ _ _ (by omega)).trans (heap_alloc2_new w _ _)) ?_, below_setRow (below2 _ _ _) (Nat.le_refl _) _⟩
    rw [setRow_heap _ w.heap.size _ _ _ _ (heap_alloc2_old w _ _), cat_new]
end Go.Proofs.YtppcbommaddkgaaDoor
namespace Go.Proofs.YtppcbommaddkgaaDoor
open Go.RowKit Go.Maps
set_option linter.unusedVariables false
set_option linter.unusedSimpArgs false
set_option maxRecDepth 10000
open Pm Pc Pl
theorem own_slice {w : World} {base size n : Nat} {e : TypeId} {v : Value} {xs : List Value} (h : w.ownsRow base e size v n xs) : ∃ A n c, v = .slice A n c := by
  rcases h.2 with ⟨rfl, _⟩ | ⟨g', cap, cur, rfl, _⟩
  · exact ⟨_, _, _, rfl⟩
  · exact ⟨_, _, _, rfl⟩
theorem size52 : (Tryd.prog.info? 39).map (·.size) = some 6 := by kernel_rfl
/-- What a run answers, and leaves. -/
def RunTo (w : World) (p q : Nat) (len : Nat) (fin : Ma × Ru) (e : Ending) (w' : World) : Prop :=
  ∃ ov, e = .returned (.agg #[.int .i64 fin.1.st, .int .u8 fin.1.cd, .int .i64 0, ov, .int .i64 fin.2.steps, .int .i64 fin.2.checks]) ∧ w'.ownsRow w.heap.size 5 1 ov fin.2.out.length (u8s fin.2.out) ∧ MachAt w' p q fin.1 ∧ fin.1.ok ∧ fin.1.mem.length = len ∧ Fj w.heap.size p q w w'
/-- What stands behind the steps of a run. -/
theorem steps_out {w w1 w2 : World} {base p q rb C len : Nat} {fin : Ma × Ru} {wat : Bool} {e : Ending} (hA : Apart base p q) (h : StepsTo w base p q rb fin C len wat e w2) :
    e = .returned (.tuple #[]) ∧ ∃ ov sv A c mb, w2.heap[rb]? = some (Obj.cells #[.pointer (some ⟨p, 0, none⟩), .int .i64 fin.1.st, .int .u8 fin.1.cd, .int .i64 0, ov, .int .i64 fin.2.steps, .int .i64 fin.2.checks, .slice A fin.2.inp.length c, .map (some mb), .bool fin.2.wat, sv] 69) ∧
      w2.ownsRow base 5 1 ov fin.2.out.length (u8s fin.2.out) ∧ w2.ownsRow base 81 4 sv fin.2.seen.length (accs fin.2.seen) ∧ MachAt w2 p q fin.1 ∧ fin.1.ok ∧ fin.1.mem.length = len ∧ Fj base p q w w2 ∧ base ≤ rb := by
  obtain ⟨rfl, w1, B, hs, hf, hok, -, hlen, -, ha⟩ := h
  obtain ⟨ov, sv, A, c, mb, cnt, D, hr, hm, -⟩ := hs
  have hrb := hr.lrb
  have hh : w2.heap = ((w1.setCell ⟨rb, 1, none⟩ (.int .i64 fin.1.st)).setCell ⟨rb, 2, none⟩ (.int .u8 fin.1.cd)).heap := ha.2.2.2
  have hfr : Fr [rb] w1 w2 := Fr.alike ((Fr.set (S := [rb]) w1 rb 1 (.int .i64 fin.1.st) (by simp)).trans (Fr.set (S := [rb]) _ rb 2 (.int .u8 fin.1.cd) (by simp))) ha
  have hrow : ∀ t, t ≠ 69 → ∀ g cur, base ≤ g → w1.heap[g]? = some (Obj.cells cur t) → w2.heap[g]? = some (Obj.cells cur t) := by
    intro t ht g cur _ h1
    refine hfr.at_ h1 ?_
    simp only [List.mem_cons, List.not_mem_nil, or_false]
    rintro rfl
    rw [hr.blk] at h1
    injection h1 with h1
    injection h1 with _ h1
    exact ht h1.symm
  refine ⟨rfl, ov, sv, A, c, mb, ?_, ownsRow_at2 hr.out (hrow _ (by decide)), ownsRow_at2 hr.seen (hrow _ (by decide)), hm.keep hfr (by have := hA.2.1; simp; omega) (by have := hA.2.2.1; simp; omega), hok, hlen, hf.trans (Fj.of hfr (by simp; omega) ?_), hrb⟩
  · rw [hh, heap_setCell_same _ _ _ _ _ _ (heap_setCell_same _ _ _ _ _ _ hr.blk)]
    rfl
  · intro k hk cs
    simp only [List.mem_cons, List.not_mem_nil, or_false] at hk
    subst hk
    rw [hr.blk]; intro e; injection e with e; injection e with _ e; exact absurd e (by decide)
theorem run_frame {w w0 w1 w2 : World} {p q : Nat} (h0 : Below w.heap.size w w0) (z0 : w0.heap.size = w.heap.size + 1) (h1 : Below (w.heap.size + 1) w0 w1) (h2 : Fj (w.heap.size + 1) p q w1 w2) (cs : Array Value) : Fj w.heap.size p q w (w2.setRow w.heap.size cs) := by
  have s0 := h0.size
  have s1 := h1.size
  have s2 := h2.fb.size
  refine ⟨⟨h2.fb.os.trans (h1.os.trans h0.os), h2.fb.tape.trans (h1.tape.trans h0.tape), h2.fb.output.trans (h1.output.trans h0.output), by simp [World.setRow]; omega, fun k hk hb hp hq => ?_⟩, fun g c hg => ?_⟩
  · rw [setRow_other _ _ _ _ (by omega), h2.fb.block k (by omega) (by omega) hp hq, h1.block k (by omega), h0.block k hk]
  · have hlt := lt_of_at hg
    rw [setRow_other _ _ _ _ (by omega)]
    exact h2.ins _ _ ((h1.block g (by omega)).trans ((h0.block g hlt).trans hg))
theorem own_setRow {w : World} {base size n : Nat} {e : TypeId} {v : Value} {xs : List Value} (h : w.ownsRow (base + 1) e size v n xs) (cs : Array Value) : (w.setRow base cs).ownsRow base e size v n xs := by
  obtain ⟨hl, h⟩ := h
  refine ⟨hl, ?_⟩
  rcases h with h | ⟨g, cap, cur, h1, h2, h3, h4⟩
  · exact .inl h
  · exact .inr ⟨g, cap, cur, h1, by omega, (setRow_other _ _ _ _ (by omega)).trans h3, h4⟩
theorem mach_setRow {w : World} {p q b : Nat} {m : Ma} (h : MachAt w p q m) (hp : p ≠ b) (hq : q ≠ b) (cs : Array Value) : MachAt (w.setRow b cs) p q m := ⟨(setRow_other _ _ _ _ hp).trans h.1, (setRow_other _ _ _ _ hq).trans h.2⟩
set_option maxRecDepth 100000 in
set_option maxHeartbeats 4000000 in
theorem run_any {w : World} {p q : Nat} {m : Ma} {A : Option Addr} {c : Nat} {xs : List Int} (f : Int) (hm : MachAt w p q m) (hok : m.ok) (hpq : p ≠ q) (hp1 : 1 < p ∧ 1 < q) (hi : InpIs w w.heap.size p q A xs) (hc : xs.length ≤ c) (hF : FormsIn w) (hO : OpsIn w) (hf : f ≤ 1073741824) :
    Calls Tryd.prog 11 #[.pointer (some ⟨p, 0, none⟩), .slice A xs.length c, .int .i64 f] w (RunTo w p q m.mem.length (runV f.toNat m ⟨[], 0, 0, xs, false, []⟩)) := by
  have lp := hm.lp
  have lq := hm.lq
  go_enter Tryd.func11, Tryd.ntmps11
  go_wp2_with fail
  have R0b := (Below.refl w.heap.size w).alloc (Nat.le_refl _) (Obj.cells #[.int .i64 0, .int .u8 0, .int .i64 0, .slice none 0 0, .int .i64 0, .int .i64 0] 39)
  have R0 := heap_alloc_new w (Obj.cells #[.int .i64 0, .int .u8 0, .int .i64 0, .slice none 0 0, .int .i64 0, .int .i64 0] 39)
  have hF0 := hF.keep R0b (Nat.le_refl _)
  have hO0 : OpsIn (w.alloc (Obj.cells #[.int .i64 0, .int .u8 0, .int .i64 0, .slice none 0 0, .int .i64 0, .int .i64 0] 39)) := fun o a b => (World.cell?_alloc_lt w _ _ (World.block_lt_of_cell? w _ (hO o a b))).trans (hO o a b)
  have hm0 : MachAt (w.alloc (Obj.cells #[.int .i64 0, .int .u8 0, .int .i64 0, .slice none 0 0, .int .i64 0, .int .i64 0] 39)) p q m := hm.keep (Fr.below (S := []) R0b) (by simp) (by simp)
  have hi0 : InpIs (w.alloc (Obj.cells #[.int .i64 0, .int .u8 0, .int .i64 0, .slice none 0 0, .int .i64 0, .int .i64 0] 39)) (w.alloc (Obj.cells #[.int .i64 0, .int .u8 0, .int .i64 0, .slice none 0 0, .int .i64 0, .int .i64 0] 39)).heap.size p q A xs := by
    have h1 := hi.at_ (w' := w.alloc (Obj.cells #[.int .i64 0, .int .u8 0, .int .i64 0, .slice none 0 0, .int .i64 0, .int .i64 0] 39)) fun g hg _ _ _ => R0b.block g hg
    exact ⟨h1.1, fun h0 => by obtain ⟨ib, off, a, b, r⟩ := h1.2 h0; exact ⟨ib, off, a, by simp only [szA]; omega, r⟩⟩
  have hz0 : (w.alloc (Obj.cells #[.int .i64 0, .int .u8 0, .int .i64 0, .slice none 0 0, .int .i64 0, .int .i64 0] 39)).heap.size = w.heap.size + 1 := szA _ _
  generalize w.alloc (Obj.cells #[.int .i64 0, .int .u8 0, .int .i64 0, .slice none 0 0, .int .i64 0, .int .i64 0] 39) = w0 at *
  clear hF hO hm hi
  refine (begin_st hm0 hi0 hc).mono ?_
  rintro e w1 ⟨rfl, s1, b1⟩
  rw [hz0] at s1 b1 ⊢
  have hA : Apart (w.heap.size + 1) p q := ⟨hpq, by omega, by omega, by omega, by omega⟩
  have hF1 := hF0.keep b1 (by omega)
  have hO1 : OpsIn w1 := fun o a b => (b1.cell (p := ⟨0, o, none⟩) (by show 0 < w.heap.size + 1; omega)).trans (hO0 o a b)
  have R1 := row_at b1 (by omega) R0
  clear hF0 hO0 hm0 hi0
  go_wp2_with fail
  refine (steps_any f f.toNat 6000000000 s1 hA hp1 hok hF1 hO1 rfl rfl rfl (by omega) (by omega)).mono ?_
  intro e w2 hst
  obtain ⟨rfl, ov, sv, A', c', mb, hblk, hout, hseen, hma, hok2, hlen, hfj, hrb⟩ := steps_out (w1 := w1) hA hst
  clear hst s1 hF1 hO1
  obtain ⟨oA, on, oc, rfl⟩ := own_slice hout
  have R2 : w2.heap[w.heap.size]? = some (Obj.cells #[.int .i64 0, .int .u8 0, .int .i64 0, .slice none 0 0, .int .i64 0, .int .i64 0] 39) := by
    have hlt := lt_of_at R1
    rw [← R1]; exact hfj.fb.block _ hlt (by omega) (by omega) (by omega)
  generalize runV f.toNat m ⟨[], 0, 0, xs, false, []⟩ = fin at *
  have hrg := range_of_row 1 [.int .i64 fin.1.st, .int .u8 fin.1.cd, .int .i64 0, .slice oA on oc, .int .i64 fin.2.steps, .int .i64 fin.2.checks] hblk rfl
  go_wp2_with (first | (refine wpList_load_mid (op := ⟨some 17, _, _, _, _, _⟩) rfl 39 (.tmp 16) rfl (w.heap.size + 1 + 1) 1 rfl [.int .i64 fin.1.st, .int .u8 fin.1.cd, .int .i64 0, .slice oA on oc, .int .i64 fin.2.steps, .int .i64 fin.2.checks] _ hrg Tryd.underlying39 rfl size52 ?_) | (refine wpList_store_row (o := ⟨none, _, _, _, _, _⟩) rfl 39 (.tmp 6) (.tmp 17) rfl w.heap.size _ rfl rfl 39 _ R2 size52 rfl (by simp [Value.oneCell']) ?_))
  exact bodyPost_ret (v := .agg #[.int .i64 fin.1.st, .int .u8 fin.1.cd, .int .i64 0, .slice oA on oc, .int .i64 fin.2.steps, .int .i64 fin.2.checks]) (results_cell_row Tryd.results11 _ _ w.heap.size 39 _ (0, 0) _ rfl (setRow_heap _ w.heap.size _ _ _ _ R2) Tryd.underlying39 rfl size52) rfl
    ⟨_, rfl, own_setRow hout _, mach_setRow hma (by omega) (by omega) _, hok2, hlen, run_frame R0b hz0 b1 hfj _⟩
end Go.Proofs.YtppcbommaddkgaaDoor
namespace Go.Proofs.YtppcbommaddkgaaDoor
open Go.RowKit Go.Maps
set_option linter.unusedVariables false
set_option linter.unusedSimpArgs false
set_option maxRecDepth 10000
open Pm Pc Pl
namespace Pm
abbrev In5 := Int × Int × Int × Int × Int
def in5 (i : In5) : List Value := [.int .i64 i.1, .int .i64 i.2.1, .int .i64 i.2.2.1, .int .i64 i.2.2.2.1, .int .i64 i.2.2.2.2]
def i5S (i : In5) : Int := encS i.1 i.2.1 i.2.2.1 i.2.2.2.1 i.2.2.2.2
def i5W (i : In5) : Int := encW i.1 i.2.1 i.2.2.1 i.2.2.2.1 i.2.2.2.2
def wordB (w : Int) : List Int := [w % 256, w / 256 % 256, w / 65536 % 256, w / 16777216]
def bytesI (i : In5) : List Int := if i5S i = 0 then wordB (i5W i) else []
def bytesOf (l : List In5) : List Int := l.flatMap bytesI
theorem bytesOf_snoc (l : List In5) (k : Nat) (h : k < l.length) : bytesOf (l.take (k + 1)) = bytesOf (l.take k) ++ bytesI (l.getD k (0, 0, 0, 0, 0)) := by
  rw [List.take_succ_eq_append_getElem h, bytesOf, List.flatMap_append]
  simp [bytesOf, List.getD, h]
theorem bytesOf_len (l : List In5) : (bytesOf l).length ≤ 4 * l.length := by
  induction l with
  | nil => simp [bytesOf]
  | cons i l ih =>
    simp only [bytesOf, List.flatMap_cons, List.length_append, List.length_cons] at ih ⊢
    have : (bytesI i).length ≤ 4 := by unfold bytesI; split <;> simp [wordB]
    omega
end Pm
/-- A slice of instructions. -/
def InsAt (w : World) (A : Option Addr) (l : List In5) : Prop := 0 < l.length → ∃ sb, A = some ⟨sb, 0, none⟩ ∧ sb < w.heap.size ∧ ∀ k, k < l.length → w.rangeAt sb (k * 5) (in5 (l.getD k (0, 0, 0, 0, 0)))
theorem InsAt.below {w w' : World} {A : Option Addr} {l : List In5} (h : InsAt w A l) (hb : Below w.heap.size w w') : InsAt w' A l := fun h0 => by
  obtain ⟨sb, h1, h2, h3⟩ := h h0
  exact ⟨sb, h1, Nat.lt_of_lt_of_le h2 hb.size, fun k hk j v hv => (hb.cell (p := ⟨sb, k * 5 + j, none⟩) h2).trans (h3 k hk j v hv)⟩
set_option maxHeartbeats 2000000 in
theorem bytes_any {w : World} {A : Option Addr} {c : Nat} {l : List In5} (hl : l.length ≤ 1048576) (hi : InsAt w A l) :
    Calls Tryd.prog 16 #[.slice A l.length c] w fun e w' => ∃ v, e = .returned v ∧ w'.ownsRow w.heap.size 5 1 v (bytesOf l).length (u8s (bytesOf l)) ∧ Below w.heap.size w w' := by
  obtain ⟨i0, hi0, hz0, hz1, hz2⟩ := info_parts infoU8
  go_enter Tryd.func16, Tryd.ntmps16
  go_wp2
  go_loopw [3, 10] (fun v k wr => ∃ j : Nat, j ≤ l.length ∧ k = .int .i64 j ∧ wr.ownsRow w.heap.size 5 1 v (bytesOf (l.take j)).length (u8s (bytesOf (l.take j))) ∧ Below w.heap.size w wr) (fun _ k _ => l.length - (intOf k).toNat)
  case atStart => exact ⟨0, Nat.zero_le _, rfl, ⟨rfl, .inl ⟨rfl, rfl⟩⟩, Below.refl _ _⟩
  case round =>
    obtain ⟨j, hj, rfl, hown, hb⟩ := hrel
    by_cases hlt : j < l.length
    · obtain ⟨sb, rfl, hsb, hrg⟩ := (hi.below hb) (by omega)
      have hr := hrg j hlt
      have hsn := bytesOf_snoc l j hlt
      have hbl := bytesOf_len (l.take j)
      rw [List.length_take, Nat.min_eq_left (by omega)] at hbl
      have HSN := Lib.hid hsn
      clear hsn hrg
      generalize bytesOf (l.take j) = bs at *
      generalize hin : l.getD j (0, 0, 0, 0, 0) = ins5 at *
      obtain ⟨op, rd, r1, r2, n⟩ := ins5
      clear hin
      have hr' : wr.rangeAt sb (j * 5) [.int .i64 op, .int .i64 rd, .int .i64 r1, .int .i64 r2, .int .i64 n] := hr
      clear hr
      have hdj : decide ((j : Int) < (l.length : Int)) = true := by simp; omega
      have dj0 : (0 : Int) ≤ (j : Int) := by omega
      have dj1 : (j : Int) < (l.length : Int) := by omega
      go_wp2_with ((refine wpList_load_mid (op := ⟨some 13, _, _, _, _, _⟩) rfl 49 (.tmp 12) rfl sb (j * 5) rfl [.int .i64 op, .int .i64 rd, .int .i64 r1, .int .i64 r2, .int .i64 n] _ hr' Tryd.underlying49 rfl sizeInstr ?_))
      refine (renc_any op rd r1 r2 n _).mono ?_
      rintro e w2 ⟨rfl, h2⟩
      have hzw2 : wr.heap.size < w2.heap.size := by have := h2.size; simp only [szA] at this; omega
      have hB0 : Below wr.heap.size wr w2 := ((Below.refl wr.heap.size wr).alloc (Nat.le_refl _) (insB op rd r1 r2 n)).trans (h2.mono (by simp only [szA]; omega))
      have hown2 := ownsRow_at hown fun g o _ hg => below_at hB0 hg
      have hb2 := hb.trans (hB0.mono hb.size)
      have hWr := encW_range op rd r1 r2 n
      have hBI : bytesI (op, rd, r1, r2, n) = if encS op rd r1 r2 n = 0 then wordB (encW op rd r1 r2 n) else [] := rfl
      rw [hBI] at HSN
      clear h2 hB0 hown hb hr' hBI
      generalize encW op rd r1 r2 n = W at *
      generalize hS : encS op rd r1 r2 n = S at *
      clear hS
      by_cases hS0 : S = 0
      · subst hS0
        rw [if_pos rfl] at HSN
        go_wp2_with (at_builtin; refine wpList_append_lies (o := ⟨some 34, _, _, _, _, _⟩) _ rfl (.tmp 21) (.tmp 33) 22 rfl w.heap.size 5 i0 (.int .u8 0) 1 1 Tryd.underlying22 hi0 hz0 hz1 hz2 rfl (by decide) _ _ _ rfl (hown2.alloc _) ⟨w2.heap.size, 0, none⟩ 4 4 [.int .u8 (W % 256), .int .u8 (W / 256 % 256), .int .u8 (W / 65536 % 256), .int .u8 (W / 16777216)] rfl rfl (World.news_of_block (cs := #[.int .u8 (W % 256), .int .u8 (W / 256 % 256), .int .u8 (W / 65536 % 256), .int .u8 (W / 16777216)]) (t := 5) (fr := (0, 0)) (heap_alloc_new w2 _)) (by simp [Value.oneCell']) (by omega) (by unfold maxLen; omega) (by omega) (by have := hb2.size; simp only [szA]; omega) (w2.heap.size + 1) (szA _ _) ?_; intro g cap w3 hown3 hgrow hat hlt3)
        have hb3 : Below w.heap.size w w3 := (hb2.alloc hb2.size (.cells #[.int .u8 (W % 256), .int .u8 (W / 256 % 256), .int .u8 (W / 65536 % 256), .int .u8 (W / 16777216)] 5)).grown hgrow (by simp only [szA]; have := hb2.size; omega) (fun k hk => by
          rcases Nat.lt_or_ge k w.heap.size with hlt' | hge
          · exact absurd hk (own_base hown2 hlt')
          · exact hge)
        have hcat : w3.ownsRow w.heap.size 5 1 (.slice (some ⟨g, 0, none⟩) (bs.length + 4) cap) (bs ++ wordB W).length (u8s (bs ++ wordB W)) := by
          have e1 : u8s (bs ++ wordB W) = u8s bs ++ [.int .u8 (W % 256), .int .u8 (W / 256 % 256), .int .u8 (W / 65536 % 256), .int .u8 (W / 16777216)] := by simp [u8s, wordB]
          have e2 : (bs ++ wordB W).length = bs.length + 4 := by simp [wordB]
          rw [e1, e2]; exact hown3
        go_roundw
        case rel => exact ⟨j + 1, by omega, by go_num, by rw [HSN.out]; exact hcat, hb3⟩
        case measure => simp [intOf]; omega
      · have hSb : (S == 0) = false := by simpa using hS0
        have hSd : decide (S = 0) = false := decide_eq_false hS0
        rw [if_neg hS0, List.append_nil] at HSN
        clear hS0
        go_wp2
        go_roundw
        case rel => exact ⟨j + 1, by omega, by go_num, by rw [HSN.out]; exact hown2, hb2⟩
        case measure => simp [intOf]; omega
    · obtain rfl : j = l.length := by omega
      rw [List.take_of_length_le (Nat.le_refl _)] at hown
      go_wp2
      go_ret
      exact ⟨_, rfl, hown, hb⟩
end Go.Proofs.YtppcbommaddkgaaDoor
namespace Go.Proofs.YtppcbommaddkgaaDoor
open Go.RowKit Go.Maps
set_option linter.unusedVariables false
set_option linter.unusedSimpArgs false
set_option maxRecDepth 10000
open Pm Pc Pl
namespace Pm
theorem bytesOf_range (l : List In5) : ∀ b ∈ bytesOf l, 0 ≤ b ∧ b < 256 := by
  intro b hb
  simp only [bytesOf, List.mem_flatMap] at hb
  obtain ⟨i, -, hb⟩ := hb
  have hr := encW_range i.1 i.2.1 i.2.2.1 i.2.2.2.1 i.2.2.2.2
  unfold bytesI at hb
  split at hb
  · simp only [wordB, i5W, List.mem_cons, List.not_mem_nil, or_false] at hb
    omega
  · cases hb
end Pm
theorem src_own {w : World} {base : Nat} {v : Value} {xs : List Int} (h : w.ownsRow base 5 1 v xs.length (u8s xs)) (hb : ∀ b ∈ xs, 0 ≤ b ∧ b < 256) : ∃ A c, v = .slice A xs.length c ∧ SrcIs w A xs ∧ xs.length ≤ c := by
  rcases h.2 with ⟨rfl, hn⟩ | ⟨g, cap, cur, rfl, hg, hh, hnc, _, hsz, htk⟩
  · exact ⟨none, 0, by rw [hn], ⟨hb, fun h0 => by omega⟩, by omega⟩
  · refine ⟨_, cap, rfl, ⟨hb, fun h0 => ⟨g, 0, rfl, fun j hj => ?_⟩⟩, hnc⟩
    rw [Nat.zero_add, cell_of_row w g j _ _ _ hh]
    have h1 : (u8s xs)[j]? = some (.int .u8 (xs.getD j 0)) := by simp [u8s, hj]
    rw [← htk, List.getElem?_take] at h1
    split at h1
    · simpa using h1
    · cases h1
theorem fj_below {base p q B : Nat} {w w' : World} (h : Fj base p q w w') (h1 : B ≤ base) (h2 : B ≤ w.heap.size) (h3 : B ≤ p) (h4 : B ≤ q) : Below B w w' := ⟨h.fb.os, h.fb.tape, h.fb.output, h.fb.size, fun k hk => h.fb.block k (by omega) (by omega) (by omega) (by omega)⟩
theorem OpsIn.below {w w' : World} (h : OpsIn w) (hb : Below w.heap.size w w') : OpsIn w' := fun o h1 h2 => (hb.cell (p := ⟨0, o, none⟩) (World.block_lt_of_cell? w _ (h o h1 h2))).trans (h o h1 h2)
theorem OpsIn.two {w : World} (h : OpsIn w) (hF : FormsIn w) : 1 < w.heap.size := by
  have a : 0 < w.heap.size := World.block_lt_of_cell? w _ (h 28 (by omega) (by omega))
  have b := hF.1
  omega
def awL : List In5 := [(28, 17, 0, 0, 3), (55, 0, 0, 0, 0)]
def aw0 : Ru := ⟨[], 0, 0, [], false, []⟩
theorem aw_fin : (runV 9 (maNew (bytesOf awL) 64) aw0).1.st = 1 ∧ (runV 9 (maNew (bytesOf awL) 64) aw0).1.cd = 0 ∧ (runV 9 (maNew (bytesOf awL) 64) aw0).2.steps = 2 ∧ (bytesOf awL).length = 8 := by decide +kernel
theorem flat5 (l : List In5) : ∀ k, k < l.length → ∀ j v, (in5 (l.getD k (0, 0, 0, 0, 0)))[j]? = some v → (l.flatMap in5)[k * 5 + j]? = some v := by
  induction l with
  | nil => intro k hk; simp at hk
  | cons i l ih =>
    intro k hk j v hv
    have hj : j < 5 := by
      rcases Nat.lt_or_ge j 5 with h | h
      · exact h
      · rw [List.getElem?_eq_none (by simpa [in5] using h)] at hv; cases hv
    rw [List.flatMap_cons]
    cases k with
    | zero =>
      rw [List.getD_cons_zero] at hv
      rw [List.getElem?_append_left (by simp [in5]; omega)]
      simpa using hv
    | succ k =>
      rw [List.getD_cons_succ] at hv
      rw [List.getElem?_append_right (by simp [in5]; omega)]
      have := ih k (by simpa using hk) j v hv
      rw [← this]
      congr 1
      simp [in5]
      omega
theorem insAt_new (w : World) (l : List In5) (cs : Array Value) (hcs : cs = (l.flatMap in5).toArray) (t : TypeId) : InsAt (w.alloc (.cells cs t)) (some ⟨w.heap.size, 0, none⟩) l := fun _ => ⟨w.heap.size, rfl, by simp, fun k hk j v hv => by
  rw [World.cell?_alloc_new, hcs]
  simpa using flat5 l k hk j v hv⟩
set_option maxHeartbeats 2000000 in
theorem awake3 (w : World) (hF : FormsIn w) (hO : OpsIn w) : Calls Tryd.prog 7 #[] w fun e w' => e = .returned (.bool true) ∧ Below w.heap.size w w' := by
  have h2 := hO.two hF
  have Haw := Lib.hid aw_fin
  go_enter Tryd.func7, Tryd.ntmps7
  go_wp2_with fail
  refine (bytes_any (l := awL) (by decide) (insAt_new w awL _ rfl _)).mono ?_
  rintro e w1 ⟨v, rfl, hown, hb1⟩
  obtain ⟨A, c, rfl, hsrc, -⟩ := src_own hown (bytesOf_range _)
  have hB1 : Below w.heap.size w w1 := ((Below.refl w.heap.size w).alloc (Nat.le_refl _) (.cells #[.int .i64 28, .int .i64 17, .int .i64 0, .int .i64 0, .int .i64 3, .int .i64 55, .int .i64 0, .int .i64 0, .int .i64 0, .int .i64 0] 49)).trans (hb1.mono (by simp))
  have hlen := Haw.out.2.2.2
  have hle : (bytesOf awL).length ≤ 64 := by omega
  clear hb1 hown
  go_wp2_with fail
  refine (new_any (N := 64) hle (by decide) hsrc).mono ?_
  rintro e w2 ⟨rfl, hm, hb2⟩
  have hB2 := hB1.trans (hb2.mono hB1.size)
  have hF2 := hF.keep hB2 (Nat.le_refl _)
  have hO2 := hO.below hB2
  have hz := hB1.size
  clear hb2 hsrc
  go_wp2_with fail
  refine (run_any (A := none) (c := 0) (xs := []) 9 hm (maNew_ok (bytesOf_range _) hle (by decide)) (by omega) (by omega) ⟨fun i => by simp, fun h0 => by simp at h0⟩ (by decide) hF2 hO2 (by decide)).mono ?_
  rintro e w3 ⟨ov, rfl, hov, hm3, -, -, hfj⟩
  obtain ⟨oA, on, oc, rfl⟩ := own_slice hov
  have hB3 := hB2.trans (fj_below hfj hB2.size hB2.size (by omega) (by omega))
  have e1 := Haw.out.1
  have e2 := Haw.out.2.1
  have e3 := Haw.out.2.2.1
  rw [show ((9 : Int).toNat) = 9 from rfl]
  rw [show (⟨[], 0, 0, [], false, []⟩ : Ru) = aw0 from rfl, e1, e2, e3]
  go_wp2
  go_ret
  exact ⟨rfl, hB3.alloc hB3.size _⟩
end Go.Proofs.YtppcbommaddkgaaDoor
namespace Go.Proofs.YtppcbommaddkgaaDoor
open Go.RowKit Go.Maps
set_option linter.unusedVariables false
set_option linter.unusedSimpArgs false
set_option maxRecDepth 10000
open Pm Pc Pl
/-- A machine that a statement made since a world. -/
structure Ks (w0 w : World) (p q : Nat) (m : Ma) : Prop where
  at_ : MachAt w p q m
  ok : m.ok
  forms : FormsIn w
  ops : OpsIn w
  below : Below w0.heap.size w0 w
  pq : p ≠ q
  lp : w0.heap.size ≤ p
  lq : w0.heap.size ≤ q
  two : 1 < w0.heap.size
section
variable {w0 w : World} {p q : Nat} {m : Ma}
theorem Ks.apart (h : Ks w0 w p q m) : Apart w.heap.size p q := ⟨h.pq, h.at_.lp, h.at_.lq, by have := h.two; have := h.lp; omega, by have := h.two; have := h.lq; omega⟩
theorem Ks.one (h : Ks w0 w p q m) : 1 < p ∧ 1 < q := ⟨by have := h.two; have := h.lp; omega, by have := h.two; have := h.lq; omega⟩
theorem Ks.next {w' : World} {m' : Ma} (h : Ks w0 w p q m) (hm : MachAt w' p q m') (hok : m'.ok) (hf : Fj w.heap.size p q w w') : Ks w0 w' p q m' :=
  ⟨hm, hok, h.forms.fj h.apart hf, h.ops.fj h.apart h.one hf, h.below.trans (fj_below hf h.below.size h.below.size h.lp h.lq), h.pq, h.lp, h.lq, h.two⟩
theorem Ks.grow {w' : World} (h : Ks w0 w p q m) (hb : Below w.heap.size w w') : Ks w0 w' p q m :=
  h.next (h.at_.keep (Fr.below (S := []) hb) (by simp) (by simp)) h.ok (Fj.of (Fr.below (S := []) hb) (by simp) (by simp))
theorem fj_p {w' : World} (h : Ks w0 w p q m) (hf : Fr [p] w w') : Fj w.heap.size p q w w' := Fj.of hf (by simp) fun k hk cs => by
  simp only [List.mem_cons, List.not_mem_nil, or_false] at hk
  subst hk
  rw [h.at_.1]; intro e; injection e with e; injection e with _ e; exact absurd e (by decide)
end
namespace Pm
end Pm
end Go.Proofs.YtppcbommaddkgaaDoor
namespace Go.Proofs.YtppcbommaddkgaaDoor
open Go.RowKit Go.Maps
set_option linter.unusedVariables false
set_option linter.unusedSimpArgs false
set_option maxRecDepth 10000
open Pm Pc Pl
namespace Pm
def Bd (R R' : Ru) : Prop := R'.steps = R.steps ∧ R'.checks ≤ R.checks + 1 ∧ R'.seen.length ≤ R.seen.length + 1 ∧ R'.out.length ≤ R.out.length + 1
theorem Bd.refl (R : Ru) : Bd R R := ⟨rfl, Nat.le_succ _, Nat.le_succ _, Nat.le_succ _⟩
theorem bd_note (R : Ru) (a : Ac) : Bd R (R.note a) := by
  unfold Ru.note
  split
  · exact ⟨rfl, Nat.le_succ _, by simp, Nat.le_succ _⟩
  · exact Bd.refl R
theorem bd_call {m : Ma} {R : Ru} {x : Ma × Ru} (h : callV m R = some x) : Bd R x.2 := by
  unfold callV at h
  split at h
  · injection h with h; subst h; exact ⟨rfl, Nat.le_succ _, Nat.le_succ _, by simp⟩
  split at h
  · split at h
    · injection h with h; subst h; exact Bd.refl R
    · injection h with h; subst h; exact ⟨rfl, Nat.le_succ _, Nat.le_succ _, Nat.le_succ _⟩
  split at h
  · injection h with h; subst h; exact Bd.refl R
  split at h
  · injection h with h; subst h; exact Bd.refl R
  · cases h
theorem bd_step {m : Ma} {R : Ru} {x : Ma × Ru} (h : stepV m R = some x) : Bd R x.2 := by
  unfold stepV at h
  split at h
  · unfold doV at h
    split at h
    · injection h with h; subst h; exact Bd.refl R
    split at h
    · injection h with h; subst h
      dsimp only
      split
      · exact ⟨rfl, Nat.le_refl _, Nat.le_succ _, Nat.le_succ _⟩
      · exact Bd.refl R
    split at h
    · split at h
      · injection h with h; subst h; exact bd_note R _
      · cases h
    split at h
    · split at h
      · injection h with h; subst h; exact bd_note R _
      · cases h
    split at h
    · injection h with h; subst h; exact Bd.refl R
    split at h
    · injection h with h; subst h; exact Bd.refl R
    split at h
    · injection h with h; subst h; exact Bd.refl R
    split at h
    · injection h with h; subst h; exact Bd.refl R
    split at h
    · injection h with h; subst h; exact Bd.refl R
    split at h
    · rename_i y hy
      injection h with h; subst h; exact (bd_call hy : Bd R y.2)
    · cases h
  · cases h
theorem bd_run (n : Nat) (m : Ma) (R : Ru) : (runV n m R).2.steps ≤ R.steps + n ∧ (runV n m R).2.checks ≤ R.checks + n ∧ (runV n m R).2.seen.length ≤ R.seen.length + n ∧ (runV n m R).2.out.length ≤ R.out.length + n := by
  induction n generalizing m R with
  | zero => exact ⟨Nat.le_refl _, Nat.le_refl _, Nat.le_refl _, Nat.le_refl _⟩
  | succ n ih =>
    rw [runV]
    split
    · cases hs : stepV m R with
      | none => exact ⟨Nat.le_add_right _ _, Nat.le_add_right _ _, Nat.le_add_right _ _, Nat.le_add_right _ _⟩
      | some x =>
        have h1 := bd_step hs
        have h2 := ih x.1 { x.2 with steps := x.2.steps + 1 }
        obtain ⟨a, b, c, d⟩ := h1
        dsimp only at h2 ⊢
        refine ⟨?_, ?_, ?_, ?_⟩ <;> omega
    · exact ⟨Nat.le_add_right _ _, Nat.le_add_right _ _, Nat.le_add_right _ _, Nat.le_add_right _ _⟩
end Pm
end Go.Proofs.YtppcbommaddkgaaDoor
