/- MachRuns answers true of any arguments, and each argument reads afterwards as it did. No condition but that the arguments are of their Go types; the tables are tied to the program's text. -/
import Derived.Test.YtppcbommaddkgaaDoorMrgV
import Derived.Test.YtppcbommaddkgaaDoorMrgM
import Derived.Test.YtppcbommaddkgaaDoorMrgT
import Derived.Test.YtppcbommaddkgaaDoorTie
import Derived.Test.YtppcbommaddkgaaDoorCards
import Derived.SevenTiedAt
import Derived.Laws.IdiomArrays
namespace Go.Proofs.YtppcbommaddkgaaDoor
open Go.RowKit Go.Maps
set_option linter.unusedVariables false
set_option linter.unusedSimpArgs false
set_option maxRecDepth 10000
open Pm Pc Pl
theorem own_lit8 {Y W : World} (h : Below Y.heap.size Y W) : (W.alloc (.cells #[] 5)).ownsRow Y.heap.size 5 1 (.slice (some ⟨W.heap.size, 0, none⟩) 0 0) 0 [] := World.ownsRow_lit W #[] 0 h.size (by decide) rfl
theorem own_g {w : World} {B n c : Nat} {A : Option Addr} {xs : List Int} (h : w.ownsRow B 5 1 (.slice A n c) xs.length (u8s xs)) (hB : B < w.heap.size) (hn : n = xs.length) : ∃ G, B ≤ G ∧ G < w.heap.size ∧ (0 < n → A = some ⟨G, 0, none⟩ ∧ ∃ cur, w.heap[G]? = some (.cells cur 5) ∧ ∀ j, j < n → ∃ v : Int, cur[j]? = some (.int .u8 v)) := by
  rcases h.2 with ⟨hv, h0⟩ | ⟨g, cap, cur, hv, hg, hh, hnc, _, hsz, htk⟩
  · exact ⟨B, Nat.le_refl _, hB, fun h1 => by omega⟩
  · injection hv with h1 h2 h3
    refine ⟨g, hg, lt_of_at hh, fun _ => ⟨h1, cur, hh, fun j hj => ?_⟩⟩
    have hj2 := u8s_at xs j (by omega)
    rw [List.getElem?_toArray] at hj2
    rw [← htk, List.getElem?_take] at hj2
    split at hj2
    · exact ⟨_, by simpa using hj2⟩
    · cases hj2
def Inc (w wr : World) (G n : Nat) : Prop := Fr [G] w wr ∧ (0 < n → ∃ cur, wr.heap[G]? = some (.cells cur 5) ∧ ∀ j, j < n → ∃ v : Int, cur[j]? = some (.int .u8 v))
theorem Inc.step {w wr : World} {G n i : Nat} (h : Inc w wr G n) (hi : i < n) (v : Int) : Inc w (wr.setCell ⟨G, i, none⟩ (.int .u8 v)) G n := by
  obtain ⟨cur, h1, h2⟩ := h.2 (by omega)
  refine ⟨h.1.trans (Fr.set _ _ _ _ (by simp)), fun _ => ⟨cur.setIfInBounds i (.int .u8 v), heap_setCell_same _ _ _ _ _ _ h1, fun j hj => ?_⟩⟩
  obtain ⟨u, hu⟩ := h2 j hj
  by_cases hij : i = j
  · subst hij
    have hlt : i < cur.size := by
      rcases Nat.lt_or_ge i cur.size with h | h
      · exact h
      · rw [Array.getElem?_eq_none h] at hu; cases hu
    exact ⟨v, by simp [hlt]⟩
  · exact ⟨u, by rw [Array.getElem?_setIfInBounds_ne hij]; exact hu⟩
theorem in52 (i : Nat) : 0 ≤ [(5 : Int), 200].getD i 0 ∧ [(5 : Int), 200].getD i 0 < 256 := by
  have h : i = 0 ∨ i = 1 ∨ 2 ≤ i := by omega
  rcases h with rfl | rfl | h
  · decide
  · decide
  · obtain ⟨k, rfl⟩ : ∃ k, i = k + 2 := ⟨i - 2, by omega⟩
    simp
theorem in52c {X : World} {b : Nat} (h : X.heap[b]? = some (Obj.cells #[.int .u8 5, .int .u8 200] 5)) (j : Nat) (hj : j < [(5 : Int), 200].length) : X.cell? ⟨b, 0 + j, none⟩ = some (.int .u8 ([(5 : Int), 200].getD j 0)) := by
  have h2 : j = 0 ∨ j = 1 := by simp at hj; omega
  rcases h2 with rfl | rfl
  · rw [cell_of_row _ _ (0 + 0) _ _ _ h]; rfl
  · rw [cell_of_row _ _ (0 + 1) _ _ _ h]; rfl
theorem ks_jump2 {w0 w : World} {p q : Nat} {m : Ma} (h : Ks w0 w p q m) (v : Int) (hv : 0 ≤ v ∧ v < 18446744073709551616) : Calls Tryd.prog 15 #[.pointer (some ⟨p, 0, none⟩), .int .u64 v] w fun e w' => e = .returned (.tuple #[]) ∧ Ks w0 w' p q { m with pl := v } ∧ Fr [p] w w' := by
  have c := h.at_.cpl h.ok.1
  have cf := h.at_.fr 33
  go_enter Tryd.func15, Tryd.ntmps15
  go_wp2
  go_end0
  exact ⟨rfl, h.next (h.at_.setPl h.ok.1 h.pq v) (Ma.pl_ok h.ok hv) (fj_p h (Fr.set (S := [p]) w p 33 _ (by simp))), Fr.set (S := [p]) w p 33 _ (by simp)⟩
theorem kr_run2 {w0 w : World} {p q : Nat} {m : Ma} {A : Option Addr} {c : Nat} (h : Ks w0 w p q m) (hi : InpIs w w.heap.size p q A [5, 200]) (hc : 2 ≤ c) (f : Int) (hf : f ≤ 300) :
    Calls Tryd.prog 11 #[.pointer (some ⟨p, 0, none⟩), .slice A 2 c, .int .i64 f] w fun e w' => ∃ oA on oc, e = .returned (.agg #[.int .i64 (runV f.toNat m ⟨[], 0, 0, [5, 200], true, []⟩).1.st, .int .u8 (runV f.toNat m ⟨[], 0, 0, [5, 200], true, []⟩).1.cd, .int .i64 0, .slice oA on oc, .int .i64 (runV f.toNat m ⟨[], 0, 0, [5, 200], true, []⟩).2.steps, .int .i64 (runV f.toNat m ⟨[], 0, 0, [5, 200], true, []⟩).2.checks]) ∧ w'.ownsRow w.heap.size 5 1 (.slice oA on oc) (runV f.toNat m ⟨[], 0, 0, [5, 200], true, []⟩).2.out.length (u8s (runV f.toNat m ⟨[], 0, 0, [5, 200], true, []⟩).2.out) ∧ Ks w0 w' p q (runV f.toNat m ⟨[], 0, 0, [5, 200], true, []⟩).1 ∧ Fj w.heap.size p q w w' := by
  have hsh := (shf_run f.toNat m ⟨[], 0, 0, [], false, []⟩ ⟨[], 0, 0, [5, 200], true, []⟩ rfl).1
  rw [show shf ⟨[], 0, 0, [], false, []⟩ ⟨[], 0, 0, [5, 200], true, []⟩ = ⟨[], 0, 0, [5, 200], false, []⟩ from rfl] at hsh
  have hr := run_any (A := A) (c := c) (xs := [5, 200]) f h.at_ h.ok h.pq h.one hi hc h.forms h.ops (by omega)
  rw [hsh] at hr
  generalize runV f.toNat m ⟨[], 0, 0, [5, 200], true, []⟩ = fin at *
  refine hr.mono ?_
  rintro e w' ⟨ov, rfl, hov, hm, hok, -, hfj⟩
  obtain ⟨oA, on, oc, rfl⟩ := own_slice hov
  have e1 : (shf ⟨[], 0, 0, [], false, []⟩ fin.2).steps = fin.2.steps := Nat.zero_add _
  have e2 : (shf ⟨[], 0, 0, [], false, []⟩ fin.2).checks = fin.2.checks := Nat.zero_add _
  exact ⟨oA, on, oc, by rw [e1, e2], hov, h.next hm hok hfj, hfj⟩
set_option maxRecDepth 100000 in
set_option maxHeartbeats 8000000 in
theorem machRuns_in (HG : GoAll) (n0 n1 n2 : Int) (xs ys : List Int) (A A1 : Option Addr) (c c1 : Nat) (w : World) (hr0 : -9223372036854775808 ≤ n0 ∧ n0 < 9223372036854775808) (hr1 : -9223372036854775808 ≤ n1 ∧ n1 < 9223372036854775808) (hr2 : -9223372036854775808 ≤ n2 ∧ n2 < 9223372036854775808) (hs : SrcIs w A xs) (hnil : A = none → c = 0) (hy : U64s w A1 ys) (hF : FormsIn w) (hO : OpsIn w) (h2000 : xs.length ≤ 2000) (h40 : ys.length ≤ 40) :
    Calls Tryd.prog 3 #[.slice A xs.length c, .slice A1 ys.length c1, .agg #[.int .i64 n0, .int .i64 n1, .int .i64 n2]] w fun e w' => e = .returned (.bool true) ∧ Below w.heap.size w w' := by
  have h2 := hO.two hF
  have hd1 : decide (2000 < (xs.length : Int)) = false := decide_eq_false (by omega)
  have hd2 : decide (40 < (ys.length : Int)) = false := decide_eq_false (by omega)
  go_enter Tryd.func3, Tryd.ntmps3
  go_wp2_with fail
  refine (awake3 _ (hF.keep (bw_alloc (Below.refl _ _) _) (Nat.le_refl _)) (hO.below (bw_alloc (Below.refl _ _) _))).mono ?_
  rintro e w1 ⟨rfl, b1⟩
  have b1' : Below w.heap.size w w1 := (bw_alloc (Below.refl w.heap.size w) _).trans (b1.mono (by simp))
  have t5 := row_at b1 (by simp) (heap_alloc_new w _)
  have q0 : w1.cell? ⟨w.heap.size, 0, none⟩ = some (.int .i64 n0) := by rw [cell_of_row _ _ 0 _ _ _ t5]; rfl
  obtain ⟨K, hK, hk1⟩ : ∃ K : Nat, K < 300 ∧ wrap64 ((IntKind.u64.wrap n0).tmod 300) = (K : Int) := by
    refine ⟨(wrap64 ((IntKind.u64.wrap n0).tmod 300)).toNat, ?_, ?_⟩
    all_goals
      have h0 := (u64w n0).1
      rw [Int.tmod_eq_emod_of_nonneg h0]
      simp only [wrap64]
      omega
  have hF1 := hF.keep b1' (Nat.le_refl _)
  have hO1 := hO.below b1'
  have hsA := hs.below (bw_alloc b1' (Obj.cells #[] 5))
  have HSA := Lib.hid hsA.2
  have HOL := Lib.hid (own_lit8 (Y := w1) (W := w1) (Below.refl w1.heap.size w1))
  have HS1 : Hid (∀ W, Below w.heap.size w W → SrcIs W A xs) := Lib.hid fun W hW => hs.below hW
  have hxr := hs.1
  clear hsA b1 hs
  go_wp2_with (first
    | (at_builtin; refine app_u8 (o := ⟨some 43, _, _, _, _, _⟩) rfl (.tmp 41) (.tmp 42) rfl w1.heap.size xs.length c [] xs _ rfl HOL.out A rfl rfl HSA.out hnil (by simp; omega) (by simp only [szA]; omega) ?_; intro v3 w3 hown3 hb3; rw [List.nil_append] at hown3; obtain ⟨A3, c3, rfl, hs3, -⟩ := src_own hown3 hxr)
    | fail)
  have hB3 : Below w.heap.size w w3 := (bw_alloc b1' (Obj.cells #[] 5)).trans (hb3.mono b1'.size)
  have hz3 : w1.heap.size + 1 ≤ w3.heap.size := by have := hb3.size; simp only [szA] at this; exact this
  have hsz1 : w.heap.size + 1 ≤ w1.heap.size := lt_of_at t5
  obtain ⟨G, hG1, hG2, hG3⟩ := own_g hown3 hz3 rfl
  have T5 : Hid (w3.heap[w.heap.size]? = some (.cells #[.int .i64 n0, .int .i64 n1, .int .i64 n2] 24)) := Lib.hid ((hb3.block _ (by omega)).trans ((Below.heap_alloc _ _ _ (lt_of_at t5)).trans t5))
  have HN := Lib.hid (ks_new2 (w0 := w) (N := xs.length + K) (c := c3) (by omega) (by omega) hs3 (hF.keep hB3 (Nat.le_refl _)) (hO.below hB3) hB3 h2 (n := (xs.length : Int) + K) (by omega))
  have HB3 := Lib.hid hB3
  have HG3 := Lib.hid hG3
  have HY := Lib.hid hy
  clear HSA HOL hb3 hown3 hs3 hF1 hO1 b1' t5 q0 hB3 hG3 hy hnil
  with_reducible refine HN.out.mono ?_
  rintro e w5 ⟨rfl, k5, b5, z5⟩
  have HN2 := Lib.hid (rnew2 (w := w5) (A := A) (c := c) (N := xs.length + K) (k := xs.length) (by omega) (by omega) (HS1.out w5 (HB3.out.trans (b5.mono HB3.out.size))) (n := (xs.length : Int) + K) (by omega) rfl)
  have K5 := Lib.hid k5; have B5 := Lib.hid b5
  clear k5 b5 HN HS1
  go_wp2_with fail
  with_reducible refine HN2.out.mono ?_
  rintro e w6 ⟨rfl, r6, b6⟩
  have k6 := K5.out.grow b6
  have hz5 := K5.out.at_.lp
  have hz56 := b6.size
  have hm0 := k6.ok
  have hz := mcs_size hm0.1 (w5.heap.size + 1)
  have ha := mcs_all (maNew xs (xs.length + K)) (w5.heap.size + 1)
  have b56 := B5.out.trans (b6.mono B5.out.size)
  have HY6 : Hid (U64s w6 A1 ys) := Lib.hid (HY.out.below (HB3.out.trans (b56.mono HB3.out.size)))
  have hyl : ∀ g o, 0 < ys.length → A1 = some ⟨g, o, none⟩ → g < w.heap.size := fun g o h0 he => by
    obtain ⟨g', o', he', hg', _⟩ := HY.out.2 h0
    rw [he] at he'; injection he' with he'; injection he' with e1 e2; omega
  have hw3 := HB3.out.size
  generalize hM : maNew xs (xs.length + K) = M at *
  have D7' : Dm w (w6.alloc (Obj.cells (mcs M (w5.heap.size + 1)) 34)) w6.heap.size (w5.heap.size + 1) M := ⟨heap_alloc_new w6 _, row_at (bw_alloc (Below.refl w6.heap.size w6) _) (lt_of_at r6) r6, by omega, by omega⟩
  have K7 := Lib.hid (k6.grow (bw_alloc (Below.refl w6.heap.size w6) (Obj.cells (mcs M (w5.heap.size + 1)) 34)))
  have b37 := b56.trans ((bw_alloc (Below.refl w6.heap.size w6) (Obj.cells (mcs M (w5.heap.size + 1)) 34)).mono (Nat.le_trans B5.out.size hz56))
  have T7 := Lib.hid (row_at b37 (lt_of_at T5.out) T5.out)
  have G7 : Hid (0 < xs.length → A3 = some ⟨G, 0, none⟩ ∧ ∃ cur, (w6.alloc (Obj.cells (mcs M (w5.heap.size + 1)) 34)).heap[G]? = some (.cells cur 5) ∧ ∀ j, j < xs.length → ∃ v : Int, cur[j]? = some (.int .u8 v)) := Lib.hid fun h0 => by
    obtain ⟨h1, cur, h2, h3⟩ := HG3.out h0
    exact ⟨h1, cur, row_at b37 hG2 h2, h3⟩
  have D7 := Lib.hid D7'
  have hr6 := lt_of_at r6
  generalize hcs : mcs M (w5.heap.size + 1) = cs at *
  have HCS := Lib.hid hcs; have HZ := Lib.hid hz
  have HX := Lib.hid (heap_alloc_new w6 (Obj.cells cs 34))
  have hsz7 : (w6.alloc (Obj.cells cs 34)).heap.size = w6.heap.size + 1 := szA _ _
  clear hcs hz hM r6 b6 k6 HN2 D7' b37 T5 HG3 b56 HY
  go_wp2_with (first
    | ((with_reducible refine st36n w6.heap.size cs ?_ ?_ ?_ ?_ HZ.out ha ?_); rfl; rfl; rfl; rfl)
    | fail)
  have HY7 := Lib.hid (HY6.out.below (bw_alloc (Below.refl w6.heap.size w6) (Obj.cells cs 34)))
  generalize w6.alloc (Obj.cells cs 34) = w7 at *
  go_loopw [68] (fun k wr => ∃ i : Nat, i ≤ xs.length ∧ k = .int .i64 i ∧ Inc w7 wr G xs.length) (fun k _ => xs.length - (intOf k).toNat)
  case atStart => exact ⟨0, Nat.zero_le _, rfl, Fr.refl _ _, fun h0 => (G7.out h0).2⟩
  case round =>
    obtain ⟨i, hi, rfl, hinc⟩ := hrel
    by_cases hlt : i < xs.length
    · obtain ⟨hA3, _⟩ := G7.out (by omega)
      subst hA3
      obtain ⟨cur, h1, h2⟩ := hinc.2 (by omega)
      obtain ⟨v, hv⟩ := h2 i hlt
      have hc : wr.cell? ⟨G, i, none⟩ = some (.int .u8 v) := by rw [cell_of_row _ _ i _ _ _ h1]; exact hv
      have hf : wr.frozen? ⟨G, i, none⟩ = false := frozen_of_row _ _ i _ _ h1
      have HN := Lib.hid (fun x => hinc.step hlt x)
      clear h1 h2 hv hinc
      go_wp2_with fail
      go_roundw
      case rel => exact ⟨i + 1, by omega, by go_num, HN.out _⟩
      case measure => simp [intOf]; omega
    · obtain rfl : i = xs.length := by omega
      have f7 := hinc.1
      have k8 := ks_far K7.out (s := G) (by omega) (by omega) f7
      have d8 := D7.out.fr f7 (by omega) (by omega)
      have t8 := f7.at_ T7.out (by simp; omega)
      have hset := lset_any (q2 := w5.heap.size + 1) (c := c1) (n := ys.length) (A := A1) k8 HY6.out.1 h40 rfl (fun h0 => by
        obtain ⟨g, o, he, hg, hc⟩ := HY7.out.2 h0
        have hgw := hyl g o h0 he
        have := f7.size
        exact ⟨g, o, he, by omega, by omega, fun j hj => (World.cell?_of_block (a := ⟨g, o + j, none⟩) (f7.block g (by omega) (by simp; omega))).trans (hc j hj)⟩)
      rw [HCS.out] at hset
      have r8 : wr.heap[w6.heap.size]? = some (.cells cs 34) := by have := d8.row; rw [HCS.out] at this; exact this
      have hz8 : w6.heap.size + 1 ≤ wr.heap.size := by have := f7.size; omega
      have K8 := Lib.hid k8; have D8 := Lib.hid d8; have T8 := Lib.hid t8; have R8 := Lib.hid r8
      clear k8 d8 t8 r8 f7 hinc hi hlt G7 T7 D7 K7 HX HY6 HY7
      go_wp2_with (first
        | ((with_reducible refine ld36 w6.heap.size cs ?_ ?_ HZ.out ?_); rfl; exact R8.out)
        | fail)
      refine hset.mono ?_
      rintro e w8 ⟨rfl, k9, f8⟩
      have d9 := D8.out.fr f8 (by omega) (by omega)
      have t9 := f8.at_ T8.out (by simp; omega)
      have hmem2 := (setN_mem M ys ys.length).1
      have hz9 : w6.heap.size + 1 ≤ w8.heap.size := by have := f8.size; omega
      have r9 : w8.heap[w6.heap.size]? = some (.cells cs 34) := by have := d9.row; rw [HCS.out] at this; exact this
      have hM2ok := k9.ok
      generalize hM2 : setN M ys ys.length = M2 at *
      have m9 : w8.heap[w5.heap.size + 1]? = some (.cells (u8s M2.mem).toArray 5) := by rw [hmem2]; exact d9.mem
      have hz2 := mcs_size hM2ok.1 (w5.heap.size + 1)
      have ha2 := mcs_all M2 (w5.heap.size + 1)
      have k10 : Ks w (w8.setRow w6.heap.size (mcs M2 (w5.heap.size + 1))) (w3.heap.size + 1) w3.heap.size M2 := ks_far k9 (by omega) (by omega) (fr_setRow _ _ _)
      have d10 : Dm w (w8.setRow w6.heap.size (mcs M2 (w5.heap.size + 1))) w6.heap.size (w5.heap.size + 1) M2 := ⟨setRow_heap _ _ _ _ _ _ r9, (setRow_other _ _ _ _ (by omega)).trans m9, by omega, by omega⟩
      have t10 : (w8.setRow w6.heap.size (mcs M2 (w5.heap.size + 1))).heap[w.heap.size]? = some (.cells #[.int .i64 n0, .int .i64 n1, .int .i64 n2] 24) := (setRow_other _ _ _ _ (by omega)).trans t9
      have hz10 : (w8.setRow w6.heap.size (mcs M2 (w5.heap.size + 1))).heap.size = w8.heap.size := by simp [World.setRow]
      generalize hcs2 : mcs M2 (w5.heap.size + 1) = cs2 at hz2 ha2 k10 d10 t10 hz10 ⊢
      have K10 := Lib.hid k10; have D10 := Lib.hid d10; have T10 := Lib.hid t10; have HZ2 := Lib.hid hz2; have R9 := Lib.hid r9
      clear k10 d10 t10 hz2 r9 d9 t9 k9 f8 m9 hset hM2 hmem2 K8 D8 T8 R8 hcs2
      go_wp2_with (first
        | ((with_reducible refine st36 w6.heap.size cs2 cs ?_ ?_ R9.out HZ.out HZ2.out ha2 ?_); rfl; rfl)
        | fail)
      generalize w8.setRow w6.heap.size cs2 = w10 at *
      have hz10' : w6.heap.size + 1 ≤ w10.heap.size := by omega
      clear hz10
      go_loopw [14] (fun k wx => ∃ (j : Nat) (m : Ma), 1 ≤ j ∧ j ≤ 3 ∧ k = .int .i64 j ∧ Ks w wx (w3.heap.size + 1) w3.heap.size m ∧ Dm w wx w6.heap.size (w5.heap.size + 1) m ∧ wx.heap[w.heap.size]? = some (.cells #[.int .i64 n0, .int .i64 n1, .int .i64 n2] 24)) (fun k _ => 3 - (intOf k).toNat)
      case atStart => exact ⟨1, M2, by omega, by omega, rfl, K10.out, D10.out, T10.out⟩
      case round =>
        clear K10 D10 T10 HZ2 ha2
        rename World => wx
        obtain ⟨j, m, hj1, hj3, rfl, kx, dx, tx⟩ := hrel
        by_cases hlt : j ≤ 2
        · have KX := Lib.hid kx; have DX := Lib.hid dx; have TX := Lib.hid tx
          obtain ⟨nv, hnv, hcell⟩ : ∃ nv : Int, (-9223372036854775808 ≤ nv ∧ nv < 9223372036854775808) ∧ wx.cell? ⟨w.heap.size, j, none⟩ = some (.int .i64 nv) := by
            have hj : j = 1 ∨ j = 2 := by omega
            rcases hj with rfl | rfl
            · exact ⟨n1, hr1, by rw [cell_of_row _ _ 1 _ _ _ tx]; rfl⟩
            · exact ⟨n2, hr2, by rw [cell_of_row _ _ 2 _ _ _ tx]; rfl⟩
          clear kx dx tx
          have hbi := bw_alloc (Below.refl wx.heap.size wx) (Obj.cells #[.int .u8 5, .int .u8 200] 5)
          have k1 := KX.out.grow hbi
          have d1 := DX.out.below hbi
          have t1 := row_at hbi (lt_of_at TX.out) TX.out
          have i1 := heap_alloc_new wx (Obj.cells #[.int .u8 5, .int .u8 200] 5)
          have zs1 : w6.heap.size < wx.heap.size := lt_of_at DX.out.row
          have zq1 : w5.heap.size + 1 < wx.heap.size := lt_of_at DX.out.mem
          have zp1 : w3.heap.size + 1 < wx.heap.size := KX.out.at_.lp
          have sz1 : (wx.alloc (Obj.cells #[.int .u8 5, .int .u8 200] 5)).heap.size = wx.heap.size + 1 := szA _ _
          have HRUN := Lib.hid (fun f hf => kr_run2 (A := some ⟨wx.heap.size, 0, none⟩) (c := 2) k1 ⟨fun i => in52 i, fun _ => ⟨wx.heap.size, 0, rfl, by omega, by omega, by omega, fun j hj => in52c i1 j hj⟩⟩ (Nat.le_refl _) f hf)
          have D1 := Lib.hid d1; have T1 := Lib.hid t1; have I1 := Lib.hid i1
          clear k1 d1 t1 i1 hbi
          go_wp2_with fail
          · with_reducible refine (HRUN.out _ (by omega)).mono ?_
            rintro e w11 ⟨oA, on, oc, rfl, ov, k11, fj11⟩
            have HGO : Hid (∀ X A', Rd X X.heap.size (w5.heap.size + 1) m ⟨[], 0, 0, [5, 200], true, []⟩ A' 2 (.slice none 0 0) (.slice none 0 0) → Calls Tryd.prog 12 #[.agg (mcs m (w5.heap.size + 1)), .slice A' 2 2, .int .i64 300] X (RGo X X.heap.size (w5.heap.size + 1) (runV (Int.toNat 300) m ⟨[], 0, 0, [5, 200], true, []⟩))) := Lib.hid fun X A' h => HG X X.heap.size (w5.heap.size + 1) m A' 2 2 [5, 200] 300 _ rfl (by omega) h rfl
            have hbd := bd_run (Int.toNat 300) m ⟨[], 0, 0, [5, 200], true, []⟩
            generalize hfin : runV (Int.toNat 300) m ⟨[], 0, 0, [5, 200], true, []⟩ = fin at *
            have z11 := fj11.fb.size
            rw [sz1] at z11
            have d11 := D1.out.fj fj11 (by omega) (by omega)
            have t11 := row_fj T1.out fj11 (by omega) (by omega)
            have i11 := row_fj I1.out fj11 (by omega) (by omega)
            rw [sz1] at ov
            have hb14 := bw_alloc (bw_alloc (bw_alloc (Below.refl w11.heap.size w11) (Obj.cells #[.int .i64 fin.1.st, .int .u8 fin.1.cd, .int .i64 0, .slice oA on oc, .int .i64 fin.2.steps, .int .i64 fin.2.checks] 39)) (Obj.cells #[.int .i64 0, .int .u8 0, .int .i64 0, .slice none 0 0, .int .i64 0, .int .i64 0] 39)) (Obj.cells #[.int .u8 5, .int .u8 200] 5)
            have k14 := k11.grow hb14
            have d14 := d11.below hb14
            have t14 := row_at hb14 (lt_of_at t11) t11
            have i14 := row_at hb14 (lt_of_at i11) i11
            have ov14 := own_bw ov hb14
            have ra14 := a3_0 w11 (Obj.cells #[.int .i64 fin.1.st, .int .u8 fin.1.cd, .int .i64 0, .slice oA on oc, .int .i64 fin.2.steps, .int .i64 fin.2.checks] 39) (Obj.cells #[.int .i64 0, .int .u8 0, .int .i64 0, .slice none 0 0, .int .i64 0, .int .i64 0] 39) (Obj.cells #[.int .u8 5, .int .u8 200] 5)
            have rb14 := a3_1 w11 (Obj.cells #[.int .i64 fin.1.st, .int .u8 fin.1.cd, .int .i64 0, .slice oA on oc, .int .i64 fin.2.steps, .int .i64 fin.2.checks] 39) (Obj.cells #[.int .i64 0, .int .u8 0, .int .i64 0, .slice none 0 0, .int .i64 0, .int .i64 0] 39) (Obj.cells #[.int .u8 5, .int .u8 200] 5)
            have rc14 := a3_2 w11 (Obj.cells #[.int .i64 fin.1.st, .int .u8 fin.1.cd, .int .i64 0, .slice oA on oc, .int .i64 fin.2.steps, .int .i64 fin.2.checks] 39) (Obj.cells #[.int .i64 0, .int .u8 0, .int .i64 0, .slice none 0 0, .int .i64 0, .int .i64 0] 39) (Obj.cells #[.int .u8 5, .int .u8 200] 5)
            have z14 : (((w11.alloc (Obj.cells #[.int .i64 fin.1.st, .int .u8 fin.1.cd, .int .i64 0, .slice oA on oc, .int .i64 fin.2.steps, .int .i64 fin.2.checks] 39)).alloc (Obj.cells #[.int .i64 0, .int .u8 0, .int .i64 0, .slice none 0 0, .int .i64 0, .int .i64 0] 39)).alloc (Obj.cells #[.int .u8 5, .int .u8 200] 5)).heap.size = w11.heap.size + 3 := by simp only [szA]
            have r11 := d11.row
            have hzm := mcs_size KX.out.ok.1 (w5.heap.size + 1)
            generalize hcsm : mcs m (w5.heap.size + 1) = csm at *
            have HR11 := Lib.hid r11; have HZM := Lib.hid hzm; have HCSM := Lib.hid hcsm
            clear hcsm r11 hzm hb14 k11 d11 t11 i11 ov fj11 HRUN
            go_wp2_with (first
              | ((with_reducible refine ld36 w6.heap.size csm ?_ ?_ HZM.out ?_); rfl; exact (Below.heap_alloc _ _ _ (by simp only [szA]; omega)).trans ((Below.heap_alloc _ _ _ (by omega)).trans HR11.out))
              | fail)
            generalize (((w11.alloc (Obj.cells #[.int .i64 fin.1.st, .int .u8 fin.1.cd, .int .i64 0, .slice oA on oc, .int .i64 fin.2.steps, .int .i64 fin.2.checks] 39)).alloc (Obj.cells #[.int .i64 0, .int .u8 0, .int .i64 0, .slice none 0 0, .int .i64 0, .int .i64 0] 39)).alloc (Obj.cells #[.int .u8 5, .int .u8 200] 5)) = X14 at *
            have hR14 : Rd X14 X14.heap.size (w5.heap.size + 1) m ⟨[], 0, 0, [5, 200], true, []⟩ (some ⟨w11.heap.size + 1 + 1, 0, none⟩) 2 (.slice none 0 0) (.slice none 0 0) :=
              ⟨d14.mem, KX.out.ok, ⟨rfl, .inl ⟨rfl, rfl⟩⟩, ⟨rfl, .inl ⟨rfl, rfl⟩⟩, ⟨fun i => in52 i, fun _ => ⟨w11.heap.size + 1 + 1, 0, rfl, by omega, by omega, by omega, fun j hj => in52c rc14 j hj⟩⟩, Nat.le_refl _, rfl, lt_of_at d14.mem, Nat.le_refl _, by decide, by decide⟩
            refine (HGO.out X14 (some ⟨w11.heap.size + 1 + 1, 0, none⟩) hR14).mono ?_
            rintro e w15 ⟨gA, gc, oA', on', oc', sA', sn', sc', rfl, hRd, hFw⟩
            have hfr := hFw.fr
            have k15 := ks_far k14 (s := w5.heap.size + 1) (by omega) (by omega) hfr
            have r14 := d14.row
            rw [HCSM.out] at r14
            have r15 := hfr.at_ r14 (by simp; omega)
            have t15 := hfr.at_ t14 (by simp; omega)
            have i15 := hfr.at_ i14 (by simp; omega)
            have ra15 := hfr.at_ ra14 (by simp; omega)
            have rb15 := hfr.at_ rb14 (by simp; omega)
            have ov15 := ownsRow_at2 ov14 fun g cur hg hc => hfr.at_ hc (by simp; omega)
            have z15 : w11.heap.size + 3 ≤ w15.heap.size := by have := hfr.size; omega
            have hz3 := mcs_size hRd.ok.1 (w5.heap.size + 1)
            have ha3 := mcs_all fin.1 (w5.heap.size + 1)
            generalize hcs3 : mcs fin.1 (w5.heap.size + 1) = cs3 at hz3 ha3 ⊢
            have hW : ∀ g, g ≠ w6.heap.size → g ≠ w11.heap.size + 1 → ((w15.setRow w6.heap.size cs3).setRow (w11.heap.size + 1) (#[.int .i64 fin.1.st, .int .u8 fin.1.cd, .int .i64 0, .slice oA' on' oc', .int .i64 fin.2.steps, .int .i64 fin.2.checks] : Array Value)).heap[g]? = w15.heap[g]? := fun g h1 h2 => (setRow_other _ _ _ _ h2).trans (setRow_other _ _ _ _ h1)
            have zW : ((w15.setRow w6.heap.size cs3).setRow (w11.heap.size + 1) (#[.int .i64 fin.1.st, .int .u8 fin.1.cd, .int .i64 0, .slice oA' on' oc', .int .i64 fin.2.steps, .int .i64 fin.2.checks] : Array Value)).heap.size = w15.heap.size := by simp [World.setRow]
            have kW : Ks w ((w15.setRow w6.heap.size cs3).setRow (w11.heap.size + 1) (#[.int .i64 fin.1.st, .int .u8 fin.1.cd, .int .i64 0, .slice oA' on' oc', .int .i64 fin.2.steps, .int .i64 fin.2.checks] : Array Value)) (w3.heap.size + 1) w3.heap.size fin.1 := ks_far (ks_far k15 (s := w6.heap.size) (by omega) (by omega) (fr_setRow _ _ _)) (s := w11.heap.size + 1) (by omega) (by omega) (fr_setRow _ _ _)
            have memW := (hW (w5.heap.size + 1) (by omega) (by omega)).trans hRd.mem
            have rowW : ((w15.setRow w6.heap.size cs3).setRow (w11.heap.size + 1) (#[.int .i64 fin.1.st, .int .u8 fin.1.cd, .int .i64 0, .slice oA' on' oc', .int .i64 fin.2.steps, .int .i64 fin.2.checks] : Array Value)).heap[w6.heap.size]? = some (.cells cs3 34) := (setRow_other _ _ _ _ (by omega)).trans (setRow_heap _ _ _ _ _ _ r15)
            have raW := (hW w11.heap.size (by omega) (by omega)).trans ra15
            have rbW : ((w15.setRow w6.heap.size cs3).setRow (w11.heap.size + 1) (#[.int .i64 fin.1.st, .int .u8 fin.1.cd, .int .i64 0, .slice oA' on' oc', .int .i64 fin.2.steps, .int .i64 fin.2.checks] : Array Value)).heap[w11.heap.size + 1]? = some (.cells #[.int .i64 fin.1.st, .int .u8 fin.1.cd, .int .i64 0, .slice oA' on' oc', .int .i64 fin.2.steps, .int .i64 fin.2.checks] 39) := setRow_heap _ _ _ _ _ _ ((setRow_other _ _ _ _ (by omega)).trans rb15)
            have tW := (hW w.heap.size (by omega) (by omega)).trans t15
            have iW := (hW wx.heap.size (by omega) (by omega)).trans i15
            have ovW := ownsRow_at2 ov15 fun g cur hg hc => (hW g (by omega) (by rintro rfl; rw [rb15] at hc; injection hc with hc; injection hc with _ hc; exact absurd hc (by decide))).trans hc
            have ovW' := ownsRow_at2 hRd.out fun g cur hg hc => (hW g (by omega) (by omega)).trans hc
            have R15 := Lib.hid r15; have HZ3 := Lib.hid hz3; have RB15 := Lib.hid rb15; have RAW := Lib.hid raW; have RBW := Lib.hid rbW
            have KW := Lib.hid kW; have MEMW := Lib.hid memW; have ROWW := Lib.hid rowW; have TW := Lib.hid tW; have IW := Lib.hid iW; have OVW := Lib.hid ovW; have OVW' := Lib.hid ovW'; have HCS3 := Lib.hid hcs3
            clear hcs3 hz3 r15 rb15 raW rbW kW memW rowW tW iW ovW ovW' hW ov15 ra15 i15 t15 r14 k15 hfr hFw hRd hR14 HGO rc14 rb14 ra14 ov14 i14 t14 d14 k14
            go_wp2_with (first
              | ((with_reducible refine st36 w6.heap.size cs3 csm ?_ ?_ R15.out HZM.out HZ3.out ha3 ?_); rfl; rfl)
              | ((with_reducible refine st6 (w11.heap.size + 1) (#[.int .i64 fin.1.st, .int .u8 fin.1.cd, .int .i64 0, .slice oA' on' oc', .int .i64 fin.2.steps, .int .i64 fin.2.checks] : Array Value) _ ?_ ?_ ((setRow_other _ _ _ _ (by omega)).trans RB15.out) rfl rfl (by simp [Value.oneCell']) ?_); rfl; rfl)
              | ((with_reducible refine ld6 w11.heap.size (#[.int .i64 fin.1.st, .int .u8 fin.1.cd, .int .i64 0, .slice oA on oc, .int .i64 fin.2.steps, .int .i64 fin.2.checks] : Array Value) ?_ ?_ rfl ?_); rfl; exact RAW.out)
              | ((with_reducible refine ld6 (w11.heap.size + 1) (#[.int .i64 fin.1.st, .int .u8 fin.1.cd, .int .i64 0, .slice oA' on' oc', .int .i64 fin.2.steps, .int .i64 fin.2.checks] : Array Value) ?_ ?_ rfl ?_); rfl; exact RBW.out)
              | fail)
            generalize ((w15.setRow w6.heap.size cs3).setRow (w11.heap.size + 1) (#[.int .i64 fin.1.st, .int .u8 fin.1.cd, .int .i64 0, .slice oA' on' oc', .int .i64 fin.2.steps, .int .i64 fin.2.checks] : Array Value)) = W at *
            have hsame := same_true fin.1.st fin.1.cd fin.2.steps fin.2.checks OVW.out OVW'.out
            have HTELL : Hid (∀ W', Below W.heap.size W W' → Calls Tryd.prog 14 #[.pointer (some ⟨w3.heap.size + 1, 0, none⟩), .agg cs3] W' fun e w' => e = .returned (.bool true) ∧ Below W'.heap.size W' w') := Lib.hid fun W' hW => by
              have := tells_ma (KW.out.grow hW).at_ KW.out.ok (row_at hW (lt_of_at MEMW.out) MEMW.out)
              rw [HCS3.out] at this
              exact this
            have HROW : Hid (∀ W', Below W.heap.size W W' → W'.heap[w6.heap.size]? = some (.cells cs3 34)) := Lib.hid fun W' hW => row_at hW (lt_of_at ROWW.out) ROWW.out
            refine hsame.mono ?_
            rintro e V1 ⟨rfl, b1⟩
            have hb1 : Below W.heap.size W V1 := b1
            go_wp2_with (first
              | ((with_reducible refine ld36g w6.heap.size cs3 ?_ ?_ (HROW.out _ hb1) HZ3.out ?_); rfl; rfl)
              | (go_at_call 14; (with_reducible refine (HTELL.out _ hb1).mono ?_); rintro e V2 ⟨rfl, b2⟩; have hb2 : Below W.heap.size W V2 := hb1.trans (b2.mono hb1.size); have hi5 : V2.cell? ⟨wx.heap.size, 0, none⟩ = some (.int .u8 5) := (by rw [cell_of_row _ _ 0 _ _ _ (row_at hb2 (lt_of_at IW.out) IW.out)]; rfl); have hq3 : V2.cell? ⟨w11.heap.size, 3, none⟩ = some (.slice oA on oc) := (by rw [cell_of_row _ _ 3 _ _ _ (row_at hb2 (lt_of_at RAW.out) RAW.out)]; rfl))
              | fail)
            have zV := hb2.size
            have kv := KW.out.grow hb2
            have dv : Dm w V2 w6.heap.size (w5.heap.size + 1) fin.1 := ⟨by rw [HCS3.out]; exact row_at hb2 (lt_of_at ROWW.out) ROWW.out, row_at hb2 (lt_of_at MEMW.out) MEMW.out, by omega, by omega⟩
            have tv := row_at hb2 (lt_of_at TW.out) TW.out
            have rav := row_at hb2 (lt_of_at RAW.out) RAW.out
            have ovv := own_bw OVW.out hb2
            have hon := (conv_own OVW.out).1
            obtain ⟨G2, g1, g2, g3, g4⟩ : ∃ G2, wx.heap.size ≤ G2 ∧ G2 < V2.heap.size ∧ G2 ≠ w11.heap.size ∧ (0 < on → oA = some ⟨G2, 0, none⟩ ∧ ∃ cur, V2.heap[G2]? = some (.cells cur 5) ∧ ∀ j, j < on → ∃ v : Int, cur[j]? = some (.int .u8 v)) := by
              obtain ⟨G2, g1, g2, g4⟩ := own_g ovv (by omega) hon
              by_cases h0 : 0 < on
              · obtain ⟨e1, cur, e2, e3⟩ := g4 h0
                exact ⟨G2, by omega, g2, by rintro rfl; rw [rav] at e2; injection e2 with e2; injection e2 with _ e2; exact absurd e2 (by decide), g4⟩
              · exact ⟨wx.heap.size, Nat.le_refl _, by omega, by omega, fun h => absurd h h0⟩
            have hon2 : on ≤ 1073741824 := by have := hbd.2.2.2; simp at this; omega
            have KV := Lib.hid kv; have DV := Lib.hid dv; have TV := Lib.hid tv; have RAV := Lib.hid rav; have G4 := Lib.hid g4
            clear kv dv tv rav ovv hon g4 hi5 hq3 hb2 b2 hb1 b1 hsame HTELL HROW KW MEMW ROWW TW IW OVW OVW' RAW RBW RB15 R15 hbd
            go_loopw [122] (fun k wr => ∃ i : Nat, i ≤ on ∧ k = .int .i64 i ∧ Inc V2 wr G2 on) (fun k _ => on - (intOf k).toNat)
            case atStart => exact ⟨0, Nat.zero_le _, rfl, Fr.refl _ _, fun h0 => (G4.out h0).2⟩
            case round =>
              obtain ⟨i, hi, rfl, hinc⟩ := hrel
              have hq : wr.cell? ⟨w11.heap.size, 3, none⟩ = some (.slice oA on oc) := by rw [cell_of_row _ _ 3 _ _ _ (hinc.1.at_ RAV.out (by simp; omega))]; rfl
              by_cases hlt2 : i < on
              · obtain ⟨hA3, _⟩ := G4.out (by omega)
                subst hA3
                obtain ⟨cur, h1, h2⟩ := hinc.2 (by omega)
                obtain ⟨v, hv⟩ := h2 i hlt2
                have hc : wr.cell? ⟨G2, i, none⟩ = some (.int .u8 v) := by rw [cell_of_row _ _ i _ _ _ h1]; exact hv
                have hf : wr.frozen? ⟨G2, i, none⟩ = false := frozen_of_row _ _ i _ _ h1
                have HN := Lib.hid (fun x => hinc.step hlt2 x)
                clear h1 h2 hv hinc
                go_wp2_with fail
                go_roundw
                case rel => exact ⟨i + 1, by omega, by go_num, HN.out _⟩
                case measure => simp [intOf]; omega
              · obtain rfl : i = on := by omega
                have k3 := ks_far KV.out (s := G2) (by omega) (by omega) hinc.1
                have d3 := DV.out.fr hinc.1 (by omega) (by omega)
                have t3 := hinc.1.at_ TV.out (by simp; omega)
                have q0 : wr.cell? ⟨w.heap.size, 0, none⟩ = some (.int .i64 n0) := by rw [cell_of_row _ _ 0 _ _ _ t3]; rfl
                have HJ := Lib.hid (ks_jump2 k3 (IntKind.u64.wrap n0) (u64w n0))
                have D3 := Lib.hid d3; have T3 := Lib.hid t3
                clear k3 d3 t3 hinc
                go_wp2_with fail
                refine HJ.out.mono ?_
                rintro e V4 ⟨rfl, k4, f4⟩
                have d4 := D3.out.fr f4 (by omega) (by omega)
                have t4 := f4.at_ T3.out (by simp; omega)
                have q4 : V4.cell? ⟨w.heap.size, 0, none⟩ = some (.int .i64 n0) := by rw [cell_of_row _ _ 0 _ _ _ t4]; rfl
                have hokf : fin.1.ok := KV.out.ok
                have y33 : V4.cell? ⟨w6.heap.size, 33, none⟩ = some (.int .u64 fin.1.pl) := by rw [cell_of_row _ _ 33 _ _ _ d4.row]; exact mcs_33 hokf.1 _
                have fz : V4.frozen? ⟨w6.heap.size, 33, none⟩ = false := frozen_of_row _ _ _ _ _ d4.row
                have k5 := ks_far k4 (s := w6.heap.size) (by omega) (by omega) (Fr.set (S := [w6.heap.size]) V4 w6.heap.size 33 (.int .u64 (IntKind.u64.wrap n0)) (by simp))
                have d5 : Dm w (V4.setCell ⟨w6.heap.size, 33, none⟩ (.int .u64 (IntKind.u64.wrap n0))) w6.heap.size (w5.heap.size + 1) { fin.1 with pl := IntKind.u64.wrap n0 } := ⟨by rw [heap_setCell_same _ _ _ _ _ _ d4.row, mcs_set33 hokf.1], (Below.heap_setCell _ _ _ _ (by simp; omega)).trans d4.mem, by omega, by omega⟩
                have t5 := (Below.heap_setCell V4 ⟨w6.heap.size, 33, none⟩ (.int .u64 (IntKind.u64.wrap n0)) w.heap.size (by simp; omega)).trans t4
                have K5' := Lib.hid k5; have D5' := Lib.hid d5; have T5' := Lib.hid t5
                clear k5 d5 t5 k4 f4 d4 t4
                go_wp2_with fail
                go_roundw
                case rel => exact ⟨j + 1, { fin.1 with pl := IntKind.u64.wrap n0 }, by omega, by omega, by go_num, K5'.out, D5'.out, T5'.out⟩
                case measure => simp [intOf]; omega
          · with_reducible refine (HRUN.out _ (by omega)).mono ?_
            rintro e w11 ⟨oA, on, oc, rfl, ov, k11, fj11⟩
            have HGO : Hid (∀ X A', Rd X X.heap.size (w5.heap.size + 1) m ⟨[], 0, 0, [5, 200], true, []⟩ A' 2 (.slice none 0 0) (.slice none 0 0) → Calls Tryd.prog 12 #[.agg (mcs m (w5.heap.size + 1)), .slice A' 2 2, .int .i64 nv] X (RGo X X.heap.size (w5.heap.size + 1) (runV (Int.toNat nv) m ⟨[], 0, 0, [5, 200], true, []⟩))) := Lib.hid fun X A' h => HG X X.heap.size (w5.heap.size + 1) m A' 2 2 [5, 200] nv _ rfl (by omega) h rfl
            have hbd := bd_run (Int.toNat nv) m ⟨[], 0, 0, [5, 200], true, []⟩
            generalize hfin : runV (Int.toNat nv) m ⟨[], 0, 0, [5, 200], true, []⟩ = fin at *
            have z11 := fj11.fb.size
            rw [sz1] at z11
            have d11 := D1.out.fj fj11 (by omega) (by omega)
            have t11 := row_fj T1.out fj11 (by omega) (by omega)
            have i11 := row_fj I1.out fj11 (by omega) (by omega)
            rw [sz1] at ov
            have hb14 := bw_alloc (bw_alloc (bw_alloc (Below.refl w11.heap.size w11) (Obj.cells #[.int .i64 fin.1.st, .int .u8 fin.1.cd, .int .i64 0, .slice oA on oc, .int .i64 fin.2.steps, .int .i64 fin.2.checks] 39)) (Obj.cells #[.int .i64 0, .int .u8 0, .int .i64 0, .slice none 0 0, .int .i64 0, .int .i64 0] 39)) (Obj.cells #[.int .u8 5, .int .u8 200] 5)
            have k14 := k11.grow hb14
            have d14 := d11.below hb14
            have t14 := row_at hb14 (lt_of_at t11) t11
            have i14 := row_at hb14 (lt_of_at i11) i11
            have ov14 := own_bw ov hb14
            have ra14 := a3_0 w11 (Obj.cells #[.int .i64 fin.1.st, .int .u8 fin.1.cd, .int .i64 0, .slice oA on oc, .int .i64 fin.2.steps, .int .i64 fin.2.checks] 39) (Obj.cells #[.int .i64 0, .int .u8 0, .int .i64 0, .slice none 0 0, .int .i64 0, .int .i64 0] 39) (Obj.cells #[.int .u8 5, .int .u8 200] 5)
            have rb14 := a3_1 w11 (Obj.cells #[.int .i64 fin.1.st, .int .u8 fin.1.cd, .int .i64 0, .slice oA on oc, .int .i64 fin.2.steps, .int .i64 fin.2.checks] 39) (Obj.cells #[.int .i64 0, .int .u8 0, .int .i64 0, .slice none 0 0, .int .i64 0, .int .i64 0] 39) (Obj.cells #[.int .u8 5, .int .u8 200] 5)
            have rc14 := a3_2 w11 (Obj.cells #[.int .i64 fin.1.st, .int .u8 fin.1.cd, .int .i64 0, .slice oA on oc, .int .i64 fin.2.steps, .int .i64 fin.2.checks] 39) (Obj.cells #[.int .i64 0, .int .u8 0, .int .i64 0, .slice none 0 0, .int .i64 0, .int .i64 0] 39) (Obj.cells #[.int .u8 5, .int .u8 200] 5)
            have z14 : (((w11.alloc (Obj.cells #[.int .i64 fin.1.st, .int .u8 fin.1.cd, .int .i64 0, .slice oA on oc, .int .i64 fin.2.steps, .int .i64 fin.2.checks] 39)).alloc (Obj.cells #[.int .i64 0, .int .u8 0, .int .i64 0, .slice none 0 0, .int .i64 0, .int .i64 0] 39)).alloc (Obj.cells #[.int .u8 5, .int .u8 200] 5)).heap.size = w11.heap.size + 3 := by simp only [szA]
            have r11 := d11.row
            have hzm := mcs_size KX.out.ok.1 (w5.heap.size + 1)
            generalize hcsm : mcs m (w5.heap.size + 1) = csm at *
            have HR11 := Lib.hid r11; have HZM := Lib.hid hzm; have HCSM := Lib.hid hcsm
            clear hcsm r11 hzm hb14 k11 d11 t11 i11 ov fj11 HRUN
            go_wp2_with (first
              | ((with_reducible refine ld36 w6.heap.size csm ?_ ?_ HZM.out ?_); rfl; exact (Below.heap_alloc _ _ _ (by simp only [szA]; omega)).trans ((Below.heap_alloc _ _ _ (by omega)).trans HR11.out))
              | fail)
            generalize (((w11.alloc (Obj.cells #[.int .i64 fin.1.st, .int .u8 fin.1.cd, .int .i64 0, .slice oA on oc, .int .i64 fin.2.steps, .int .i64 fin.2.checks] 39)).alloc (Obj.cells #[.int .i64 0, .int .u8 0, .int .i64 0, .slice none 0 0, .int .i64 0, .int .i64 0] 39)).alloc (Obj.cells #[.int .u8 5, .int .u8 200] 5)) = X14 at *
            have hR14 : Rd X14 X14.heap.size (w5.heap.size + 1) m ⟨[], 0, 0, [5, 200], true, []⟩ (some ⟨w11.heap.size + 1 + 1, 0, none⟩) 2 (.slice none 0 0) (.slice none 0 0) :=
              ⟨d14.mem, KX.out.ok, ⟨rfl, .inl ⟨rfl, rfl⟩⟩, ⟨rfl, .inl ⟨rfl, rfl⟩⟩, ⟨fun i => in52 i, fun _ => ⟨w11.heap.size + 1 + 1, 0, rfl, by omega, by omega, by omega, fun j hj => in52c rc14 j hj⟩⟩, Nat.le_refl _, rfl, lt_of_at d14.mem, Nat.le_refl _, by decide, by decide⟩
            refine (HGO.out X14 (some ⟨w11.heap.size + 1 + 1, 0, none⟩) hR14).mono ?_
            rintro e w15 ⟨gA, gc, oA', on', oc', sA', sn', sc', rfl, hRd, hFw⟩
            have hfr := hFw.fr
            have k15 := ks_far k14 (s := w5.heap.size + 1) (by omega) (by omega) hfr
            have r14 := d14.row
            rw [HCSM.out] at r14
            have r15 := hfr.at_ r14 (by simp; omega)
            have t15 := hfr.at_ t14 (by simp; omega)
            have i15 := hfr.at_ i14 (by simp; omega)
            have ra15 := hfr.at_ ra14 (by simp; omega)
            have rb15 := hfr.at_ rb14 (by simp; omega)
            have ov15 := ownsRow_at2 ov14 fun g cur hg hc => hfr.at_ hc (by simp; omega)
            have z15 : w11.heap.size + 3 ≤ w15.heap.size := by have := hfr.size; omega
            have hz3 := mcs_size hRd.ok.1 (w5.heap.size + 1)
            have ha3 := mcs_all fin.1 (w5.heap.size + 1)
            generalize hcs3 : mcs fin.1 (w5.heap.size + 1) = cs3 at hz3 ha3 ⊢
            have hW : ∀ g, g ≠ w6.heap.size → g ≠ w11.heap.size + 1 → ((w15.setRow w6.heap.size cs3).setRow (w11.heap.size + 1) (#[.int .i64 fin.1.st, .int .u8 fin.1.cd, .int .i64 0, .slice oA' on' oc', .int .i64 fin.2.steps, .int .i64 fin.2.checks] : Array Value)).heap[g]? = w15.heap[g]? := fun g h1 h2 => (setRow_other _ _ _ _ h2).trans (setRow_other _ _ _ _ h1)
            have zW : ((w15.setRow w6.heap.size cs3).setRow (w11.heap.size + 1) (#[.int .i64 fin.1.st, .int .u8 fin.1.cd, .int .i64 0, .slice oA' on' oc', .int .i64 fin.2.steps, .int .i64 fin.2.checks] : Array Value)).heap.size = w15.heap.size := by simp [World.setRow]
            have kW : Ks w ((w15.setRow w6.heap.size cs3).setRow (w11.heap.size + 1) (#[.int .i64 fin.1.st, .int .u8 fin.1.cd, .int .i64 0, .slice oA' on' oc', .int .i64 fin.2.steps, .int .i64 fin.2.checks] : Array Value)) (w3.heap.size + 1) w3.heap.size fin.1 := ks_far (ks_far k15 (s := w6.heap.size) (by omega) (by omega) (fr_setRow _ _ _)) (s := w11.heap.size + 1) (by omega) (by omega) (fr_setRow _ _ _)
            have memW := (hW (w5.heap.size + 1) (by omega) (by omega)).trans hRd.mem
            have rowW : ((w15.setRow w6.heap.size cs3).setRow (w11.heap.size + 1) (#[.int .i64 fin.1.st, .int .u8 fin.1.cd, .int .i64 0, .slice oA' on' oc', .int .i64 fin.2.steps, .int .i64 fin.2.checks] : Array Value)).heap[w6.heap.size]? = some (.cells cs3 34) := (setRow_other _ _ _ _ (by omega)).trans (setRow_heap _ _ _ _ _ _ r15)
            have raW := (hW w11.heap.size (by omega) (by omega)).trans ra15
            have rbW : ((w15.setRow w6.heap.size cs3).setRow (w11.heap.size + 1) (#[.int .i64 fin.1.st, .int .u8 fin.1.cd, .int .i64 0, .slice oA' on' oc', .int .i64 fin.2.steps, .int .i64 fin.2.checks] : Array Value)).heap[w11.heap.size + 1]? = some (.cells #[.int .i64 fin.1.st, .int .u8 fin.1.cd, .int .i64 0, .slice oA' on' oc', .int .i64 fin.2.steps, .int .i64 fin.2.checks] 39) := setRow_heap _ _ _ _ _ _ ((setRow_other _ _ _ _ (by omega)).trans rb15)
            have tW := (hW w.heap.size (by omega) (by omega)).trans t15
            have iW := (hW wx.heap.size (by omega) (by omega)).trans i15
            have ovW := ownsRow_at2 ov15 fun g cur hg hc => (hW g (by omega) (by rintro rfl; rw [rb15] at hc; injection hc with hc; injection hc with _ hc; exact absurd hc (by decide))).trans hc
            have ovW' := ownsRow_at2 hRd.out fun g cur hg hc => (hW g (by omega) (by omega)).trans hc
            have R15 := Lib.hid r15; have HZ3 := Lib.hid hz3; have RB15 := Lib.hid rb15; have RAW := Lib.hid raW; have RBW := Lib.hid rbW
            have KW := Lib.hid kW; have MEMW := Lib.hid memW; have ROWW := Lib.hid rowW; have TW := Lib.hid tW; have IW := Lib.hid iW; have OVW := Lib.hid ovW; have OVW' := Lib.hid ovW'; have HCS3 := Lib.hid hcs3
            clear hcs3 hz3 r15 rb15 raW rbW kW memW rowW tW iW ovW ovW' hW ov15 ra15 i15 t15 r14 k15 hfr hFw hRd hR14 HGO rc14 rb14 ra14 ov14 i14 t14 d14 k14
            go_wp2_with (first
              | ((with_reducible refine st36 w6.heap.size cs3 csm ?_ ?_ R15.out HZM.out HZ3.out ha3 ?_); rfl; rfl)
              | ((with_reducible refine st6 (w11.heap.size + 1) (#[.int .i64 fin.1.st, .int .u8 fin.1.cd, .int .i64 0, .slice oA' on' oc', .int .i64 fin.2.steps, .int .i64 fin.2.checks] : Array Value) _ ?_ ?_ ((setRow_other _ _ _ _ (by omega)).trans RB15.out) rfl rfl (by simp [Value.oneCell']) ?_); rfl; rfl)
              | ((with_reducible refine ld6 w11.heap.size (#[.int .i64 fin.1.st, .int .u8 fin.1.cd, .int .i64 0, .slice oA on oc, .int .i64 fin.2.steps, .int .i64 fin.2.checks] : Array Value) ?_ ?_ rfl ?_); rfl; exact RAW.out)
              | ((with_reducible refine ld6 (w11.heap.size + 1) (#[.int .i64 fin.1.st, .int .u8 fin.1.cd, .int .i64 0, .slice oA' on' oc', .int .i64 fin.2.steps, .int .i64 fin.2.checks] : Array Value) ?_ ?_ rfl ?_); rfl; exact RBW.out)
              | fail)
            generalize ((w15.setRow w6.heap.size cs3).setRow (w11.heap.size + 1) (#[.int .i64 fin.1.st, .int .u8 fin.1.cd, .int .i64 0, .slice oA' on' oc', .int .i64 fin.2.steps, .int .i64 fin.2.checks] : Array Value)) = W at *
            have hsame := same_true fin.1.st fin.1.cd fin.2.steps fin.2.checks OVW.out OVW'.out
            have HTELL : Hid (∀ W', Below W.heap.size W W' → Calls Tryd.prog 14 #[.pointer (some ⟨w3.heap.size + 1, 0, none⟩), .agg cs3] W' fun e w' => e = .returned (.bool true) ∧ Below W'.heap.size W' w') := Lib.hid fun W' hW => by
              have := tells_ma (KW.out.grow hW).at_ KW.out.ok (row_at hW (lt_of_at MEMW.out) MEMW.out)
              rw [HCS3.out] at this
              exact this
            have HROW : Hid (∀ W', Below W.heap.size W W' → W'.heap[w6.heap.size]? = some (.cells cs3 34)) := Lib.hid fun W' hW => row_at hW (lt_of_at ROWW.out) ROWW.out
            refine hsame.mono ?_
            rintro e V1 ⟨rfl, b1⟩
            have hb1 : Below W.heap.size W V1 := b1
            go_wp2_with (first
              | ((with_reducible refine ld36g w6.heap.size cs3 ?_ ?_ (HROW.out _ hb1) HZ3.out ?_); rfl; rfl)
              | (go_at_call 14; (with_reducible refine (HTELL.out _ hb1).mono ?_); rintro e V2 ⟨rfl, b2⟩; have hb2 : Below W.heap.size W V2 := hb1.trans (b2.mono hb1.size); have hi5 : V2.cell? ⟨wx.heap.size, 0, none⟩ = some (.int .u8 5) := (by rw [cell_of_row _ _ 0 _ _ _ (row_at hb2 (lt_of_at IW.out) IW.out)]; rfl); have hq3 : V2.cell? ⟨w11.heap.size, 3, none⟩ = some (.slice oA on oc) := (by rw [cell_of_row _ _ 3 _ _ _ (row_at hb2 (lt_of_at RAW.out) RAW.out)]; rfl))
              | fail)
            have zV := hb2.size
            have kv := KW.out.grow hb2
            have dv : Dm w V2 w6.heap.size (w5.heap.size + 1) fin.1 := ⟨by rw [HCS3.out]; exact row_at hb2 (lt_of_at ROWW.out) ROWW.out, row_at hb2 (lt_of_at MEMW.out) MEMW.out, by omega, by omega⟩
            have tv := row_at hb2 (lt_of_at TW.out) TW.out
            have rav := row_at hb2 (lt_of_at RAW.out) RAW.out
            have ovv := own_bw OVW.out hb2
            have hon := (conv_own OVW.out).1
            obtain ⟨G2, g1, g2, g3, g4⟩ : ∃ G2, wx.heap.size ≤ G2 ∧ G2 < V2.heap.size ∧ G2 ≠ w11.heap.size ∧ (0 < on → oA = some ⟨G2, 0, none⟩ ∧ ∃ cur, V2.heap[G2]? = some (.cells cur 5) ∧ ∀ j, j < on → ∃ v : Int, cur[j]? = some (.int .u8 v)) := by
              obtain ⟨G2, g1, g2, g4⟩ := own_g ovv (by omega) hon
              by_cases h0 : 0 < on
              · obtain ⟨e1, cur, e2, e3⟩ := g4 h0
                exact ⟨G2, by omega, g2, by rintro rfl; rw [rav] at e2; injection e2 with e2; injection e2 with _ e2; exact absurd e2 (by decide), g4⟩
              · exact ⟨wx.heap.size, Nat.le_refl _, by omega, by omega, fun h => absurd h h0⟩
            have hon2 : on ≤ 1073741824 := by have := hbd.2.2.2; simp at this; omega
            have KV := Lib.hid kv; have DV := Lib.hid dv; have TV := Lib.hid tv; have RAV := Lib.hid rav; have G4 := Lib.hid g4
            clear kv dv tv rav ovv hon g4 hi5 hq3 hb2 b2 hb1 b1 hsame HTELL HROW KW MEMW ROWW TW IW OVW OVW' RAW RBW RB15 R15 hbd
            go_loopw [122] (fun k wr => ∃ i : Nat, i ≤ on ∧ k = .int .i64 i ∧ Inc V2 wr G2 on) (fun k _ => on - (intOf k).toNat)
            case atStart => exact ⟨0, Nat.zero_le _, rfl, Fr.refl _ _, fun h0 => (G4.out h0).2⟩
            case round =>
              obtain ⟨i, hi, rfl, hinc⟩ := hrel
              have hq : wr.cell? ⟨w11.heap.size, 3, none⟩ = some (.slice oA on oc) := by rw [cell_of_row _ _ 3 _ _ _ (hinc.1.at_ RAV.out (by simp; omega))]; rfl
              by_cases hlt2 : i < on
              · obtain ⟨hA3, _⟩ := G4.out (by omega)
                subst hA3
                obtain ⟨cur, h1, h2⟩ := hinc.2 (by omega)
                obtain ⟨v, hv⟩ := h2 i hlt2
                have hc : wr.cell? ⟨G2, i, none⟩ = some (.int .u8 v) := by rw [cell_of_row _ _ i _ _ _ h1]; exact hv
                have hf : wr.frozen? ⟨G2, i, none⟩ = false := frozen_of_row _ _ i _ _ h1
                have HN := Lib.hid (fun x => hinc.step hlt2 x)
                clear h1 h2 hv hinc
                go_wp2_with fail
                go_roundw
                case rel => exact ⟨i + 1, by omega, by go_num, HN.out _⟩
                case measure => simp [intOf]; omega
              · obtain rfl : i = on := by omega
                have k3 := ks_far KV.out (s := G2) (by omega) (by omega) hinc.1
                have d3 := DV.out.fr hinc.1 (by omega) (by omega)
                have t3 := hinc.1.at_ TV.out (by simp; omega)
                have q0 : wr.cell? ⟨w.heap.size, 0, none⟩ = some (.int .i64 n0) := by rw [cell_of_row _ _ 0 _ _ _ t3]; rfl
                have HJ := Lib.hid (ks_jump2 k3 (IntKind.u64.wrap n0) (u64w n0))
                have D3 := Lib.hid d3; have T3 := Lib.hid t3
                clear k3 d3 t3 hinc
                go_wp2_with fail
                refine HJ.out.mono ?_
                rintro e V4 ⟨rfl, k4, f4⟩
                have d4 := D3.out.fr f4 (by omega) (by omega)
                have t4 := f4.at_ T3.out (by simp; omega)
                have q4 : V4.cell? ⟨w.heap.size, 0, none⟩ = some (.int .i64 n0) := by rw [cell_of_row _ _ 0 _ _ _ t4]; rfl
                have hokf : fin.1.ok := KV.out.ok
                have y33 : V4.cell? ⟨w6.heap.size, 33, none⟩ = some (.int .u64 fin.1.pl) := by rw [cell_of_row _ _ 33 _ _ _ d4.row]; exact mcs_33 hokf.1 _
                have fz : V4.frozen? ⟨w6.heap.size, 33, none⟩ = false := frozen_of_row _ _ _ _ _ d4.row
                have k5 := ks_far k4 (s := w6.heap.size) (by omega) (by omega) (Fr.set (S := [w6.heap.size]) V4 w6.heap.size 33 (.int .u64 (IntKind.u64.wrap n0)) (by simp))
                have d5 : Dm w (V4.setCell ⟨w6.heap.size, 33, none⟩ (.int .u64 (IntKind.u64.wrap n0))) w6.heap.size (w5.heap.size + 1) { fin.1 with pl := IntKind.u64.wrap n0 } := ⟨by rw [heap_setCell_same _ _ _ _ _ _ d4.row, mcs_set33 hokf.1], (Below.heap_setCell _ _ _ _ (by simp; omega)).trans d4.mem, by omega, by omega⟩
                have t5 := (Below.heap_setCell V4 ⟨w6.heap.size, 33, none⟩ (.int .u64 (IntKind.u64.wrap n0)) w.heap.size (by simp; omega)).trans t4
                have K5' := Lib.hid k5; have D5' := Lib.hid d5; have T5' := Lib.hid t5
                clear k5 d5 t5 k4 f4 d4 t4
                go_wp2_with fail
                go_roundw
                case rel => exact ⟨j + 1, { fin.1 with pl := IntKind.u64.wrap n0 }, by omega, by omega, by go_num, K5'.out, D5'.out, T5'.out⟩
                case measure => simp [intOf]; omega
        · obtain rfl : j = 3 := by omega
          have BX := Lib.hid kx.below
          clear kx dx tx
          go_wp2_with fail
          go_ret
          exact ⟨rfl, BX.out⟩
set_option maxRecDepth 100000 in
set_option maxHeartbeats 4000000 in
theorem machRuns_out (n0 n1 n2 : Int) (xs ys : List Int) (A A1 : Option Addr) (c c1 : Nat) (w : World) (hF : FormsIn w) (hO : OpsIn w) (hout : 2000 < xs.length ∨ 40 < ys.length) :
    Calls Tryd.prog 3 #[.slice A xs.length c, .slice A1 ys.length c1, .agg #[.int .i64 n0, .int .i64 n1, .int .i64 n2]] w fun e w' => e = .returned (.bool true) ∧ Below w.heap.size w w' := by
  have hcs : decide (2000 < (xs.length : Int)) = true ∨ (decide (2000 < (xs.length : Int)) = false ∧ decide (40 < (ys.length : Int)) = true) := by
    by_cases h : 2000 < xs.length
    · exact .inl (decide_eq_true (by omega))
    · exact .inr ⟨decide_eq_false (by omega), decide_eq_true (by omega)⟩
  clear hout
  go_enter Tryd.func3, Tryd.ntmps3
  go_wp2_with fail
  have b0 : Below w.heap.size w (w.alloc (Obj.cells #[.int .i64 n0, .int .i64 n1, .int .i64 n2] 24)) := bw_alloc (Below.refl _ _) _
  refine (awake3 _ (hF.keep b0 (Nat.le_refl _)) (hO.below b0)).mono ?_
  rintro e w1 ⟨rfl, b1⟩
  have hB1 : Below w.heap.size w w1 := b0.trans (b1.mono (by simp))
  clear b0 b1
  rcases hcs with d0 | ⟨d0, d1⟩
  all_goals
    go_wp2_with fail
    refine (awake3 _ (hF.keep hB1 (Nat.le_refl _)) (hO.below hB1)).mono ?_
    rintro e w2 ⟨rfl, b2⟩
    go_wp2_with fail
    go_ret
    exact ⟨rfl, hB1.trans (b2.mono hB1.size)⟩
theorem machRuns_walk (HG : GoAll) (n0 n1 n2 : Int) (xs ys : List Int) (A A1 : Option Addr) (c c1 : Nat) (w : World) (hr0 : -9223372036854775808 ≤ n0 ∧ n0 < 9223372036854775808) (hr1 : -9223372036854775808 ≤ n1 ∧ n1 < 9223372036854775808) (hr2 : -9223372036854775808 ≤ n2 ∧ n2 < 9223372036854775808) (hs : SrcIs w A xs) (hnil : A = none → c = 0) (hy : U64s w A1 ys) (hF : FormsIn w) (hO : OpsIn w) :
    Calls Tryd.prog 3 #[.slice A xs.length c, .slice A1 ys.length c1, .agg #[.int .i64 n0, .int .i64 n1, .int .i64 n2]] w fun e w' => e = .returned (.bool true) ∧ Below w.heap.size w w' := by
  by_cases h : xs.length ≤ 2000 ∧ ys.length ≤ 40
  · exact machRuns_in HG n0 n1 n2 xs ys A A1 c c1 w hr0 hr1 hr2 hs hnil hy hF hO h.1 h.2
  · exact machRuns_out n0 n1 n2 xs ys A A1 c c1 w hF hO (by
      by_cases h2 : xs.length ≤ 2000
      · right
        by_cases h3 : ys.length ≤ 40
        · exact absurd ⟨h2, h3⟩ h
        · omega
      · left; omega)
end Go.Proofs.YtppcbommaddkgaaDoor
namespace Go.Proofs.YtppcbommaddkgaaDoor.machRuns
open Go.ChangeShapes Go.WideShapes Go.ChangeAt Go.RowKit
set_option linter.unusedVariables false
set_option linter.unusedSimpArgs false
set_option maxRecDepth 100000
theorem own : ownKnob Tryd.prog.godebug = none := by kernel_rfl
theorem laidOut : laidOutB Tryd.prog = true := by kernel_rfl
theorem wf_of {k : IntKind} {n : Int} (h : (Lit.int k n).wf = true) : k.min ≤ n ∧ n ≤ k.max := by simpa [Lit.wf] using h
theorem u8_of {n : Int} (h : (Lit.int .u8 n).wf = true) : 0 ≤ n ∧ n < 256 := by have := wf_of h; simp [IntKind.min, IntKind.max, IntKind.signed, IntKind.bits] at this; omega
theorem u64_of {n : Int} (h : (Lit.int .u64 n).wf = true) : 0 ≤ n ∧ n < 18446744073709551616 := by have := wf_of h; simp [IntKind.min, IntKind.max, IntKind.signed, IntKind.bits] at this; omega
theorem i64_of {n : Int} (h : (Lit.int .i64 n).wf = true) : -9223372036854775808 ≤ n ∧ n < 9223372036854775808 := by have := wf_of h; simp [IntKind.min, IntKind.max, IntKind.signed, IntKind.bits] at this; omega
theorem cells3 : Tryd.prog.cellsOf 24 = 3 := by kernel_rfl
theorem three_in {H : Type} {enc : TypeId × Value → H} {W : World} {base : Nat} {t e : TypeId} {k : IntKind} {v : Value} {d : DataW H} {ps : List MemPlace} (ht : Tryd.prog.underlying t = some (.array 3 e)) (he : Tryd.prog.underlying e = some (.int k)) (hc : Tryd.prog.cellsOf e = 1) (hct : Tryd.prog.cellsOf t = 3)
    (hv : Value.okWide Tryd.prog W .any base t v) (h : DataW.Trod enc Tryd.prog W 0 (fun _ => true) true t v d ps) : ∃ a b d : Int, v = .agg #[.int k a, .int k b, .int k d] ∧ (Lit.int k a).wf = true ∧ (Lit.int k b).wf = true ∧ (Lit.int k d).wf = true := by
  obtain ⟨cs, rfl, hsz, _⟩ : ∃ cs, v = .agg cs ∧ cs.size = Tryd.prog.cellsOf t ∧ Row.okWide Tryd.prog W .any base t cs := by
    simpa [Value.okWide, ht] using hv
  rw [hct] at hsz
  obtain ⟨l⟩ := cs
  have hl2 : l.length = 3 := by simpa using hsz
  obtain ⟨x, y, z, rfl⟩ : ∃ x y z, l = [x, y, z] := by
    match l, hl2 with
    | [x, y, z], _ => exact ⟨x, y, z, rfl⟩
  obtain ⟨fuel, hf⟩ := h
  obtain ⟨ys, m, _, ex, hlen, hl, hel⟩ := DataW.trod_array ht hf
  have h0 := hel 0 (by omega)
  have h1 := hel 1 (by omega)
  have h2 := hel 2 (by omega)
  rw [hc, List.getElem?_eq_getElem (by omega)] at h0 h1 h2
  obtain ⟨a, ea, _, wa⟩ := DataW.trod_int he h0
  obtain ⟨b, eb, _, wb⟩ := DataW.trod_int he h1
  obtain ⟨d, ed, _, wd⟩ := DataW.trod_int he h2
  simp [Value.cells] at ea eb ed
  subst ea eb ed
  exact ⟨a, b, d, rfl, wa, wb, wd⟩
theorem cellsI64 : Tryd.prog.cellsOf 3 = 1 := by kernel_rfl
theorem cellsU64 : Tryd.prog.cellsOf 31 = 1 := by kernel_rfl
theorem cellsU8 : Tryd.prog.cellsOf 5 = 1 := by kernel_rfl
def NumsIn (w : World) (k : IntKind) (A : Option Addr) (xs : List Int) : Prop := 0 < xs.length → ∃ g o, A = some ⟨g, o, none⟩ ∧ g < w.heap.size ∧ ∀ j, j < xs.length → w.cell? ⟨g, o + j, none⟩ = some (.int k (xs.getD j 0))
theorem nums_in {H : Type} {enc : TypeId × Value → H} {W : World} {base : Nat} {t e : TypeId} {k : IntKind} {v : Value} {d : DataW H} {ps : List MemPlace} (ht : Tryd.prog.underlying t = some (.slice e)) (he : Tryd.prog.underlying e = some (.int k)) (hc : Tryd.prog.cellsOf e = 1)
    (hv : Value.okWide Tryd.prog W .any base t v) (h : DataW.Trod enc Tryd.prog W 0 (fun _ => true) true t v d ps) : ∃ (A : Option Addr) (c : Nat) (xs : List Int), v = .slice A xs.length c ∧ xs.length ≤ c ∧ c ≤ maxLen ∧ (∀ n ∈ xs, (Lit.int k n).wf = true) ∧ NumsIn W k A xs ∧ (A = none → c = 0) := by
  obtain ⟨a0, len, cap, rfl⟩ := okWide_slice ht hv
  obtain ⟨fuel, hf⟩ := h
  rcases open_ints ht he hc hf with ⟨hcs, hx⟩ | ⟨a, len', cap', zs, hcs, _, hl, hm, hz, hx, hcell, hwz⟩
  · simp [Value.cells] at hcs
    obtain ⟨rfl, rfl, rfl⟩ := hcs
    exact ⟨none, 0, [], rfl, Nat.le_refl _, Nat.zero_le _, fun n hn => by simp at hn, fun h0 => by simp at h0, fun _ => rfl⟩
  · simp [Value.cells] at hcs
    obtain ⟨rfl, rfl, rfl⟩ := hcs
    simp only [if_true] at hz
    have hlen : (zs.take len).length = len := by rw [List.length_take]; omega
    refine ⟨some a, cap, zs.take len, by rw [hlen], by rw [hlen]; exact hl, hm, fun n hn => hwz n (List.mem_of_mem_take hn), fun h0 => ?_, fun h => by cases h⟩
    obtain ⟨g, o, rfl, hc2⟩ := ints_at hcell (by omega)
    refine ⟨g, o, rfl, World.block_lt_of_cell? W _ (hc2 0 (by omega)), fun j hj => ?_⟩
    rw [hc2 j (by omega)]
    have hj' : j < len := by omega
    simp [List.getD_eq_getElem?_getD, List.getElem?_take, hj']
set_option maxRecDepth 100000 in
theorem lifted (os : Os) (started : os.Started) (H : Type) (enc : TypeId × Value → H) :
    ReturnsInHanded {} Tryd.checked os 3 .any (fun w args => (Rows.machRunsSpec.pre enc Tryd.prog Tryd.f3 [] false w args ∧ laidMetH Tryd.prog laidM w) ∧ sizedMet enc Tryd.prog Tryd.f3 (OpenSpec.ofChange Rows.machRunsSpec) false w args)
      (Rows.machRunsSpec.post enc Tryd.prog Tryd.f3 false true false false) := by
  refine returnsInHanded_of_change_and (C := Tryd.checked) (X := fun w _ => laidMetH Tryd.prog laidM w) (fun _ _ _ hh h => h.of_heap hh) own started (by kernel_rfl) Tryd.func3
    (ChangeSpec.witness_shaped (enc := enc) (C := Tryd.checked) (os := os) (X := fun w _ => laidMetH Tryd.prog laidM w) false (World.doorLaid Tryd.prog 46 os) #[.slice none 0 0, .slice none 0 0, .agg #[.int .i64 0, .int .i64 0, .int .i64 0]] 8 rfl (World.shaped_of_RefB (by kernel_rfl) (by kernel_rfl)) (by kernel_rfl) (by kernel_rfl) (by kernel_rfl) (door_met2 os _)) ?_
  intro W base args ds gs before hval0 hW _ _ hL _
  have hval : ∀ (j : Nat) t v, Tryd.f3.params[j]? = some t → args[j]? = some v → Value.okWide Tryd.prog W .any base t v := hval0
  have hW' := hW
  obtain ⟨p, q, hA0, hV, rfl, hfz, hnd⟩ := hW
  have hA : DataW.TrodAll enc Tryd.prog W 0 (fun _ => true) true Tryd.f3.params.toList args.toList ds p := hA0
  rw [Tryd.params3] at hA hval
  obtain ⟨v0, vs0, d0, ds0, p0, q0, hargs, rfl, rfl, h0, r0⟩ := trodAll_cons hA
  obtain ⟨v1, vs1, d1, ds1, p1, q1, rfl, rfl, rfl, h1, r1⟩ := trodAll_cons r0
  obtain ⟨v2, vs2, d2, ds2, p2, q2, rfl, rfl, rfl, h2, r2⟩ := trodAll_cons r1
  obtain ⟨rfl, rfl, rfl⟩ := trodAll_nil r2
  obtain rfl : args = #[v0, v1, v2] := by cases args; simp_all
  obtain ⟨rfl, rfl⟩ := trodVars_none hV
  obtain ⟨hF, hO⟩ := both_of_laid hL
  obtain ⟨A, c, xs, rfl, hxc, hcm, hwf, hin, hnl⟩ := nums_in Tryd.underlying22 Tryd.underlying5 cellsU8 (hval 0 22 v0 rfl rfl) h0
  obtain ⟨A', c', ys, rfl, hyc, hym, hwy, hiny, hnl'⟩ := nums_in Tryd.underlying23 Tryd.underlying31 cellsU64 (hval 1 23 v1 rfl rfl) h1
  obtain ⟨av, bv, cv, rfl, wa, wb, wc⟩ := three_in Tryd.underlying24 Tryd.underlying3 cellsI64 cells3 (hval 2 24 v2 rfl rfl) h2
  have hcalls := machRuns_walk (go_all fun m q base w R A c oA sA on oc sn sc h h1 h2 h3 => rstep_any h h1 h2 h3) av bv cv xs ys A A' c c' W (i64_of wa) (i64_of wb) (i64_of wc) ⟨fun b hb => u8_of (hwf b hb), fun h0 => by obtain ⟨g, o, e1, _, e3⟩ := hin h0; exact ⟨g, o, e1, e3⟩⟩ hnl ⟨fun b hb => u64_of (hwy b hb), hiny⟩ hF hO
  clear hA0 hval0
  refine hcalls.mono fun e W' ⟨he, hg⟩ => ?_
  subst he
  exact ⟨_, rfl, post_reads laidOut (by rw [Tryd.params3]; intro t ht; simp at ht; rcases ht with rfl | rfl | rfl <;> exact ⟨by kernel_rfl, by decide +kernel⟩) rfl hW' (fun _ => trodAll_cons_mk (shut_bool Tryd.underlying4 _) trodAll_mk0) rfl rfl hg⟩
theorem over : Rows.machRunsRow.holds Tryd.pinned (OpenSpec.ofChange Rows.machRunsSpec) :=
  OpenClaim.holds_of_wide 3 Tryd.f3 rfl rfl rfl rfl rfl rfl rfl ⟨rfl, rfl, rfl, rfl, rfl⟩ rfl rfl rfl rfl rfl (by kernel_rfl) Tryd.func3 (by kernel_rfl)
    (of_decide_eq_true (by kernel_rfl)) (by unfold Func.isWrapper; first | (rw [if_pos (by decide +kernel)]; kernel_rfl) | (rw [if_neg (by decide +kernel)]; exact ⟨rfl, rfl⟩))
    (fun os started H enc _ => lifted os started H enc)
theorem noStand : ∀ t ∈ [22, 23, 24], Tryd.prog.wantsStandIn t = false := by
  intro t ht
  simp at ht
  rcases ht with rfl | rfl | rfl <;> kernel_rfl
theorem proved : Rows.MachRunsCardSaid :=
  Claim7.holds_tied_plain_at .later [] [.data, .data] true (true, "639eb47d645c7bc82ab082b1db412a476b915defe3aef94d135f8249ca8c131d") false
    over (fun _ h => by cases h) (by kernel_rfl) (fun _ h => by cases h) machRuns_row_tie rfl ⟨rfl, rfl⟩ (by kernel_rfl) rfl
    (fun f fn hf hfn => by
      obtain rfl : f = 3 := Option.some.inj ((show Tryd.prog.funcNamed "hauberk/hauberklaw03.MachRuns" = some 3 by kernel_rfl).symm.trans hf) |>.symm
      obtain rfl : fn = Tryd.f3 := (Option.some.inj (Tryd.func3.symm.trans hfn)).symm
      exact ⟨by kernel_rfl, fun j t ht => by
        rw [Tryd.params3] at ht
        exact noStand t (by
          have := Array.mem_of_getElem? ht
          simpa using this)⟩)
    (by kernel_rfl)
#print axioms proved
end Go.Proofs.YtppcbommaddkgaaDoor.machRuns
