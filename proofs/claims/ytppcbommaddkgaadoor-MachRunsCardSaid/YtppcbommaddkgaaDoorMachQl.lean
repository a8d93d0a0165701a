/- The document's machine: loads. Conditions: each theorem's. -/
import Derived.Test.YtppcbommaddkgaaDoorMrgK
import Derived.StillTailTactics
import Derived.Deep.RegionHeld3
namespace Go.Proofs.YtppcbommaddkgaaDoor
open Go.RowKit Go.Maps
set_option linter.unusedVariables false
set_option linter.unusedSimpArgs false
set_option maxRecDepth 10000
open Pm Pc Pl
theorem end8 {w X : World} {base q : Nat} {m : Ma} {R : Ru} {A : Option Addr} {c : Nat} {ov sv : Value} {g3 g4 : Nat} {old old' : Array Value} (cs rv : Array Value) (hR : Rd X base q m R A c ov sv) (hf : Fw base q w X) (hs3 : base ≤ g3 ∧ w.heap.size ≤ g3) (hs4 : base ≤ g4 ∧ w.heap.size ≤ g4) (h34 : g4 ≠ g3) (k4 : X.heap[g3]? = some (.cells old 34)) (k5 : X.heap[g4]? = some (.cells old' 71)) :
    ((X.setRow g3 cs).setRow g4 rv).heap[g3]? = some (.cells cs 34) ∧ ((X.setRow g3 cs).setRow g4 rv).heap[g4]? = some (.cells rv 71) ∧ Rd ((X.setRow g3 cs).setRow g4 rv) base q m R A c ov sv ∧ Fw base q w ((X.setRow g3 cs).setRow g4 rv) := by
  have ho : ∀ g, g ≠ g3 → g ≠ g4 → ((X.setRow g3 cs).setRow g4 rv).heap[g]? = X.heap[g]? := fun g h1 h2 => (setRow_other _ _ _ _ h2).trans (setRow_other _ _ _ _ h1)
  have hY : ∀ (g : Nat) (cur : Array Value) (t : TypeId), t ≠ 34 → t ≠ 71 → X.heap[g]? = some (Obj.cells cur t) → ((X.setRow g3 cs).setRow g4 rv).heap[g]? = some (Obj.cells cur t) := fun g cur t h1 h2 hg => by
    rw [ho g (by rintro rfl; rw [k4] at hg; injection hg with hg; injection hg with _ hg; exact h1 hg.symm) (by rintro rfl; rw [k5] at hg; injection hg with hg; injection hg with _ hg; exact h2 hg.symm)]
    exact hg
  have hz : ((X.setRow g3 cs).setRow g4 rv).heap.size = X.heap.size := by simp [World.setRow]
  refine ⟨(setRow_other _ _ _ _ (by omega)).trans (setRow_heap X _ _ _ _ _ k4), setRow_heap _ _ _ _ _ _ ((setRow_other X _ _ _ (by omega)).trans k5), ⟨hY _ _ 5 (by decide) (by decide) hR.mem, hR.ok, ownsRow_at2 hR.out fun g cur _ hg => hY _ _ 5 (by decide) (by decide) hg, ownsRow_at2 hR.seen fun g cur _ hg => hY _ _ 81 (by decide) (by decide) hg, hR.inp.at_ fun g _ hb _ _ => ho g (by omega) (by omega), hR.cap, hR.wat, hR.lq, by rw [hz]; exact hR.lb, hR.lo, hR.ls⟩, ⟨hf.fb.os, hf.fb.tape, hf.fb.output, by rw [hz]; exact hf.fb.size, fun k hk hb h1 h2 => (ho k (by omega) (by omega)).trans (hf.fb.block k hk hb h1 h2)⟩, fun k hk hx => (ho k (by omega) (by omega)).trans (hf.kept k hk hx)⟩
set_option maxHeartbeats 3000000 in
theorem rmem_ld38 {m : Ma} {q base : Nat} {w : World} {R : Ru} {A : Option Addr} {c : Nat} {oA sA : Option Addr} {on oc sn sc : Nat} (n : Int) (rd r1 r2 : Nat) (hn : -9223372036854775808 ≤ n ∧ n < 9223372036854775808) (h1 : r1 < 32) (h2 : r2 < 32) (hd : rd < 32) (h : Rd w base q m R A c (.slice oA on oc) (.slice sA sn sc)) (hb : hasB (m.ad r1 n) 1 m.mem.length = true) (hls : R.seen.length + 1 < 1099511627776)  :
    Calls Tryd.prog 34 #[.agg (mcs m q), .agg #[.slice A R.inp.length c, .slice oA on oc, .int .i64 R.checks, .slice sA sn sc], ins 38 rd r1 r2 n] w (RTo w base q m R (some (m.set rd (nrV true (getV m.mem (m.ad r1 n).toNat 1) 8), R.note ⟨m.pl, m.ad r1 n, 1, false⟩))) := by
  have hx := h.ok.1
  have cr1 := mcs_x hx q h1
  have hr1 := reg_range h.ok r1
  have had : (m.ad r1 n) = IntKind.u64.wrap (m.x.getD r1 0 + n % 18446744073709551616) := by unfold Ma.ad Ma.reg; rw [IntKind.wrap_u64]
  have hadr : 0 ≤ m.ad r1 n ∧ m.ad r1 n < 18446744073709551616 := by unfold Ma.ad; omega
  have hX1 : ∀ Z, ((w.alloc (Obj.cells (mcs m q) 34)).alloc Z).cell? ⟨w.heap.size, 1 + r1, none⟩ = some (.int .u64 (m.x.getD r1 0)) := fun Z => by rw [cell_of_row _ _ (1 + r1) _ _ _ (aa0 _ _ _)]; exact cr1
  have HH := Lib.hid h
  have HA := Lib.hid hadr
  generalize m.ad r1 n = AT at *
  have hat := had.symm
  unfold Ma.reg at hr1
  generalize m.x.getD r1 0 = x1 at *
  generalize hcs0 : mcs m q = cs0 at *
  have HC0 := Lib.hid hcs0
  clear h hcs0 cr1 hx had hadr
  have hwk : IntKind.i64.wrap (r1 : Int) = r1 := IntWalk.i64_in _ (by omega)
  go_enter Tryd.func34, Tryd.ntmps34
  go_wp2_with fail
  have HI : Hid (∀ k : Nat, ∀ W : World, Calls Tryd.prog 31 #[.int .i64 n] (W.drewN k) fun e w' => e = .returned (.int .u64 (n % 18446744073709551616)) ∧ W.drewN k = w') := Lib.hid fun k W => rimm_any n _ hn
  go_quiet (with_reducible refine (HI.out _ _).mono ?_; rintro e w9 ⟨rfl, rfl⟩; exact ⟨rfl, _, rfl⟩)
  clear HI hX1
  generalize hX : World.drewN (((((w.alloc _).alloc _).alloc _).alloc _).alloc _) nq = X
  have mb : Mb w X cs0 #[.slice A R.inp.length c, .slice oA on oc, .int .i64 R.checks, .slice sA sn sc] 38 rd r1 r2 n := by
    rw [← hX]
    exact ⟨a5_0 _ _ _ _ _ _, a5_1 _ _ _ _ _ _, a5_2 _ _ _ _ _ _, ⟨_, rfl, a5_3 _ _ _ _ _ _⟩, ⟨_, rfl, a5_4 _ _ _ _ _ _⟩, ⟨rfl, rfl, rfl, (bw5 w _ _ _ _ _).size, (bw5 w _ _ _ _ _).block⟩⟩
  clear hX
  have hfit : AT + 1 ≤ m.mem.length := by unfold hasB at hb; exact (of_decide_eq_true hb).2
  obtain ⟨AN, rfl⟩ := Int.eq_ofNat_of_zero_le HA.out.1
  have hp := rplace_any (q := q) (w := X) HH.out.ok.1 HH.out.ok.2.1 (AN : Int) 1 HA.out (Or.inl rfl)
  have hz := mcs_size HH.out.ok.1 q
  have ha := mcs_all m q
  rw [HC0.out] at hp hz ha
  rw [hb] at hp
  have HP := Lib.hid hp; have HZ := Lib.hid hz; have HMB := Lib.hid mb
  clear hp hz mb hb
  go_wp2_with (first
    | ((with_reducible refine ld36 w.heap.size cs0 ?_ ?_ HZ.out ?_); rfl; exact HMB.out.b0)
    | fail)
  with_reducible refine HP.out.mono ?_
  rintro e X1 ⟨rfl, bp⟩
  have HM1 := Lib.hid (HMB.out.grow bp)
  clear bp HP HMB
  obtain ⟨i0, hi0, hz0, hz1, hz2⟩ := info_parts infoAcc
  have c33 := mcs_33 HH.out.ok.1 q
  rw [HC0.out] at c33
  have HV := Lib.hid (own_lt HH.out.seen)
  have hown := ownsRow_at2 HH.out.seen fun g cur _ hg => (HM1.out.below.block g (lt_of_at hg)).trans hg
  have q3 : X1.cell? ⟨w.heap.size + 1, 3, none⟩ = some (.slice sA sn sc) := by rw [cell_of_row _ _ 3 _ _ _ HM1.out.b1]; rfl
  have q33 : X1.cell? ⟨w.heap.size, 33, none⟩ = some (.int .u64 m.pl) := by rw [cell_of_row _ _ 33 _ _ _ HM1.out.b0]; exact c33
  have q0 : X1.cell? ⟨w.heap.size + 2, 0, none⟩ = some (.int .i64 38) := by rw [cell_of_row _ _ 0 _ _ _ HM1.out.b2]; rfl
  have hlb := HH.out.lb
  have hsz := HM1.out.below.size
  have hb4 := lt_of_at HM1.out.b4.choose_spec.2
  generalize hpl : m.pl = PL at *
  have HPL := Lib.hid hpl
  clear c33 hpl
  go_wp2_with (at_builtin; refine wpList_append_lies (o := ⟨some 58, _, _, _, _, _⟩) _ rfl (.tmp 48) (.tmp 57) 41 rfl base 81 i0 _ 4 32 Tryd.underlying41 hi0 hz0 hz1 hz2 rfl (by omega) (.slice sA sn sc) R.seen.length (accs R.seen) rfl (hown.alloc _) ⟨X1.heap.size, 0, none⟩ 1 1 [.int .u64 PL, .int .u64 (AN : Int), .int .i64 1, .bool false] rfl rfl (World.news_of_block (cs := #[.int .u64 PL, .int .u64 (AN : Int), .int .i64 1, .bool false]) (t := 81) (fr := (0, 0)) (heap_alloc_new X1 _)) (by simp [Value.oneCell']) (by omega) (by unfold maxLen; omega) (by omega) (by simp only [szA]; omega) (X1.heap.size + 1) (szA _ _) ?_; intro g cap w2 hown2 hgrow hat2 hlt; have HM2 : Hid (Mr w w2 cs0 #[.slice A R.inp.length c, .slice oA on oc, .int .i64 R.checks, .slice sA sn sc] 38 rd r1 r2 n) := Lib.hid (HM1.out.rows.keep fun i hi => (by rw [hgrow.block (w.heap.size + i) (by simp only [szA]; omega) (fun e => HV.out _ (by omega) e.symm), Below.heap_alloc _ _ _ (by omega)])); have u1 : w2.cell? ⟨w.heap.size + 1, 3, none⟩ = some (.slice sA sn sc) := (by rw [cell_of_row _ _ 3 _ _ _ HM2.out.b1]; rfl); have u2 : w2.frozen? ⟨w.heap.size + 1, 3, none⟩ = false := frozen_of_row _ _ 3 _ _ HM2.out.b1; have v0 : (w2.setCell ⟨w.heap.size + 1, 3, none⟩ (.slice (some ⟨g, 0, none⟩) (R.seen.length + 1) cap)).cell? ⟨w.heap.size + 2, 0, none⟩ = some (.int .i64 38) := (by rw [cell_of_row _ _ 0 _ _ _ (HM2.out.cell (i := 3) rfl).b2]; rfl))
  obtain ⟨hR2, hF2⟩ := rd_seen (a := ⟨PL, AN, 1, false⟩) HH.out (HM1.out.below.alloc HM1.out.below.size _) hgrow hown2 hls
  have hR3 := rd_cell (i := 3) (x := .slice (some ⟨g, 0, none⟩) (R.seen.length + 1) cap) hR2 HM2.out.b1 (by omega)
  have hF3 := fb_cell (i := 3) (x := .slice (some ⟨g, 0, none⟩) (R.seen.length + 1) cap) hF2 (b := w.heap.size + 1) (by omega)
  have hM3 : Mr w (w2.setCell ⟨w.heap.size + 1, 3, none⟩ (.slice (some ⟨g, 0, none⟩) (R.seen.length + 1) cap)) cs0 #[.slice A R.inp.length c, .slice oA on oc, .int .i64 R.checks, .slice (some ⟨g, 0, none⟩) (R.seen.length + 1) cap] 38 rd r1 r2 n := HM2.out.cell rfl
  generalize hw3 : w2.setCell ⟨w.heap.size + 1, 3, none⟩ (.slice (some ⟨g, 0, none⟩) (R.seen.length + 1) cap) = w3 at *
  have HR3 := Lib.hid hR3; have HF3 := Lib.hid hF3; have HM3 := Lib.hid hM3
  have HFIT := Lib.hid hfit
  have hbyte : ∀ i : Nat, 0 ≤ m.mem.getD i 0 ∧ m.mem.getD i 0 < 256 := fun i => by
    by_cases hi : i < m.mem.length
    · have e : m.mem.getD i 0 = m.mem[i] := by simp [List.getD, hi]
      rw [e]; exact HH.out.ok.2.2.2.1 _ (List.getElem_mem hi)
    · have e : m.mem.getD i 0 = 0 := by simp [List.getD, List.getElem?_eq_none (Nat.le_of_not_lt hi)]
      rw [e]; omega
  have HG : Hid (∀ W : World, W.heap[q]? = some (.cells (u8s m.mem).toArray 5) → Calls Tryd.prog 30 #[.agg cs0, .int .u64 AN, .int .i64 1] W fun e w' => e = .returned (.int .u64 (getV m.mem AN 1)) ∧ Below W.heap.size W w') := Lib.hid fun W hW => by
    have := rget_any (q := q) (w := W) HH.out.ok.1 HH.out.ok.2.1 hbyte AN 1 (by omega) (by omega) hW
    rw [HC0.out] at this
    exact this
  have hgr := getV_range m.mem hbyte 1 AN
  have hgv : 0 ≤ getV m.mem AN 1 ∧ getV m.mem AN 1 < 18446744073709551616 := ⟨hgr.1, Int.lt_of_lt_of_le hgr.2 (by decide)⟩
  have HNW : Hid (∀ W : World, Calls Tryd.prog 50 #[.int .u64 (getV m.mem AN 1), .int .i64 8, .bool true] W fun e w' => e = .returned (.tuple #[.int .u64 (nrV true (getV m.mem AN 1) 8), .bool true]) ∧ W = w') := Lib.hid fun W => refNarrow_any true _ 8 W hgv.1 hgv.2 (by omega) (by omega)
  have hnr := nrV_range true (getV m.mem AN 1) 8 (by omega) (by omega)
  have hv0 : w3.cell? ⟨w.heap.size + 2, 0, none⟩ = some (.int .i64 38) := by rw [cell_of_row _ _ 0 _ _ _ HM3.out.b2]; rfl
  have hs0 : w.heap.size + 4 < w3.heap.size := lt_of_at HM3.out.b4.choose_spec.2
  have hNV := hnr
  generalize hNVE : nrV true (getV m.mem AN 1) 8 = NV at *
  have HNVE := Lib.hid hNVE
  clear hNVE hnr
  generalize hGV : getV m.mem AN 1 = GV at *
  have HGV := Lib.hid hGV
  clear hR3 hF3 hM3 hR2 hF2 u1 u2 v0 hown hown2 hgrow q3 q33 q0 hgr hbyte hGV
  refine wp_region_held_drew (S := (fun W : World => W.heap[w.heap.size]? = some (.cells cs0 34) ∧ W.cell? ⟨w.heap.size + 2, 0, none⟩ = some (.int .i64 38))) (by kernel_rfl) ⟨HM3.out.b0, hv0⟩ (fun hHeld => ?_)
  refine wpAnyH_take (i := 0) (oi := _) (v := .agg cs0) rfl (by kernel_rfl) (by kernel_rfl) (by kernel_rfl) (fun _ _ _ h => h) (yieldsIf_load_row (by rfl) 34 (.tmp 3) rfl w.heap.size rfl 34 cs0 (0, 0) _ (fun W h => h.1) Tryd.underlying34 rfl (by rw [HZ.out]; exact szMach)) (by assumption) ?_
  simp only [Act.put, List.setIfInBounds_toArray, List.set_cons_zero, List.set_cons_succ]
  refine wpAnyH_take (i := 1) (oi := _) (v := ?v29) rfl (by kernel_rfl) (by kernel_rfl) (by kernel_rfl) (fun _ _ _ h => h) (Or.inl ⟨by rfl, ?hy29⟩) (by assumption) ?rest29
  case hy29 => ((intro W hSW; (try dsimp only at hSW); go_simp); try with_reducible rfl)
  simp only [Act.put, List.setIfInBounds_toArray, List.set_cons_zero, List.set_cons_succ]
  refine wpAnyH_take (i := 2) (oi := _) (v := ?v30) rfl (by kernel_rfl) (by kernel_rfl) (by kernel_rfl) (fun _ _ _ h => h) (Or.inl ⟨by rfl, ?hy30⟩) (by assumption) ?rest30
  case hy30 => ((intro W hSW; (try dsimp only at hSW); go_simp); try with_reducible rfl)
  simp only [Act.put, List.setIfInBounds_toArray, List.set_cons_zero, List.set_cons_succ]
  refine wpAnyH_take (i := 4) (oi := _) (v := ?v31) rfl (by kernel_rfl) (by kernel_rfl) (by kernel_rfl) (fun _ _ _ h => h) (Or.inl ⟨by rfl, ?hy31⟩) (by assumption) ?rest31
  case hy31 => ((intro W hSW; (try dsimp only at hSW); go_simp); try with_reducible rfl)
  simp only [Act.put, List.setIfInBounds_toArray, List.set_cons_zero, List.set_cons_succ]
  refine wpAnyH_take (i := 5) (oi := _) (v := ?v32) rfl (by kernel_rfl) (by kernel_rfl) (by kernel_rfl) (fun _ _ _ h => h) (Or.inl ⟨by rfl, ?hy32⟩) (by assumption) ?rest32
  case hy32 => ((intro W hSW; (try dsimp only at hSW); go_simp); try with_reducible rfl)
  simp only [Act.put, List.setIfInBounds_toArray, List.set_cons_zero, List.set_cons_succ]
  refine wpAnyH_take (i := 6) (oi := _) (v := ?v33) rfl (by kernel_rfl) (by kernel_rfl) (by kernel_rfl) (fun _ _ _ h => h) (Or.inl ⟨by rfl, ?hy33⟩) (by assumption) ?rest33
  case hy33 => ((intro W hSW; (try dsimp only at hSW); go_simp); try with_reducible rfl)
  simp only [Act.put, List.setIfInBounds_toArray, List.set_cons_zero, List.set_cons_succ]
  refine wpAnyH_take (i := 7) (oi := _) (v := ?v34) rfl (by kernel_rfl) (by kernel_rfl) (by kernel_rfl) (fun _ _ _ h => h) (Or.inl ⟨by rfl, ?hy34⟩) (by assumption) ?rest34
  case hy34 => ((intro W hSW; (try dsimp only at hSW); go_simp); try with_reducible rfl)
  simp only [Act.put, List.setIfInBounds_toArray, List.set_cons_zero, List.set_cons_succ]
  refine wpAnyH_take (i := 8) (oi := _) (v := ?v35) rfl (by kernel_rfl) (by kernel_rfl) (by kernel_rfl) (fun _ _ _ h => h) (Or.inl ⟨by rfl, ?hy35⟩) (by assumption) ?rest35
  case hy35 => ((intro W hSW; (try dsimp only at hSW); go_simp); try with_reducible rfl)
  simp only [Act.put, List.setIfInBounds_toArray, List.set_cons_zero, List.set_cons_succ]
  refine wpAnyH_ready (rs := [3]) (by kernel_rfl) (by simp) ?_
  refine AllReadyH.cons (o := _) rfl (fun K hK => ?_) AllReadyH.nil
  go_simp
  refine (HG.out w3.drew (show w3.drew.heap[q]? = _ from HR3.out.mem)).mono ?_
  rintro e y ⟨rfl, hby⟩
  have HBY := Lib.hid (show Below w3.heap.size w3 y from ⟨hby.os, hby.tape, hby.output, hby.size, hby.block⟩)
  refine hK.out _ _ ⟨row_at HBY.out (by omega) HM3.out.b0, (HBY.out.cell (p := ⟨w.heap.size + 2, 0, none⟩) (by simp only; omega)).trans hv0⟩ (fun hHeld => ?_)
  clear hK K hby
  try simp only [Act.put, List.setIfInBounds_toArray, List.set_cons_zero, List.set_cons_succ]
  refine wpAnyH_ready (rs := [9]) (by kernel_rfl) (by simp) ?_
  refine AllReadyH.cons (o := _) rfl (fun K hK => ?_) AllReadyH.nil
  go_simp
  refine (HNW.out _).mono ?_
  rintro e y2 ⟨rfl, rfl⟩
  refine hK.out _ _ hHeld (fun hHeld => ?_)
  clear hK K
  try simp only [Act.put, List.setIfInBounds_toArray, List.set_cons_zero, List.set_cons_succ]
  refine wpAnyH_take (i := 10) (oi := ⟨some 87, _, _, _, _, _⟩) (v := ?v36) rfl (by kernel_rfl) (by kernel_rfl) (by kernel_rfl) (fun _ _ _ h => h) (Or.inl ⟨by rfl, ?hy36⟩) (by assumption) ?rest36
  case hy36 => ((intro W hSW; (try dsimp only at hSW); go_simp); try with_reducible rfl)
  simp only [Act.put, List.setIfInBounds_toArray, List.set_cons_zero, List.set_cons_succ]
  refine wpAnyH_take (i := 11) (oi := ⟨some 98, _, _, _, _, _⟩) (v := ?v37) rfl (by kernel_rfl) (by kernel_rfl) (by kernel_rfl) (fun _ _ _ h => h) (Or.inl ⟨by rfl, ?hy37⟩) (by assumption) ?rest37
  case hy37 => ((intro W hSW; (try dsimp only at hSW); go_simp); try with_reducible rfl)
  simp only [Act.put, List.setIfInBounds_toArray, List.set_cons_zero, List.set_cons_succ]
  refine wpAnyH_take (i := 12) (oi := ⟨some 99, _, _, _, _, _⟩) (v := ?v38) rfl (by kernel_rfl) (by kernel_rfl) (by kernel_rfl) (fun _ _ _ h => h) (Or.inl ⟨by rfl, ?hy38⟩) (by assumption) ?rest38
  case hy38 => ((intro W hSW; (try dsimp only at hSW); go_simp); try with_reducible rfl)
  simp only [Act.put, List.setIfInBounds_toArray, List.set_cons_zero, List.set_cons_succ]
  refine wpAnyH_take (i := 13) (oi := ⟨some 13, _, _, _, _, _⟩) (v := ?v39) rfl (by kernel_rfl) (by kernel_rfl) (by kernel_rfl) (fun _ _ _ h => h) (Or.inl ⟨by rfl, ?hy39⟩) (by assumption) ?rest39
  case hy39 => ((intro W hSW; (try dsimp only at hSW); go_simp); try with_reducible rfl)
  simp only [Act.put, List.setIfInBounds_toArray, List.set_cons_zero, List.set_cons_succ]
  refine wpAnyH_take (i := 14) (oi := ⟨some 14, _, _, _, _, _⟩) (v := ?v40) rfl (by kernel_rfl) (by kernel_rfl) (by kernel_rfl) (fun _ _ _ h => h) (Or.inl ⟨by rfl, ?hy40⟩) (by assumption) ?rest40
  case hy40 => ((intro W hSW; (try dsimp only at hSW); go_simp); try with_reducible rfl)
  simp only [Act.put, List.setIfInBounds_toArray, List.set_cons_zero, List.set_cons_succ]
  refine wpAnyH_done (by kernel_rfl) ?_ _
  go_wp2_with fail
  have hm5 : Mr w y cs0 #[.slice A R.inp.length c, .slice oA on oc, .int .i64 R.checks, .slice (some ⟨g, 0, none⟩) (R.seen.length + 1) cap] 38 rd r1 r2 n := HM3.out.keep fun i hi => HBY.out.block _ (by omega)
  have hR5 := HR3.out.below HBY.out
  have hF5 := HF3.out.trans (Fw.below (base := base) (q := q) HBY.out)
  have hset := fun W => rset_any (m := m) (q := q) (w := W) HH.out.ok.1 rd hd NV
  have hz1 : (mcs (m.set rd NV) q).size = 36 := mcs_size (Ma.set_ok HH.out.ok rd hNV).1 q
  have ha1 := mcs_all (m.set rd NV) q
  have hset2 : ∀ W : World, Calls Tryd.prog 32 #[.agg cs0, .int .i64 rd, .int .u64 NV] W fun e w' => e = .returned (.agg (mcs (m.set rd NV) q)) ∧ Below W.heap.size W w' := fun W => by
    have := hset W
    rw [HC0.out] at this
    exact this
  have hrd : y.cell? ⟨w.heap.size + 2, 1, none⟩ = some (.int .i64 rd) := by rw [cell_of_row _ _ 1 _ _ _ hm5.b2]; rfl
  have hs5 : w.heap.size + 4 < y.heap.size := lt_of_at hm5.b4.choose_spec.2
  have hwkd : IntKind.i64.wrap (rd : Int) = rd := IntWalk.i64_in _ (by omega)
  have hsok := Ma.set_ok HH.out.ok rd hNV
  generalize hcs1 : mcs (m.set rd NV) q = cs1 at *
  have HC1 := Lib.hid hcs1; have HZ1 := Lib.hid hz1; have HSET := Lib.hid hset2; have HM5 := Lib.hid hm5; have HR5 := Lib.hid hR5; have HF5 := Lib.hid hF5; have HSOK := Lib.hid hsok
  clear hset hset2 hz1 hcs1 hm5 hR5 hF5 hv0 hsok
  refine wp_region_held_drew (S := (fun W : World => W.heap[w.heap.size]? = some (.cells cs0 34) ∧ W.heap[w.heap.size + 1]? = some (.cells #[.slice A R.inp.length c, .slice oA on oc, .int .i64 R.checks, .slice (some ⟨g, 0, none⟩) (R.seen.length + 1) cap] 71) ∧ W.cell? ⟨w.heap.size + 2, 1, none⟩ = some (.int .i64 rd))) (by kernel_rfl) ⟨HM5.out.b0, HM5.out.b1, hrd⟩ (fun hHeld => ?_)
  refine wpAnyH_take (i := 0) (oi := _) (v := .agg cs0) rfl (by kernel_rfl) (by kernel_rfl) (by kernel_rfl) (fun _ _ _ h => h) (yieldsIf_load_row (by rfl) 34 (.tmp 3) rfl w.heap.size rfl 34 cs0 (0, 0) _ (fun W h => h.1) Tryd.underlying34 rfl (by rw [HZ.out]; exact szMach)) (by assumption) ?_
  simp only [Act.put, List.setIfInBounds_toArray, List.set_cons_zero, List.set_cons_succ]
  refine wpAnyH_take (i := 5) (oi := _) (v := .agg #[.slice A R.inp.length c, .slice oA on oc, .int .i64 R.checks, .slice (some ⟨g, 0, none⟩) (R.seen.length + 1) cap]) rfl (by kernel_rfl) (by kernel_rfl) (by kernel_rfl) (fun _ _ _ h => h) (yieldsIf_load_row (by rfl) 71 (.tmp 4) rfl (w.heap.size + 1) rfl 71 #[.slice A R.inp.length c, .slice oA on oc, .int .i64 R.checks, .slice (some ⟨g, 0, none⟩) (R.seen.length + 1) cap] (0, 0) _ (fun W h => h.2.1) Tryd.underlying71 rfl szRun) (by assumption) ?_
  simp only [Act.put, List.setIfInBounds_toArray, List.set_cons_zero, List.set_cons_succ]
  refine wpAnyH_take (i := 1) (oi := _) (v := ?v41) rfl (by kernel_rfl) (by kernel_rfl) (by kernel_rfl) (fun _ _ _ h => h) (Or.inl ⟨by rfl, ?hy41⟩) (by assumption) ?rest41
  case hy41 => ((intro W hSW; (try dsimp only at hSW); go_simp); try with_reducible rfl)
  simp only [Act.put, List.setIfInBounds_toArray, List.set_cons_zero, List.set_cons_succ]
  refine wpAnyH_take (i := 2) (oi := _) (v := ?v42) rfl (by kernel_rfl) (by kernel_rfl) (by kernel_rfl) (fun _ _ _ h => h) (Or.inl ⟨by rfl, ?hy42⟩) (by assumption) ?rest42
  case hy42 => ((intro W hSW; (try dsimp only at hSW); go_simp); try with_reducible rfl)
  simp only [Act.put, List.setIfInBounds_toArray, List.set_cons_zero, List.set_cons_succ]
  refine wpAnyH_take (i := 3) (oi := _) (v := ?v43) rfl (by kernel_rfl) (by kernel_rfl) (by kernel_rfl) (fun _ _ _ h => h) (Or.inl ⟨by rfl, ?hy43⟩) (by assumption) ?rest43
  case hy43 => ((intro W hSW; (try dsimp only at hSW); go_simp); try with_reducible rfl)
  simp only [Act.put, List.setIfInBounds_toArray, List.set_cons_zero, List.set_cons_succ]
  refine wpAnyH_ready (rs := [4]) (by kernel_rfl) (by simp) ?_
  refine AllReadyH.cons (o := _) rfl (fun K hK => ?_) AllReadyH.nil
  go_simp
  refine (HSET.out y.drew).mono ?_
  rintro e y2 ⟨rfl, hby2⟩
  have HB2 := Lib.hid (show Below y.heap.size y y2 from ⟨hby2.os, hby2.tape, hby2.output, hby2.size, hby2.block⟩)
  have hm6 : Mr w y2 cs0 #[.slice A R.inp.length c, .slice oA on oc, .int .i64 R.checks, .slice (some ⟨g, 0, none⟩) (R.seen.length + 1) cap] 38 rd r1 r2 n := HM5.out.keep fun i hi => HB2.out.block _ (by omega)
  have HM6 := Lib.hid hm6
  refine hK.out _ _ ⟨HM6.out.b0, HM6.out.b1, (HB2.out.cell (p := ⟨w.heap.size + 2, 1, none⟩) (by simp only; omega)).trans hrd⟩ (fun hHeld => ?_)
  clear hK K hby2 hm6
  try simp only [Act.put, List.setIfInBounds_toArray, List.set_cons_zero, List.set_cons_succ]
  obtain ⟨o3, z3, k3⟩ := HM6.out.b3
  obtain ⟨o4, z4, k4⟩ := HM6.out.b4
  have K3 := Lib.hid k3; have K4 := Lib.hid k4
  have hrd2 : y2.cell? ⟨w.heap.size + 2, 1, none⟩ = some (.int .i64 rd) := (HB2.out.cell (p := ⟨w.heap.size + 2, 1, none⟩) (by simp only; omega)).trans hrd
  clear k3 k4
  refine wpAnyH_ready (rs := [6]) (by kernel_rfl) (by simp) ?_
  refine AllReadyH.cons (o := _) rfl (fun K hK => ?_) AllReadyH.nil
  rw [if_pos (by rfl)]
  refine wp_store_row 34 (.tmp 6) (.tmp 104) rfl (w.heap.size + 3) cs1 rfl rfl 34 o3 K3.out (by rw [HZ1.out]; exact szMach) (by rw [z3, HZ1.out]) ha1 ?_
  refine hK.out _ _ ⟨(setRow_other _ _ _ _ (by omega)).trans HM6.out.b0, (setRow_other _ _ _ _ (by omega)).trans HM6.out.b1, (World.cell?_of_block (setRow_other _ _ _ _ (by simp))).trans hrd2⟩ (fun hHeld => ?_)
  clear hK K
  try simp only [Act.put, List.setIfInBounds_toArray, List.set_cons_zero, List.set_cons_succ]
  refine wpAnyH_ready (rs := [7]) (by kernel_rfl) (by simp) ?_
  refine AllReadyH.cons (o := _) rfl (fun K hK => ?_) AllReadyH.nil
  rw [if_pos (by rfl)]
  refine wp_store_row 71 (.tmp 7) (.tmp 105) rfl (w.heap.size + 4) #[.slice A R.inp.length c, .slice oA on oc, .int .i64 R.checks, .slice (some ⟨g, 0, none⟩) (R.seen.length + 1) cap] rfl rfl 71 o4 ((setRow_other _ _ _ _ (by omega)).trans K4.out) szRun z4 (by simp [Value.oneCell']) ?_
  refine hK.out _ _ ⟨(setRow_other _ _ _ _ (by omega)).trans ((setRow_other _ _ _ _ (by omega)).trans HM6.out.b0), (setRow_other _ _ _ _ (by omega)).trans ((setRow_other _ _ _ _ (by omega)).trans HM6.out.b1), (World.cell?_of_block (setRow_other _ _ _ _ (by simp))).trans ((World.cell?_of_block (setRow_other _ _ _ _ (by simp))).trans hrd2)⟩ (fun hHeld => ?_)
  clear hK K
  try simp only [Act.put, List.setIfInBounds_toArray, List.set_cons_zero, List.set_cons_succ]
  refine wpAnyH_take (i := 8) (oi := ⟨some 8, _, _, _, _, _⟩) (v := ?v44) rfl (by kernel_rfl) (by kernel_rfl) (by kernel_rfl) (fun _ _ _ h => h) (Or.inl ⟨by rfl, ?hy44⟩) (by assumption) ?rest44
  case hy44 => ((intro W hSW; (try dsimp only at hSW); go_simp); try with_reducible rfl)
  simp only [Act.put, List.setIfInBounds_toArray, List.set_cons_zero, List.set_cons_succ]
  refine wpAnyH_done (by kernel_rfl) ?_ _
  have hlb := HH.out.lb
  obtain ⟨y1, y2', y3, y4⟩ := end8 cs1 #[.slice A R.inp.length c, .slice oA on oc, .int .i64 R.checks, .slice (some ⟨g, 0, none⟩) (R.seen.length + 1) cap] ((HR5.out.below HB2.out).mach (m' := m.set rd NV) (by unfold Ma.set; split <;> rfl) HSOK.out) (HF5.out.trans (Fw.below HB2.out)) (by omega) (by omega) (by omega) K3.out K4.out
  generalize (y2.setRow (w.heap.size + 3) cs1).setRow (w.heap.size + 4) #[.slice A R.inp.length c, .slice oA on oc, .int .i64 R.checks, .slice (some ⟨g, 0, none⟩) (R.seen.length + 1) cap] = Y at *
  clear hHeld hrd hrd2 hs0 hs5
  go_wp2_with fail
  exact bodyPost_ret (v := .tuple #[.agg cs1, .agg #[.slice A R.inp.length c, .slice oA on oc, .int .i64 R.checks, .slice (some ⟨g, 0, none⟩) (R.seen.length + 1) cap], .bool true]) (res_cct Tryd.results34 _ _ _ _ _ _ _ rfl rfl rfl y1 HZ1.out y2' rfl) rfl ⟨m.set rd NV, R.note ⟨PL, AN, 1, false⟩, A, c, oA, on, oc, some ⟨g, 0, none⟩, R.seen.length + 1, cap, true, by rw [if_pos rfl, ← HPL.out, ← HNVE.out, ← HGV.out], fun hb => (by cases hb), by rw [HC1.out, (note_inp R _).1, (note_inp R _).2], y3, y4⟩
set_option maxHeartbeats 3000000 in
theorem rmem_ld39 {m : Ma} {q base : Nat} {w : World} {R : Ru} {A : Option Addr} {c : Nat} {oA sA : Option Addr} {on oc sn sc : Nat} (n : Int) (rd r1 r2 : Nat) (hn : -9223372036854775808 ≤ n ∧ n < 9223372036854775808) (h1 : r1 < 32) (h2 : r2 < 32) (hd : rd < 32) (h : Rd w base q m R A c (.slice oA on oc) (.slice sA sn sc)) (hb : hasB (m.ad r1 n) 1 m.mem.length = true) (hls : R.seen.length + 1 < 1099511627776)  :
    Calls Tryd.prog 34 #[.agg (mcs m q), .agg #[.slice A R.inp.length c, .slice oA on oc, .int .i64 R.checks, .slice sA sn sc], ins 39 rd r1 r2 n] w (RTo w base q m R (some (m.set rd (nrV false (getV m.mem (m.ad r1 n).toNat 1) 8), R.note ⟨m.pl, m.ad r1 n, 1, false⟩))) := by
  have hx := h.ok.1
  have cr1 := mcs_x hx q h1
  have hr1 := reg_range h.ok r1
  have had : (m.ad r1 n) = IntKind.u64.wrap (m.x.getD r1 0 + n % 18446744073709551616) := by unfold Ma.ad Ma.reg; rw [IntKind.wrap_u64]
  have hadr : 0 ≤ m.ad r1 n ∧ m.ad r1 n < 18446744073709551616 := by unfold Ma.ad; omega
  have hX1 : ∀ Z, ((w.alloc (Obj.cells (mcs m q) 34)).alloc Z).cell? ⟨w.heap.size, 1 + r1, none⟩ = some (.int .u64 (m.x.getD r1 0)) := fun Z => by rw [cell_of_row _ _ (1 + r1) _ _ _ (aa0 _ _ _)]; exact cr1
  have HH := Lib.hid h
  have HA := Lib.hid hadr
  generalize m.ad r1 n = AT at *
  have hat := had.symm
  unfold Ma.reg at hr1
  generalize m.x.getD r1 0 = x1 at *
  generalize hcs0 : mcs m q = cs0 at *
  have HC0 := Lib.hid hcs0
  clear h hcs0 cr1 hx had hadr
  have hwk : IntKind.i64.wrap (r1 : Int) = r1 := IntWalk.i64_in _ (by omega)
  go_enter Tryd.func34, Tryd.ntmps34
  go_wp2_with fail
  have HI : Hid (∀ k : Nat, ∀ W : World, Calls Tryd.prog 31 #[.int .i64 n] (W.drewN k) fun e w' => e = .returned (.int .u64 (n % 18446744073709551616)) ∧ W.drewN k = w') := Lib.hid fun k W => rimm_any n _ hn
  go_quiet (with_reducible refine (HI.out _ _).mono ?_; rintro e w9 ⟨rfl, rfl⟩; exact ⟨rfl, _, rfl⟩)
  clear HI hX1
  generalize hX : World.drewN (((((w.alloc _).alloc _).alloc _).alloc _).alloc _) nq = X
  have mb : Mb w X cs0 #[.slice A R.inp.length c, .slice oA on oc, .int .i64 R.checks, .slice sA sn sc] 39 rd r1 r2 n := by
    rw [← hX]
    exact ⟨a5_0 _ _ _ _ _ _, a5_1 _ _ _ _ _ _, a5_2 _ _ _ _ _ _, ⟨_, rfl, a5_3 _ _ _ _ _ _⟩, ⟨_, rfl, a5_4 _ _ _ _ _ _⟩, ⟨rfl, rfl, rfl, (bw5 w _ _ _ _ _).size, (bw5 w _ _ _ _ _).block⟩⟩
  clear hX
  have hfit : AT + 1 ≤ m.mem.length := by unfold hasB at hb; exact (of_decide_eq_true hb).2
  obtain ⟨AN, rfl⟩ := Int.eq_ofNat_of_zero_le HA.out.1
  have hp := rplace_any (q := q) (w := X) HH.out.ok.1 HH.out.ok.2.1 (AN : Int) 1 HA.out (Or.inl rfl)
  have hz := mcs_size HH.out.ok.1 q
  have ha := mcs_all m q
  rw [HC0.out] at hp hz ha
  rw [hb] at hp
  have HP := Lib.hid hp; have HZ := Lib.hid hz; have HMB := Lib.hid mb
  clear hp hz mb hb
  go_wp2_with (first
    | ((with_reducible refine ld36 w.heap.size cs0 ?_ ?_ HZ.out ?_); rfl; exact HMB.out.b0)
    | fail)
  with_reducible refine HP.out.mono ?_
  rintro e X1 ⟨rfl, bp⟩
  have HM1 := Lib.hid (HMB.out.grow bp)
  clear bp HP HMB
  obtain ⟨i0, hi0, hz0, hz1, hz2⟩ := info_parts infoAcc
  have c33 := mcs_33 HH.out.ok.1 q
  rw [HC0.out] at c33
  have HV := Lib.hid (own_lt HH.out.seen)
  have hown := ownsRow_at2 HH.out.seen fun g cur _ hg => (HM1.out.below.block g (lt_of_at hg)).trans hg
  have q3 : X1.cell? ⟨w.heap.size + 1, 3, none⟩ = some (.slice sA sn sc) := by rw [cell_of_row _ _ 3 _ _ _ HM1.out.b1]; rfl
  have q33 : X1.cell? ⟨w.heap.size, 33, none⟩ = some (.int .u64 m.pl) := by rw [cell_of_row _ _ 33 _ _ _ HM1.out.b0]; exact c33
  have q0 : X1.cell? ⟨w.heap.size + 2, 0, none⟩ = some (.int .i64 39) := by rw [cell_of_row _ _ 0 _ _ _ HM1.out.b2]; rfl
  have hlb := HH.out.lb
  have hsz := HM1.out.below.size
  have hb4 := lt_of_at HM1.out.b4.choose_spec.2
  generalize hpl : m.pl = PL at *
  have HPL := Lib.hid hpl
  clear c33 hpl
  go_wp2_with (at_builtin; refine wpList_append_lies (o := ⟨some 58, _, _, _, _, _⟩) _ rfl (.tmp 48) (.tmp 57) 41 rfl base 81 i0 _ 4 32 Tryd.underlying41 hi0 hz0 hz1 hz2 rfl (by omega) (.slice sA sn sc) R.seen.length (accs R.seen) rfl (hown.alloc _) ⟨X1.heap.size, 0, none⟩ 1 1 [.int .u64 PL, .int .u64 (AN : Int), .int .i64 1, .bool false] rfl rfl (World.news_of_block (cs := #[.int .u64 PL, .int .u64 (AN : Int), .int .i64 1, .bool false]) (t := 81) (fr := (0, 0)) (heap_alloc_new X1 _)) (by simp [Value.oneCell']) (by omega) (by unfold maxLen; omega) (by omega) (by simp only [szA]; omega) (X1.heap.size + 1) (szA _ _) ?_; intro g cap w2 hown2 hgrow hat2 hlt; have HM2 : Hid (Mr w w2 cs0 #[.slice A R.inp.length c, .slice oA on oc, .int .i64 R.checks, .slice sA sn sc] 39 rd r1 r2 n) := Lib.hid (HM1.out.rows.keep fun i hi => (by rw [hgrow.block (w.heap.size + i) (by simp only [szA]; omega) (fun e => HV.out _ (by omega) e.symm), Below.heap_alloc _ _ _ (by omega)])); have u1 : w2.cell? ⟨w.heap.size + 1, 3, none⟩ = some (.slice sA sn sc) := (by rw [cell_of_row _ _ 3 _ _ _ HM2.out.b1]; rfl); have u2 : w2.frozen? ⟨w.heap.size + 1, 3, none⟩ = false := frozen_of_row _ _ 3 _ _ HM2.out.b1; have v0 : (w2.setCell ⟨w.heap.size + 1, 3, none⟩ (.slice (some ⟨g, 0, none⟩) (R.seen.length + 1) cap)).cell? ⟨w.heap.size + 2, 0, none⟩ = some (.int .i64 39) := (by rw [cell_of_row _ _ 0 _ _ _ (HM2.out.cell (i := 3) rfl).b2]; rfl))
  obtain ⟨hR2, hF2⟩ := rd_seen (a := ⟨PL, AN, 1, false⟩) HH.out (HM1.out.below.alloc HM1.out.below.size _) hgrow hown2 hls
  have hR3 := rd_cell (i := 3) (x := .slice (some ⟨g, 0, none⟩) (R.seen.length + 1) cap) hR2 HM2.out.b1 (by omega)
  have hF3 := fb_cell (i := 3) (x := .slice (some ⟨g, 0, none⟩) (R.seen.length + 1) cap) hF2 (b := w.heap.size + 1) (by omega)
  have hM3 : Mr w (w2.setCell ⟨w.heap.size + 1, 3, none⟩ (.slice (some ⟨g, 0, none⟩) (R.seen.length + 1) cap)) cs0 #[.slice A R.inp.length c, .slice oA on oc, .int .i64 R.checks, .slice (some ⟨g, 0, none⟩) (R.seen.length + 1) cap] 39 rd r1 r2 n := HM2.out.cell rfl
  generalize hw3 : w2.setCell ⟨w.heap.size + 1, 3, none⟩ (.slice (some ⟨g, 0, none⟩) (R.seen.length + 1) cap) = w3 at *
  have HR3 := Lib.hid hR3; have HF3 := Lib.hid hF3; have HM3 := Lib.hid hM3
  have HFIT := Lib.hid hfit
  have hbyte : ∀ i : Nat, 0 ≤ m.mem.getD i 0 ∧ m.mem.getD i 0 < 256 := fun i => by
    by_cases hi : i < m.mem.length
    · have e : m.mem.getD i 0 = m.mem[i] := by simp [List.getD, hi]
      rw [e]; exact HH.out.ok.2.2.2.1 _ (List.getElem_mem hi)
    · have e : m.mem.getD i 0 = 0 := by simp [List.getD, List.getElem?_eq_none (Nat.le_of_not_lt hi)]
      rw [e]; omega
  have HG : Hid (∀ W : World, W.heap[q]? = some (.cells (u8s m.mem).toArray 5) → Calls Tryd.prog 30 #[.agg cs0, .int .u64 AN, .int .i64 1] W fun e w' => e = .returned (.int .u64 (getV m.mem AN 1)) ∧ Below W.heap.size W w') := Lib.hid fun W hW => by
    have := rget_any (q := q) (w := W) HH.out.ok.1 HH.out.ok.2.1 hbyte AN 1 (by omega) (by omega) hW
    rw [HC0.out] at this
    exact this
  have hgr := getV_range m.mem hbyte 1 AN
  have hgv : 0 ≤ getV m.mem AN 1 ∧ getV m.mem AN 1 < 18446744073709551616 := ⟨hgr.1, Int.lt_of_lt_of_le hgr.2 (by decide)⟩
  have HNW : Hid (∀ W : World, Calls Tryd.prog 50 #[.int .u64 (getV m.mem AN 1), .int .i64 8, .bool false] W fun e w' => e = .returned (.tuple #[.int .u64 (nrV false (getV m.mem AN 1) 8), .bool true]) ∧ W = w') := Lib.hid fun W => refNarrow_any false _ 8 W hgv.1 hgv.2 (by omega) (by omega)
  have hnr := nrV_range false (getV m.mem AN 1) 8 (by omega) (by omega)
  have hv0 : w3.cell? ⟨w.heap.size + 2, 0, none⟩ = some (.int .i64 39) := by rw [cell_of_row _ _ 0 _ _ _ HM3.out.b2]; rfl
  have hs0 : w.heap.size + 4 < w3.heap.size := lt_of_at HM3.out.b4.choose_spec.2
  have hNV := hnr
  generalize hNVE : nrV false (getV m.mem AN 1) 8 = NV at *
  have HNVE := Lib.hid hNVE
  clear hNVE hnr
  generalize hGV : getV m.mem AN 1 = GV at *
  have HGV := Lib.hid hGV
  clear hR3 hF3 hM3 hR2 hF2 u1 u2 v0 hown hown2 hgrow q3 q33 q0 hgr hbyte hGV
  refine wp_region_held_drew (S := (fun W : World => W.heap[w.heap.size]? = some (.cells cs0 34) ∧ W.cell? ⟨w.heap.size + 2, 0, none⟩ = some (.int .i64 39))) (by kernel_rfl) ⟨HM3.out.b0, hv0⟩ (fun hHeld => ?_)
  refine wpAnyH_take (i := 0) (oi := _) (v := .agg cs0) rfl (by kernel_rfl) (by kernel_rfl) (by kernel_rfl) (fun _ _ _ h => h) (yieldsIf_load_row (by rfl) 34 (.tmp 3) rfl w.heap.size rfl 34 cs0 (0, 0) _ (fun W h => h.1) Tryd.underlying34 rfl (by rw [HZ.out]; exact szMach)) (by assumption) ?_
  simp only [Act.put, List.setIfInBounds_toArray, List.set_cons_zero, List.set_cons_succ]
  refine wpAnyH_take (i := 1) (oi := _) (v := ?v45) rfl (by kernel_rfl) (by kernel_rfl) (by kernel_rfl) (fun _ _ _ h => h) (Or.inl ⟨by rfl, ?hy45⟩) (by assumption) ?rest45
  case hy45 => ((intro W hSW; (try dsimp only at hSW); go_simp); try with_reducible rfl)
  simp only [Act.put, List.setIfInBounds_toArray, List.set_cons_zero, List.set_cons_succ]
  refine wpAnyH_take (i := 2) (oi := _) (v := ?v46) rfl (by kernel_rfl) (by kernel_rfl) (by kernel_rfl) (fun _ _ _ h => h) (Or.inl ⟨by rfl, ?hy46⟩) (by assumption) ?rest46
  case hy46 => ((intro W hSW; (try dsimp only at hSW); go_simp); try with_reducible rfl)
  simp only [Act.put, List.setIfInBounds_toArray, List.set_cons_zero, List.set_cons_succ]
  refine wpAnyH_take (i := 4) (oi := _) (v := ?v47) rfl (by kernel_rfl) (by kernel_rfl) (by kernel_rfl) (fun _ _ _ h => h) (Or.inl ⟨by rfl, ?hy47⟩) (by assumption) ?rest47
  case hy47 => ((intro W hSW; (try dsimp only at hSW); go_simp); try with_reducible rfl)
  simp only [Act.put, List.setIfInBounds_toArray, List.set_cons_zero, List.set_cons_succ]
  refine wpAnyH_take (i := 5) (oi := _) (v := ?v48) rfl (by kernel_rfl) (by kernel_rfl) (by kernel_rfl) (fun _ _ _ h => h) (Or.inl ⟨by rfl, ?hy48⟩) (by assumption) ?rest48
  case hy48 => ((intro W hSW; (try dsimp only at hSW); go_simp); try with_reducible rfl)
  simp only [Act.put, List.setIfInBounds_toArray, List.set_cons_zero, List.set_cons_succ]
  refine wpAnyH_take (i := 6) (oi := _) (v := ?v49) rfl (by kernel_rfl) (by kernel_rfl) (by kernel_rfl) (fun _ _ _ h => h) (Or.inl ⟨by rfl, ?hy49⟩) (by assumption) ?rest49
  case hy49 => ((intro W hSW; (try dsimp only at hSW); go_simp); try with_reducible rfl)
  simp only [Act.put, List.setIfInBounds_toArray, List.set_cons_zero, List.set_cons_succ]
  refine wpAnyH_take (i := 7) (oi := _) (v := ?v50) rfl (by kernel_rfl) (by kernel_rfl) (by kernel_rfl) (fun _ _ _ h => h) (Or.inl ⟨by rfl, ?hy50⟩) (by assumption) ?rest50
  case hy50 => ((intro W hSW; (try dsimp only at hSW); go_simp); try with_reducible rfl)
  simp only [Act.put, List.setIfInBounds_toArray, List.set_cons_zero, List.set_cons_succ]
  refine wpAnyH_take (i := 8) (oi := _) (v := ?v51) rfl (by kernel_rfl) (by kernel_rfl) (by kernel_rfl) (fun _ _ _ h => h) (Or.inl ⟨by rfl, ?hy51⟩) (by assumption) ?rest51
  case hy51 => ((intro W hSW; (try dsimp only at hSW); go_simp); try with_reducible rfl)
  simp only [Act.put, List.setIfInBounds_toArray, List.set_cons_zero, List.set_cons_succ]
  refine wpAnyH_ready (rs := [3]) (by kernel_rfl) (by simp) ?_
  refine AllReadyH.cons (o := _) rfl (fun K hK => ?_) AllReadyH.nil
  go_simp
  refine (HG.out w3.drew (show w3.drew.heap[q]? = _ from HR3.out.mem)).mono ?_
  rintro e y ⟨rfl, hby⟩
  have HBY := Lib.hid (show Below w3.heap.size w3 y from ⟨hby.os, hby.tape, hby.output, hby.size, hby.block⟩)
  refine hK.out _ _ ⟨row_at HBY.out (by omega) HM3.out.b0, (HBY.out.cell (p := ⟨w.heap.size + 2, 0, none⟩) (by simp only; omega)).trans hv0⟩ (fun hHeld => ?_)
  clear hK K hby
  try simp only [Act.put, List.setIfInBounds_toArray, List.set_cons_zero, List.set_cons_succ]
  refine wpAnyH_ready (rs := [9]) (by kernel_rfl) (by simp) ?_
  refine AllReadyH.cons (o := _) rfl (fun K hK => ?_) AllReadyH.nil
  go_simp
  refine (HNW.out _).mono ?_
  rintro e y2 ⟨rfl, rfl⟩
  refine hK.out _ _ hHeld (fun hHeld => ?_)
  clear hK K
  try simp only [Act.put, List.setIfInBounds_toArray, List.set_cons_zero, List.set_cons_succ]
  refine wpAnyH_take (i := 10) (oi := ⟨some 87, _, _, _, _, _⟩) (v := ?v52) rfl (by kernel_rfl) (by kernel_rfl) (by kernel_rfl) (fun _ _ _ h => h) (Or.inl ⟨by rfl, ?hy52⟩) (by assumption) ?rest52
  case hy52 => ((intro W hSW; (try dsimp only at hSW); go_simp); try with_reducible rfl)
  simp only [Act.put, List.setIfInBounds_toArray, List.set_cons_zero, List.set_cons_succ]
  refine wpAnyH_take (i := 11) (oi := ⟨some 98, _, _, _, _, _⟩) (v := ?v53) rfl (by kernel_rfl) (by kernel_rfl) (by kernel_rfl) (fun _ _ _ h => h) (Or.inl ⟨by rfl, ?hy53⟩) (by assumption) ?rest53
  case hy53 => ((intro W hSW; (try dsimp only at hSW); go_simp); try with_reducible rfl)
  simp only [Act.put, List.setIfInBounds_toArray, List.set_cons_zero, List.set_cons_succ]
  refine wpAnyH_take (i := 12) (oi := ⟨some 99, _, _, _, _, _⟩) (v := ?v54) rfl (by kernel_rfl) (by kernel_rfl) (by kernel_rfl) (fun _ _ _ h => h) (Or.inl ⟨by rfl, ?hy54⟩) (by assumption) ?rest54
  case hy54 => ((intro W hSW; (try dsimp only at hSW); go_simp); try with_reducible rfl)
  simp only [Act.put, List.setIfInBounds_toArray, List.set_cons_zero, List.set_cons_succ]
  refine wpAnyH_take (i := 13) (oi := ⟨some 13, _, _, _, _, _⟩) (v := ?v55) rfl (by kernel_rfl) (by kernel_rfl) (by kernel_rfl) (fun _ _ _ h => h) (Or.inl ⟨by rfl, ?hy55⟩) (by assumption) ?rest55
  case hy55 => ((intro W hSW; (try dsimp only at hSW); go_simp); try with_reducible rfl)
  simp only [Act.put, List.setIfInBounds_toArray, List.set_cons_zero, List.set_cons_succ]
  refine wpAnyH_take (i := 14) (oi := ⟨some 14, _, _, _, _, _⟩) (v := ?v56) rfl (by kernel_rfl) (by kernel_rfl) (by kernel_rfl) (fun _ _ _ h => h) (Or.inl ⟨by rfl, ?hy56⟩) (by assumption) ?rest56
  case hy56 => ((intro W hSW; (try dsimp only at hSW); go_simp); try with_reducible rfl)
  simp only [Act.put, List.setIfInBounds_toArray, List.set_cons_zero, List.set_cons_succ]
  refine wpAnyH_done (by kernel_rfl) ?_ _
  go_wp2_with fail
  have hm5 : Mr w y cs0 #[.slice A R.inp.length c, .slice oA on oc, .int .i64 R.checks, .slice (some ⟨g, 0, none⟩) (R.seen.length + 1) cap] 39 rd r1 r2 n := HM3.out.keep fun i hi => HBY.out.block _ (by omega)
  have hR5 := HR3.out.below HBY.out
  have hF5 := HF3.out.trans (Fw.below (base := base) (q := q) HBY.out)
  have hset := fun W => rset_any (m := m) (q := q) (w := W) HH.out.ok.1 rd hd NV
  have hz1 : (mcs (m.set rd NV) q).size = 36 := mcs_size (Ma.set_ok HH.out.ok rd hNV).1 q
  have ha1 := mcs_all (m.set rd NV) q
  have hset2 : ∀ W : World, Calls Tryd.prog 32 #[.agg cs0, .int .i64 rd, .int .u64 NV] W fun e w' => e = .returned (.agg (mcs (m.set rd NV) q)) ∧ Below W.heap.size W w' := fun W => by
    have := hset W
    rw [HC0.out] at this
    exact this
  have hrd : y.cell? ⟨w.heap.size + 2, 1, none⟩ = some (.int .i64 rd) := by rw [cell_of_row _ _ 1 _ _ _ hm5.b2]; rfl
  have hs5 : w.heap.size + 4 < y.heap.size := lt_of_at hm5.b4.choose_spec.2
  have hwkd : IntKind.i64.wrap (rd : Int) = rd := IntWalk.i64_in _ (by omega)
  have hsok := Ma.set_ok HH.out.ok rd hNV
  generalize hcs1 : mcs (m.set rd NV) q = cs1 at *
  have HC1 := Lib.hid hcs1; have HZ1 := Lib.hid hz1; have HSET := Lib.hid hset2; have HM5 := Lib.hid hm5; have HR5 := Lib.hid hR5; have HF5 := Lib.hid hF5; have HSOK := Lib.hid hsok
  clear hset hset2 hz1 hcs1 hm5 hR5 hF5 hv0 hsok
  refine wp_region_held_drew (S := (fun W : World => W.heap[w.heap.size]? = some (.cells cs0 34) ∧ W.heap[w.heap.size + 1]? = some (.cells #[.slice A R.inp.length c, .slice oA on oc, .int .i64 R.checks, .slice (some ⟨g, 0, none⟩) (R.seen.length + 1) cap] 71) ∧ W.cell? ⟨w.heap.size + 2, 1, none⟩ = some (.int .i64 rd))) (by kernel_rfl) ⟨HM5.out.b0, HM5.out.b1, hrd⟩ (fun hHeld => ?_)
  refine wpAnyH_take (i := 0) (oi := _) (v := .agg cs0) rfl (by kernel_rfl) (by kernel_rfl) (by kernel_rfl) (fun _ _ _ h => h) (yieldsIf_load_row (by rfl) 34 (.tmp 3) rfl w.heap.size rfl 34 cs0 (0, 0) _ (fun W h => h.1) Tryd.underlying34 rfl (by rw [HZ.out]; exact szMach)) (by assumption) ?_
  simp only [Act.put, List.setIfInBounds_toArray, List.set_cons_zero, List.set_cons_succ]
  refine wpAnyH_take (i := 5) (oi := _) (v := .agg #[.slice A R.inp.length c, .slice oA on oc, .int .i64 R.checks, .slice (some ⟨g, 0, none⟩) (R.seen.length + 1) cap]) rfl (by kernel_rfl) (by kernel_rfl) (by kernel_rfl) (fun _ _ _ h => h) (yieldsIf_load_row (by rfl) 71 (.tmp 4) rfl (w.heap.size + 1) rfl 71 #[.slice A R.inp.length c, .slice oA on oc, .int .i64 R.checks, .slice (some ⟨g, 0, none⟩) (R.seen.length + 1) cap] (0, 0) _ (fun W h => h.2.1) Tryd.underlying71 rfl szRun) (by assumption) ?_
  simp only [Act.put, List.setIfInBounds_toArray, List.set_cons_zero, List.set_cons_succ]
  refine wpAnyH_take (i := 1) (oi := _) (v := ?v57) rfl (by kernel_rfl) (by kernel_rfl) (by kernel_rfl) (fun _ _ _ h => h) (Or.inl ⟨by rfl, ?hy57⟩) (by assumption) ?rest57
  case hy57 => ((intro W hSW; (try dsimp only at hSW); go_simp); try with_reducible rfl)
  simp only [Act.put, List.setIfInBounds_toArray, List.set_cons_zero, List.set_cons_succ]
  refine wpAnyH_take (i := 2) (oi := _) (v := ?v58) rfl (by kernel_rfl) (by kernel_rfl) (by kernel_rfl) (fun _ _ _ h => h) (Or.inl ⟨by rfl, ?hy58⟩) (by assumption) ?rest58
  case hy58 => ((intro W hSW; (try dsimp only at hSW); go_simp); try with_reducible rfl)
  simp only [Act.put, List.setIfInBounds_toArray, List.set_cons_zero, List.set_cons_succ]
  refine wpAnyH_take (i := 3) (oi := _) (v := ?v59) rfl (by kernel_rfl) (by kernel_rfl) (by kernel_rfl) (fun _ _ _ h => h) (Or.inl ⟨by rfl, ?hy59⟩) (by assumption) ?rest59
  case hy59 => ((intro W hSW; (try dsimp only at hSW); go_simp); try with_reducible rfl)
  simp only [Act.put, List.setIfInBounds_toArray, List.set_cons_zero, List.set_cons_succ]
  refine wpAnyH_ready (rs := [4]) (by kernel_rfl) (by simp) ?_
  refine AllReadyH.cons (o := _) rfl (fun K hK => ?_) AllReadyH.nil
  go_simp
  refine (HSET.out y.drew).mono ?_
  rintro e y2 ⟨rfl, hby2⟩
  have HB2 := Lib.hid (show Below y.heap.size y y2 from ⟨hby2.os, hby2.tape, hby2.output, hby2.size, hby2.block⟩)
  have hm6 : Mr w y2 cs0 #[.slice A R.inp.length c, .slice oA on oc, .int .i64 R.checks, .slice (some ⟨g, 0, none⟩) (R.seen.length + 1) cap] 39 rd r1 r2 n := HM5.out.keep fun i hi => HB2.out.block _ (by omega)
  have HM6 := Lib.hid hm6
  refine hK.out _ _ ⟨HM6.out.b0, HM6.out.b1, (HB2.out.cell (p := ⟨w.heap.size + 2, 1, none⟩) (by simp only; omega)).trans hrd⟩ (fun hHeld => ?_)
  clear hK K hby2 hm6
  try simp only [Act.put, List.setIfInBounds_toArray, List.set_cons_zero, List.set_cons_succ]
  obtain ⟨o3, z3, k3⟩ := HM6.out.b3
  obtain ⟨o4, z4, k4⟩ := HM6.out.b4
  have K3 := Lib.hid k3; have K4 := Lib.hid k4
  have hrd2 : y2.cell? ⟨w.heap.size + 2, 1, none⟩ = some (.int .i64 rd) := (HB2.out.cell (p := ⟨w.heap.size + 2, 1, none⟩) (by simp only; omega)).trans hrd
  clear k3 k4
  refine wpAnyH_ready (rs := [6]) (by kernel_rfl) (by simp) ?_
  refine AllReadyH.cons (o := _) rfl (fun K hK => ?_) AllReadyH.nil
  rw [if_pos (by rfl)]
  refine wp_store_row 34 (.tmp 6) (.tmp 104) rfl (w.heap.size + 3) cs1 rfl rfl 34 o3 K3.out (by rw [HZ1.out]; exact szMach) (by rw [z3, HZ1.out]) ha1 ?_
  refine hK.out _ _ ⟨(setRow_other _ _ _ _ (by omega)).trans HM6.out.b0, (setRow_other _ _ _ _ (by omega)).trans HM6.out.b1, (World.cell?_of_block (setRow_other _ _ _ _ (by simp))).trans hrd2⟩ (fun hHeld => ?_)
  clear hK K
  try simp only [Act.put, List.setIfInBounds_toArray, List.set_cons_zero, List.set_cons_succ]
  refine wpAnyH_ready (rs := [7]) (by kernel_rfl) (by simp) ?_
  refine AllReadyH.cons (o := _) rfl (fun K hK => ?_) AllReadyH.nil
  rw [if_pos (by rfl)]
  refine wp_store_row 71 (.tmp 7) (.tmp 105) rfl (w.heap.size + 4) #[.slice A R.inp.length c, .slice oA on oc, .int .i64 R.checks, .slice (some ⟨g, 0, none⟩) (R.seen.length + 1) cap] rfl rfl 71 o4 ((setRow_other _ _ _ _ (by omega)).trans K4.out) szRun z4 (by simp [Value.oneCell']) ?_
  refine hK.out _ _ ⟨(setRow_other _ _ _ _ (by omega)).trans ((setRow_other _ _ _ _ (by omega)).trans HM6.out.b0), (setRow_other _ _ _ _ (by omega)).trans ((setRow_other _ _ _ _ (by omega)).trans HM6.out.b1), (World.cell?_of_block (setRow_other _ _ _ _ (by simp))).trans ((World.cell?_of_block (setRow_other _ _ _ _ (by simp))).trans hrd2)⟩ (fun hHeld => ?_)
  clear hK K
  try simp only [Act.put, List.setIfInBounds_toArray, List.set_cons_zero, List.set_cons_succ]
  refine wpAnyH_take (i := 8) (oi := ⟨some 8, _, _, _, _, _⟩) (v := ?v60) rfl (by kernel_rfl) (by kernel_rfl) (by kernel_rfl) (fun _ _ _ h => h) (Or.inl ⟨by rfl, ?hy60⟩) (by assumption) ?rest60
  case hy60 => ((intro W hSW; (try dsimp only at hSW); go_simp); try with_reducible rfl)
  simp only [Act.put, List.setIfInBounds_toArray, List.set_cons_zero, List.set_cons_succ]
  refine wpAnyH_done (by kernel_rfl) ?_ _
  have hlb := HH.out.lb
  obtain ⟨y1, y2', y3, y4⟩ := end8 cs1 #[.slice A R.inp.length c, .slice oA on oc, .int .i64 R.checks, .slice (some ⟨g, 0, none⟩) (R.seen.length + 1) cap] ((HR5.out.below HB2.out).mach (m' := m.set rd NV) (by unfold Ma.set; split <;> rfl) HSOK.out) (HF5.out.trans (Fw.below HB2.out)) (by omega) (by omega) (by omega) K3.out K4.out
  generalize (y2.setRow (w.heap.size + 3) cs1).setRow (w.heap.size + 4) #[.slice A R.inp.length c, .slice oA on oc, .int .i64 R.checks, .slice (some ⟨g, 0, none⟩) (R.seen.length + 1) cap] = Y at *
  clear hHeld hrd hrd2 hs0 hs5
  go_wp2_with fail
  exact bodyPost_ret (v := .tuple #[.agg cs1, .agg #[.slice A R.inp.length c, .slice oA on oc, .int .i64 R.checks, .slice (some ⟨g, 0, none⟩) (R.seen.length + 1) cap], .bool true]) (res_cct Tryd.results34 _ _ _ _ _ _ _ rfl rfl rfl y1 HZ1.out y2' rfl) rfl ⟨m.set rd NV, R.note ⟨PL, AN, 1, false⟩, A, c, oA, on, oc, some ⟨g, 0, none⟩, R.seen.length + 1, cap, true, by rw [if_pos rfl, ← HPL.out, ← HNVE.out, ← HGV.out], fun hb => (by cases hb), by rw [HC1.out, (note_inp R _).1, (note_inp R _).2], y3, y4⟩
end Go.Proofs.YtppcbommaddkgaaDoor
