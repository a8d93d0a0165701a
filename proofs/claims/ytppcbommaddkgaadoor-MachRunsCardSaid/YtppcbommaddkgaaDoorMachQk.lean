/- The document's machine: loads. Conditions: each theorem's. -/
import Derived.Test.YtppcbommaddkgaaDoorMachQl
import Derived.StillTailTactics
import Derived.Deep.RegionHeld3
namespace Go.Proofs.YtppcbommaddkgaaDoor
open Go.RowKit Go.Maps
set_option linter.unusedVariables false
set_option linter.unusedSimpArgs false
set_option maxRecDepth 10000
open Pm Pc Pl
set_option maxHeartbeats 3000000 in
theorem rmem_ld40 {m : Ma} {q base : Nat} {w : World} {R : Ru} {A : Option Addr} {c : Nat} {oA sA : Option Addr} {on oc sn sc : Nat} (n : Int) (rd r1 r2 : Nat) (hn : -9223372036854775808 ≤ n ∧ n < 9223372036854775808) (h1 : r1 < 32) (h2 : r2 < 32) (hd : rd < 32) (h : Rd w base q m R A c (.slice oA on oc) (.slice sA sn sc)) (hb : hasB (m.ad r1 n) 4 m.mem.length = true) (hls : R.seen.length + 1 < 1099511627776)  :
    Calls Tryd.prog 34 #[.agg (mcs m q), .agg #[.slice A R.inp.length c, .slice oA on oc, .int .i64 R.checks, .slice sA sn sc], ins 40 rd r1 r2 n] w (RTo w base q m R (some (m.set rd (nrV true (getV m.mem (m.ad r1 n).toNat 4) 32), R.note ⟨m.pl, m.ad r1 n, 4, false⟩))) := by
  have hx := h.ok.1
  have cr1 := mcs_x hx q h1
  have hr1 := reg_range h.ok r1
  have had : (m.ad r1 n) = IntKind.u64.wrap (m.x.getD r1 0 + n % 18446744073709551616) := by unfold Ma.ad Ma.reg; rw [IntKind.wrap_u64]
  have hadr : 0 ≤ m.ad r1 n ∧ m.ad r1 n < 18446744073709551616 := by unfold Ma.ad; omega
  have hX1 : ∀ Z, ((w.alloc (Obj.cells (mcs m q) 34)).alloc Z).cell? ⟨w.heap.size, 1 + r1, none⟩ = some (.int .u64 (m.x.getD r1 0)) := fun Z => by rw [cell_of_row _ _ (1 + r1) _ _ _ (aa0 _ _ _)]; exact cr1
  have HH := Lib.hid h
  have HA := Lib.hid hadr
  generalize m.ad r1 n = AT at *
  have hat := had.symm
  unfold Ma.reg at hr1
  generalize m.x.getD r1 0 = x1 at *
  generalize hcs0 : mcs m q = cs0 at *
  have HC0 := Lib.hid hcs0
  clear h hcs0 cr1 hx had hadr
  have hwk : IntKind.i64.wrap (r1 : Int) = r1 := IntWalk.i64_in _ (by omega)
  go_enter Tryd.func34, Tryd.ntmps34
  go_wp2_with fail
  have HI : Hid (∀ k : Nat, ∀ W : World, Calls Tryd.prog 31 #[.int .i64 n] (W.drewN k) fun e w' => e = .returned (.int .u64 (n % 18446744073709551616)) ∧ W.drewN k = w') := Lib.hid fun k W => rimm_any n _ hn
  go_quiet (with_reducible refine (HI.out _ _).mono ?_; rintro e w9 ⟨rfl, rfl⟩; exact ⟨rfl, _, rfl⟩)
  clear HI hX1
  generalize hX : World.drewN (((((w.alloc _).alloc _).alloc _).alloc _).alloc _) nq = X
  have mb : Mb w X cs0 #[.slice A R.inp.length c, .slice oA on oc, .int .i64 R.checks, .slice sA sn sc] 40 rd r1 r2 n := by
    rw [← hX]
    exact ⟨a5_0 _ _ _ _ _ _, a5_1 _ _ _ _ _ _, a5_2 _ _ _ _ _ _, ⟨_, rfl, a5_3 _ _ _ _ _ _⟩, ⟨_, rfl, a5_4 _ _ _ _ _ _⟩, ⟨rfl, rfl, rfl, (bw5 w _ _ _ _ _).size, (bw5 w _ _ _ _ _).block⟩⟩
  clear hX
  have hfit : AT + 4 ≤ m.mem.length := by unfold hasB at hb; exact (of_decide_eq_true hb).2
  obtain ⟨AN, rfl⟩ := Int.eq_ofNat_of_zero_le HA.out.1
  have hp := rplace_any (q := q) (w := X) HH.out.ok.1 HH.out.ok.2.1 (AN : Int) 4 HA.out (Or.inr (Or.inl rfl))
  have hz := mcs_size HH.out.ok.1 q
  have ha := mcs_all m q
  rw [HC0.out] at hp hz ha
  rw [hb] at hp
  have HP := Lib.hid hp; have HZ := Lib.hid hz; have HMB := Lib.hid mb
  clear hp hz mb hb
  go_wp2_with (first
    | ((with_reducible refine ld36 w.heap.size cs0 ?_ ?_ HZ.out ?_); rfl; exact HMB.out.b0)
    | fail)
  with_reducible refine HP.out.mono ?_
  rintro e X1 ⟨rfl, bp⟩
  have HM1 := Lib.hid (HMB.out.grow bp)
  clear bp HP HMB
  obtain ⟨i0, hi0, hz0, hz1, hz2⟩ := info_parts infoAcc
  have c33 := mcs_33 HH.out.ok.1 q
  rw [HC0.out] at c33
  have HV := Lib.hid (own_lt HH.out.seen)
  have hown := ownsRow_at2 HH.out.seen fun g cur _ hg => (HM1.out.below.block g (lt_of_at hg)).trans hg
  have q3 : X1.cell? ⟨w.heap.size + 1, 3, none⟩ = some (.slice sA sn sc) := by rw [cell_of_row _ _ 3 _ _ _ HM1.out.b1]; rfl
  have q33 : X1.cell? ⟨w.heap.size, 33, none⟩ = some (.int .u64 m.pl) := by rw [cell_of_row _ _ 33 _ _ _ HM1.out.b0]; exact c33
  have q0 : X1.cell? ⟨w.heap.size + 2, 0, none⟩ = some (.int .i64 40) := by rw [cell_of_row _ _ 0 _ _ _ HM1.out.b2]; rfl
  have hlb := HH.out.lb
  have hsz := HM1.out.below.size
  have hb4 := lt_of_at HM1.out.b4.choose_spec.2
  generalize hpl : m.pl = PL at *
  have HPL := Lib.hid hpl
  clear c33 hpl
  go_wp2_with (at_builtin; refine wpList_append_lies (o := ⟨some 58, _, _, _, _, _⟩) _ rfl (.tmp 48) (.tmp 57) 41 rfl base 81 i0 _ 4 32 Tryd.underlying41 hi0 hz0 hz1 hz2 rfl (by omega) (.slice sA sn sc) R.seen.length (accs R.seen) rfl (hown.alloc _) ⟨X1.heap.size, 0, none⟩ 1 1 [.int .u64 PL, .int .u64 (AN : Int), .int .i64 4, .bool false] rfl rfl (World.news_of_block (cs := #[.int .u64 PL, .int .u64 (AN : Int), .int .i64 4, .bool false]) (t := 81) (fr := (0, 0)) (heap_alloc_new X1 _)) (by simp [Value.oneCell']) (by omega) (by unfold maxLen; omega) (by omega) (by simp only [szA]; omega) (X1.heap.size + 1) (szA _ _) ?_; intro g cap w2 hown2 hgrow hat2 hlt; have HM2 : Hid (Mr w w2 cs0 #[.slice A R.inp.length c, .slice oA on oc, .int .i64 R.checks, .slice sA sn sc] 40 rd r1 r2 n) := Lib.hid (HM1.out.rows.keep fun i hi => (by rw [hgrow.block (w.heap.size + i) (by simp only [szA]; omega) (fun e => HV.out _ (by omega) e.symm), Below.heap_alloc _ _ _ (by omega)])); have u1 : w2.cell? ⟨w.heap.size + 1, 3, none⟩ = some (.slice sA sn sc) := (by rw [cell_of_row _ _ 3 _ _ _ HM2.out.b1]; rfl); have u2 : w2.frozen? ⟨w.heap.size + 1, 3, none⟩ = false := frozen_of_row _ _ 3 _ _ HM2.out.b1; have v0 : (w2.setCell ⟨w.heap.size + 1, 3, none⟩ (.slice (some ⟨g, 0, none⟩) (R.seen.length + 1) cap)).cell? ⟨w.heap.size + 2, 0, none⟩ = some (.int .i64 40) := (by rw [cell_of_row _ _ 0 _ _ _ (HM2.out.cell (i := 3) rfl).b2]; rfl))
  obtain ⟨hR2, hF2⟩ := rd_seen (a := ⟨PL, AN, 4, false⟩) HH.out (HM1.out.below.alloc HM1.out.below.size _) hgrow hown2 hls
  have hR3 := rd_cell (i := 3) (x := .slice (some ⟨g, 0, none⟩) (R.seen.length + 1) cap) hR2 HM2.out.b1 (by omega)
  have hF3 := fb_cell (i := 3) (x := .slice (some ⟨g, 0, none⟩) (R.seen.length + 1) cap) hF2 (b := w.heap.size + 1) (by omega)
  have hM3 : Mr w (w2.setCell ⟨w.heap.size + 1, 3, none⟩ (.slice (some ⟨g, 0, none⟩) (R.seen.length + 1) cap)) cs0 #[.slice A R.inp.length c, .slice oA on oc, .int .i64 R.checks, .slice (some ⟨g, 0, none⟩) (R.seen.length + 1) cap] 40 rd r1 r2 n := HM2.out.cell rfl
  generalize hw3 : w2.setCell ⟨w.heap.size + 1, 3, none⟩ (.slice (some ⟨g, 0, none⟩) (R.seen.length + 1) cap) = w3 at *
  have HR3 := Lib.hid hR3; have HF3 := Lib.hid hF3; have HM3 := Lib.hid hM3
  have HFIT := Lib.hid hfit
  have hbyte : ∀ i : Nat, 0 ≤ m.mem.getD i 0 ∧ m.mem.getD i 0 < 256 := fun i => by
    by_cases hi : i < m.mem.length
    · have e : m.mem.getD i 0 = m.mem[i] := by simp [List.getD, hi]
      rw [e]; exact HH.out.ok.2.2.2.1 _ (List.getElem_mem hi)
    · have e : m.mem.getD i 0 = 0 := by simp [List.getD, List.getElem?_eq_none (Nat.le_of_not_lt hi)]
      rw [e]; omega
  have HG : Hid (∀ W : World, W.heap[q]? = some (.cells (u8s m.mem).toArray 5) → Calls Tryd.prog 30 #[.agg cs0, .int .u64 AN, .int .i64 4] W fun e w' => e = .returned (.int .u64 (getV m.mem AN 4)) ∧ Below W.heap.size W w') := Lib.hid fun W hW => by
    have := rget_any (q := q) (w := W) HH.out.ok.1 HH.out.ok.2.1 hbyte AN 4 (by omega) (by omega) hW
    rw [HC0.out] at this
    exact this
  have hgr := getV_range m.mem hbyte 4 AN
  have hgv : 0 ≤ getV m.mem AN 4 ∧ getV m.mem AN 4 < 18446744073709551616 := ⟨hgr.1, Int.lt_of_lt_of_le hgr.2 (by decide)⟩
  have HNW : Hid (∀ W : World, Calls Tryd.prog 50 #[.int .u64 (getV m.mem AN 4), .int .i64 32, .bool true] W fun e w' => e = .returned (.tuple #[.int .u64 (nrV true (getV m.mem AN 4) 32), .bool true]) ∧ W = w') := Lib.hid fun W => refNarrow_any true _ 32 W hgv.1 hgv.2 (by omega) (by omega)
  have hnr := nrV_range true (getV m.mem AN 4) 32 (by omega) (by omega)
  have hv0 : w3.cell? ⟨w.heap.size + 2, 0, none⟩ = some (.int .i64 40) := by rw [cell_of_row _ _ 0 _ _ _ HM3.out.b2]; rfl
  have hs0 : w.heap.size + 4 < w3.heap.size := lt_of_at HM3.out.b4.choose_spec.2
  have hNV := hnr
  generalize hNVE : nrV true (getV m.mem AN 4) 32 = NV at *
  have HNVE := Lib.hid hNVE
  clear hNVE hnr
  generalize hGV : getV m.mem AN 4 = GV at *
  have HGV := Lib.hid hGV
  clear hR3 hF3 hM3 hR2 hF2 u1 u2 v0 hown hown2 hgrow q3 q33 q0 hgr hbyte hGV
  refine wp_region_held_drew (S := (fun W : World => W.heap[w.heap.size]? = some (.cells cs0 34) ∧ W.cell? ⟨w.heap.size + 2, 0, none⟩ = some (.int .i64 40))) (by kernel_rfl) ⟨HM3.out.b0, hv0⟩ (fun hHeld => ?_)
  refine wpAnyH_take (i := 0) (oi := _) (v := .agg cs0) rfl (by kernel_rfl) (by kernel_rfl) (by kernel_rfl) (fun _ _ _ h => h) (yieldsIf_load_row (by rfl) 34 (.tmp 3) rfl w.heap.size rfl 34 cs0 (0, 0) _ (fun W h => h.1) Tryd.underlying34 rfl (by rw [HZ.out]; exact szMach)) (by assumption) ?_
  simp only [Act.put, List.setIfInBounds_toArray, List.set_cons_zero, List.set_cons_succ]
  refine wpAnyH_take (i := 1) (oi := _) (v := ?v61) rfl (by kernel_rfl) (by kernel_rfl) (by kernel_rfl) (fun _ _ _ h => h) (Or.inl ⟨by rfl, ?hy61⟩) (by assumption) ?rest61
  case hy61 => ((intro W hSW; (try dsimp only at hSW); go_simp); try with_reducible rfl)
  simp only [Act.put, List.setIfInBounds_toArray, List.set_cons_zero, List.set_cons_succ]
  refine wpAnyH_take (i := 2) (oi := _) (v := ?v62) rfl (by kernel_rfl) (by kernel_rfl) (by kernel_rfl) (fun _ _ _ h => h) (Or.inl ⟨by rfl, ?hy62⟩) (by assumption) ?rest62
  case hy62 => ((intro W hSW; (try dsimp only at hSW); go_simp); try with_reducible rfl)
  simp only [Act.put, List.setIfInBounds_toArray, List.set_cons_zero, List.set_cons_succ]
  refine wpAnyH_take (i := 4) (oi := _) (v := ?v63) rfl (by kernel_rfl) (by kernel_rfl) (by kernel_rfl) (fun _ _ _ h => h) (Or.inl ⟨by rfl, ?hy63⟩) (by assumption) ?rest63
  case hy63 => ((intro W hSW; (try dsimp only at hSW); go_simp); try with_reducible rfl)
  simp only [Act.put, List.setIfInBounds_toArray, List.set_cons_zero, List.set_cons_succ]
  refine wpAnyH_take (i := 5) (oi := _) (v := ?v64) rfl (by kernel_rfl) (by kernel_rfl) (by kernel_rfl) (fun _ _ _ h => h) (Or.inl ⟨by rfl, ?hy64⟩) (by assumption) ?rest64
  case hy64 => ((intro W hSW; (try dsimp only at hSW); go_simp); try with_reducible rfl)
  simp only [Act.put, List.setIfInBounds_toArray, List.set_cons_zero, List.set_cons_succ]
  refine wpAnyH_take (i := 6) (oi := _) (v := ?v65) rfl (by kernel_rfl) (by kernel_rfl) (by kernel_rfl) (fun _ _ _ h => h) (Or.inl ⟨by rfl, ?hy65⟩) (by assumption) ?rest65
  case hy65 => ((intro W hSW; (try dsimp only at hSW); go_simp); try with_reducible rfl)
  simp only [Act.put, List.setIfInBounds_toArray, List.set_cons_zero, List.set_cons_succ]
  refine wpAnyH_take (i := 7) (oi := _) (v := ?v66) rfl (by kernel_rfl) (by kernel_rfl) (by kernel_rfl) (fun _ _ _ h => h) (Or.inl ⟨by rfl, ?hy66⟩) (by assumption) ?rest66
  case hy66 => ((intro W hSW; (try dsimp only at hSW); go_simp); try with_reducible rfl)
  simp only [Act.put, List.setIfInBounds_toArray, List.set_cons_zero, List.set_cons_succ]
  refine wpAnyH_take (i := 8) (oi := _) (v := ?v67) rfl (by kernel_rfl) (by kernel_rfl) (by kernel_rfl) (fun _ _ _ h => h) (Or.inl ⟨by rfl, ?hy67⟩) (by assumption) ?rest67
  case hy67 => ((intro W hSW; (try dsimp only at hSW); go_simp); try with_reducible rfl)
  simp only [Act.put, List.setIfInBounds_toArray, List.set_cons_zero, List.set_cons_succ]
  refine wpAnyH_ready (rs := [3]) (by kernel_rfl) (by simp) ?_
  refine AllReadyH.cons (o := _) rfl (fun K hK => ?_) AllReadyH.nil
  go_simp
  refine (HG.out w3.drew (show w3.drew.heap[q]? = _ from HR3.out.mem)).mono ?_
  rintro e y ⟨rfl, hby⟩
  have HBY := Lib.hid (show Below w3.heap.size w3 y from ⟨hby.os, hby.tape, hby.output, hby.size, hby.block⟩)
  refine hK.out _ _ ⟨row_at HBY.out (by omega) HM3.out.b0, (HBY.out.cell (p := ⟨w.heap.size + 2, 0, none⟩) (by simp only; omega)).trans hv0⟩ (fun hHeld => ?_)
  clear hK K hby
  try simp only [Act.put, List.setIfInBounds_toArray, List.set_cons_zero, List.set_cons_succ]
  refine wpAnyH_ready (rs := [9]) (by kernel_rfl) (by simp) ?_
  refine AllReadyH.cons (o := _) rfl (fun K hK => ?_) AllReadyH.nil
  go_simp
  refine (HNW.out _).mono ?_
  rintro e y2 ⟨rfl, rfl⟩
  refine hK.out _ _ hHeld (fun hHeld => ?_)
  clear hK K
  try simp only [Act.put, List.setIfInBounds_toArray, List.set_cons_zero, List.set_cons_succ]
  refine wpAnyH_take (i := 10) (oi := ⟨some 87, _, _, _, _, _⟩) (v := ?v68) rfl (by kernel_rfl) (by kernel_rfl) (by kernel_rfl) (fun _ _ _ h => h) (Or.inl ⟨by rfl, ?hy68⟩) (by assumption) ?rest68
  case hy68 => ((intro W hSW; (try dsimp only at hSW); go_simp); try with_reducible rfl)
  simp only [Act.put, List.setIfInBounds_toArray, List.set_cons_zero, List.set_cons_succ]
  refine wpAnyH_take (i := 11) (oi := ⟨some 98, _, _, _, _, _⟩) (v := ?v69) rfl (by kernel_rfl) (by kernel_rfl) (by kernel_rfl) (fun _ _ _ h => h) (Or.inl ⟨by rfl, ?hy69⟩) (by assumption) ?rest69
  case hy69 => ((intro W hSW; (try dsimp only at hSW); go_simp); try with_reducible rfl)
  simp only [Act.put, List.setIfInBounds_toArray, List.set_cons_zero, List.set_cons_succ]
  refine wpAnyH_take (i := 12) (oi := ⟨some 99, _, _, _, _, _⟩) (v := ?v70) rfl (by kernel_rfl) (by kernel_rfl) (by kernel_rfl) (fun _ _ _ h => h) (Or.inl ⟨by rfl, ?hy70⟩) (by assumption) ?rest70
  case hy70 => ((intro W hSW; (try dsimp only at hSW); go_simp); try with_reducible rfl)
  simp only [Act.put, List.setIfInBounds_toArray, List.set_cons_zero, List.set_cons_succ]
  refine wpAnyH_take (i := 13) (oi := ⟨some 13, _, _, _, _, _⟩) (v := ?v71) rfl (by kernel_rfl) (by kernel_rfl) (by kernel_rfl) (fun _ _ _ h => h) (Or.inl ⟨by rfl, ?hy71⟩) (by assumption) ?rest71
  case hy71 => ((intro W hSW; (try dsimp only at hSW); go_simp); try with_reducible rfl)
  simp only [Act.put, List.setIfInBounds_toArray, List.set_cons_zero, List.set_cons_succ]
  refine wpAnyH_take (i := 14) (oi := ⟨some 14, _, _, _, _, _⟩) (v := ?v72) rfl (by kernel_rfl) (by kernel_rfl) (by kernel_rfl) (fun _ _ _ h => h) (Or.inl ⟨by rfl, ?hy72⟩) (by assumption) ?rest72
  case hy72 => ((intro W hSW; (try dsimp only at hSW); go_simp); try with_reducible rfl)
  simp only [Act.put, List.setIfInBounds_toArray, List.set_cons_zero, List.set_cons_succ]
  refine wpAnyH_done (by kernel_rfl) ?_ _
  go_wp2_with fail
  have hm5 : Mr w y cs0 #[.slice A R.inp.length c, .slice oA on oc, .int .i64 R.checks, .slice (some ⟨g, 0, none⟩) (R.seen.length + 1) cap] 40 rd r1 r2 n := HM3.out.keep fun i hi => HBY.out.block _ (by omega)
  have hR5 := HR3.out.below HBY.out
  have hF5 := HF3.out.trans (Fw.below (base := base) (q := q) HBY.out)
  have hset := fun W => rset_any (m := m) (q := q) (w := W) HH.out.ok.1 rd hd NV
  have hz1 : (mcs (m.set rd NV) q).size = 36 := mcs_size (Ma.set_ok HH.out.ok rd hNV).1 q
  have ha1 := mcs_all (m.set rd NV) q
  have hset2 : ∀ W : World, Calls Tryd.prog 32 #[.agg cs0, .int .i64 rd, .int .u64 NV] W fun e w' => e = .returned (.agg (mcs (m.set rd NV) q)) ∧ Below W.heap.size W w' := fun W => by
    have := hset W
    rw [HC0.out] at this
    exact this
  have hrd : y.cell? ⟨w.heap.size + 2, 1, none⟩ = some (.int .i64 rd) := by rw [cell_of_row _ _ 1 _ _ _ hm5.b2]; rfl
  have hs5 : w.heap.size + 4 < y.heap.size := lt_of_at hm5.b4.choose_spec.2
  have hwkd : IntKind.i64.wrap (rd : Int) = rd := IntWalk.i64_in _ (by omega)
  have hsok := Ma.set_ok HH.out.ok rd hNV
  generalize hcs1 : mcs (m.set rd NV) q = cs1 at *
  have HC1 := Lib.hid hcs1; have HZ1 := Lib.hid hz1; have HSET := Lib.hid hset2; have HM5 := Lib.hid hm5; have HR5 := Lib.hid hR5; have HF5 := Lib.hid hF5; have HSOK := Lib.hid hsok
  clear hset hset2 hz1 hcs1 hm5 hR5 hF5 hv0 hsok
  refine wp_region_held_drew (S := (fun W : World => W.heap[w.heap.size]? = some (.cells cs0 34) ∧ W.heap[w.heap.size + 1]? = some (.cells #[.slice A R.inp.length c, .slice oA on oc, .int .i64 R.checks, .slice (some ⟨g, 0, none⟩) (R.seen.length + 1) cap] 71) ∧ W.cell? ⟨w.heap.size + 2, 1, none⟩ = some (.int .i64 rd))) (by kernel_rfl) ⟨HM5.out.b0, HM5.out.b1, hrd⟩ (fun hHeld => ?_)
  refine wpAnyH_take (i := 0) (oi := _) (v := .agg cs0) rfl (by kernel_rfl) (by kernel_rfl) (by kernel_rfl) (fun _ _ _ h => h) (yieldsIf_load_row (by rfl) 34 (.tmp 3) rfl w.heap.size rfl 34 cs0 (0, 0) _ (fun W h => h.1) Tryd.underlying34 rfl (by rw [HZ.out]; exact szMach)) (by assumption) ?_
  simp only [Act.put, List.setIfInBounds_toArray, List.set_cons_zero, List.set_cons_succ]
  refine wpAnyH_take (i := 5) (oi := _) (v := .agg #[.slice A R.inp.length c, .slice oA on oc, .int .i64 R.checks, .slice (some ⟨g, 0, none⟩) (R.seen.length + 1) cap]) rfl (by kernel_rfl) (by kernel_rfl) (by kernel_rfl) (fun _ _ _ h => h) (yieldsIf_load_row (by rfl) 71 (.tmp 4) rfl (w.heap.size + 1) rfl 71 #[.slice A R.inp.length c, .slice oA on oc, .int .i64 R.checks, .slice (some ⟨g, 0, none⟩) (R.seen.length + 1) cap] (0, 0) _ (fun W h => h.2.1) Tryd.underlying71 rfl szRun) (by assumption) ?_
  simp only [Act.put, List.setIfInBounds_toArray, List.set_cons_zero, List.set_cons_succ]
  refine wpAnyH_take (i := 1) (oi := _) (v := ?v73) rfl (by kernel_rfl) (by kernel_rfl) (by kernel_rfl) (fun _ _ _ h => h) (Or.inl ⟨by rfl, ?hy73⟩) (by assumption) ?rest73
  case hy73 => ((intro W hSW; (try dsimp only at hSW); go_simp); try with_reducible rfl)
  simp only [Act.put, List.setIfInBounds_toArray, List.set_cons_zero, List.set_cons_succ]
  refine wpAnyH_take (i := 2) (oi := _) (v := ?v74) rfl (by kernel_rfl) (by kernel_rfl) (by kernel_rfl) (fun _ _ _ h => h) (Or.inl ⟨by rfl, ?hy74⟩) (by assumption) ?rest74
  case hy74 => ((intro W hSW; (try dsimp only at hSW); go_simp); try with_reducible rfl)
  simp only [Act.put, List.setIfInBounds_toArray, List.set_cons_zero, List.set_cons_succ]
  refine wpAnyH_take (i := 3) (oi := _) (v := ?v75) rfl (by kernel_rfl) (by kernel_rfl) (by kernel_rfl) (fun _ _ _ h => h) (Or.inl ⟨by rfl, ?hy75⟩) (by assumption) ?rest75
  case hy75 => ((intro W hSW; (try dsimp only at hSW); go_simp); try with_reducible rfl)
  simp only [Act.put, List.setIfInBounds_toArray, List.set_cons_zero, List.set_cons_succ]
  refine wpAnyH_ready (rs := [4]) (by kernel_rfl) (by simp) ?_
  refine AllReadyH.cons (o := _) rfl (fun K hK => ?_) AllReadyH.nil
  go_simp
  refine (HSET.out y.drew).mono ?_
  rintro e y2 ⟨rfl, hby2⟩
  have HB2 := Lib.hid (show Below y.heap.size y y2 from ⟨hby2.os, hby2.tape, hby2.output, hby2.size, hby2.block⟩)
  have hm6 : Mr w y2 cs0 #[.slice A R.inp.length c, .slice oA on oc, .int .i64 R.checks, .slice (some ⟨g, 0, none⟩) (R.seen.length + 1) cap] 40 rd r1 r2 n := HM5.out.keep fun i hi => HB2.out.block _ (by omega)
  have HM6 := Lib.hid hm6
  refine hK.out _ _ ⟨HM6.out.b0, HM6.out.b1, (HB2.out.cell (p := ⟨w.heap.size + 2, 1, none⟩) (by simp only; omega)).trans hrd⟩ (fun hHeld => ?_)
  clear hK K hby2 hm6
  try simp only [Act.put, List.setIfInBounds_toArray, List.set_cons_zero, List.set_cons_succ]
  obtain ⟨o3, z3, k3⟩ := HM6.out.b3
  obtain ⟨o4, z4, k4⟩ := HM6.out.b4
  have K3 := Lib.hid k3; have K4 := Lib.hid k4
  have hrd2 : y2.cell? ⟨w.heap.size + 2, 1, none⟩ = some (.int .i64 rd) := (HB2.out.cell (p := ⟨w.heap.size + 2, 1, none⟩) (by simp only; omega)).trans hrd
  clear k3 k4
  refine wpAnyH_ready (rs := [6]) (by kernel_rfl) (by simp) ?_
  refine AllReadyH.cons (o := _) rfl (fun K hK => ?_) AllReadyH.nil
  rw [if_pos (by rfl)]
  refine wp_store_row 34 (.tmp 6) (.tmp 104) rfl (w.heap.size + 3) cs1 rfl rfl 34 o3 K3.out (by rw [HZ1.out]; exact szMach) (by rw [z3, HZ1.out]) ha1 ?_
  refine hK.out _ _ ⟨(setRow_other _ _ _ _ (by omega)).trans HM6.out.b0, (setRow_other _ _ _ _ (by omega)).trans HM6.out.b1, (World.cell?_of_block (setRow_other _ _ _ _ (by simp))).trans hrd2⟩ (fun hHeld => ?_)
  clear hK K
  try simp only [Act.put, List.setIfInBounds_toArray, List.set_cons_zero, List.set_cons_succ]
  refine wpAnyH_ready (rs := [7]) (by kernel_rfl) (by simp) ?_
  refine AllReadyH.cons (o := _) rfl (fun K hK => ?_) AllReadyH.nil
  rw [if_pos (by rfl)]
  refine wp_store_row 71 (.tmp 7) (.tmp 105) rfl (w.heap.size + 4) #[.slice A R.inp.length c, .slice oA on oc, .int .i64 R.checks, .slice (some ⟨g, 0, none⟩) (R.seen.length + 1) cap] rfl rfl 71 o4 ((setRow_other _ _ _ _ (by omega)).trans K4.out) szRun z4 (by simp [Value.oneCell']) ?_
  refine hK.out _ _ ⟨(setRow_other _ _ _ _ (by omega)).trans ((setRow_other _ _ _ _ (by omega)).trans HM6.out.b0), (setRow_other _ _ _ _ (by omega)).trans ((setRow_other _ _ _ _ (by omega)).trans HM6.out.b1), (World.cell?_of_block (setRow_other _ _ _ _ (by simp))).trans ((World.cell?_of_block (setRow_other _ _ _ _ (by simp))).trans hrd2)⟩ (fun hHeld => ?_)
  clear hK K
  try simp only [Act.put, List.setIfInBounds_toArray, List.set_cons_zero, List.set_cons_succ]
  refine wpAnyH_take (i := 8) (oi := ⟨some 8, _, _, _, _, _⟩) (v := ?v76) rfl (by kernel_rfl) (by kernel_rfl) (by kernel_rfl) (fun _ _ _ h => h) (Or.inl ⟨by rfl, ?hy76⟩) (by assumption) ?rest76
  case hy76 => ((intro W hSW; (try dsimp only at hSW); go_simp); try with_reducible rfl)
  simp only [Act.put, List.setIfInBounds_toArray, List.set_cons_zero, List.set_cons_succ]
  refine wpAnyH_done (by kernel_rfl) ?_ _
  have hlb := HH.out.lb
  obtain ⟨y1, y2', y3, y4⟩ := end8 cs1 #[.slice A R.inp.length c, .slice oA on oc, .int .i64 R.checks, .slice (some ⟨g, 0, none⟩) (R.seen.length + 1) cap] ((HR5.out.below HB2.out).mach (m' := m.set rd NV) (by unfold Ma.set; split <;> rfl) HSOK.out) (HF5.out.trans (Fw.below HB2.out)) (by omega) (by omega) (by omega) K3.out K4.out
  generalize (y2.setRow (w.heap.size + 3) cs1).setRow (w.heap.size + 4) #[.slice A R.inp.length c, .slice oA on oc, .int .i64 R.checks, .slice (some ⟨g, 0, none⟩) (R.seen.length + 1) cap] = Y at *
  clear hHeld hrd hrd2 hs0 hs5
  go_wp2_with fail
  exact bodyPost_ret (v := .tuple #[.agg cs1, .agg #[.slice A R.inp.length c, .slice oA on oc, .int .i64 R.checks, .slice (some ⟨g, 0, none⟩) (R.seen.length + 1) cap], .bool true]) (res_cct Tryd.results34 _ _ _ _ _ _ _ rfl rfl rfl y1 HZ1.out y2' rfl) rfl ⟨m.set rd NV, R.note ⟨PL, AN, 4, false⟩, A, c, oA, on, oc, some ⟨g, 0, none⟩, R.seen.length + 1, cap, true, by rw [if_pos rfl, ← HPL.out, ← HNVE.out, ← HGV.out], fun hb => (by cases hb), by rw [HC1.out, (note_inp R _).1, (note_inp R _).2], y3, y4⟩
set_option maxHeartbeats 3000000 in
theorem rmem_ld41 {m : Ma} {q base : Nat} {w : World} {R : Ru} {A : Option Addr} {c : Nat} {oA sA : Option Addr} {on oc sn sc : Nat} (n : Int) (rd r1 r2 : Nat) (hn : -9223372036854775808 ≤ n ∧ n < 9223372036854775808) (h1 : r1 < 32) (h2 : r2 < 32) (hd : rd < 32) (h : Rd w base q m R A c (.slice oA on oc) (.slice sA sn sc)) (hb : hasB (m.ad r1 n) 8 m.mem.length = true) (hls : R.seen.length + 1 < 1099511627776)  :
    Calls Tryd.prog 34 #[.agg (mcs m q), .agg #[.slice A R.inp.length c, .slice oA on oc, .int .i64 R.checks, .slice sA sn sc], ins 41 rd r1 r2 n] w (RTo w base q m R (some (m.set rd (nrV true (getV m.mem (m.ad r1 n).toNat 8) 64), R.note ⟨m.pl, m.ad r1 n, 8, false⟩))) := by
  have hx := h.ok.1
  have cr1 := mcs_x hx q h1
  have hr1 := reg_range h.ok r1
  have had : (m.ad r1 n) = IntKind.u64.wrap (m.x.getD r1 0 + n % 18446744073709551616) := by unfold Ma.ad Ma.reg; rw [IntKind.wrap_u64]
  have hadr : 0 ≤ m.ad r1 n ∧ m.ad r1 n < 18446744073709551616 := by unfold Ma.ad; omega
  have hX1 : ∀ Z, ((w.alloc (Obj.cells (mcs m q) 34)).alloc Z).cell? ⟨w.heap.size, 1 + r1, none⟩ = some (.int .u64 (m.x.getD r1 0)) := fun Z => by rw [cell_of_row _ _ (1 + r1) _ _ _ (aa0 _ _ _)]; exact cr1
  have HH := Lib.hid h
  have HA := Lib.hid hadr
  generalize m.ad r1 n = AT at *
  have hat := had.symm
  unfold Ma.reg at hr1
  generalize m.x.getD r1 0 = x1 at *
  generalize hcs0 : mcs m q = cs0 at *
  have HC0 := Lib.hid hcs0
  clear h hcs0 cr1 hx had hadr
  have hwk : IntKind.i64.wrap (r1 : Int) = r1 := IntWalk.i64_in _ (by omega)
  go_enter Tryd.func34, Tryd.ntmps34
  go_wp2_with fail
  have HI : Hid (∀ k : Nat, ∀ W : World, Calls Tryd.prog 31 #[.int .i64 n] (W.drewN k) fun e w' => e = .returned (.int .u64 (n % 18446744073709551616)) ∧ W.drewN k = w') := Lib.hid fun k W => rimm_any n _ hn
  go_quiet (with_reducible refine (HI.out _ _).mono ?_; rintro e w9 ⟨rfl, rfl⟩; exact ⟨rfl, _, rfl⟩)
  clear HI hX1
  generalize hX : World.drewN (((((w.alloc _).alloc _).alloc _).alloc _).alloc _) nq = X
  have mb : Mb w X cs0 #[.slice A R.inp.length c, .slice oA on oc, .int .i64 R.checks, .slice sA sn sc] 41 rd r1 r2 n := by
    rw [← hX]
    exact ⟨a5_0 _ _ _ _ _ _, a5_1 _ _ _ _ _ _, a5_2 _ _ _ _ _ _, ⟨_, rfl, a5_3 _ _ _ _ _ _⟩, ⟨_, rfl, a5_4 _ _ _ _ _ _⟩, ⟨rfl, rfl, rfl, (bw5 w _ _ _ _ _).size, (bw5 w _ _ _ _ _).block⟩⟩
  clear hX
  have hfit : AT + 8 ≤ m.mem.length := by unfold hasB at hb; exact (of_decide_eq_true hb).2
  obtain ⟨AN, rfl⟩ := Int.eq_ofNat_of_zero_le HA.out.1
  have hp := rplace_any (q := q) (w := X) HH.out.ok.1 HH.out.ok.2.1 (AN : Int) 8 HA.out (Or.inr (Or.inr rfl))
  have hz := mcs_size HH.out.ok.1 q
  have ha := mcs_all m q
  rw [HC0.out] at hp hz ha
  rw [hb] at hp
  have HP := Lib.hid hp; have HZ := Lib.hid hz; have HMB := Lib.hid mb
  clear hp hz mb hb
  go_wp2_with (first
    | ((with_reducible refine ld36 w.heap.size cs0 ?_ ?_ HZ.out ?_); rfl; exact HMB.out.b0)
    | fail)
  with_reducible refine HP.out.mono ?_
  rintro e X1 ⟨rfl, bp⟩
  have HM1 := Lib.hid (HMB.out.grow bp)
  clear bp HP HMB
  obtain ⟨i0, hi0, hz0, hz1, hz2⟩ := info_parts infoAcc
  have c33 := mcs_33 HH.out.ok.1 q
  rw [HC0.out] at c33
  have HV := Lib.hid (own_lt HH.out.seen)
  have hown := ownsRow_at2 HH.out.seen fun g cur _ hg => (HM1.out.below.block g (lt_of_at hg)).trans hg
  have q3 : X1.cell? ⟨w.heap.size + 1, 3, none⟩ = some (.slice sA sn sc) := by rw [cell_of_row _ _ 3 _ _ _ HM1.out.b1]; rfl
  have q33 : X1.cell? ⟨w.heap.size, 33, none⟩ = some (.int .u64 m.pl) := by rw [cell_of_row _ _ 33 _ _ _ HM1.out.b0]; exact c33
  have q0 : X1.cell? ⟨w.heap.size + 2, 0, none⟩ = some (.int .i64 41) := by rw [cell_of_row _ _ 0 _ _ _ HM1.out.b2]; rfl
  have hlb := HH.out.lb
  have hsz := HM1.out.below.size
  have hb4 := lt_of_at HM1.out.b4.choose_spec.2
  generalize hpl : m.pl = PL at *
  have HPL := Lib.hid hpl
  clear c33 hpl
  go_wp2_with (at_builtin; refine wpList_append_lies (o := ⟨some 58, _, _, _, _, _⟩) _ rfl (.tmp 48) (.tmp 57) 41 rfl base 81 i0 _ 4 32 Tryd.underlying41 hi0 hz0 hz1 hz2 rfl (by omega) (.slice sA sn sc) R.seen.length (accs R.seen) rfl (hown.alloc _) ⟨X1.heap.size, 0, none⟩ 1 1 [.int .u64 PL, .int .u64 (AN : Int), .int .i64 8, .bool false] rfl rfl (World.news_of_block (cs := #[.int .u64 PL, .int .u64 (AN : Int), .int .i64 8, .bool false]) (t := 81) (fr := (0, 0)) (heap_alloc_new X1 _)) (by simp [Value.oneCell']) (by omega) (by unfold maxLen; omega) (by omega) (by simp only [szA]; omega) (X1.heap.size + 1) (szA _ _) ?_; intro g cap w2 hown2 hgrow hat2 hlt; have HM2 : Hid (Mr w w2 cs0 #[.slice A R.inp.length c, .slice oA on oc, .int .i64 R.checks, .slice sA sn sc] 41 rd r1 r2 n) := Lib.hid (HM1.out.rows.keep fun i hi => (by rw [hgrow.block (w.heap.size + i) (by simp only [szA]; omega) (fun e => HV.out _ (by omega) e.symm), Below.heap_alloc _ _ _ (by omega)])); have u1 : w2.cell? ⟨w.heap.size + 1, 3, none⟩ = some (.slice sA sn sc) := (by rw [cell_of_row _ _ 3 _ _ _ HM2.out.b1]; rfl); have u2 : w2.frozen? ⟨w.heap.size + 1, 3, none⟩ = false := frozen_of_row _ _ 3 _ _ HM2.out.b1; have v0 : (w2.setCell ⟨w.heap.size + 1, 3, none⟩ (.slice (some ⟨g, 0, none⟩) (R.seen.length + 1) cap)).cell? ⟨w.heap.size + 2, 0, none⟩ = some (.int .i64 41) := (by rw [cell_of_row _ _ 0 _ _ _ (HM2.out.cell (i := 3) rfl).b2]; rfl))
  obtain ⟨hR2, hF2⟩ := rd_seen (a := ⟨PL, AN, 8, false⟩) HH.out (HM1.out.below.alloc HM1.out.below.size _) hgrow hown2 hls
  have hR3 := rd_cell (i := 3) (x := .slice (some ⟨g, 0, none⟩) (R.seen.length + 1) cap) hR2 HM2.out.b1 (by omega)
  have hF3 := fb_cell (i := 3) (x := .slice (some ⟨g, 0, none⟩) (R.seen.length + 1) cap) hF2 (b := w.heap.size + 1) (by omega)
  have hM3 : Mr w (w2.setCell ⟨w.heap.size + 1, 3, none⟩ (.slice (some ⟨g, 0, none⟩) (R.seen.length + 1) cap)) cs0 #[.slice A R.inp.length c, .slice oA on oc, .int .i64 R.checks, .slice (some ⟨g, 0, none⟩) (R.seen.length + 1) cap] 41 rd r1 r2 n := HM2.out.cell rfl
  generalize hw3 : w2.setCell ⟨w.heap.size + 1, 3, none⟩ (.slice (some ⟨g, 0, none⟩) (R.seen.length + 1) cap) = w3 at *
  have HR3 := Lib.hid hR3; have HF3 := Lib.hid hF3; have HM3 := Lib.hid hM3
  have HFIT := Lib.hid hfit
  have hbyte : ∀ i : Nat, 0 ≤ m.mem.getD i 0 ∧ m.mem.getD i 0 < 256 := fun i => by
    by_cases hi : i < m.mem.length
    · have e : m.mem.getD i 0 = m.mem[i] := by simp [List.getD, hi]
      rw [e]; exact HH.out.ok.2.2.2.1 _ (List.getElem_mem hi)
    · have e : m.mem.getD i 0 = 0 := by simp [List.getD, List.getElem?_eq_none (Nat.le_of_not_lt hi)]
      rw [e]; omega
  have HG : Hid (∀ W : World, W.heap[q]? = some (.cells (u8s m.mem).toArray 5) → Calls Tryd.prog 30 #[.agg cs0, .int .u64 AN, .int .i64 8] W fun e w' => e = .returned (.int .u64 (getV m.mem AN 8)) ∧ Below W.heap.size W w') := Lib.hid fun W hW => by
    have := rget_any (q := q) (w := W) HH.out.ok.1 HH.out.ok.2.1 hbyte AN 8 (by omega) (by omega) hW
    rw [HC0.out] at this
    exact this
  have hgr := getV_range m.mem hbyte 8 AN
  have hgv : 0 ≤ getV m.mem AN 8 ∧ getV m.mem AN 8 < 18446744073709551616 := ⟨hgr.1, Int.lt_of_lt_of_le hgr.2 (by decide)⟩
  have HNW : Hid (∀ W : World, Calls Tryd.prog 50 #[.int .u64 (getV m.mem AN 8), .int .i64 64, .bool true] W fun e w' => e = .returned (.tuple #[.int .u64 (nrV true (getV m.mem AN 8) 64), .bool true]) ∧ W = w') := Lib.hid fun W => refNarrow_any true _ 64 W hgv.1 hgv.2 (by omega) (by omega)
  have hnr := nrV_range true (getV m.mem AN 8) 64 (by omega) (by omega)
  have hv0 : w3.cell? ⟨w.heap.size + 2, 0, none⟩ = some (.int .i64 41) := by rw [cell_of_row _ _ 0 _ _ _ HM3.out.b2]; rfl
  have hs0 : w.heap.size + 4 < w3.heap.size := lt_of_at HM3.out.b4.choose_spec.2
  have hNV := hnr
  generalize hNVE : nrV true (getV m.mem AN 8) 64 = NV at *
  have HNVE := Lib.hid hNVE
  clear hNVE hnr
  generalize hGV : getV m.mem AN 8 = GV at *
  have HGV := Lib.hid hGV
  clear hR3 hF3 hM3 hR2 hF2 u1 u2 v0 hown hown2 hgrow q3 q33 q0 hgr hbyte hGV
  refine wp_region_held_drew (S := (fun W : World => W.heap[w.heap.size]? = some (.cells cs0 34) ∧ W.cell? ⟨w.heap.size + 2, 0, none⟩ = some (.int .i64 41))) (by kernel_rfl) ⟨HM3.out.b0, hv0⟩ (fun hHeld => ?_)
  refine wpAnyH_take (i := 0) (oi := _) (v := .agg cs0) rfl (by kernel_rfl) (by kernel_rfl) (by kernel_rfl) (fun _ _ _ h => h) (yieldsIf_load_row (by rfl) 34 (.tmp 3) rfl w.heap.size rfl 34 cs0 (0, 0) _ (fun W h => h.1) Tryd.underlying34 rfl (by rw [HZ.out]; exact szMach)) (by assumption) ?_
  simp only [Act.put, List.setIfInBounds_toArray, List.set_cons_zero, List.set_cons_succ]
  refine wpAnyH_take (i := 1) (oi := _) (v := ?v77) rfl (by kernel_rfl) (by kernel_rfl) (by kernel_rfl) (fun _ _ _ h => h) (Or.inl ⟨by rfl, ?hy77⟩) (by assumption) ?rest77
  case hy77 => ((intro W hSW; (try dsimp only at hSW); go_simp); try with_reducible rfl)
  simp only [Act.put, List.setIfInBounds_toArray, List.set_cons_zero, List.set_cons_succ]
  refine wpAnyH_take (i := 2) (oi := _) (v := ?v78) rfl (by kernel_rfl) (by kernel_rfl) (by kernel_rfl) (fun _ _ _ h => h) (Or.inl ⟨by rfl, ?hy78⟩) (by assumption) ?rest78
  case hy78 => ((intro W hSW; (try dsimp only at hSW); go_simp); try with_reducible rfl)
  simp only [Act.put, List.setIfInBounds_toArray, List.set_cons_zero, List.set_cons_succ]
  refine wpAnyH_take (i := 4) (oi := _) (v := ?v79) rfl (by kernel_rfl) (by kernel_rfl) (by kernel_rfl) (fun _ _ _ h => h) (Or.inl ⟨by rfl, ?hy79⟩) (by assumption) ?rest79
  case hy79 => ((intro W hSW; (try dsimp only at hSW); go_simp); try with_reducible rfl)
  simp only [Act.put, List.setIfInBounds_toArray, List.set_cons_zero, List.set_cons_succ]
  refine wpAnyH_take (i := 5) (oi := _) (v := ?v80) rfl (by kernel_rfl) (by kernel_rfl) (by kernel_rfl) (fun _ _ _ h => h) (Or.inl ⟨by rfl, ?hy80⟩) (by assumption) ?rest80
  case hy80 => ((intro W hSW; (try dsimp only at hSW); go_simp); try with_reducible rfl)
  simp only [Act.put, List.setIfInBounds_toArray, List.set_cons_zero, List.set_cons_succ]
  refine wpAnyH_take (i := 6) (oi := _) (v := ?v81) rfl (by kernel_rfl) (by kernel_rfl) (by kernel_rfl) (fun _ _ _ h => h) (Or.inl ⟨by rfl, ?hy81⟩) (by assumption) ?rest81
  case hy81 => ((intro W hSW; (try dsimp only at hSW); go_simp); try with_reducible rfl)
  simp only [Act.put, List.setIfInBounds_toArray, List.set_cons_zero, List.set_cons_succ]
  refine wpAnyH_take (i := 7) (oi := _) (v := ?v82) rfl (by kernel_rfl) (by kernel_rfl) (by kernel_rfl) (fun _ _ _ h => h) (Or.inl ⟨by rfl, ?hy82⟩) (by assumption) ?rest82
  case hy82 => ((intro W hSW; (try dsimp only at hSW); go_simp); try with_reducible rfl)
  simp only [Act.put, List.setIfInBounds_toArray, List.set_cons_zero, List.set_cons_succ]
  refine wpAnyH_take (i := 8) (oi := _) (v := ?v83) rfl (by kernel_rfl) (by kernel_rfl) (by kernel_rfl) (fun _ _ _ h => h) (Or.inl ⟨by rfl, ?hy83⟩) (by assumption) ?rest83
  case hy83 => ((intro W hSW; (try dsimp only at hSW); go_simp); try with_reducible rfl)
  simp only [Act.put, List.setIfInBounds_toArray, List.set_cons_zero, List.set_cons_succ]
  refine wpAnyH_ready (rs := [3]) (by kernel_rfl) (by simp) ?_
  refine AllReadyH.cons (o := _) rfl (fun K hK => ?_) AllReadyH.nil
  go_simp
  refine (HG.out w3.drew (show w3.drew.heap[q]? = _ from HR3.out.mem)).mono ?_
  rintro e y ⟨rfl, hby⟩
  have HBY := Lib.hid (show Below w3.heap.size w3 y from ⟨hby.os, hby.tape, hby.output, hby.size, hby.block⟩)
  refine hK.out _ _ ⟨row_at HBY.out (by omega) HM3.out.b0, (HBY.out.cell (p := ⟨w.heap.size + 2, 0, none⟩) (by simp only; omega)).trans hv0⟩ (fun hHeld => ?_)
  clear hK K hby
  try simp only [Act.put, List.setIfInBounds_toArray, List.set_cons_zero, List.set_cons_succ]
  refine wpAnyH_ready (rs := [9]) (by kernel_rfl) (by simp) ?_
  refine AllReadyH.cons (o := _) rfl (fun K hK => ?_) AllReadyH.nil
  go_simp
  refine (HNW.out _).mono ?_
  rintro e y2 ⟨rfl, rfl⟩
  refine hK.out _ _ hHeld (fun hHeld => ?_)
  clear hK K
  try simp only [Act.put, List.setIfInBounds_toArray, List.set_cons_zero, List.set_cons_succ]
  refine wpAnyH_take (i := 10) (oi := ⟨some 87, _, _, _, _, _⟩) (v := ?v84) rfl (by kernel_rfl) (by kernel_rfl) (by kernel_rfl) (fun _ _ _ h => h) (Or.inl ⟨by rfl, ?hy84⟩) (by assumption) ?rest84
  case hy84 => ((intro W hSW; (try dsimp only at hSW); go_simp); try with_reducible rfl)
  simp only [Act.put, List.setIfInBounds_toArray, List.set_cons_zero, List.set_cons_succ]
  refine wpAnyH_take (i := 11) (oi := ⟨some 98, _, _, _, _, _⟩) (v := ?v85) rfl (by kernel_rfl) (by kernel_rfl) (by kernel_rfl) (fun _ _ _ h => h) (Or.inl ⟨by rfl, ?hy85⟩) (by assumption) ?rest85
  case hy85 => ((intro W hSW; (try dsimp only at hSW); go_simp); try with_reducible rfl)
  simp only [Act.put, List.setIfInBounds_toArray, List.set_cons_zero, List.set_cons_succ]
  refine wpAnyH_take (i := 12) (oi := ⟨some 99, _, _, _, _, _⟩) (v := ?v86) rfl (by kernel_rfl) (by kernel_rfl) (by kernel_rfl) (fun _ _ _ h => h) (Or.inl ⟨by rfl, ?hy86⟩) (by assumption) ?rest86
  case hy86 => ((intro W hSW; (try dsimp only at hSW); go_simp); try with_reducible rfl)
  simp only [Act.put, List.setIfInBounds_toArray, List.set_cons_zero, List.set_cons_succ]
  refine wpAnyH_take (i := 13) (oi := ⟨some 13, _, _, _, _, _⟩) (v := ?v87) rfl (by kernel_rfl) (by kernel_rfl) (by kernel_rfl) (fun _ _ _ h => h) (Or.inl ⟨by rfl, ?hy87⟩) (by assumption) ?rest87
  case hy87 => ((intro W hSW; (try dsimp only at hSW); go_simp); try with_reducible rfl)
  simp only [Act.put, List.setIfInBounds_toArray, List.set_cons_zero, List.set_cons_succ]
  refine wpAnyH_take (i := 14) (oi := ⟨some 14, _, _, _, _, _⟩) (v := ?v88) rfl (by kernel_rfl) (by kernel_rfl) (by kernel_rfl) (fun _ _ _ h => h) (Or.inl ⟨by rfl, ?hy88⟩) (by assumption) ?rest88
  case hy88 => ((intro W hSW; (try dsimp only at hSW); go_simp); try with_reducible rfl)
  simp only [Act.put, List.setIfInBounds_toArray, List.set_cons_zero, List.set_cons_succ]
  refine wpAnyH_done (by kernel_rfl) ?_ _
  go_wp2_with fail
  have hm5 : Mr w y cs0 #[.slice A R.inp.length c, .slice oA on oc, .int .i64 R.checks, .slice (some ⟨g, 0, none⟩) (R.seen.length + 1) cap] 41 rd r1 r2 n := HM3.out.keep fun i hi => HBY.out.block _ (by omega)
  have hR5 := HR3.out.below HBY.out
  have hF5 := HF3.out.trans (Fw.below (base := base) (q := q) HBY.out)
  have hset := fun W => rset_any (m := m) (q := q) (w := W) HH.out.ok.1 rd hd NV
  have hz1 : (mcs (m.set rd NV) q).size = 36 := mcs_size (Ma.set_ok HH.out.ok rd hNV).1 q
  have ha1 := mcs_all (m.set rd NV) q
  have hset2 : ∀ W : World, Calls Tryd.prog 32 #[.agg cs0, .int .i64 rd, .int .u64 NV] W fun e w' => e = .returned (.agg (mcs (m.set rd NV) q)) ∧ Below W.heap.size W w' := fun W => by
    have := hset W
    rw [HC0.out] at this
    exact this
  have hrd : y.cell? ⟨w.heap.size + 2, 1, none⟩ = some (.int .i64 rd) := by rw [cell_of_row _ _ 1 _ _ _ hm5.b2]; rfl
  have hs5 : w.heap.size + 4 < y.heap.size := lt_of_at hm5.b4.choose_spec.2
  have hwkd : IntKind.i64.wrap (rd : Int) = rd := IntWalk.i64_in _ (by omega)
  have hsok := Ma.set_ok HH.out.ok rd hNV
  generalize hcs1 : mcs (m.set rd NV) q = cs1 at *
  have HC1 := Lib.hid hcs1; have HZ1 := Lib.hid hz1; have HSET := Lib.hid hset2; have HM5 := Lib.hid hm5; have HR5 := Lib.hid hR5; have HF5 := Lib.hid hF5; have HSOK := Lib.hid hsok
  clear hset hset2 hz1 hcs1 hm5 hR5 hF5 hv0 hsok
  refine wp_region_held_drew (S := (fun W : World => W.heap[w.heap.size]? = some (.cells cs0 34) ∧ W.heap[w.heap.size + 1]? = some (.cells #[.slice A R.inp.length c, .slice oA on oc, .int .i64 R.checks, .slice (some ⟨g, 0, none⟩) (R.seen.length + 1) cap] 71) ∧ W.cell? ⟨w.heap.size + 2, 1, none⟩ = some (.int .i64 rd))) (by kernel_rfl) ⟨HM5.out.b0, HM5.out.b1, hrd⟩ (fun hHeld => ?_)
  refine wpAnyH_take (i := 0) (oi := _) (v := .agg cs0) rfl (by kernel_rfl) (by kernel_rfl) (by kernel_rfl) (fun _ _ _ h => h) (yieldsIf_load_row (by rfl) 34 (.tmp 3) rfl w.heap.size rfl 34 cs0 (0, 0) _ (fun W h => h.1) Tryd.underlying34 rfl (by rw [HZ.out]; exact szMach)) (by assumption) ?_
  simp only [Act.put, List.setIfInBounds_toArray, List.set_cons_zero, List.set_cons_succ]
  refine wpAnyH_take (i := 5) (oi := _) (v := .agg #[.slice A R.inp.length c, .slice oA on oc, .int .i64 R.checks, .slice (some ⟨g, 0, none⟩) (R.seen.length + 1) cap]) rfl (by kernel_rfl) (by kernel_rfl) (by kernel_rfl) (fun _ _ _ h => h) (yieldsIf_load_row (by rfl) 71 (.tmp 4) rfl (w.heap.size + 1) rfl 71 #[.slice A R.inp.length c, .slice oA on oc, .int .i64 R.checks, .slice (some ⟨g, 0, none⟩) (R.seen.length + 1) cap] (0, 0) _ (fun W h => h.2.1) Tryd.underlying71 rfl szRun) (by assumption) ?_
  simp only [Act.put, List.setIfInBounds_toArray, List.set_cons_zero, List.set_cons_succ]
  refine wpAnyH_take (i := 1) (oi := _) (v := ?v89) rfl (by kernel_rfl) (by kernel_rfl) (by kernel_rfl) (fun _ _ _ h => h) (Or.inl ⟨by rfl, ?hy89⟩) (by assumption) ?rest89
  case hy89 => ((intro W hSW; (try dsimp only at hSW); go_simp); try with_reducible rfl)
  simp only [Act.put, List.setIfInBounds_toArray, List.set_cons_zero, List.set_cons_succ]
  refine wpAnyH_take (i := 2) (oi := _) (v := ?v90) rfl (by kernel_rfl) (by kernel_rfl) (by kernel_rfl) (fun _ _ _ h => h) (Or.inl ⟨by rfl, ?hy90⟩) (by assumption) ?rest90
  case hy90 => ((intro W hSW; (try dsimp only at hSW); go_simp); try with_reducible rfl)
  simp only [Act.put, List.setIfInBounds_toArray, List.set_cons_zero, List.set_cons_succ]
  refine wpAnyH_take (i := 3) (oi := _) (v := ?v91) rfl (by kernel_rfl) (by kernel_rfl) (by kernel_rfl) (fun _ _ _ h => h) (Or.inl ⟨by rfl, ?hy91⟩) (by assumption) ?rest91
  case hy91 => ((intro W hSW; (try dsimp only at hSW); go_simp); try with_reducible rfl)
  simp only [Act.put, List.setIfInBounds_toArray, List.set_cons_zero, List.set_cons_succ]
  refine wpAnyH_ready (rs := [4]) (by kernel_rfl) (by simp) ?_
  refine AllReadyH.cons (o := _) rfl (fun K hK => ?_) AllReadyH.nil
  go_simp
  refine (HSET.out y.drew).mono ?_
  rintro e y2 ⟨rfl, hby2⟩
  have HB2 := Lib.hid (show Below y.heap.size y y2 from ⟨hby2.os, hby2.tape, hby2.output, hby2.size, hby2.block⟩)
  have hm6 : Mr w y2 cs0 #[.slice A R.inp.length c, .slice oA on oc, .int .i64 R.checks, .slice (some ⟨g, 0, none⟩) (R.seen.length + 1) cap] 41 rd r1 r2 n := HM5.out.keep fun i hi => HB2.out.block _ (by omega)
  have HM6 := Lib.hid hm6
  refine hK.out _ _ ⟨HM6.out.b0, HM6.out.b1, (HB2.out.cell (p := ⟨w.heap.size + 2, 1, none⟩) (by simp only; omega)).trans hrd⟩ (fun hHeld => ?_)
  clear hK K hby2 hm6
  try simp only [Act.put, List.setIfInBounds_toArray, List.set_cons_zero, List.set_cons_succ]
  obtain ⟨o3, z3, k3⟩ := HM6.out.b3
  obtain ⟨o4, z4, k4⟩ := HM6.out.b4
  have K3 := Lib.hid k3; have K4 := Lib.hid k4
  have hrd2 : y2.cell? ⟨w.heap.size + 2, 1, none⟩ = some (.int .i64 rd) := (HB2.out.cell (p := ⟨w.heap.size + 2, 1, none⟩) (by simp only; omega)).trans hrd
  clear k3 k4
  refine wpAnyH_ready (rs := [6]) (by kernel_rfl) (by simp) ?_
  refine AllReadyH.cons (o := _) rfl (fun K hK => ?_) AllReadyH.nil
  rw [if_pos (by rfl)]
  refine wp_store_row 34 (.tmp 6) (.tmp 104) rfl (w.heap.size + 3) cs1 rfl rfl 34 o3 K3.out (by rw [HZ1.out]; exact szMach) (by rw [z3, HZ1.out]) ha1 ?_
  refine hK.out _ _ ⟨(setRow_other _ _ _ _ (by omega)).trans HM6.out.b0, (setRow_other _ _ _ _ (by omega)).trans HM6.out.b1, (World.cell?_of_block (setRow_other _ _ _ _ (by simp))).trans hrd2⟩ (fun hHeld => ?_)
  clear hK K
  try simp only [Act.put, List.setIfInBounds_toArray, List.set_cons_zero, List.set_cons_succ]
  refine wpAnyH_ready (rs := [7]) (by kernel_rfl) (by simp) ?_
  refine AllReadyH.cons (o := _) rfl (fun K hK => ?_) AllReadyH.nil
  rw [if_pos (by rfl)]
  refine wp_store_row 71 (.tmp 7) (.tmp 105) rfl (w.heap.size + 4) #[.slice A R.inp.length c, .slice oA on oc, .int .i64 R.checks, .slice (some ⟨g, 0, none⟩) (R.seen.length + 1) cap] rfl rfl 71 o4 ((setRow_other _ _ _ _ (by omega)).trans K4.out) szRun z4 (by simp [Value.oneCell']) ?_
  refine hK.out _ _ ⟨(setRow_other _ _ _ _ (by omega)).trans ((setRow_other _ _ _ _ (by omega)).trans HM6.out.b0), (setRow_other _ _ _ _ (by omega)).trans ((setRow_other _ _ _ _ (by omega)).trans HM6.out.b1), (World.cell?_of_block (setRow_other _ _ _ _ (by simp))).trans ((World.cell?_of_block (setRow_other _ _ _ _ (by simp))).trans hrd2)⟩ (fun hHeld => ?_)
  clear hK K
  try simp only [Act.put, List.setIfInBounds_toArray, List.set_cons_zero, List.set_cons_succ]
  refine wpAnyH_take (i := 8) (oi := ⟨some 8, _, _, _, _, _⟩) (v := ?v92) rfl (by kernel_rfl) (by kernel_rfl) (by kernel_rfl) (fun _ _ _ h => h) (Or.inl ⟨by rfl, ?hy92⟩) (by assumption) ?rest92
  case hy92 => ((intro W hSW; (try dsimp only at hSW); go_simp); try with_reducible rfl)
  simp only [Act.put, List.setIfInBounds_toArray, List.set_cons_zero, List.set_cons_succ]
  refine wpAnyH_done (by kernel_rfl) ?_ _
  have hlb := HH.out.lb
  obtain ⟨y1, y2', y3, y4⟩ := end8 cs1 #[.slice A R.inp.length c, .slice oA on oc, .int .i64 R.checks, .slice (some ⟨g, 0, none⟩) (R.seen.length + 1) cap] ((HR5.out.below HB2.out).mach (m' := m.set rd NV) (by unfold Ma.set; split <;> rfl) HSOK.out) (HF5.out.trans (Fw.below HB2.out)) (by omega) (by omega) (by omega) K3.out K4.out
  generalize (y2.setRow (w.heap.size + 3) cs1).setRow (w.heap.size + 4) #[.slice A R.inp.length c, .slice oA on oc, .int .i64 R.checks, .slice (some ⟨g, 0, none⟩) (R.seen.length + 1) cap] = Y at *
  clear hHeld hrd hrd2 hs0 hs5
  go_wp2_with fail
  exact bodyPost_ret (v := .tuple #[.agg cs1, .agg #[.slice A R.inp.length c, .slice oA on oc, .int .i64 R.checks, .slice (some ⟨g, 0, none⟩) (R.seen.length + 1) cap], .bool true]) (res_cct Tryd.results34 _ _ _ _ _ _ _ rfl rfl rfl y1 HZ1.out y2' rfl) rfl ⟨m.set rd NV, R.note ⟨PL, AN, 8, false⟩, A, c, oA, on, oc, some ⟨g, 0, none⟩, R.seen.length + 1, cap, true, by rw [if_pos rfl, ← HPL.out, ← HNVE.out, ← HGV.out], fun hb => (by cases hb), by rw [HC1.out, (note_inp R _).1, (note_inp R _).2], y3, y4⟩
end Go.Proofs.YtppcbommaddkgaaDoor
