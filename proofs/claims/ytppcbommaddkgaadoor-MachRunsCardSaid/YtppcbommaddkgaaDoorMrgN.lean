/- The document's machine: Step: operations of two registers. Conditions: each theorem's. The document's machine: Step: branches. Conditions: each theorem's. The document's machine: Step: operations of a register and a number. Conditions: each theorem's. The document's machine: Step: marks. Conditions: each theorem's. The document's machine: Step: upper numbers. Conditions: each theorem's. The document's machine: Step: jumps. Conditions: each theorem's. -/
import Derived.Test.YtppcbommaddkgaaDoorMrgM
namespace Go.Proofs.YtppcbommaddkgaaDoor
open Go.RowKit Go.Maps
set_option linter.unusedVariables false
set_option linter.unusedSimpArgs false
set_option maxRecDepth 10000
open Pm Pc Pl
set_option maxHeartbeats 3000000 in
theorem rstep_R {m : Ma} {q base : Nat} {w : World} {R : Ru} {A : Option Addr} {c : Nat} {oA sA : Option Addr} {on oc sn sc : Nat} (h : Rd w base q m R A c (.slice oA on oc) (.slice sA sn sc)) (hb : hasB m.pl 4 m.mem.length = true) (op n : Int) (rd r1 r2 : Nat) (hop : 1 ≤ op ∧ op ≤ 27) (hn : -9223372036854775808 ≤ n ∧ n < 9223372036854775808) (hd : rd < 32) (h1 : r1 < 32) (h2 : r2 < 32) (hdec : ∀ W : World, Calls Tryd.prog 29 #[.int .u32 (wordAt m)] W fun e w' => e = .returned (.tuple #[ins op rd r1 r2 n, .bool true]) ∧ Below W.heap.size W w') :
    Calls Tryd.prog 23 #[.agg (mcs m q), .agg #[.slice A R.inp.length c, .slice oA on oc, .int .i64 R.checks, .slice sA sn sc]] w (RTo w base q m R (some ({ m.set rd (opV op (m.x.getD r1 0) (m.x.getD r2 0)) with pl := IntKind.u64.wrap (m.pl + 4) }, R))) := by
  have hz := mcs_size h.ok.1 q
  have ha := mcs_all m q
  have c33 := mcs_33 h.ok.1 q
  have hp := fun W => rplace_any (q := q) (w := W) h.ok.1 h.ok.2.1 m.pl 4 h.ok.2.2.2.2.1 (Or.inr (Or.inl rfl))
  have HH := Lib.hid h
  generalize hcs0 : mcs m q = cs0 at *
  have w33 : ∀ Z, ((w.alloc (Obj.cells cs0 34)).alloc Z).cell? ⟨w.heap.size, 33, none⟩ = some (.int .u64 m.pl) := fun Z => by rw [cell_of_row _ _ 33 _ _ _ (aa0 _ _ _)]; exact c33
  rw [hb] at hp
  have hfit : m.pl + 4 ≤ m.mem.length := by unfold hasB at hb; exact (of_decide_eq_true hb).2
  have hbyte : ∀ i : Nat, 0 ≤ m.mem.getD i 0 ∧ m.mem.getD i 0 < 256 := fun i => by
    by_cases hi : i < m.mem.length
    · have e : m.mem.getD i 0 = m.mem[i] := by simp [List.getD, hi]
      rw [e]; exact h.ok.2.2.2.1 _ (List.getElem_mem hi)
    · have e : m.mem.getD i 0 = 0 := by simp [List.getD, List.getElem?_eq_none (Nat.le_of_not_lt hi)]
      rw [e]; omega
  have hpl0 := h.ok.2.2.2.2.1.1
  have HG : Hid (∀ W : World, W.heap[q]? = some (.cells (u8s m.mem).toArray 5) → Calls Tryd.prog 30 #[.agg cs0, .int .u64 m.pl, .int .i64 4] W fun e w' => e = .returned (.int .u64 (wordAt m)) ∧ Below W.heap.size W w') := Lib.hid fun W hW => by
    have := rget_any (q := q) (w := W) h.ok.1 h.ok.2.1 hbyte m.pl.toNat 4 (by omega) (by omega) hW
    rw [hcs0, Int.toNat_of_nonneg hpl0] at this
    exact this
  have hwr := getV_range m.mem hbyte 4 m.pl.toNat
  have hwd : 0 ≤ wordAt m ∧ wordAt m < 4294967296 := ⟨hwr.1, Int.lt_of_lt_of_le hwr.2 (by decide)⟩
  have hwrap : IntKind.u32.wrap (wordAt m) = wordAt m := by simp [IntKind.wrap, IntKind.bits, IntKind.signed]; omega
  have HDEC := Lib.hid hdec
  clear hdec hfit hbyte hwr hpl0
  generalize wordAt m = WD at *
  have HP := Lib.hid hp; have HZ := Lib.hid hz; have HC0 := Lib.hid hcs0
  have C33 := Lib.hid c33
  clear h hp hz hcs0 c33 hb
  generalize hPLm : m.pl = PL at *
  have HPL0 := Lib.hid hPLm
  clear hPLm
  have hlb := HH.out.lb
  go_enter Tryd.func23, Tryd.ntmps23
  go_wp2_with (first
    | ((with_reducible refine ld36 w.heap.size cs0 ?_ ?_ HZ.out ?_); rfl; exact a4_0 _ _ _ _ _)
    | fail)
  generalize hX : ((((w.alloc _).alloc _).alloc _).alloc _) = X
  have hb4 : Below w.heap.size w X := by rw [← hX]; exact bw_alloc (bw_alloc (bw_alloc (bw_alloc (Below.refl w.heap.size w) _) _) _) _
  have k0 : X.heap[w.heap.size]? = some (.cells cs0 34) := by rw [← hX]; exact a4_0 _ _ _ _ _
  have k1 : X.heap[w.heap.size + 1]? = some (.cells #[.slice A R.inp.length c, .slice oA on oc, .int .i64 R.checks, .slice sA sn sc] 71) := by rw [← hX]; exact a4_1 _ _ _ _ _
  have k2 : ∃ old : Array Value, old.size = 36 ∧ X.heap[w.heap.size + 2]? = some (.cells old 34) := by rw [← hX]; exact ⟨_, rfl, a4_2 _ _ _ _ _⟩
  have k3 : ∃ old : Array Value, old.size = 4 ∧ X.heap[w.heap.size + 3]? = some (.cells old 71) := by rw [← hX]; exact ⟨_, rfl, a4_3 _ _ _ _ _⟩
  clear hX w33
  with_reducible refine (HP.out X).mono ?_
  rintro e X1 ⟨rfl, bp⟩
  have hb5 := hb4.trans (bp.mono hb4.size)
  obtain ⟨o3, z3, k2⟩ := k2
  obtain ⟨o4, z4, k3⟩ := k3
  have K0 := Lib.hid (row_at bp (lt_of_at k0) k0); have K1 := Lib.hid (row_at bp (lt_of_at k1) k1); have K2 := Lib.hid (row_at bp (lt_of_at k2) k2); have K3 := Lib.hid (row_at bp (lt_of_at k3) k3); have HB5 := Lib.hid hb5
  clear k0 k1 k2 k3 bp hb4 hb5
  have c33' : cs0[33]? = some (.int .u64 PL) := C33.out
  have x33 : X1.cell? ⟨w.heap.size, 33, none⟩ = some (.int .u64 PL) := by rw [cell_of_row _ _ 33 _ _ _ K0.out]; exact c33'
  clear c33'
  go_wp2_with (first
    | ((with_reducible refine ld36 w.heap.size cs0 ?_ ?_ HZ.out ?_); rfl; exact K0.out)
    | fail)
  refine (HG.out X1 ((HB5.out.block q (lt_of_at HH.out.mem)).trans HH.out.mem)).mono ?_
  rintro e X2 ⟨rfl, b2⟩
  go_wp2_with fail
  with_reducible refine (HDEC.out X2).mono ?_
  rintro e X3 ⟨rfl, b3⟩
  have bX3 : Below X1.heap.size X1 X3 := b2.trans (b3.mono b2.size)
  have hX3 := HB5.out.size
  have hX4 := lt_of_at K3.out
  have hX5 := bX3.size
  have sb : Sb w (X3.alloc (Obj.cells #[.int .i64 op, .int .i64 rd, .int .i64 r1, .int .i64 r2, .int .i64 n] 49)) cs0 #[.slice A R.inp.length c, .slice oA on oc, .int .i64 R.checks, .slice sA sn sc] X3.heap.size op rd r1 r2 n := by
    have hbb := bX3.trans ((bw_alloc (Below.refl X3.heap.size X3) (Obj.cells #[.int .i64 op, .int .i64 rd, .int .i64 r1, .int .i64 r2, .int .i64 n] 49)).mono bX3.size)
    exact ⟨row_at hbb (lt_of_at K0.out) K0.out, row_at hbb (lt_of_at K1.out) K1.out, ⟨o3, z3, row_at hbb (lt_of_at K2.out) K2.out⟩, ⟨o4, z4, row_at hbb (lt_of_at K3.out) K3.out⟩, heap_alloc_new _ _, by omega, HB5.out.trans (hbb.mono HB5.out.size)⟩
  have HI : Hid (∀ k : Nat, ∀ W : World, Calls Tryd.prog 31 #[.int .i64 n] (W.drewN k) fun e w' => e = .returned (.int .u64 (n % 18446744073709551616)) ∧ W.drewN k = w') := Lib.hid fun k W => rimm_any n _ hn
  have X1c := mcs_x HH.out.ok.1 q h1
  have X2c := mcs_x HH.out.ok.1 q h2
  have hr1 := reg_range HH.out.ok r1
  have hr2 := reg_range HH.out.ok r2
  rw [HC0.out] at X1c X2c
  have hwk1 : IntKind.i64.wrap (r1 : Int) = r1 := IntWalk.i64_in _ (by omega)
  have hwk2 : IntKind.i64.wrap (r2 : Int) = r2 := IntWalk.i64_in _ (by omega)
  unfold Ma.reg at hr1 hr2
  generalize hv1 : m.x.getD r1 0 = v1 at *
  generalize hv2 : m.x.getD r2 0 = v2 at *
  have HV1 := Lib.hid hv1; have HV2 := Lib.hid hv2
  have y1 : ∀ k, (World.drewN (X3.alloc (Obj.cells #[.int .i64 op, .int .i64 rd, .int .i64 r1, .int .i64 r2, .int .i64 n] 49)) k).cell? ⟨w.heap.size, 1 + r1, none⟩ = some (.int .u64 v1) := fun k => by rw [cell_of_row _ _ (1 + r1) _ _ _ (show (World.drewN (X3.alloc (Obj.cells #[.int .i64 op, .int .i64 rd, .int .i64 r1, .int .i64 r2, .int .i64 n] 49)) k).heap[w.heap.size]? = _ from sb.b0)]; exact X1c
  have y2 : ∀ k, (World.drewN (X3.alloc (Obj.cells #[.int .i64 op, .int .i64 rd, .int .i64 r1, .int .i64 r2, .int .i64 n] 49)) k).cell? ⟨w.heap.size, 1 + r2, none⟩ = some (.int .u64 v2) := fun k => by rw [cell_of_row _ _ (1 + r2) _ _ _ (show (World.drewN (X3.alloc (Obj.cells #[.int .i64 op, .int .i64 rd, .int .i64 r1, .int .i64 r2, .int .i64 n] 49)) k).heap[w.heap.size]? = _ from sb.b0)]; exact X2c
  have y33 : ∀ k, (World.drewN (X3.alloc (Obj.cells #[.int .i64 op, .int .i64 rd, .int .i64 r1, .int .i64 r2, .int .i64 n] 49)) k).cell? ⟨w.heap.size, 33, none⟩ = some (.int .u64 PL) := fun k => by rw [cell_of_row _ _ 33 _ _ _ (show (World.drewN (X3.alloc (Obj.cells #[.int .i64 op, .int .i64 rd, .int .i64 r1, .int .i64 r2, .int .i64 n] 49)) k).heap[w.heap.size]? = _ from sb.b0)]; exact C33.out
  have SB := Lib.hid sb
  clear sb b2 b3 bX3 X1c X2c hv1 hv2 K0 K1 K2 K3 x33 HG HDEC hwrap
  go_wp2_with fail
  go_quiet (with_reducible refine (HI.out _ _).mono ?_; rintro e w9 ⟨rfl, rfl⟩; exact ⟨rfl, _, rfl⟩)
  have d27 : decide (op ≤ 27) = true := by simp; omega
  have sb2 := SB.out.grow (X' := World.drewN (X3.alloc (Obj.cells #[.int .i64 op, .int .i64 rd, .int .i64 r1, .int .i64 r2, .int .i64 n] 49)) nq) ⟨rfl, rfl, rfl, Nat.le_refl _, fun _ _ => rfl⟩
  replace y33 := y33 nq
  clear SB y1 y2 HI
  generalize hbi : X3.heap.size = bi at *
  generalize hX : World.drewN (X3.alloc (Obj.cells #[.int .i64 op, .int .i64 rd, .int .i64 r1, .int .i64 r2, .int .i64 n] 49)) nq = X at *
  clear hX
  have sb3 := Lib.hid (fun Z => sb2.grow (bw_alloc (Below.refl _ _) Z))
  have xop' : ∀ Z, (X.alloc Z).cell? ⟨bi, 0, none⟩ = some (.int .i64 op) := fun Z => by rw [cell_of_row _ _ 0 _ _ _ ((Below.heap_alloc _ _ _ (lt_of_at sb2.bx)).trans sb2.bx)]; rfl
  have xop'' : X.cell? ⟨bi, 0, none⟩ = some (.int .i64 op) := by rw [cell_of_row _ _ 0 _ _ _ sb2.bx]; rfl
  go_wp2_with fail
  have SB3 := Lib.hid (sb3.out (Obj.cells #[.int .i64 1, .int .i64 4, .int .i64 5, .int .i64 6, .int .i64 9, .int .i64 10, .int .i64 3, .int .i64 7, .int .i64 8, .int .i64 18] 86))
  clear sb2 sb3 xop' xop'' y33
  generalize hX4 : X.alloc (Obj.cells #[.int .i64 1, .int .i64 4, .int .i64 5, .int .i64 6, .int .i64 9, .int .i64 10, .int .i64 3, .int .i64 7, .int .i64 8, .int .i64 18] 86) = X4 at *
  clear hX4
  have SX : Hid (Sx w X4 base q m R A c (.slice oA on oc) (.slice sA sn sc) cs0 #[.slice A R.inp.length c, .slice oA on oc, .int .i64 R.checks, .slice sA sn sc]) := Lib.hid ⟨SB3.out.rows, HH.out.below SB3.out.below, Fw.below SB3.out.below, HC0.out, HH.out.lb⟩
  have xop : X4.cell? ⟨bi, 0, none⟩ = some (.int .i64 op) := by rw [cell_of_row _ _ 0 _ _ _ SB3.out.bx]; rfl
  have xrd : X4.cell? ⟨bi, 1, none⟩ = some (.int .i64 rd) := by rw [cell_of_row _ _ 1 _ _ _ SB3.out.bx]; rfl
  have hVr := opV_range op v1 v2 hr1.1 hr1.2 hr2.1 hr2.2
  have hdo : ∀ W : World, Calls Tryd.prog 33 #[.int .i64 op, .int .u64 v1, .int .u64 v2] W fun e w' => e = .returned (.int .u64 (opV op v1 v2)) ∧ Below W.heap.size W w' := fun W => rdo_any op v1 v2 W hop.1 hop.2 hr1 hr2
  have HDO := Lib.hid hdo
  clear hdo
  generalize hV : opV op v1 v2 = V at *
  have hset2 : ∀ W : World, Calls Tryd.prog 32 #[.agg cs0, .int .i64 rd, .int .u64 V] W fun e w' => e = .returned (.agg (mcs (m.set rd V) q)) ∧ Below W.heap.size W w' := fun W => by
    have := rset_any (m := m) (q := q) (w := W) HH.out.ok.1 rd hd V
    rw [HC0.out] at this
    exact this
  have hmem1 : (m.set rd V).mem = m.mem := by unfold Ma.set; split <;> rfl
  have hpl1 : (m.set rd V).pl = m.pl := by unfold Ma.set; split <;> rfl
  have hsok := Ma.set_ok HH.out.ok rd hVr
  have hz5 : (mcs (m.set rd V) q).size = 36 := mcs_size hsok.1 q
  have ha5 := mcs_all (m.set rd V) q
  have hwkd : IntKind.i64.wrap (rd : Int) = rd := IntWalk.i64_in _ (by omega)
  generalize hm1 : m.set rd V = m1 at *
  generalize hcs5 : mcs m1 q = cs5 at *
  have HM1 := Lib.hid hm1; have HC5 := Lib.hid hcs5; have HZ5 := Lib.hid hz5; have HSET := Lib.hid hset2; have HSOK := Lib.hid hsok; have HV := Lib.hid hV; have HMEM1 := Lib.hid hmem1; have HPL := Lib.hid (hpl1.trans HPL0.out)
  clear hm1 hcs5 hz5 hset2 hsok hV hmem1 hpl1
  refine wp_region_last (z := 9) (S := (fun W : World => W.heap[w.heap.size]? = some (.cells cs0 34) ∧ W.cell? ⟨bi, 1, none⟩ = some (.int .i64 rd) ∧ W.cell? ⟨bi, 0, none⟩ = some (.int .i64 op))) (by kernel_rfl) ⟨SX.out.rows.b0, xrd, xop⟩ (fun hHeld => ?_)
  refine wpLast_take (i := 0) (oi := _) (v := .agg cs0) rfl (by kernel_rfl) (by kernel_rfl) (by kernel_rfl) (by kernel_rfl) (fun _ _ _ h => h) (yieldsIf_load_row (by rfl) 34 (.tmp 2) rfl w.heap.size rfl 34 cs0 (0, 0) _ (fun W h => h.1) Tryd.underlying34 rfl (by rw [HZ.out]; exact szMach)) (by assumption) ?_
  simp only [Act.put, List.setIfInBounds_toArray, List.set_cons_zero, List.set_cons_succ]
  refine wpLast_take (i := 1) (oi := _) (v := ?v1) rfl (by kernel_rfl) (by kernel_rfl) (by kernel_rfl) (by kernel_rfl) (fun _ _ _ h => h) (Or.inl ⟨by rfl, ?hy1⟩) (by assumption) ?rest1
  case hy1 => ((intro W hSW; (try dsimp only at hSW); go_simp); first | with_reducible rfl | (rw [if_pos HKO]; done) | (rw [if_pos HKO]; rfl))
  simp only [Act.put, List.setIfInBounds_toArray, List.set_cons_zero, List.set_cons_succ]
  refine wpLast_take (i := 2) (oi := _) (v := ?v2) rfl (by kernel_rfl) (by kernel_rfl) (by kernel_rfl) (by kernel_rfl) (fun _ _ _ h => h) (Or.inl ⟨by rfl, ?hy2⟩) (by assumption) ?rest2
  case hy2 => ((intro W hSW; (try dsimp only at hSW); go_simp); first | with_reducible rfl | (rw [if_pos HKO]; done) | (rw [if_pos HKO]; rfl))
  simp only [Act.put, List.setIfInBounds_toArray, List.set_cons_zero, List.set_cons_succ]
  refine wpLast_take (i := 3) (oi := _) (v := ?v3) rfl (by kernel_rfl) (by kernel_rfl) (by kernel_rfl) (by kernel_rfl) (fun _ _ _ h => h) (Or.inl ⟨by rfl, ?hy3⟩) (by assumption) ?rest3
  case hy3 => ((intro W hSW; (try dsimp only at hSW); go_simp); first | with_reducible rfl | (rw [if_pos HKO]; done) | (rw [if_pos HKO]; rfl))
  simp only [Act.put, List.setIfInBounds_toArray, List.set_cons_zero, List.set_cons_succ]
  refine wpLast_take (i := 4) (oi := _) (v := ?v4) rfl (by kernel_rfl) (by kernel_rfl) (by kernel_rfl) (by kernel_rfl) (fun _ _ _ h => h) (Or.inl ⟨by rfl, ?hy4⟩) (by assumption) ?rest4
  case hy4 => ((intro W hSW; (try dsimp only at hSW); go_simp); first | with_reducible rfl | (rw [if_pos HKO]; done) | (rw [if_pos HKO]; rfl))
  simp only [Act.put, List.setIfInBounds_toArray, List.set_cons_zero, List.set_cons_succ]
  refine wpLast_take (i := 5) (oi := _) (v := ?v5) rfl (by kernel_rfl) (by kernel_rfl) (by kernel_rfl) (by kernel_rfl) (fun _ _ _ h => h) (Or.inl ⟨by rfl, ?hy5⟩) (by assumption) ?rest5
  case hy5 => ((intro W hSW; (try dsimp only at hSW); go_simp); first | with_reducible rfl | (rw [if_pos HKO]; done) | (rw [if_pos HKO]; rfl))
  simp only [Act.put, List.setIfInBounds_toArray, List.set_cons_zero, List.set_cons_succ]
  refine wpLast_take (i := 6) (oi := _) (v := ?v6) rfl (by kernel_rfl) (by kernel_rfl) (by kernel_rfl) (by kernel_rfl) (fun _ _ _ h => h) (Or.inl ⟨by rfl, ?hy6⟩) (by assumption) ?rest6
  case hy6 => ((intro W hSW; (try dsimp only at hSW); go_simp); first | with_reducible rfl | (rw [if_pos HKO]; done) | (rw [if_pos HKO]; rfl))
  simp only [Act.put, List.setIfInBounds_toArray, List.set_cons_zero, List.set_cons_succ]
  refine wpLast_one (i := 7) (by kernel_rfl) rfl (by rfl) (fun K hK => ?_)
  go_simp
  refine (HDO.out _).mono ?_
  rintro e y ⟨rfl, hby⟩
  have HBY := Lib.hid (show Below X4.heap.size X4 y from ⟨hby.os, hby.tape, hby.output, hby.size, hby.block⟩)
  have hbi5 := lt_of_at SB3.out.bx
  refine hK.out _ _ (fun _ => ⟨row_at HBY.out (lt_of_at SX.out.rows.b0) SX.out.rows.b0, (HBY.out.cell (p := ⟨bi, 1, none⟩) hbi5).trans xrd, (HBY.out.cell (p := ⟨bi, 0, none⟩) hbi5).trans xop⟩) (fun hHeld => ?_)
  clear hK K hby
  try simp only [Act.put, List.setIfInBounds_toArray, List.set_cons_zero, List.set_cons_succ]
  refine wpLast_one (i := 8) (by kernel_rfl) rfl (by rfl) (fun K hK => ?_)
  go_simp
  refine (HSET.out _).mono ?_
  rintro e y2 ⟨rfl, hby2⟩
  have HBB := Lib.hid (HBY.out.trans (hby2.mono HBY.out.size))
  have hbi6 : bi < y2.heap.size := Nat.lt_of_lt_of_le hbi5 HBB.out.size
  refine hK.out _ _ (fun _ => ⟨row_at HBB.out (lt_of_at SX.out.rows.b0) SX.out.rows.b0, (HBB.out.cell (p := ⟨bi, 1, none⟩) hbi5).trans xrd, (HBB.out.cell (p := ⟨bi, 0, none⟩) hbi5).trans xop⟩) (fun hHeld => ?_)
  clear hK K hby2
  try simp only [Act.put, List.setIfInBounds_toArray, List.set_cons_zero, List.set_cons_succ]
  have SXY : Hid (Sx w y2 base q m R A c (.slice oA on oc) (.slice sA sn sc) cs0 #[.slice A R.inp.length c, .slice oA on oc, .int .i64 R.checks, .slice sA sn sc]) := Lib.hid ⟨SX.out.rows.fw (base := base) (q := q) (Fw.below HBB.out), SX.out.rd.below HBB.out, SX.out.fw.trans (Fw.below HBB.out), SX.out.mc, SX.out.lb⟩
  have SZ : Hid (Sx w (y2.setRow w.heap.size cs5) base q m1 R A c (.slice oA on oc) (.slice sA sn sc) cs5 #[.slice A R.inp.length c, .slice oA on oc, .int .i64 R.checks, .slice sA sn sc]) := Lib.hid (by
    have := SXY.out.ma (m' := m1) HMEM1.out HSOK.out
    rw [HC5.out] at this
    exact this)
  refine wpLast_one (i := 9) (by kernel_rfl) rfl (by rfl) (fun K hK => ?_)
  refine wp_store_row 34 (.tmp 2) (.tmp 70) rfl w.heap.size cs5 rfl rfl 34 cs0 SXY.out.rows.b0 (by rw [HZ5.out]; exact szMach) (by rw [HZ.out, HZ5.out]) ha5 ?_
  refine hK.out _ _ (fun h => absurd rfl h) (fun _ => ?_)
  clear hK K
  refine wpLast_done (by kernel_rfl) ?_
  generalize y2.setRow w.heap.size cs5 = X5 at *
  clear xop xrd
  have y33 : X5.cell? ⟨w.heap.size, 33, none⟩ = some (.int .u64 PL) := by rw [cell_of_row _ _ 33 _ _ _ SZ.out.rows.b0, ← SZ.out.mc]; exact (mcs_33 HSOK.out.1 q).trans (by rw [HPL.out])
  have fz : ∀ o, X5.frozen? ⟨w.heap.size, o, none⟩ = false := fun o => frozen_of_row _ _ _ _ _ SZ.out.rows.b0
  go_wp2_with fail
  have SY := Lib.hid (SZ.out.pl (IntKind.u64.wrap (PL + 4)) (u64w _))
  have hz1 : (mcs { m1 with pl := IntKind.u64.wrap (PL + 4) } q).size = 36 := mcs_size (m := { m1 with pl := IntKind.u64.wrap (PL + 4) }) HSOK.out.1 q
  have ha1 := mcs_all { m1 with pl := IntKind.u64.wrap (PL + 4) } q
  clear y33 fz
  generalize X5.setCell ⟨w.heap.size, 33, none⟩ (.int .u64 (IntKind.u64.wrap (PL + 4))) = Y0 at *
  generalize hcs1 : mcs { m1 with pl := IntKind.u64.wrap (PL + 4) } q = cs1 at *
  have HC1 := Lib.hid hcs1; have HZ1 := Lib.hid hz1
  clear hcs1 hz1
  obtain ⟨o3, z3, k3⟩ := SY.out.rows.b2
  obtain ⟨o4, z4, k4⟩ := SY.out.rows.b3
  have hlb := HH.out.lb
  refine tail33 w.heap.size cs1 #[.slice A R.inp.length c, .slice oA on oc, .int .i64 R.checks, .slice sA sn sc] o3 o4 true (fun _ _ _ _ _ h => h) (by kernel_rfl) (by kernel_rfl) (by kernel_rfl) (by kernel_rfl) (by kernel_rfl) (by kernel_rfl) (by kernel_rfl) (by kernel_rfl) SY.out.rows.b0 SY.out.rows.b1 k3 k4 HZ1.out rfl z3 z4 ha1 (by simp [Value.oneCell']) SY.out.rd SY.out.fw (by omega) ?_
  intro Y y1 y2' y3 y4
  simp only [Act.put, List.setIfInBounds_toArray, List.set_cons_zero, List.set_cons_succ]
  go_wp2_with fail
  exact bodyPost_ret (v := .tuple #[.agg cs1, .agg #[.slice A R.inp.length c, .slice oA on oc, .int .i64 R.checks, .slice sA sn sc], .bool true]) (res_cct Tryd.results23 _ _ _ _ _ _ _ rfl rfl rfl y1 HZ1.out y2' rfl) rfl ⟨{ m1 with pl := IntKind.u64.wrap (PL + 4) }, R, A, c, oA, on, oc, sA, sn, sc, true, by rw [if_pos rfl], fun hb => (by cases hb), by rw [HC1.out], y3, y4⟩
end Go.Proofs.YtppcbommaddkgaaDoor
namespace Go.Proofs.YtppcbommaddkgaaDoor
open Go.RowKit Go.Maps
set_option linter.unusedVariables false
set_option linter.unusedSimpArgs false
set_option maxRecDepth 10000
open Pm Pc Pl
set_option maxHeartbeats 3000000 in
theorem rstep_no {m : Ma} {q base : Nat} {w : World} {R : Ru} {A : Option Addr} {c : Nat} {oA sA : Option Addr} {on oc sn sc : Nat} (h : Rd w base q m R A c (.slice oA on oc) (.slice sA sn sc)) (hb : hasB m.pl 4 m.mem.length = true) (op n : Int) (rd r1 r2 : Nat) (hop : 45 ≤ op ∧ op ≤ 50) (hn : -9223372036854775808 ≤ n ∧ n < 9223372036854775808) (hd : rd < 32) (h1 : r1 < 32) (h2 : r2 < 32) (hold : holdV op (m.x.getD r1 0) (m.x.getD r2 0) = false) (hdec : ∀ W : World, Calls Tryd.prog 29 #[.int .u32 (wordAt m)] W fun e w' => e = .returned (.tuple #[ins op rd r1 r2 n, .bool true]) ∧ Below W.heap.size W w') :
    Calls Tryd.prog 23 #[.agg (mcs m q), .agg #[.slice A R.inp.length c, .slice oA on oc, .int .i64 R.checks, .slice sA sn sc]] w (RTo w base q m R (some ({ m with pl := IntKind.u64.wrap (m.pl + 4) }, R))) := by
  have hz := mcs_size h.ok.1 q
  have ha := mcs_all m q
  have c33 := mcs_33 h.ok.1 q
  have hp := fun W => rplace_any (q := q) (w := W) h.ok.1 h.ok.2.1 m.pl 4 h.ok.2.2.2.2.1 (Or.inr (Or.inl rfl))
  have HH := Lib.hid h
  generalize hcs0 : mcs m q = cs0 at *
  have w33 : ∀ Z, ((w.alloc (Obj.cells cs0 34)).alloc Z).cell? ⟨w.heap.size, 33, none⟩ = some (.int .u64 m.pl) := fun Z => by rw [cell_of_row _ _ 33 _ _ _ (aa0 _ _ _)]; exact c33
  rw [hb] at hp
  have hfit : m.pl + 4 ≤ m.mem.length := by unfold hasB at hb; exact (of_decide_eq_true hb).2
  have hbyte : ∀ i : Nat, 0 ≤ m.mem.getD i 0 ∧ m.mem.getD i 0 < 256 := fun i => by
    by_cases hi : i < m.mem.length
    · have e : m.mem.getD i 0 = m.mem[i] := by simp [List.getD, hi]
      rw [e]; exact h.ok.2.2.2.1 _ (List.getElem_mem hi)
    · have e : m.mem.getD i 0 = 0 := by simp [List.getD, List.getElem?_eq_none (Nat.le_of_not_lt hi)]
      rw [e]; omega
  have hpl0 := h.ok.2.2.2.2.1.1
  have HG : Hid (∀ W : World, W.heap[q]? = some (.cells (u8s m.mem).toArray 5) → Calls Tryd.prog 30 #[.agg cs0, .int .u64 m.pl, .int .i64 4] W fun e w' => e = .returned (.int .u64 (wordAt m)) ∧ Below W.heap.size W w') := Lib.hid fun W hW => by
    have := rget_any (q := q) (w := W) h.ok.1 h.ok.2.1 hbyte m.pl.toNat 4 (by omega) (by omega) hW
    rw [hcs0, Int.toNat_of_nonneg hpl0] at this
    exact this
  have hwr := getV_range m.mem hbyte 4 m.pl.toNat
  have hwd : 0 ≤ wordAt m ∧ wordAt m < 4294967296 := ⟨hwr.1, Int.lt_of_lt_of_le hwr.2 (by decide)⟩
  have hwrap : IntKind.u32.wrap (wordAt m) = wordAt m := by simp [IntKind.wrap, IntKind.bits, IntKind.signed]; omega
  have HDEC := Lib.hid hdec
  clear hdec hfit hbyte hwr hpl0
  generalize wordAt m = WD at *
  have HP := Lib.hid hp; have HZ := Lib.hid hz; have HC0 := Lib.hid hcs0
  have C33 := Lib.hid c33
  clear h hp hz hcs0 c33 hb
  generalize hPLm : m.pl = PL at *
  have HPL0 := Lib.hid hPLm
  clear hPLm
  have hlb := HH.out.lb
  go_enter Tryd.func23, Tryd.ntmps23
  go_wp2_with (first
    | ((with_reducible refine ld36 w.heap.size cs0 ?_ ?_ HZ.out ?_); rfl; exact a4_0 _ _ _ _ _)
    | fail)
  generalize hX : ((((w.alloc _).alloc _).alloc _).alloc _) = X
  have hb4 : Below w.heap.size w X := by rw [← hX]; exact bw_alloc (bw_alloc (bw_alloc (bw_alloc (Below.refl w.heap.size w) _) _) _) _
  have k0 : X.heap[w.heap.size]? = some (.cells cs0 34) := by rw [← hX]; exact a4_0 _ _ _ _ _
  have k1 : X.heap[w.heap.size + 1]? = some (.cells #[.slice A R.inp.length c, .slice oA on oc, .int .i64 R.checks, .slice sA sn sc] 71) := by rw [← hX]; exact a4_1 _ _ _ _ _
  have k2 : ∃ old : Array Value, old.size = 36 ∧ X.heap[w.heap.size + 2]? = some (.cells old 34) := by rw [← hX]; exact ⟨_, rfl, a4_2 _ _ _ _ _⟩
  have k3 : ∃ old : Array Value, old.size = 4 ∧ X.heap[w.heap.size + 3]? = some (.cells old 71) := by rw [← hX]; exact ⟨_, rfl, a4_3 _ _ _ _ _⟩
  clear hX w33
  with_reducible refine (HP.out X).mono ?_
  rintro e X1 ⟨rfl, bp⟩
  have hb5 := hb4.trans (bp.mono hb4.size)
  obtain ⟨o3, z3, k2⟩ := k2
  obtain ⟨o4, z4, k3⟩ := k3
  have K0 := Lib.hid (row_at bp (lt_of_at k0) k0); have K1 := Lib.hid (row_at bp (lt_of_at k1) k1); have K2 := Lib.hid (row_at bp (lt_of_at k2) k2); have K3 := Lib.hid (row_at bp (lt_of_at k3) k3); have HB5 := Lib.hid hb5
  clear k0 k1 k2 k3 bp hb4 hb5
  have c33' : cs0[33]? = some (.int .u64 PL) := C33.out
  have x33 : X1.cell? ⟨w.heap.size, 33, none⟩ = some (.int .u64 PL) := by rw [cell_of_row _ _ 33 _ _ _ K0.out]; exact c33'
  clear c33'
  go_wp2_with (first
    | ((with_reducible refine ld36 w.heap.size cs0 ?_ ?_ HZ.out ?_); rfl; exact K0.out)
    | fail)
  refine (HG.out X1 ((HB5.out.block q (lt_of_at HH.out.mem)).trans HH.out.mem)).mono ?_
  rintro e X2 ⟨rfl, b2⟩
  go_wp2_with fail
  with_reducible refine (HDEC.out X2).mono ?_
  rintro e X3 ⟨rfl, b3⟩
  have bX3 : Below X1.heap.size X1 X3 := b2.trans (b3.mono b2.size)
  have hX3 := HB5.out.size
  have hX4 := lt_of_at K3.out
  have hX5 := bX3.size
  have sb : Sb w (X3.alloc (Obj.cells #[.int .i64 op, .int .i64 rd, .int .i64 r1, .int .i64 r2, .int .i64 n] 49)) cs0 #[.slice A R.inp.length c, .slice oA on oc, .int .i64 R.checks, .slice sA sn sc] X3.heap.size op rd r1 r2 n := by
    have hbb := bX3.trans ((bw_alloc (Below.refl X3.heap.size X3) (Obj.cells #[.int .i64 op, .int .i64 rd, .int .i64 r1, .int .i64 r2, .int .i64 n] 49)).mono bX3.size)
    exact ⟨row_at hbb (lt_of_at K0.out) K0.out, row_at hbb (lt_of_at K1.out) K1.out, ⟨o3, z3, row_at hbb (lt_of_at K2.out) K2.out⟩, ⟨o4, z4, row_at hbb (lt_of_at K3.out) K3.out⟩, heap_alloc_new _ _, by omega, HB5.out.trans (hbb.mono HB5.out.size)⟩
  have HI : Hid (∀ k : Nat, ∀ W : World, Calls Tryd.prog 31 #[.int .i64 n] (W.drewN k) fun e w' => e = .returned (.int .u64 (n % 18446744073709551616)) ∧ W.drewN k = w') := Lib.hid fun k W => rimm_any n _ hn
  have X1c := mcs_x HH.out.ok.1 q h1
  have X2c := mcs_x HH.out.ok.1 q h2
  have hr1 := reg_range HH.out.ok r1
  have hr2 := reg_range HH.out.ok r2
  rw [HC0.out] at X1c X2c
  have hwk1 : IntKind.i64.wrap (r1 : Int) = r1 := IntWalk.i64_in _ (by omega)
  have hwk2 : IntKind.i64.wrap (r2 : Int) = r2 := IntWalk.i64_in _ (by omega)
  unfold Ma.reg at hr1 hr2
  generalize hv1 : m.x.getD r1 0 = v1 at *
  generalize hv2 : m.x.getD r2 0 = v2 at *
  have HV1 := Lib.hid hv1; have HV2 := Lib.hid hv2
  have y1 : ∀ k, (World.drewN (X3.alloc (Obj.cells #[.int .i64 op, .int .i64 rd, .int .i64 r1, .int .i64 r2, .int .i64 n] 49)) k).cell? ⟨w.heap.size, 1 + r1, none⟩ = some (.int .u64 v1) := fun k => by rw [cell_of_row _ _ (1 + r1) _ _ _ (show (World.drewN (X3.alloc (Obj.cells #[.int .i64 op, .int .i64 rd, .int .i64 r1, .int .i64 r2, .int .i64 n] 49)) k).heap[w.heap.size]? = _ from sb.b0)]; exact X1c
  have y2 : ∀ k, (World.drewN (X3.alloc (Obj.cells #[.int .i64 op, .int .i64 rd, .int .i64 r1, .int .i64 r2, .int .i64 n] 49)) k).cell? ⟨w.heap.size, 1 + r2, none⟩ = some (.int .u64 v2) := fun k => by rw [cell_of_row _ _ (1 + r2) _ _ _ (show (World.drewN (X3.alloc (Obj.cells #[.int .i64 op, .int .i64 rd, .int .i64 r1, .int .i64 r2, .int .i64 n] 49)) k).heap[w.heap.size]? = _ from sb.b0)]; exact X2c
  have y33 : ∀ k, (World.drewN (X3.alloc (Obj.cells #[.int .i64 op, .int .i64 rd, .int .i64 r1, .int .i64 r2, .int .i64 n] 49)) k).cell? ⟨w.heap.size, 33, none⟩ = some (.int .u64 PL) := fun k => by rw [cell_of_row _ _ 33 _ _ _ (show (World.drewN (X3.alloc (Obj.cells #[.int .i64 op, .int .i64 rd, .int .i64 r1, .int .i64 r2, .int .i64 n] 49)) k).heap[w.heap.size]? = _ from sb.b0)]; exact C33.out
  have SB := Lib.hid sb
  clear sb b2 b3 bX3 X1c X2c hv1 hv2 K0 K1 K2 K3 x33 HG HDEC hwrap
  go_wp2_with fail
  go_quiet (with_reducible refine (HI.out _ _).mono ?_; rintro e w9 ⟨rfl, rfl⟩; exact ⟨rfl, _, rfl⟩)
  have d27 : decide (op ≤ 27) = false := by simp; omega
  have d37 : decide (op ≤ 37) = false := by simp; omega
  have d44 : decide (op ≤ 44) = false := by simp; omega
  have d50 : decide (op ≤ 50) = true := by simp; omega
  have sb2 := SB.out.grow (X' := World.drewN (X3.alloc (Obj.cells #[.int .i64 op, .int .i64 rd, .int .i64 r1, .int .i64 r2, .int .i64 n] 49)) nq) ⟨rfl, rfl, rfl, Nat.le_refl _, fun _ _ => rfl⟩
  replace y33 := y33 nq
  clear SB y1 y2 HI
  generalize hbi : X3.heap.size = bi at *
  generalize hX : World.drewN (X3.alloc (Obj.cells #[.int .i64 op, .int .i64 rd, .int .i64 r1, .int .i64 r2, .int .i64 n] 49)) nq = X at *
  clear hX
  have sb3 := Lib.hid (fun Z => sb2.grow (bw_alloc (Below.refl _ _) Z))
  have xop' : ∀ Z, (X.alloc Z).cell? ⟨bi, 0, none⟩ = some (.int .i64 op) := fun Z => by rw [cell_of_row _ _ 0 _ _ _ ((Below.heap_alloc _ _ _ (lt_of_at sb2.bx)).trans sb2.bx)]; rfl
  have xop'' : X.cell? ⟨bi, 0, none⟩ = some (.int .i64 op) := by rw [cell_of_row _ _ 0 _ _ _ sb2.bx]; rfl
  have y33' : ∀ Z, (X.alloc Z).cell? ⟨w.heap.size, 33, none⟩ = some (.int .u64 PL) := fun Z => by rw [cell_of_row _ _ 33 _ _ _ (sb3.out Z).b0]; exact C33.out
  have TK := Lib.hid (fun W => rtaken_any op v1 v2 W hop hr1 hr2)
  go_wp2_with (first
    | (with_reducible refine (TK.out _).mono ?_)
    | fail)
  rintro e w9 ⟨rfl, rfl⟩
  have SB3 := Lib.hid (sb3.out (Obj.cells #[.int .i64 1, .int .i64 4, .int .i64 5, .int .i64 6, .int .i64 9, .int .i64 10, .int .i64 3, .int .i64 7, .int .i64 8, .int .i64 18] 86))
  clear sb2 sb3 xop' xop'' y33 y33'
  generalize hX4 : X.alloc (Obj.cells #[.int .i64 1, .int .i64 4, .int .i64 5, .int .i64 6, .int .i64 9, .int .i64 10, .int .i64 3, .int .i64 7, .int .i64 8, .int .i64 18] 86) = X4 at *
  clear hX4
  have SX : Hid (Sx w X4 base q m R A c (.slice oA on oc) (.slice sA sn sc) cs0 #[.slice A R.inp.length c, .slice oA on oc, .int .i64 R.checks, .slice sA sn sc]) := Lib.hid ⟨SB3.out.rows, HH.out.below SB3.out.below, Fw.below SB3.out.below, HC0.out, HH.out.lb⟩
  have xop : X4.cell? ⟨bi, 0, none⟩ = some (.int .i64 op) := by rw [cell_of_row _ _ 0 _ _ _ SB3.out.bx]; rfl
  have xrd : X4.cell? ⟨bi, 1, none⟩ = some (.int .i64 rd) := by rw [cell_of_row _ _ 1 _ _ _ SB3.out.bx]; rfl
  rw [hold]
  have HPLM := Lib.hid HPL0.out
  have y33 : X4.cell? ⟨w.heap.size, 33, none⟩ = some (.int .u64 PL) := by rw [cell_of_row _ _ 33 _ _ _ SB3.out.b0]; exact C33.out
  have fz : ∀ o, X4.frozen? ⟨w.heap.size, o, none⟩ = false := fun o => frozen_of_row _ _ _ _ _ SB3.out.b0
  go_wp2_with fail
  have HOK1 := Lib.hid HH.out.ok
  have SY := Lib.hid (SX.out.pl (IntKind.u64.wrap (PL + 4)) (u64w _))
  have hz1 : (mcs { m with pl := IntKind.u64.wrap (PL + 4) } q).size = 36 := mcs_size (m := { m with pl := IntKind.u64.wrap (PL + 4) }) HOK1.out.1 q
  have ha1 := mcs_all { m with pl := IntKind.u64.wrap (PL + 4) } q
  clear y33 fz
  generalize X4.setCell ⟨w.heap.size, 33, none⟩ (.int .u64 (IntKind.u64.wrap (PL + 4))) = Y0 at *
  generalize hcs1 : mcs { m with pl := IntKind.u64.wrap (PL + 4) } q = cs1 at *
  have HC1 := Lib.hid hcs1; have HZ1 := Lib.hid hz1
  clear hcs1 hz1
  obtain ⟨o3, z3, k3⟩ := SY.out.rows.b2
  obtain ⟨o4, z4, k4⟩ := SY.out.rows.b3
  have hlb := HH.out.lb
  refine tail33 w.heap.size cs1 #[.slice A R.inp.length c, .slice oA on oc, .int .i64 R.checks, .slice sA sn sc] o3 o4 true (fun _ _ _ _ _ h => h) (by kernel_rfl) (by kernel_rfl) (by kernel_rfl) (by kernel_rfl) (by kernel_rfl) (by kernel_rfl) (by kernel_rfl) (by kernel_rfl) SY.out.rows.b0 SY.out.rows.b1 k3 k4 HZ1.out rfl z3 z4 ha1 (by simp [Value.oneCell']) SY.out.rd SY.out.fw (by omega) ?_
  intro Y y1 y2' y3 y4
  simp only [Act.put, List.setIfInBounds_toArray, List.set_cons_zero, List.set_cons_succ]
  go_wp2_with fail
  exact bodyPost_ret (v := .tuple #[.agg cs1, .agg #[.slice A R.inp.length c, .slice oA on oc, .int .i64 R.checks, .slice sA sn sc], .bool true]) (res_cct Tryd.results23 _ _ _ _ _ _ _ rfl rfl rfl y1 HZ1.out y2' rfl) rfl ⟨{ m with pl := IntKind.u64.wrap (PL + 4) }, R, A, c, oA, on, oc, sA, sn, sc, true, by rw [if_pos rfl], fun hb => (by cases hb), by rw [HC1.out], y3, y4⟩
set_option maxHeartbeats 3000000 in
theorem rstep_br {m : Ma} {q base : Nat} {w : World} {R : Ru} {A : Option Addr} {c : Nat} {oA sA : Option Addr} {on oc sn sc : Nat} (h : Rd w base q m R A c (.slice oA on oc) (.slice sA sn sc)) (hb : hasB m.pl 4 m.mem.length = true) (op n : Int) (rd r1 r2 : Nat) (hop : 45 ≤ op ∧ op ≤ 50) (hn : -9223372036854775808 ≤ n ∧ n < 9223372036854775808) (hd : rd < 32) (h1 : r1 < 32) (h2 : r2 < 32) (hold : holdV op (m.x.getD r1 0) (m.x.getD r2 0) = true) (hdec : ∀ W : World, Calls Tryd.prog 29 #[.int .u32 (wordAt m)] W fun e w' => e = .returned (.tuple #[ins op rd r1 r2 n, .bool true]) ∧ Below W.heap.size W w') :
    Calls Tryd.prog 23 #[.agg (mcs m q), .agg #[.slice A R.inp.length c, .slice oA on oc, .int .i64 R.checks, .slice sA sn sc]] w (RTo w base q m R (some ({ m with pl := IntKind.u64.wrap (m.pl + n % 18446744073709551616) }, R))) := by
  have hz := mcs_size h.ok.1 q
  have ha := mcs_all m q
  have c33 := mcs_33 h.ok.1 q
  have hp := fun W => rplace_any (q := q) (w := W) h.ok.1 h.ok.2.1 m.pl 4 h.ok.2.2.2.2.1 (Or.inr (Or.inl rfl))
  have HH := Lib.hid h
  generalize hcs0 : mcs m q = cs0 at *
  have w33 : ∀ Z, ((w.alloc (Obj.cells cs0 34)).alloc Z).cell? ⟨w.heap.size, 33, none⟩ = some (.int .u64 m.pl) := fun Z => by rw [cell_of_row _ _ 33 _ _ _ (aa0 _ _ _)]; exact c33
  rw [hb] at hp
  have hfit : m.pl + 4 ≤ m.mem.length := by unfold hasB at hb; exact (of_decide_eq_true hb).2
  have hbyte : ∀ i : Nat, 0 ≤ m.mem.getD i 0 ∧ m.mem.getD i 0 < 256 := fun i => by
    by_cases hi : i < m.mem.length
    · have e : m.mem.getD i 0 = m.mem[i] := by simp [List.getD, hi]
      rw [e]; exact h.ok.2.2.2.1 _ (List.getElem_mem hi)
    · have e : m.mem.getD i 0 = 0 := by simp [List.getD, List.getElem?_eq_none (Nat.le_of_not_lt hi)]
      rw [e]; omega
  have hpl0 := h.ok.2.2.2.2.1.1
  have HG : Hid (∀ W : World, W.heap[q]? = some (.cells (u8s m.mem).toArray 5) → Calls Tryd.prog 30 #[.agg cs0, .int .u64 m.pl, .int .i64 4] W fun e w' => e = .returned (.int .u64 (wordAt m)) ∧ Below W.heap.size W w') := Lib.hid fun W hW => by
    have := rget_any (q := q) (w := W) h.ok.1 h.ok.2.1 hbyte m.pl.toNat 4 (by omega) (by omega) hW
    rw [hcs0, Int.toNat_of_nonneg hpl0] at this
    exact this
  have hwr := getV_range m.mem hbyte 4 m.pl.toNat
  have hwd : 0 ≤ wordAt m ∧ wordAt m < 4294967296 := ⟨hwr.1, Int.lt_of_lt_of_le hwr.2 (by decide)⟩
  have hwrap : IntKind.u32.wrap (wordAt m) = wordAt m := by simp [IntKind.wrap, IntKind.bits, IntKind.signed]; omega
  have HDEC := Lib.hid hdec
  clear hdec hfit hbyte hwr hpl0
  generalize wordAt m = WD at *
  have HP := Lib.hid hp; have HZ := Lib.hid hz; have HC0 := Lib.hid hcs0
  have C33 := Lib.hid c33
  clear h hp hz hcs0 c33 hb
  generalize hPLm : m.pl = PL at *
  have HPL0 := Lib.hid hPLm
  clear hPLm
  have hlb := HH.out.lb
  go_enter Tryd.func23, Tryd.ntmps23
  go_wp2_with (first
    | ((with_reducible refine ld36 w.heap.size cs0 ?_ ?_ HZ.out ?_); rfl; exact a4_0 _ _ _ _ _)
    | fail)
  generalize hX : ((((w.alloc _).alloc _).alloc _).alloc _) = X
  have hb4 : Below w.heap.size w X := by rw [← hX]; exact bw_alloc (bw_alloc (bw_alloc (bw_alloc (Below.refl w.heap.size w) _) _) _) _
  have k0 : X.heap[w.heap.size]? = some (.cells cs0 34) := by rw [← hX]; exact a4_0 _ _ _ _ _
  have k1 : X.heap[w.heap.size + 1]? = some (.cells #[.slice A R.inp.length c, .slice oA on oc, .int .i64 R.checks, .slice sA sn sc] 71) := by rw [← hX]; exact a4_1 _ _ _ _ _
  have k2 : ∃ old : Array Value, old.size = 36 ∧ X.heap[w.heap.size + 2]? = some (.cells old 34) := by rw [← hX]; exact ⟨_, rfl, a4_2 _ _ _ _ _⟩
  have k3 : ∃ old : Array Value, old.size = 4 ∧ X.heap[w.heap.size + 3]? = some (.cells old 71) := by rw [← hX]; exact ⟨_, rfl, a4_3 _ _ _ _ _⟩
  clear hX w33
  with_reducible refine (HP.out X).mono ?_
  rintro e X1 ⟨rfl, bp⟩
  have hb5 := hb4.trans (bp.mono hb4.size)
  obtain ⟨o3, z3, k2⟩ := k2
  obtain ⟨o4, z4, k3⟩ := k3
  have K0 := Lib.hid (row_at bp (lt_of_at k0) k0); have K1 := Lib.hid (row_at bp (lt_of_at k1) k1); have K2 := Lib.hid (row_at bp (lt_of_at k2) k2); have K3 := Lib.hid (row_at bp (lt_of_at k3) k3); have HB5 := Lib.hid hb5
  clear k0 k1 k2 k3 bp hb4 hb5
  have c33' : cs0[33]? = some (.int .u64 PL) := C33.out
  have x33 : X1.cell? ⟨w.heap.size, 33, none⟩ = some (.int .u64 PL) := by rw [cell_of_row _ _ 33 _ _ _ K0.out]; exact c33'
  clear c33'
  go_wp2_with (first
    | ((with_reducible refine ld36 w.heap.size cs0 ?_ ?_ HZ.out ?_); rfl; exact K0.out)
    | fail)
  refine (HG.out X1 ((HB5.out.block q (lt_of_at HH.out.mem)).trans HH.out.mem)).mono ?_
  rintro e X2 ⟨rfl, b2⟩
  go_wp2_with fail
  with_reducible refine (HDEC.out X2).mono ?_
  rintro e X3 ⟨rfl, b3⟩
  have bX3 : Below X1.heap.size X1 X3 := b2.trans (b3.mono b2.size)
  have hX3 := HB5.out.size
  have hX4 := lt_of_at K3.out
  have hX5 := bX3.size
  have sb : Sb w (X3.alloc (Obj.cells #[.int .i64 op, .int .i64 rd, .int .i64 r1, .int .i64 r2, .int .i64 n] 49)) cs0 #[.slice A R.inp.length c, .slice oA on oc, .int .i64 R.checks, .slice sA sn sc] X3.heap.size op rd r1 r2 n := by
    have hbb := bX3.trans ((bw_alloc (Below.refl X3.heap.size X3) (Obj.cells #[.int .i64 op, .int .i64 rd, .int .i64 r1, .int .i64 r2, .int .i64 n] 49)).mono bX3.size)
    exact ⟨row_at hbb (lt_of_at K0.out) K0.out, row_at hbb (lt_of_at K1.out) K1.out, ⟨o3, z3, row_at hbb (lt_of_at K2.out) K2.out⟩, ⟨o4, z4, row_at hbb (lt_of_at K3.out) K3.out⟩, heap_alloc_new _ _, by omega, HB5.out.trans (hbb.mono HB5.out.size)⟩
  have HI : Hid (∀ k : Nat, ∀ W : World, Calls Tryd.prog 31 #[.int .i64 n] (W.drewN k) fun e w' => e = .returned (.int .u64 (n % 18446744073709551616)) ∧ W.drewN k = w') := Lib.hid fun k W => rimm_any n _ hn
  have X1c := mcs_x HH.out.ok.1 q h1
  have X2c := mcs_x HH.out.ok.1 q h2
  have hr1 := reg_range HH.out.ok r1
  have hr2 := reg_range HH.out.ok r2
  rw [HC0.out] at X1c X2c
  have hwk1 : IntKind.i64.wrap (r1 : Int) = r1 := IntWalk.i64_in _ (by omega)
  have hwk2 : IntKind.i64.wrap (r2 : Int) = r2 := IntWalk.i64_in _ (by omega)
  unfold Ma.reg at hr1 hr2
  generalize hv1 : m.x.getD r1 0 = v1 at *
  generalize hv2 : m.x.getD r2 0 = v2 at *
  have HV1 := Lib.hid hv1; have HV2 := Lib.hid hv2
  have y1 : ∀ k, (World.drewN (X3.alloc (Obj.cells #[.int .i64 op, .int .i64 rd, .int .i64 r1, .int .i64 r2, .int .i64 n] 49)) k).cell? ⟨w.heap.size, 1 + r1, none⟩ = some (.int .u64 v1) := fun k => by rw [cell_of_row _ _ (1 + r1) _ _ _ (show (World.drewN (X3.alloc (Obj.cells #[.int .i64 op, .int .i64 rd, .int .i64 r1, .int .i64 r2, .int .i64 n] 49)) k).heap[w.heap.size]? = _ from sb.b0)]; exact X1c
  have y2 : ∀ k, (World.drewN (X3.alloc (Obj.cells #[.int .i64 op, .int .i64 rd, .int .i64 r1, .int .i64 r2, .int .i64 n] 49)) k).cell? ⟨w.heap.size, 1 + r2, none⟩ = some (.int .u64 v2) := fun k => by rw [cell_of_row _ _ (1 + r2) _ _ _ (show (World.drewN (X3.alloc (Obj.cells #[.int .i64 op, .int .i64 rd, .int .i64 r1, .int .i64 r2, .int .i64 n] 49)) k).heap[w.heap.size]? = _ from sb.b0)]; exact X2c
  have y33 : ∀ k, (World.drewN (X3.alloc (Obj.cells #[.int .i64 op, .int .i64 rd, .int .i64 r1, .int .i64 r2, .int .i64 n] 49)) k).cell? ⟨w.heap.size, 33, none⟩ = some (.int .u64 PL) := fun k => by rw [cell_of_row _ _ 33 _ _ _ (show (World.drewN (X3.alloc (Obj.cells #[.int .i64 op, .int .i64 rd, .int .i64 r1, .int .i64 r2, .int .i64 n] 49)) k).heap[w.heap.size]? = _ from sb.b0)]; exact C33.out
  have SB := Lib.hid sb
  clear sb b2 b3 bX3 X1c X2c hv1 hv2 K0 K1 K2 K3 x33 HG HDEC hwrap
  go_wp2_with fail
  go_quiet (with_reducible refine (HI.out _ _).mono ?_; rintro e w9 ⟨rfl, rfl⟩; exact ⟨rfl, _, rfl⟩)
  have d27 : decide (op ≤ 27) = false := by simp; omega
  have d37 : decide (op ≤ 37) = false := by simp; omega
  have d44 : decide (op ≤ 44) = false := by simp; omega
  have d50 : decide (op ≤ 50) = true := by simp; omega
  have sb2 := SB.out.grow (X' := World.drewN (X3.alloc (Obj.cells #[.int .i64 op, .int .i64 rd, .int .i64 r1, .int .i64 r2, .int .i64 n] 49)) nq) ⟨rfl, rfl, rfl, Nat.le_refl _, fun _ _ => rfl⟩
  replace y33 := y33 nq
  clear SB y1 y2 HI
  generalize hbi : X3.heap.size = bi at *
  generalize hX : World.drewN (X3.alloc (Obj.cells #[.int .i64 op, .int .i64 rd, .int .i64 r1, .int .i64 r2, .int .i64 n] 49)) nq = X at *
  clear hX
  have sb3 := Lib.hid (fun Z => sb2.grow (bw_alloc (Below.refl _ _) Z))
  have xop' : ∀ Z, (X.alloc Z).cell? ⟨bi, 0, none⟩ = some (.int .i64 op) := fun Z => by rw [cell_of_row _ _ 0 _ _ _ ((Below.heap_alloc _ _ _ (lt_of_at sb2.bx)).trans sb2.bx)]; rfl
  have xop'' : X.cell? ⟨bi, 0, none⟩ = some (.int .i64 op) := by rw [cell_of_row _ _ 0 _ _ _ sb2.bx]; rfl
  have y33' : ∀ Z, (X.alloc Z).cell? ⟨w.heap.size, 33, none⟩ = some (.int .u64 PL) := fun Z => by rw [cell_of_row _ _ 33 _ _ _ (sb3.out Z).b0]; exact C33.out
  have TK := Lib.hid (fun W => rtaken_any op v1 v2 W hop hr1 hr2)
  go_wp2_with (first
    | (with_reducible refine (TK.out _).mono ?_)
    | fail)
  rintro e w9 ⟨rfl, rfl⟩
  have SB3 := Lib.hid (sb3.out (Obj.cells #[.int .i64 1, .int .i64 4, .int .i64 5, .int .i64 6, .int .i64 9, .int .i64 10, .int .i64 3, .int .i64 7, .int .i64 8, .int .i64 18] 86))
  clear sb2 sb3 xop' xop'' y33 y33'
  generalize hX4 : X.alloc (Obj.cells #[.int .i64 1, .int .i64 4, .int .i64 5, .int .i64 6, .int .i64 9, .int .i64 10, .int .i64 3, .int .i64 7, .int .i64 8, .int .i64 18] 86) = X4 at *
  clear hX4
  have SX : Hid (Sx w X4 base q m R A c (.slice oA on oc) (.slice sA sn sc) cs0 #[.slice A R.inp.length c, .slice oA on oc, .int .i64 R.checks, .slice sA sn sc]) := Lib.hid ⟨SB3.out.rows, HH.out.below SB3.out.below, Fw.below SB3.out.below, HC0.out, HH.out.lb⟩
  have xop : X4.cell? ⟨bi, 0, none⟩ = some (.int .i64 op) := by rw [cell_of_row _ _ 0 _ _ _ SB3.out.bx]; rfl
  have xrd : X4.cell? ⟨bi, 1, none⟩ = some (.int .i64 rd) := by rw [cell_of_row _ _ 1 _ _ _ SB3.out.bx]; rfl
  rw [hold]
  have HPLM := Lib.hid HPL0.out
  have y33 : X4.cell? ⟨w.heap.size, 33, none⟩ = some (.int .u64 PL) := by rw [cell_of_row _ _ 33 _ _ _ SB3.out.b0]; exact C33.out
  have fz : ∀ o, X4.frozen? ⟨w.heap.size, o, none⟩ = false := fun o => frozen_of_row _ _ _ _ _ SB3.out.b0
  go_wp2_with fail
  have HOK1 := Lib.hid HH.out.ok
  have SY := Lib.hid (SX.out.pl (IntKind.u64.wrap (PL + n % 18446744073709551616)) (u64w _))
  have hz1 : (mcs { m with pl := IntKind.u64.wrap (PL + n % 18446744073709551616) } q).size = 36 := mcs_size (m := { m with pl := IntKind.u64.wrap (PL + n % 18446744073709551616) }) HOK1.out.1 q
  have ha1 := mcs_all { m with pl := IntKind.u64.wrap (PL + n % 18446744073709551616) } q
  clear y33 fz
  generalize X4.setCell ⟨w.heap.size, 33, none⟩ (.int .u64 (IntKind.u64.wrap (PL + n % 18446744073709551616))) = Y0 at *
  generalize hcs1 : mcs { m with pl := IntKind.u64.wrap (PL + n % 18446744073709551616) } q = cs1 at *
  have HC1 := Lib.hid hcs1; have HZ1 := Lib.hid hz1
  clear hcs1 hz1
  obtain ⟨o3, z3, k3⟩ := SY.out.rows.b2
  obtain ⟨o4, z4, k4⟩ := SY.out.rows.b3
  have hlb := HH.out.lb
  refine tail33 w.heap.size cs1 #[.slice A R.inp.length c, .slice oA on oc, .int .i64 R.checks, .slice sA sn sc] o3 o4 true (fun _ _ _ _ _ h => h) (by kernel_rfl) (by kernel_rfl) (by kernel_rfl) (by kernel_rfl) (by kernel_rfl) (by kernel_rfl) (by kernel_rfl) (by kernel_rfl) SY.out.rows.b0 SY.out.rows.b1 k3 k4 HZ1.out rfl z3 z4 ha1 (by simp [Value.oneCell']) SY.out.rd SY.out.fw (by omega) ?_
  intro Y y1 y2' y3 y4
  simp only [Act.put, List.setIfInBounds_toArray, List.set_cons_zero, List.set_cons_succ]
  go_wp2_with fail
  exact bodyPost_ret (v := .tuple #[.agg cs1, .agg #[.slice A R.inp.length c, .slice oA on oc, .int .i64 R.checks, .slice sA sn sc], .bool true]) (res_cct Tryd.results23 _ _ _ _ _ _ _ rfl rfl rfl y1 HZ1.out y2' rfl) rfl ⟨{ m with pl := IntKind.u64.wrap (PL + n % 18446744073709551616) }, R, A, c, oA, on, oc, sA, sn, sc, true, by rw [if_pos rfl], fun hb => (by cases hb), by rw [HC1.out], y3, y4⟩
end Go.Proofs.YtppcbommaddkgaaDoor
namespace Go.Proofs.YtppcbommaddkgaaDoor
open Go.RowKit Go.Maps
set_option linter.unusedVariables false
set_option linter.unusedSimpArgs false
set_option maxRecDepth 10000
open Pm Pc Pl
set_option maxHeartbeats 3000000 in
theorem rstep_I {m : Ma} {q base : Nat} {w : World} {R : Ru} {A : Option Addr} {c : Nat} {oA sA : Option Addr} {on oc sn sc : Nat} (h : Rd w base q m R A c (.slice oA on oc) (.slice sA sn sc)) (hb : hasB m.pl 4 m.mem.length = true) (op n : Int) (rd r1 r2 : Nat) (hop : 28 ≤ op ∧ op ≤ 37) (hn : -9223372036854775808 ≤ n ∧ n < 9223372036854775808) (hd : rd < 32) (h1 : r1 < 32) (h2 : r2 < 32) (hmk : ¬ (op = 28 ∧ rd = 0 ∧ r1 = 0 ∧ n = 1)) (hdec : ∀ W : World, Calls Tryd.prog 29 #[.int .u32 (wordAt m)] W fun e w' => e = .returned (.tuple #[ins op rd r1 r2 n, .bool true]) ∧ Below W.heap.size W w') :
    Calls Tryd.prog 23 #[.agg (mcs m q), .agg #[.slice A R.inp.length c, .slice oA on oc, .int .i64 R.checks, .slice sA sn sc]] w (RTo w base q m R (some ({ m.set rd (opV (opTab op) (m.x.getD r1 0) (n % 18446744073709551616)) with pl := IntKind.u64.wrap (m.pl + 4) }, R))) := by
  have hz := mcs_size h.ok.1 q
  have ha := mcs_all m q
  have c33 := mcs_33 h.ok.1 q
  have hp := fun W => rplace_any (q := q) (w := W) h.ok.1 h.ok.2.1 m.pl 4 h.ok.2.2.2.2.1 (Or.inr (Or.inl rfl))
  have HH := Lib.hid h
  generalize hcs0 : mcs m q = cs0 at *
  have w33 : ∀ Z, ((w.alloc (Obj.cells cs0 34)).alloc Z).cell? ⟨w.heap.size, 33, none⟩ = some (.int .u64 m.pl) := fun Z => by rw [cell_of_row _ _ 33 _ _ _ (aa0 _ _ _)]; exact c33
  rw [hb] at hp
  have hfit : m.pl + 4 ≤ m.mem.length := by unfold hasB at hb; exact (of_decide_eq_true hb).2
  have hbyte : ∀ i : Nat, 0 ≤ m.mem.getD i 0 ∧ m.mem.getD i 0 < 256 := fun i => by
    by_cases hi : i < m.mem.length
    · have e : m.mem.getD i 0 = m.mem[i] := by simp [List.getD, hi]
      rw [e]; exact h.ok.2.2.2.1 _ (List.getElem_mem hi)
    · have e : m.mem.getD i 0 = 0 := by simp [List.getD, List.getElem?_eq_none (Nat.le_of_not_lt hi)]
      rw [e]; omega
  have hpl0 := h.ok.2.2.2.2.1.1
  have HG : Hid (∀ W : World, W.heap[q]? = some (.cells (u8s m.mem).toArray 5) → Calls Tryd.prog 30 #[.agg cs0, .int .u64 m.pl, .int .i64 4] W fun e w' => e = .returned (.int .u64 (wordAt m)) ∧ Below W.heap.size W w') := Lib.hid fun W hW => by
    have := rget_any (q := q) (w := W) h.ok.1 h.ok.2.1 hbyte m.pl.toNat 4 (by omega) (by omega) hW
    rw [hcs0, Int.toNat_of_nonneg hpl0] at this
    exact this
  have hwr := getV_range m.mem hbyte 4 m.pl.toNat
  have hwd : 0 ≤ wordAt m ∧ wordAt m < 4294967296 := ⟨hwr.1, Int.lt_of_lt_of_le hwr.2 (by decide)⟩
  have hwrap : IntKind.u32.wrap (wordAt m) = wordAt m := by simp [IntKind.wrap, IntKind.bits, IntKind.signed]; omega
  have HDEC := Lib.hid hdec
  clear hdec hfit hbyte hwr hpl0
  generalize wordAt m = WD at *
  have HP := Lib.hid hp; have HZ := Lib.hid hz; have HC0 := Lib.hid hcs0
  have C33 := Lib.hid c33
  clear h hp hz hcs0 c33 hb
  generalize hPLm : m.pl = PL at *
  have HPL0 := Lib.hid hPLm
  clear hPLm
  have hlb := HH.out.lb
  go_enter Tryd.func23, Tryd.ntmps23
  go_wp2_with (first
    | ((with_reducible refine ld36 w.heap.size cs0 ?_ ?_ HZ.out ?_); rfl; exact a4_0 _ _ _ _ _)
    | fail)
  generalize hX : ((((w.alloc _).alloc _).alloc _).alloc _) = X
  have hb4 : Below w.heap.size w X := by rw [← hX]; exact bw_alloc (bw_alloc (bw_alloc (bw_alloc (Below.refl w.heap.size w) _) _) _) _
  have k0 : X.heap[w.heap.size]? = some (.cells cs0 34) := by rw [← hX]; exact a4_0 _ _ _ _ _
  have k1 : X.heap[w.heap.size + 1]? = some (.cells #[.slice A R.inp.length c, .slice oA on oc, .int .i64 R.checks, .slice sA sn sc] 71) := by rw [← hX]; exact a4_1 _ _ _ _ _
  have k2 : ∃ old : Array Value, old.size = 36 ∧ X.heap[w.heap.size + 2]? = some (.cells old 34) := by rw [← hX]; exact ⟨_, rfl, a4_2 _ _ _ _ _⟩
  have k3 : ∃ old : Array Value, old.size = 4 ∧ X.heap[w.heap.size + 3]? = some (.cells old 71) := by rw [← hX]; exact ⟨_, rfl, a4_3 _ _ _ _ _⟩
  clear hX w33
  with_reducible refine (HP.out X).mono ?_
  rintro e X1 ⟨rfl, bp⟩
  have hb5 := hb4.trans (bp.mono hb4.size)
  obtain ⟨o3, z3, k2⟩ := k2
  obtain ⟨o4, z4, k3⟩ := k3
  have K0 := Lib.hid (row_at bp (lt_of_at k0) k0); have K1 := Lib.hid (row_at bp (lt_of_at k1) k1); have K2 := Lib.hid (row_at bp (lt_of_at k2) k2); have K3 := Lib.hid (row_at bp (lt_of_at k3) k3); have HB5 := Lib.hid hb5
  clear k0 k1 k2 k3 bp hb4 hb5
  have c33' : cs0[33]? = some (.int .u64 PL) := C33.out
  have x33 : X1.cell? ⟨w.heap.size, 33, none⟩ = some (.int .u64 PL) := by rw [cell_of_row _ _ 33 _ _ _ K0.out]; exact c33'
  clear c33'
  go_wp2_with (first
    | ((with_reducible refine ld36 w.heap.size cs0 ?_ ?_ HZ.out ?_); rfl; exact K0.out)
    | fail)
  refine (HG.out X1 ((HB5.out.block q (lt_of_at HH.out.mem)).trans HH.out.mem)).mono ?_
  rintro e X2 ⟨rfl, b2⟩
  go_wp2_with fail
  with_reducible refine (HDEC.out X2).mono ?_
  rintro e X3 ⟨rfl, b3⟩
  have bX3 : Below X1.heap.size X1 X3 := b2.trans (b3.mono b2.size)
  have hX3 := HB5.out.size
  have hX4 := lt_of_at K3.out
  have hX5 := bX3.size
  have sb : Sb w (X3.alloc (Obj.cells #[.int .i64 op, .int .i64 rd, .int .i64 r1, .int .i64 r2, .int .i64 n] 49)) cs0 #[.slice A R.inp.length c, .slice oA on oc, .int .i64 R.checks, .slice sA sn sc] X3.heap.size op rd r1 r2 n := by
    have hbb := bX3.trans ((bw_alloc (Below.refl X3.heap.size X3) (Obj.cells #[.int .i64 op, .int .i64 rd, .int .i64 r1, .int .i64 r2, .int .i64 n] 49)).mono bX3.size)
    exact ⟨row_at hbb (lt_of_at K0.out) K0.out, row_at hbb (lt_of_at K1.out) K1.out, ⟨o3, z3, row_at hbb (lt_of_at K2.out) K2.out⟩, ⟨o4, z4, row_at hbb (lt_of_at K3.out) K3.out⟩, heap_alloc_new _ _, by omega, HB5.out.trans (hbb.mono HB5.out.size)⟩
  have HI : Hid (∀ k : Nat, ∀ W : World, Calls Tryd.prog 31 #[.int .i64 n] (W.drewN k) fun e w' => e = .returned (.int .u64 (n % 18446744073709551616)) ∧ W.drewN k = w') := Lib.hid fun k W => rimm_any n _ hn
  have X1c := mcs_x HH.out.ok.1 q h1
  have X2c := mcs_x HH.out.ok.1 q h2
  have hr1 := reg_range HH.out.ok r1
  have hr2 := reg_range HH.out.ok r2
  rw [HC0.out] at X1c X2c
  have hwk1 : IntKind.i64.wrap (r1 : Int) = r1 := IntWalk.i64_in _ (by omega)
  have hwk2 : IntKind.i64.wrap (r2 : Int) = r2 := IntWalk.i64_in _ (by omega)
  unfold Ma.reg at hr1 hr2
  generalize hv1 : m.x.getD r1 0 = v1 at *
  generalize hv2 : m.x.getD r2 0 = v2 at *
  have HV1 := Lib.hid hv1; have HV2 := Lib.hid hv2
  have y1 : ∀ k, (World.drewN (X3.alloc (Obj.cells #[.int .i64 op, .int .i64 rd, .int .i64 r1, .int .i64 r2, .int .i64 n] 49)) k).cell? ⟨w.heap.size, 1 + r1, none⟩ = some (.int .u64 v1) := fun k => by rw [cell_of_row _ _ (1 + r1) _ _ _ (show (World.drewN (X3.alloc (Obj.cells #[.int .i64 op, .int .i64 rd, .int .i64 r1, .int .i64 r2, .int .i64 n] 49)) k).heap[w.heap.size]? = _ from sb.b0)]; exact X1c
  have y2 : ∀ k, (World.drewN (X3.alloc (Obj.cells #[.int .i64 op, .int .i64 rd, .int .i64 r1, .int .i64 r2, .int .i64 n] 49)) k).cell? ⟨w.heap.size, 1 + r2, none⟩ = some (.int .u64 v2) := fun k => by rw [cell_of_row _ _ (1 + r2) _ _ _ (show (World.drewN (X3.alloc (Obj.cells #[.int .i64 op, .int .i64 rd, .int .i64 r1, .int .i64 r2, .int .i64 n] 49)) k).heap[w.heap.size]? = _ from sb.b0)]; exact X2c
  have y33 : ∀ k, (World.drewN (X3.alloc (Obj.cells #[.int .i64 op, .int .i64 rd, .int .i64 r1, .int .i64 r2, .int .i64 n] 49)) k).cell? ⟨w.heap.size, 33, none⟩ = some (.int .u64 PL) := fun k => by rw [cell_of_row _ _ 33 _ _ _ (show (World.drewN (X3.alloc (Obj.cells #[.int .i64 op, .int .i64 rd, .int .i64 r1, .int .i64 r2, .int .i64 n] 49)) k).heap[w.heap.size]? = _ from sb.b0)]; exact C33.out
  have SB := Lib.hid sb
  clear sb b2 b3 bX3 X1c X2c hv1 hv2 K0 K1 K2 K3 x33 HG HDEC hwrap
  go_wp2_with fail
  go_quiet (with_reducible refine (HI.out _ _).mono ?_; rintro e w9 ⟨rfl, rfl⟩; exact ⟨rfl, _, rfl⟩)
  have d27 : decide (op ≤ 27) = false := by simp; omega
  have d37 : decide (op ≤ 37) = true := by simp; omega
  have sb2 := SB.out.grow (X' := World.drewN (X3.alloc (Obj.cells #[.int .i64 op, .int .i64 rd, .int .i64 r1, .int .i64 r2, .int .i64 n] 49)) nq) ⟨rfl, rfl, rfl, Nat.le_refl _, fun _ _ => rfl⟩
  replace y33 := y33 nq
  clear SB y1 y2 HI
  generalize hbi : X3.heap.size = bi at *
  generalize hX : World.drewN (X3.alloc (Obj.cells #[.int .i64 op, .int .i64 rd, .int .i64 r1, .int .i64 r2, .int .i64 n] 49)) nq = X at *
  clear hX
  have sb3 := Lib.hid (fun Z => sb2.grow (bw_alloc (Below.refl _ _) Z))
  have xop' : ∀ Z, (X.alloc Z).cell? ⟨bi, 0, none⟩ = some (.int .i64 op) := fun Z => by rw [cell_of_row _ _ 0 _ _ _ ((Below.heap_alloc _ _ _ (lt_of_at sb2.bx)).trans sb2.bx)]; rfl
  have xop'' : X.cell? ⟨bi, 0, none⟩ = some (.int .i64 op) := by rw [cell_of_row _ _ 0 _ _ _ sb2.bx]; rfl
  obtain ⟨ko, hko, hsub⟩ : ∃ ko : Nat, ko < 10 ∧ IntKind.i64.wrap (op - 28) = (ko : Int) := ⟨(op - 28).toNat, by omega, by rw [IntWalk.i64_in _ (by omega)]; omega⟩
  have HKO : (ko : Int) < 10 := by omega
  go_wp2_with fail
  have SB3 := Lib.hid (sb3.out (Obj.cells #[.int .i64 1, .int .i64 4, .int .i64 5, .int .i64 6, .int .i64 9, .int .i64 10, .int .i64 3, .int .i64 7, .int .i64 8, .int .i64 18] 86))
  have htb : ∀ Z, (X.alloc Z).heap[X.heap.size]? = some Z := fun Z => heap_alloc_new X Z
  have hxb : bi < X.heap.size := lt_of_at sb2.bx
  have HTB := Lib.hid (htb (Obj.cells #[.int .i64 1, .int .i64 4, .int .i64 5, .int .i64 6, .int .i64 9, .int .i64 10, .int .i64 3, .int .i64 7, .int .i64 8, .int .i64 18] 86))
  clear htb
  clear sb2 sb3 xop' xop'' y33
  generalize hX4 : X.alloc (Obj.cells #[.int .i64 1, .int .i64 4, .int .i64 5, .int .i64 6, .int .i64 9, .int .i64 10, .int .i64 3, .int .i64 7, .int .i64 8, .int .i64 18] 86) = X4 at *
  clear hX4
  generalize htbs : X.heap.size = tb at *
  clear htbs
  have SX : Hid (Sx w X4 base q m R A c (.slice oA on oc) (.slice sA sn sc) cs0 #[.slice A R.inp.length c, .slice oA on oc, .int .i64 R.checks, .slice sA sn sc]) := Lib.hid ⟨SB3.out.rows, HH.out.below SB3.out.below, Fw.below SB3.out.below, HC0.out, HH.out.lb⟩
  have xop : X4.cell? ⟨bi, 0, none⟩ = some (.int .i64 op) := by rw [cell_of_row _ _ 0 _ _ _ SB3.out.bx]; rfl
  have xrd : X4.cell? ⟨bi, 1, none⟩ = some (.int .i64 rd) := by rw [cell_of_row _ _ 1 _ _ _ SB3.out.bx]; rfl
  have hN : 0 ≤ n % 18446744073709551616 ∧ n % 18446744073709551616 < 18446744073709551616 := ⟨Int.emod_nonneg _ (by decide), Int.emod_lt_of_pos _ (by decide)⟩
  have hto := opTab_ok op (by omega)
  have hVr := opV_range (opTab op) v1 (n % 18446744073709551616) hr1.1 hr1.2 hN.1 hN.2
  have hdo : ∀ W : World, Calls Tryd.prog 33 #[.int .i64 (opTab op), .int .u64 v1, .int .u64 (n % 18446744073709551616)] W fun e w' => e = .returned (.int .u64 (opV (opTab op) v1 (n % 18446744073709551616))) ∧ Below W.heap.size W w' := fun W => rdo_any (opTab op) v1 (n % 18446744073709551616) W hto.1 hto.2 hr1 hN
  have hcell : X4.cell? ⟨tb, ko, none⟩ = some (.int .i64 (opTab op)) := by
    have hk0 : op = (ko : Int) + 28 := by rw [IntWalk.i64_in _ (by omega)] at hsub; omega
    have hko' : ko = 0 ∨ ko = 1 ∨ ko = 2 ∨ ko = 3 ∨ ko = 4 ∨ ko = 5 ∨ ko = 6 ∨ ko = 7 ∨ ko = 8 ∨ ko = 9 := by omega
    rw [cell_of_row _ _ ko _ _ _ HTB.out, hk0]
    rcases hko' with rfl | rfl | rfl | rfl | rfl | rfl | rfl | rfl | rfl | rfl <;> rfl
  have HDO := Lib.hid hdo
  clear hdo
  generalize hV : opV (opTab op) v1 (n % 18446744073709551616) = V at *
  have hset2 : ∀ W : World, Calls Tryd.prog 32 #[.agg cs0, .int .i64 rd, .int .u64 V] W fun e w' => e = .returned (.agg (mcs (m.set rd V) q)) ∧ Below W.heap.size W w' := fun W => by
    have := rset_any (m := m) (q := q) (w := W) HH.out.ok.1 rd hd V
    rw [HC0.out] at this
    exact this
  have hmem1 : (m.set rd V).mem = m.mem := by unfold Ma.set; split <;> rfl
  have hpl1 : (m.set rd V).pl = m.pl := by unfold Ma.set; split <;> rfl
  have hsok := Ma.set_ok HH.out.ok rd hVr
  have hz5 : (mcs (m.set rd V) q).size = 36 := mcs_size hsok.1 q
  have ha5 := mcs_all (m.set rd V) q
  have hwkd : IntKind.i64.wrap (rd : Int) = rd := IntWalk.i64_in _ (by omega)
  generalize hm1 : m.set rd V = m1 at *
  generalize hcs5 : mcs m1 q = cs5 at *
  have HM1 := Lib.hid hm1; have HC5 := Lib.hid hcs5; have HZ5 := Lib.hid hz5; have HSET := Lib.hid hset2; have HSOK := Lib.hid hsok; have HV := Lib.hid hV; have HMEM1 := Lib.hid hmem1; have HPL := Lib.hid (hpl1.trans HPL0.out)
  clear hm1 hcs5 hz5 hset2 hsok hV hmem1 hpl1
  generalize hOT : opTab op = OT at *
  have htl := lt_of_at HTB.out
  clear hOT hto
  refine wp_region_last (z := 12) (S := (fun W : World => W.heap[w.heap.size]? = some (.cells cs0 34) ∧ W.cell? ⟨bi, 1, none⟩ = some (.int .i64 rd) ∧ W.cell? ⟨bi, 0, none⟩ = some (.int .i64 op) ∧ W.cell? ⟨tb, ko, none⟩ = some (.int .i64 OT))) (by kernel_rfl) ⟨SX.out.rows.b0, xrd, xop, hcell⟩ (fun hHeld => ?_)
  refine wpLast_take (i := 0) (oi := _) (v := .agg cs0) rfl (by kernel_rfl) (by kernel_rfl) (by kernel_rfl) (by kernel_rfl) (fun _ _ _ h => h) (yieldsIf_load_row (by rfl) 34 (.tmp 2) rfl w.heap.size rfl 34 cs0 (0, 0) _ (fun W h => h.1) Tryd.underlying34 rfl (by rw [HZ.out]; exact szMach)) (by assumption) ?_
  simp only [Act.put, List.setIfInBounds_toArray, List.set_cons_zero, List.set_cons_succ]
  refine wpLast_take (i := 1) (oi := _) (v := ?v7) rfl (by kernel_rfl) (by kernel_rfl) (by kernel_rfl) (by kernel_rfl) (fun _ _ _ h => h) (Or.inl ⟨by rfl, ?hy7⟩) (by assumption) ?rest7
  case hy7 => ((intro W hSW; (try dsimp only at hSW); go_simp); first | with_reducible rfl | (rw [if_pos HKO]; done) | (rw [if_pos HKO]; rfl))
  simp only [Act.put, List.setIfInBounds_toArray, List.set_cons_zero, List.set_cons_succ]
  refine wpLast_take (i := 2) (oi := _) (v := ?v8) rfl (by kernel_rfl) (by kernel_rfl) (by kernel_rfl) (by kernel_rfl) (fun _ _ _ h => h) (Or.inl ⟨by rfl, ?hy8⟩) (by assumption) ?rest8
  case hy8 => ((intro W hSW; (try dsimp only at hSW); go_simp); first | with_reducible rfl | (rw [if_pos HKO]; done) | (rw [if_pos HKO]; rfl))
  simp only [Act.put, List.setIfInBounds_toArray, List.set_cons_zero, List.set_cons_succ]
  refine wpLast_take (i := 3) (oi := _) (v := ?v9) rfl (by kernel_rfl) (by kernel_rfl) (by kernel_rfl) (by kernel_rfl) (fun _ _ _ h => h) (Or.inl ⟨by rfl, ?hy9⟩) (by assumption) ?rest9
  case hy9 => ((intro W hSW; (try dsimp only at hSW); go_simp); first | with_reducible rfl | (rw [if_pos HKO]; done) | (rw [if_pos HKO]; rfl))
  simp only [Act.put, List.setIfInBounds_toArray, List.set_cons_zero, List.set_cons_succ]
  refine wpLast_take (i := 4) (oi := _) (v := ?v10) rfl (by kernel_rfl) (by kernel_rfl) (by kernel_rfl) (by kernel_rfl) (fun _ _ _ h => h) (Or.inl ⟨by rfl, ?hy10⟩) (by assumption) ?rest10
  case hy10 => ((intro W hSW; (try dsimp only at hSW); go_simp); first | with_reducible rfl | (rw [if_pos HKO]; done) | (rw [if_pos HKO]; rfl))
  simp only [Act.put, List.setIfInBounds_toArray, List.set_cons_zero, List.set_cons_succ]
  refine wpLast_take (i := 5) (oi := _) (v := ?v11) rfl (by kernel_rfl) (by kernel_rfl) (by kernel_rfl) (by kernel_rfl) (fun _ _ _ h => h) (Or.inl ⟨by rfl, ?hy11⟩) (by assumption) ?rest11
  case hy11 => ((intro W hSW; (try dsimp only at hSW); go_simp); first | with_reducible rfl | (rw [if_pos HKO]; done) | (rw [if_pos HKO]; rfl))
  simp only [Act.put, List.setIfInBounds_toArray, List.set_cons_zero, List.set_cons_succ]
  refine wpLast_take (i := 6) (oi := _) (v := ?v12) rfl (by kernel_rfl) (by kernel_rfl) (by kernel_rfl) (by kernel_rfl) (fun _ _ _ h => h) (Or.inl ⟨by rfl, ?hy12⟩) (by assumption) ?rest12
  case hy12 => ((intro W hSW; (try dsimp only at hSW); go_simp); first | with_reducible rfl | (rw [if_pos HKO]; done) | (rw [if_pos HKO]; rfl))
  simp only [Act.put, List.setIfInBounds_toArray, List.set_cons_zero, List.set_cons_succ]
  refine wpLast_take (i := 7) (oi := _) (v := ?v13) rfl (by kernel_rfl) (by kernel_rfl) (by kernel_rfl) (by kernel_rfl) (fun _ _ _ h => h) (Or.inl ⟨by rfl, ?hy13⟩) (by assumption) ?rest13
  case hy13 => ((intro W hSW; (try dsimp only at hSW); go_simp); first | with_reducible rfl | (rw [if_pos HKO]; done) | (rw [if_pos HKO]; rfl))
  simp only [Act.put, List.setIfInBounds_toArray, List.set_cons_zero, List.set_cons_succ]
  refine wpLast_take (i := 8) (oi := _) (v := ?v14) rfl (by kernel_rfl) (by kernel_rfl) (by kernel_rfl) (by kernel_rfl) (fun _ _ _ h => h) (Or.inl ⟨by rfl, ?hy14⟩) (by assumption) ?rest14
  case hy14 => ((intro W hSW; (try dsimp only at hSW); go_simp); first | with_reducible rfl | (rw [if_pos HKO]; done) | (rw [if_pos HKO]; rfl))
  simp only [Act.put, List.setIfInBounds_toArray, List.set_cons_zero, List.set_cons_succ]
  refine wpLast_take (i := 9) (oi := _) (v := ?v15) rfl (by kernel_rfl) (by kernel_rfl) (by kernel_rfl) (by kernel_rfl) (fun _ _ _ h => h) (Or.inl ⟨by rfl, ?hy15⟩) (by assumption) ?rest15
  case hy15 => ((intro W hSW; (try dsimp only at hSW); go_simp); first | with_reducible rfl | (rw [if_pos HKO]; done) | (rw [if_pos HKO]; rfl))
  simp only [Act.put, List.setIfInBounds_toArray, List.set_cons_zero, List.set_cons_succ]
  refine wpLast_one (i := 10) (by kernel_rfl) rfl (by rfl) (fun K hK => ?_)
  go_simp
  refine (HDO.out _).mono ?_
  rintro e y ⟨rfl, hby⟩
  have HBY := Lib.hid (show Below X4.heap.size X4 y from ⟨hby.os, hby.tape, hby.output, hby.size, hby.block⟩)
  have hbi5 := lt_of_at SB3.out.bx
  refine hK.out _ _ (fun _ => ⟨row_at HBY.out (lt_of_at SX.out.rows.b0) SX.out.rows.b0, (HBY.out.cell (p := ⟨bi, 1, none⟩) hbi5).trans xrd, (HBY.out.cell (p := ⟨bi, 0, none⟩) hbi5).trans xop, (HBY.out.cell (p := ⟨tb, ko, none⟩) htl).trans hcell⟩) (fun hHeld => ?_)
  clear hK K hby
  try simp only [Act.put, List.setIfInBounds_toArray, List.set_cons_zero, List.set_cons_succ]
  refine wpLast_one (i := 11) (by kernel_rfl) rfl (by rfl) (fun K hK => ?_)
  go_simp
  refine (HSET.out _).mono ?_
  rintro e y2 ⟨rfl, hby2⟩
  have HBB := Lib.hid (HBY.out.trans (hby2.mono HBY.out.size))
  have hbi6 : bi < y2.heap.size := Nat.lt_of_lt_of_le hbi5 HBB.out.size
  refine hK.out _ _ (fun _ => ⟨row_at HBB.out (lt_of_at SX.out.rows.b0) SX.out.rows.b0, (HBB.out.cell (p := ⟨bi, 1, none⟩) hbi5).trans xrd, (HBB.out.cell (p := ⟨bi, 0, none⟩) hbi5).trans xop, (HBB.out.cell (p := ⟨tb, ko, none⟩) htl).trans hcell⟩) (fun hHeld => ?_)
  clear hK K hby2
  try simp only [Act.put, List.setIfInBounds_toArray, List.set_cons_zero, List.set_cons_succ]
  have SXY : Hid (Sx w y2 base q m R A c (.slice oA on oc) (.slice sA sn sc) cs0 #[.slice A R.inp.length c, .slice oA on oc, .int .i64 R.checks, .slice sA sn sc]) := Lib.hid ⟨SX.out.rows.fw (base := base) (q := q) (Fw.below HBB.out), SX.out.rd.below HBB.out, SX.out.fw.trans (Fw.below HBB.out), SX.out.mc, SX.out.lb⟩
  have SZ : Hid (Sx w (y2.setRow w.heap.size cs5) base q m1 R A c (.slice oA on oc) (.slice sA sn sc) cs5 #[.slice A R.inp.length c, .slice oA on oc, .int .i64 R.checks, .slice sA sn sc]) := Lib.hid (by
    have := SXY.out.ma (m' := m1) HMEM1.out HSOK.out
    rw [HC5.out] at this
    exact this)
  refine wpLast_one (i := 12) (by kernel_rfl) rfl (by rfl) (fun K hK => ?_)
  refine wp_store_row 34 (.tmp 2) (.tmp 86) rfl w.heap.size cs5 rfl rfl 34 cs0 SXY.out.rows.b0 (by rw [HZ5.out]; exact szMach) (by rw [HZ.out, HZ5.out]) ha5 ?_
  refine hK.out _ _ (fun h => absurd rfl h) (fun _ => ?_)
  clear hK K
  refine wpLast_done (by kernel_rfl) ?_
  have hbx5 : (y2.setRow w.heap.size cs5).heap[bi]? = some (.cells #[.int .i64 op, .int .i64 rd, .int .i64 r1, .int .i64 r2, .int .i64 n] 49) := (setRow_other _ _ _ _ (by have := SB3.out.hi; omega)).trans (row_at HBB.out (lt_of_at SB3.out.bx) SB3.out.bx)
  generalize y2.setRow w.heap.size cs5 = X5 at *
  clear xop xrd hcell
  have g0 : X5.cell? ⟨bi, 0, none⟩ = some (.int .i64 op) := by rw [cell_of_row _ _ 0 _ _ _ hbx5]; rfl
  have g1 : X5.cell? ⟨bi, 1, none⟩ = some (.int .i64 rd) := by rw [cell_of_row _ _ 1 _ _ _ hbx5]; rfl
  have g2 : X5.cell? ⟨bi, 2, none⟩ = some (.int .i64 r1) := by rw [cell_of_row _ _ 2 _ _ _ hbx5]; rfl
  have g4 : X5.cell? ⟨bi, 4, none⟩ = some (.int .i64 n) := by rw [cell_of_row _ _ 4 _ _ _ hbx5]; rfl
  have hcs4 : ((op == 28) = false) ∨ ((op == 28) = true ∧ ((rd : Int) == 0) = false) ∨ ((op == 28) = true ∧ ((rd : Int) == 0) = true ∧ ((r1 : Int) == 0) = false) ∨ ((op == 28) = true ∧ ((rd : Int) == 0) = true ∧ ((r1 : Int) == 0) = true ∧ (n == 1) = false) := by
    simp only [beq_eq_false_iff_ne, beq_iff_eq, ne_eq]
    omega
  have y33 : X5.cell? ⟨w.heap.size, 33, none⟩ = some (.int .u64 PL) := by rw [cell_of_row _ _ 33 _ _ _ SZ.out.rows.b0, ← SZ.out.mc]; exact (mcs_33 HSOK.out.1 q).trans (by rw [HPL.out])
  have fz : ∀ o, X5.frozen? ⟨w.heap.size, o, none⟩ = false := fun o => frozen_of_row _ _ _ _ _ SZ.out.rows.b0
  clear hmk
  rcases hcs4 with t0 | ⟨t0, t1⟩ | ⟨t0, t1, t2⟩ | ⟨t0, t1, t2, t4⟩
  all_goals
    go_wp2_with fail
    have SY := Lib.hid (SZ.out.pl (IntKind.u64.wrap (PL + 4)) (u64w _))
    have hz1 : (mcs { m1 with pl := IntKind.u64.wrap (PL + 4) } q).size = 36 := mcs_size (m := { m1 with pl := IntKind.u64.wrap (PL + 4) }) HSOK.out.1 q
    have ha1 := mcs_all { m1 with pl := IntKind.u64.wrap (PL + 4) } q
    clear y33 fz
    generalize X5.setCell ⟨w.heap.size, 33, none⟩ (.int .u64 (IntKind.u64.wrap (PL + 4))) = Y0 at *
    generalize hcs1 : mcs { m1 with pl := IntKind.u64.wrap (PL + 4) } q = cs1 at *
    have HC1 := Lib.hid hcs1; have HZ1 := Lib.hid hz1
    clear hcs1 hz1
    obtain ⟨o3, z3, k3⟩ := SY.out.rows.b2
    obtain ⟨o4, z4, k4⟩ := SY.out.rows.b3
    have hlb := HH.out.lb
    refine tail33 w.heap.size cs1 #[.slice A R.inp.length c, .slice oA on oc, .int .i64 R.checks, .slice sA sn sc] o3 o4 true (fun _ _ _ _ _ h => h) (by kernel_rfl) (by kernel_rfl) (by kernel_rfl) (by kernel_rfl) (by kernel_rfl) (by kernel_rfl) (by kernel_rfl) (by kernel_rfl) SY.out.rows.b0 SY.out.rows.b1 k3 k4 HZ1.out rfl z3 z4 ha1 (by simp [Value.oneCell']) SY.out.rd SY.out.fw (by omega) ?_
    intro Y y1 y2' y3 y4
    simp only [Act.put, List.setIfInBounds_toArray, List.set_cons_zero, List.set_cons_succ]
    go_wp2_with fail
    exact bodyPost_ret (v := .tuple #[.agg cs1, .agg #[.slice A R.inp.length c, .slice oA on oc, .int .i64 R.checks, .slice sA sn sc], .bool true]) (res_cct Tryd.results23 _ _ _ _ _ _ _ rfl rfl rfl y1 HZ1.out y2' rfl) rfl ⟨{ m1 with pl := IntKind.u64.wrap (PL + 4) }, R, A, c, oA, on, oc, sA, sn, sc, true, by rw [if_pos rfl], fun hb => (by cases hb), by rw [HC1.out], y3, y4⟩
end Go.Proofs.YtppcbommaddkgaaDoor
namespace Go.Proofs.YtppcbommaddkgaaDoor
open Go.RowKit Go.Maps
set_option linter.unusedVariables false
set_option linter.unusedSimpArgs false
set_option maxRecDepth 10000
open Pm Pc Pl
set_option maxHeartbeats 3000000 in
theorem rstep_M {m : Ma} {q base : Nat} {w : World} {R : Ru} {A : Option Addr} {c : Nat} {oA sA : Option Addr} {on oc sn sc : Nat} (h : Rd w base q m R A c (.slice oA on oc) (.slice sA sn sc)) (hb : hasB m.pl 4 m.mem.length = true) (op n : Int) (rd r1 r2 : Nat) (hop : 28 ≤ op ∧ op ≤ 37) (hn : -9223372036854775808 ≤ n ∧ n < 9223372036854775808) (hd : rd < 32) (h1 : r1 < 32) (h2 : r2 < 32) (hmk : (op = 28 ∧ rd = 0 ∧ r1 = 0 ∧ n = 1)) (hch : R.checks < 1099511627776) (hdec : ∀ W : World, Calls Tryd.prog 29 #[.int .u32 (wordAt m)] W fun e w' => e = .returned (.tuple #[ins op rd r1 r2 n, .bool true]) ∧ Below W.heap.size W w') :
    Calls Tryd.prog 23 #[.agg (mcs m q), .agg #[.slice A R.inp.length c, .slice oA on oc, .int .i64 R.checks, .slice sA sn sc]] w (RTo w base q m R (some ({ m.set rd (opV (opTab op) (m.x.getD r1 0) (n % 18446744073709551616)) with pl := IntKind.u64.wrap (m.pl + 4) }, { R with checks := R.checks + 1 }))) := by
  have HMK := Lib.hid hmk
  clear hmk
  have hz := mcs_size h.ok.1 q
  have ha := mcs_all m q
  have c33 := mcs_33 h.ok.1 q
  have hp := fun W => rplace_any (q := q) (w := W) h.ok.1 h.ok.2.1 m.pl 4 h.ok.2.2.2.2.1 (Or.inr (Or.inl rfl))
  have HH := Lib.hid h
  generalize hcs0 : mcs m q = cs0 at *
  have w33 : ∀ Z, ((w.alloc (Obj.cells cs0 34)).alloc Z).cell? ⟨w.heap.size, 33, none⟩ = some (.int .u64 m.pl) := fun Z => by rw [cell_of_row _ _ 33 _ _ _ (aa0 _ _ _)]; exact c33
  rw [hb] at hp
  have hfit : m.pl + 4 ≤ m.mem.length := by unfold hasB at hb; exact (of_decide_eq_true hb).2
  have hbyte : ∀ i : Nat, 0 ≤ m.mem.getD i 0 ∧ m.mem.getD i 0 < 256 := fun i => by
    by_cases hi : i < m.mem.length
    · have e : m.mem.getD i 0 = m.mem[i] := by simp [List.getD, hi]
      rw [e]; exact h.ok.2.2.2.1 _ (List.getElem_mem hi)
    · have e : m.mem.getD i 0 = 0 := by simp [List.getD, List.getElem?_eq_none (Nat.le_of_not_lt hi)]
      rw [e]; omega
  have hpl0 := h.ok.2.2.2.2.1.1
  have HG : Hid (∀ W : World, W.heap[q]? = some (.cells (u8s m.mem).toArray 5) → Calls Tryd.prog 30 #[.agg cs0, .int .u64 m.pl, .int .i64 4] W fun e w' => e = .returned (.int .u64 (wordAt m)) ∧ Below W.heap.size W w') := Lib.hid fun W hW => by
    have := rget_any (q := q) (w := W) h.ok.1 h.ok.2.1 hbyte m.pl.toNat 4 (by omega) (by omega) hW
    rw [hcs0, Int.toNat_of_nonneg hpl0] at this
    exact this
  have hwr := getV_range m.mem hbyte 4 m.pl.toNat
  have hwd : 0 ≤ wordAt m ∧ wordAt m < 4294967296 := ⟨hwr.1, Int.lt_of_lt_of_le hwr.2 (by decide)⟩
  have hwrap : IntKind.u32.wrap (wordAt m) = wordAt m := by simp [IntKind.wrap, IntKind.bits, IntKind.signed]; omega
  have HDEC := Lib.hid hdec
  clear hdec hfit hbyte hwr hpl0
  generalize wordAt m = WD at *
  have HP := Lib.hid hp; have HZ := Lib.hid hz; have HC0 := Lib.hid hcs0
  have C33 := Lib.hid c33
  clear h hp hz hcs0 c33 hb
  generalize hPLm : m.pl = PL at *
  have HPL0 := Lib.hid hPLm
  clear hPLm
  have hlb := HH.out.lb
  go_enter Tryd.func23, Tryd.ntmps23
  go_wp2_with (first
    | ((with_reducible refine ld36 w.heap.size cs0 ?_ ?_ HZ.out ?_); rfl; exact a4_0 _ _ _ _ _)
    | fail)
  generalize hX : ((((w.alloc _).alloc _).alloc _).alloc _) = X
  have hb4 : Below w.heap.size w X := by rw [← hX]; exact bw_alloc (bw_alloc (bw_alloc (bw_alloc (Below.refl w.heap.size w) _) _) _) _
  have k0 : X.heap[w.heap.size]? = some (.cells cs0 34) := by rw [← hX]; exact a4_0 _ _ _ _ _
  have k1 : X.heap[w.heap.size + 1]? = some (.cells #[.slice A R.inp.length c, .slice oA on oc, .int .i64 R.checks, .slice sA sn sc] 71) := by rw [← hX]; exact a4_1 _ _ _ _ _
  have k2 : ∃ old : Array Value, old.size = 36 ∧ X.heap[w.heap.size + 2]? = some (.cells old 34) := by rw [← hX]; exact ⟨_, rfl, a4_2 _ _ _ _ _⟩
  have k3 : ∃ old : Array Value, old.size = 4 ∧ X.heap[w.heap.size + 3]? = some (.cells old 71) := by rw [← hX]; exact ⟨_, rfl, a4_3 _ _ _ _ _⟩
  clear hX w33
  with_reducible refine (HP.out X).mono ?_
  rintro e X1 ⟨rfl, bp⟩
  have hb5 := hb4.trans (bp.mono hb4.size)
  obtain ⟨o3, z3, k2⟩ := k2
  obtain ⟨o4, z4, k3⟩ := k3
  have K0 := Lib.hid (row_at bp (lt_of_at k0) k0); have K1 := Lib.hid (row_at bp (lt_of_at k1) k1); have K2 := Lib.hid (row_at bp (lt_of_at k2) k2); have K3 := Lib.hid (row_at bp (lt_of_at k3) k3); have HB5 := Lib.hid hb5
  clear k0 k1 k2 k3 bp hb4 hb5
  have c33' : cs0[33]? = some (.int .u64 PL) := C33.out
  have x33 : X1.cell? ⟨w.heap.size, 33, none⟩ = some (.int .u64 PL) := by rw [cell_of_row _ _ 33 _ _ _ K0.out]; exact c33'
  clear c33'
  go_wp2_with (first
    | ((with_reducible refine ld36 w.heap.size cs0 ?_ ?_ HZ.out ?_); rfl; exact K0.out)
    | fail)
  refine (HG.out X1 ((HB5.out.block q (lt_of_at HH.out.mem)).trans HH.out.mem)).mono ?_
  rintro e X2 ⟨rfl, b2⟩
  go_wp2_with fail
  with_reducible refine (HDEC.out X2).mono ?_
  rintro e X3 ⟨rfl, b3⟩
  have bX3 : Below X1.heap.size X1 X3 := b2.trans (b3.mono b2.size)
  have hX3 := HB5.out.size
  have hX4 := lt_of_at K3.out
  have hX5 := bX3.size
  have sb : Sb w (X3.alloc (Obj.cells #[.int .i64 op, .int .i64 rd, .int .i64 r1, .int .i64 r2, .int .i64 n] 49)) cs0 #[.slice A R.inp.length c, .slice oA on oc, .int .i64 R.checks, .slice sA sn sc] X3.heap.size op rd r1 r2 n := by
    have hbb := bX3.trans ((bw_alloc (Below.refl X3.heap.size X3) (Obj.cells #[.int .i64 op, .int .i64 rd, .int .i64 r1, .int .i64 r2, .int .i64 n] 49)).mono bX3.size)
    exact ⟨row_at hbb (lt_of_at K0.out) K0.out, row_at hbb (lt_of_at K1.out) K1.out, ⟨o3, z3, row_at hbb (lt_of_at K2.out) K2.out⟩, ⟨o4, z4, row_at hbb (lt_of_at K3.out) K3.out⟩, heap_alloc_new _ _, by omega, HB5.out.trans (hbb.mono HB5.out.size)⟩
  have HI : Hid (∀ k : Nat, ∀ W : World, Calls Tryd.prog 31 #[.int .i64 n] (W.drewN k) fun e w' => e = .returned (.int .u64 (n % 18446744073709551616)) ∧ W.drewN k = w') := Lib.hid fun k W => rimm_any n _ hn
  have X1c := mcs_x HH.out.ok.1 q h1
  have X2c := mcs_x HH.out.ok.1 q h2
  have hr1 := reg_range HH.out.ok r1
  have hr2 := reg_range HH.out.ok r2
  rw [HC0.out] at X1c X2c
  have hwk1 : IntKind.i64.wrap (r1 : Int) = r1 := IntWalk.i64_in _ (by omega)
  have hwk2 : IntKind.i64.wrap (r2 : Int) = r2 := IntWalk.i64_in _ (by omega)
  unfold Ma.reg at hr1 hr2
  generalize hv1 : m.x.getD r1 0 = v1 at *
  generalize hv2 : m.x.getD r2 0 = v2 at *
  have HV1 := Lib.hid hv1; have HV2 := Lib.hid hv2
  have y1 : ∀ k, (World.drewN (X3.alloc (Obj.cells #[.int .i64 op, .int .i64 rd, .int .i64 r1, .int .i64 r2, .int .i64 n] 49)) k).cell? ⟨w.heap.size, 1 + r1, none⟩ = some (.int .u64 v1) := fun k => by rw [cell_of_row _ _ (1 + r1) _ _ _ (show (World.drewN (X3.alloc (Obj.cells #[.int .i64 op, .int .i64 rd, .int .i64 r1, .int .i64 r2, .int .i64 n] 49)) k).heap[w.heap.size]? = _ from sb.b0)]; exact X1c
  have y2 : ∀ k, (World.drewN (X3.alloc (Obj.cells #[.int .i64 op, .int .i64 rd, .int .i64 r1, .int .i64 r2, .int .i64 n] 49)) k).cell? ⟨w.heap.size, 1 + r2, none⟩ = some (.int .u64 v2) := fun k => by rw [cell_of_row _ _ (1 + r2) _ _ _ (show (World.drewN (X3.alloc (Obj.cells #[.int .i64 op, .int .i64 rd, .int .i64 r1, .int .i64 r2, .int .i64 n] 49)) k).heap[w.heap.size]? = _ from sb.b0)]; exact X2c
  have y33 : ∀ k, (World.drewN (X3.alloc (Obj.cells #[.int .i64 op, .int .i64 rd, .int .i64 r1, .int .i64 r2, .int .i64 n] 49)) k).cell? ⟨w.heap.size, 33, none⟩ = some (.int .u64 PL) := fun k => by rw [cell_of_row _ _ 33 _ _ _ (show (World.drewN (X3.alloc (Obj.cells #[.int .i64 op, .int .i64 rd, .int .i64 r1, .int .i64 r2, .int .i64 n] 49)) k).heap[w.heap.size]? = _ from sb.b0)]; exact C33.out
  have SB := Lib.hid sb
  clear sb b2 b3 bX3 X1c X2c hv1 hv2 K0 K1 K2 K3 x33 HG HDEC hwrap
  go_wp2_with fail
  go_quiet (with_reducible refine (HI.out _ _).mono ?_; rintro e w9 ⟨rfl, rfl⟩; exact ⟨rfl, _, rfl⟩)
  have d27 : decide (op ≤ 27) = false := by simp; omega
  have d37 : decide (op ≤ 37) = true := by simp; omega
  have sb2 := SB.out.grow (X' := World.drewN (X3.alloc (Obj.cells #[.int .i64 op, .int .i64 rd, .int .i64 r1, .int .i64 r2, .int .i64 n] 49)) nq) ⟨rfl, rfl, rfl, Nat.le_refl _, fun _ _ => rfl⟩
  replace y33 := y33 nq
  clear SB y1 y2 HI
  generalize hbi : X3.heap.size = bi at *
  generalize hX : World.drewN (X3.alloc (Obj.cells #[.int .i64 op, .int .i64 rd, .int .i64 r1, .int .i64 r2, .int .i64 n] 49)) nq = X at *
  clear hX
  have sb3 := Lib.hid (fun Z => sb2.grow (bw_alloc (Below.refl _ _) Z))
  have xop' : ∀ Z, (X.alloc Z).cell? ⟨bi, 0, none⟩ = some (.int .i64 op) := fun Z => by rw [cell_of_row _ _ 0 _ _ _ ((Below.heap_alloc _ _ _ (lt_of_at sb2.bx)).trans sb2.bx)]; rfl
  have xop'' : X.cell? ⟨bi, 0, none⟩ = some (.int .i64 op) := by rw [cell_of_row _ _ 0 _ _ _ sb2.bx]; rfl
  obtain ⟨ko, hko, hsub⟩ : ∃ ko : Nat, ko < 10 ∧ IntKind.i64.wrap (op - 28) = (ko : Int) := ⟨(op - 28).toNat, by omega, by rw [IntWalk.i64_in _ (by omega)]; omega⟩
  have HKO : (ko : Int) < 10 := by omega
  go_wp2_with fail
  have SB3 := Lib.hid (sb3.out (Obj.cells #[.int .i64 1, .int .i64 4, .int .i64 5, .int .i64 6, .int .i64 9, .int .i64 10, .int .i64 3, .int .i64 7, .int .i64 8, .int .i64 18] 86))
  have htb : ∀ Z, (X.alloc Z).heap[X.heap.size]? = some Z := fun Z => heap_alloc_new X Z
  have hxb : bi < X.heap.size := lt_of_at sb2.bx
  have HTB := Lib.hid (htb (Obj.cells #[.int .i64 1, .int .i64 4, .int .i64 5, .int .i64 6, .int .i64 9, .int .i64 10, .int .i64 3, .int .i64 7, .int .i64 8, .int .i64 18] 86))
  clear htb
  clear sb2 sb3 xop' xop'' y33
  generalize hX4 : X.alloc (Obj.cells #[.int .i64 1, .int .i64 4, .int .i64 5, .int .i64 6, .int .i64 9, .int .i64 10, .int .i64 3, .int .i64 7, .int .i64 8, .int .i64 18] 86) = X4 at *
  clear hX4
  generalize htbs : X.heap.size = tb at *
  clear htbs
  have SX : Hid (Sx w X4 base q m R A c (.slice oA on oc) (.slice sA sn sc) cs0 #[.slice A R.inp.length c, .slice oA on oc, .int .i64 R.checks, .slice sA sn sc]) := Lib.hid ⟨SB3.out.rows, HH.out.below SB3.out.below, Fw.below SB3.out.below, HC0.out, HH.out.lb⟩
  have xop : X4.cell? ⟨bi, 0, none⟩ = some (.int .i64 op) := by rw [cell_of_row _ _ 0 _ _ _ SB3.out.bx]; rfl
  have xrd : X4.cell? ⟨bi, 1, none⟩ = some (.int .i64 rd) := by rw [cell_of_row _ _ 1 _ _ _ SB3.out.bx]; rfl
  have hN : 0 ≤ n % 18446744073709551616 ∧ n % 18446744073709551616 < 18446744073709551616 := ⟨Int.emod_nonneg _ (by decide), Int.emod_lt_of_pos _ (by decide)⟩
  have hto := opTab_ok op (by omega)
  have hVr := opV_range (opTab op) v1 (n % 18446744073709551616) hr1.1 hr1.2 hN.1 hN.2
  have hdo : ∀ W : World, Calls Tryd.prog 33 #[.int .i64 (opTab op), .int .u64 v1, .int .u64 (n % 18446744073709551616)] W fun e w' => e = .returned (.int .u64 (opV (opTab op) v1 (n % 18446744073709551616))) ∧ Below W.heap.size W w' := fun W => rdo_any (opTab op) v1 (n % 18446744073709551616) W hto.1 hto.2 hr1 hN
  have hcell : X4.cell? ⟨tb, ko, none⟩ = some (.int .i64 (opTab op)) := by
    have hk0 : op = (ko : Int) + 28 := by rw [IntWalk.i64_in _ (by omega)] at hsub; omega
    have hko' : ko = 0 ∨ ko = 1 ∨ ko = 2 ∨ ko = 3 ∨ ko = 4 ∨ ko = 5 ∨ ko = 6 ∨ ko = 7 ∨ ko = 8 ∨ ko = 9 := by omega
    rw [cell_of_row _ _ ko _ _ _ HTB.out, hk0]
    rcases hko' with rfl | rfl | rfl | rfl | rfl | rfl | rfl | rfl | rfl | rfl <;> rfl
  have HDO := Lib.hid hdo
  clear hdo
  generalize hV : opV (opTab op) v1 (n % 18446744073709551616) = V at *
  have hset2 : ∀ W : World, Calls Tryd.prog 32 #[.agg cs0, .int .i64 rd, .int .u64 V] W fun e w' => e = .returned (.agg (mcs (m.set rd V) q)) ∧ Below W.heap.size W w' := fun W => by
    have := rset_any (m := m) (q := q) (w := W) HH.out.ok.1 rd hd V
    rw [HC0.out] at this
    exact this
  have hmem1 : (m.set rd V).mem = m.mem := by unfold Ma.set; split <;> rfl
  have hpl1 : (m.set rd V).pl = m.pl := by unfold Ma.set; split <;> rfl
  have hsok := Ma.set_ok HH.out.ok rd hVr
  have hz5 : (mcs (m.set rd V) q).size = 36 := mcs_size hsok.1 q
  have ha5 := mcs_all (m.set rd V) q
  have hwkd : IntKind.i64.wrap (rd : Int) = rd := IntWalk.i64_in _ (by omega)
  generalize hm1 : m.set rd V = m1 at *
  generalize hcs5 : mcs m1 q = cs5 at *
  have HM1 := Lib.hid hm1; have HC5 := Lib.hid hcs5; have HZ5 := Lib.hid hz5; have HSET := Lib.hid hset2; have HSOK := Lib.hid hsok; have HV := Lib.hid hV; have HMEM1 := Lib.hid hmem1; have HPL := Lib.hid (hpl1.trans HPL0.out)
  clear hm1 hcs5 hz5 hset2 hsok hV hmem1 hpl1
  generalize hOT : opTab op = OT at *
  have htl := lt_of_at HTB.out
  clear hOT hto
  refine wp_region_last (z := 12) (S := (fun W : World => W.heap[w.heap.size]? = some (.cells cs0 34) ∧ W.cell? ⟨bi, 1, none⟩ = some (.int .i64 rd) ∧ W.cell? ⟨bi, 0, none⟩ = some (.int .i64 op) ∧ W.cell? ⟨tb, ko, none⟩ = some (.int .i64 OT))) (by kernel_rfl) ⟨SX.out.rows.b0, xrd, xop, hcell⟩ (fun hHeld => ?_)
  refine wpLast_take (i := 0) (oi := _) (v := .agg cs0) rfl (by kernel_rfl) (by kernel_rfl) (by kernel_rfl) (by kernel_rfl) (fun _ _ _ h => h) (yieldsIf_load_row (by rfl) 34 (.tmp 2) rfl w.heap.size rfl 34 cs0 (0, 0) _ (fun W h => h.1) Tryd.underlying34 rfl (by rw [HZ.out]; exact szMach)) (by assumption) ?_
  simp only [Act.put, List.setIfInBounds_toArray, List.set_cons_zero, List.set_cons_succ]
  refine wpLast_take (i := 1) (oi := _) (v := ?v16) rfl (by kernel_rfl) (by kernel_rfl) (by kernel_rfl) (by kernel_rfl) (fun _ _ _ h => h) (Or.inl ⟨by rfl, ?hy16⟩) (by assumption) ?rest16
  case hy16 => ((intro W hSW; (try dsimp only at hSW); go_simp); first | with_reducible rfl | (rw [if_pos HKO]; done) | (rw [if_pos HKO]; rfl))
  simp only [Act.put, List.setIfInBounds_toArray, List.set_cons_zero, List.set_cons_succ]
  refine wpLast_take (i := 2) (oi := _) (v := ?v17) rfl (by kernel_rfl) (by kernel_rfl) (by kernel_rfl) (by kernel_rfl) (fun _ _ _ h => h) (Or.inl ⟨by rfl, ?hy17⟩) (by assumption) ?rest17
  case hy17 => ((intro W hSW; (try dsimp only at hSW); go_simp); first | with_reducible rfl | (rw [if_pos HKO]; done) | (rw [if_pos HKO]; rfl))
  simp only [Act.put, List.setIfInBounds_toArray, List.set_cons_zero, List.set_cons_succ]
  refine wpLast_take (i := 3) (oi := _) (v := ?v18) rfl (by kernel_rfl) (by kernel_rfl) (by kernel_rfl) (by kernel_rfl) (fun _ _ _ h => h) (Or.inl ⟨by rfl, ?hy18⟩) (by assumption) ?rest18
  case hy18 => ((intro W hSW; (try dsimp only at hSW); go_simp); first | with_reducible rfl | (rw [if_pos HKO]; done) | (rw [if_pos HKO]; rfl))
  simp only [Act.put, List.setIfInBounds_toArray, List.set_cons_zero, List.set_cons_succ]
  refine wpLast_take (i := 4) (oi := _) (v := ?v19) rfl (by kernel_rfl) (by kernel_rfl) (by kernel_rfl) (by kernel_rfl) (fun _ _ _ h => h) (Or.inl ⟨by rfl, ?hy19⟩) (by assumption) ?rest19
  case hy19 => ((intro W hSW; (try dsimp only at hSW); go_simp); first | with_reducible rfl | (rw [if_pos HKO]; done) | (rw [if_pos HKO]; rfl))
  simp only [Act.put, List.setIfInBounds_toArray, List.set_cons_zero, List.set_cons_succ]
  refine wpLast_take (i := 5) (oi := _) (v := ?v20) rfl (by kernel_rfl) (by kernel_rfl) (by kernel_rfl) (by kernel_rfl) (fun _ _ _ h => h) (Or.inl ⟨by rfl, ?hy20⟩) (by assumption) ?rest20
  case hy20 => ((intro W hSW; (try dsimp only at hSW); go_simp); first | with_reducible rfl | (rw [if_pos HKO]; done) | (rw [if_pos HKO]; rfl))
  simp only [Act.put, List.setIfInBounds_toArray, List.set_cons_zero, List.set_cons_succ]
  refine wpLast_take (i := 6) (oi := _) (v := ?v21) rfl (by kernel_rfl) (by kernel_rfl) (by kernel_rfl) (by kernel_rfl) (fun _ _ _ h => h) (Or.inl ⟨by rfl, ?hy21⟩) (by assumption) ?rest21
  case hy21 => ((intro W hSW; (try dsimp only at hSW); go_simp); first | with_reducible rfl | (rw [if_pos HKO]; done) | (rw [if_pos HKO]; rfl))
  simp only [Act.put, List.setIfInBounds_toArray, List.set_cons_zero, List.set_cons_succ]
  refine wpLast_take (i := 7) (oi := _) (v := ?v22) rfl (by kernel_rfl) (by kernel_rfl) (by kernel_rfl) (by kernel_rfl) (fun _ _ _ h => h) (Or.inl ⟨by rfl, ?hy22⟩) (by assumption) ?rest22
  case hy22 => ((intro W hSW; (try dsimp only at hSW); go_simp); first | with_reducible rfl | (rw [if_pos HKO]; done) | (rw [if_pos HKO]; rfl))
  simp only [Act.put, List.setIfInBounds_toArray, List.set_cons_zero, List.set_cons_succ]
  refine wpLast_take (i := 8) (oi := _) (v := ?v23) rfl (by kernel_rfl) (by kernel_rfl) (by kernel_rfl) (by kernel_rfl) (fun _ _ _ h => h) (Or.inl ⟨by rfl, ?hy23⟩) (by assumption) ?rest23
  case hy23 => ((intro W hSW; (try dsimp only at hSW); go_simp); first | with_reducible rfl | (rw [if_pos HKO]; done) | (rw [if_pos HKO]; rfl))
  simp only [Act.put, List.setIfInBounds_toArray, List.set_cons_zero, List.set_cons_succ]
  refine wpLast_take (i := 9) (oi := _) (v := ?v24) rfl (by kernel_rfl) (by kernel_rfl) (by kernel_rfl) (by kernel_rfl) (fun _ _ _ h => h) (Or.inl ⟨by rfl, ?hy24⟩) (by assumption) ?rest24
  case hy24 => ((intro W hSW; (try dsimp only at hSW); go_simp); first | with_reducible rfl | (rw [if_pos HKO]; done) | (rw [if_pos HKO]; rfl))
  simp only [Act.put, List.setIfInBounds_toArray, List.set_cons_zero, List.set_cons_succ]
  refine wpLast_one (i := 10) (by kernel_rfl) rfl (by rfl) (fun K hK => ?_)
  go_simp
  refine (HDO.out _).mono ?_
  rintro e y ⟨rfl, hby⟩
  have HBY := Lib.hid (show Below X4.heap.size X4 y from ⟨hby.os, hby.tape, hby.output, hby.size, hby.block⟩)
  have hbi5 := lt_of_at SB3.out.bx
  refine hK.out _ _ (fun _ => ⟨row_at HBY.out (lt_of_at SX.out.rows.b0) SX.out.rows.b0, (HBY.out.cell (p := ⟨bi, 1, none⟩) hbi5).trans xrd, (HBY.out.cell (p := ⟨bi, 0, none⟩) hbi5).trans xop, (HBY.out.cell (p := ⟨tb, ko, none⟩) htl).trans hcell⟩) (fun hHeld => ?_)
  clear hK K hby
  try simp only [Act.put, List.setIfInBounds_toArray, List.set_cons_zero, List.set_cons_succ]
  refine wpLast_one (i := 11) (by kernel_rfl) rfl (by rfl) (fun K hK => ?_)
  go_simp
  refine (HSET.out _).mono ?_
  rintro e y2 ⟨rfl, hby2⟩
  have HBB := Lib.hid (HBY.out.trans (hby2.mono HBY.out.size))
  have hbi6 : bi < y2.heap.size := Nat.lt_of_lt_of_le hbi5 HBB.out.size
  refine hK.out _ _ (fun _ => ⟨row_at HBB.out (lt_of_at SX.out.rows.b0) SX.out.rows.b0, (HBB.out.cell (p := ⟨bi, 1, none⟩) hbi5).trans xrd, (HBB.out.cell (p := ⟨bi, 0, none⟩) hbi5).trans xop, (HBB.out.cell (p := ⟨tb, ko, none⟩) htl).trans hcell⟩) (fun hHeld => ?_)
  clear hK K hby2
  try simp only [Act.put, List.setIfInBounds_toArray, List.set_cons_zero, List.set_cons_succ]
  have SXY : Hid (Sx w y2 base q m R A c (.slice oA on oc) (.slice sA sn sc) cs0 #[.slice A R.inp.length c, .slice oA on oc, .int .i64 R.checks, .slice sA sn sc]) := Lib.hid ⟨SX.out.rows.fw (base := base) (q := q) (Fw.below HBB.out), SX.out.rd.below HBB.out, SX.out.fw.trans (Fw.below HBB.out), SX.out.mc, SX.out.lb⟩
  have SZ : Hid (Sx w (y2.setRow w.heap.size cs5) base q m1 R A c (.slice oA on oc) (.slice sA sn sc) cs5 #[.slice A R.inp.length c, .slice oA on oc, .int .i64 R.checks, .slice sA sn sc]) := Lib.hid (by
    have := SXY.out.ma (m' := m1) HMEM1.out HSOK.out
    rw [HC5.out] at this
    exact this)
  refine wpLast_one (i := 12) (by kernel_rfl) rfl (by rfl) (fun K hK => ?_)
  refine wp_store_row 34 (.tmp 2) (.tmp 86) rfl w.heap.size cs5 rfl rfl 34 cs0 SXY.out.rows.b0 (by rw [HZ5.out]; exact szMach) (by rw [HZ.out, HZ5.out]) ha5 ?_
  refine hK.out _ _ (fun h => absurd rfl h) (fun _ => ?_)
  clear hK K
  refine wpLast_done (by kernel_rfl) ?_
  have hbx5 : (y2.setRow w.heap.size cs5).heap[bi]? = some (.cells #[.int .i64 op, .int .i64 rd, .int .i64 r1, .int .i64 r2, .int .i64 n] 49) := (setRow_other _ _ _ _ (by have := SB3.out.hi; omega)).trans (row_at HBB.out (lt_of_at SB3.out.bx) SB3.out.bx)
  generalize y2.setRow w.heap.size cs5 = X5 at *
  clear xop xrd hcell
  have g0 : X5.cell? ⟨bi, 0, none⟩ = some (.int .i64 op) := by rw [cell_of_row _ _ 0 _ _ _ hbx5]; rfl
  have g1 : X5.cell? ⟨bi, 1, none⟩ = some (.int .i64 rd) := by rw [cell_of_row _ _ 1 _ _ _ hbx5]; rfl
  have g2 : X5.cell? ⟨bi, 2, none⟩ = some (.int .i64 r1) := by rw [cell_of_row _ _ 2 _ _ _ hbx5]; rfl
  have g4 : X5.cell? ⟨bi, 4, none⟩ = some (.int .i64 n) := by rw [cell_of_row _ _ 4 _ _ _ hbx5]; rfl
  have hmk := HMK.out
  have t0 : (op == 28) = true := by simp [hmk.1]
  have t1 : ((rd : Int) == 0) = true := by simp; omega
  have t2 : ((r1 : Int) == 0) = true := by simp; omega
  have t4 : (n == 1) = true := by simp [hmk.2.2.2]
  have f2 : X5.cell? ⟨w.heap.size + 1, 2, none⟩ = some (.int .i64 R.checks) := by rw [cell_of_row _ _ 2 _ _ _ SZ.out.rows.b1]; rfl
  have ff : X5.frozen? ⟨w.heap.size + 1, 2, none⟩ = false := frozen_of_row _ _ _ _ _ SZ.out.rows.b1
  have SM : Hid (Sx w (X5.setCell ⟨w.heap.size + 1, 2, none⟩ (.int .i64 ((R.checks : Int) + 1))) base q m1 { R with checks := R.checks + 1 } A c (.slice oA on oc) (.slice sA sn sc) cs5 #[.slice A R.inp.length c, .slice oA on oc, .int .i64 (R.checks + 1 : Nat), .slice sA sn sc]) := Lib.hid (SZ.out.mark (R.checks + 1) (.int .i64 ((R.checks : Int) + 1)) (by rfl))
  have y33 : ∀ Z, (X5.setCell ⟨w.heap.size + 1, 2, none⟩ Z).cell? ⟨w.heap.size, 33, none⟩ = some (.int .u64 PL) := fun Z => by
    rw [World.cell?_of_block (Below.heap_setCell _ _ _ _ (by simp)), cell_of_row _ _ 33 _ _ _ SZ.out.rows.b0, ← SZ.out.mc]; exact (mcs_33 HSOK.out.1 q).trans (by rw [HPL.out])
  have fz : ∀ Z o, (X5.setCell ⟨w.heap.size + 1, 2, none⟩ Z).frozen? ⟨w.heap.size, o, none⟩ = false := fun Z o => frozen_of_row _ _ o _ _ ((Below.heap_setCell _ _ _ _ (by simp)).trans SZ.out.rows.b0)
  clear hmk
  go_wp2_with fail
  have SY := Lib.hid (SM.out.pl (IntKind.u64.wrap (PL + 4)) (u64w _))
  have hz1 : (mcs { m1 with pl := IntKind.u64.wrap (PL + 4) } q).size = 36 := mcs_size (m := { m1 with pl := IntKind.u64.wrap (PL + 4) }) HSOK.out.1 q
  have ha1 := mcs_all { m1 with pl := IntKind.u64.wrap (PL + 4) } q
  clear y33 fz SM f2 ff g0 g1 g2 g4
  generalize (X5.setCell ⟨w.heap.size + 1, 2, none⟩ (.int .i64 ((R.checks : Int) + 1))).setCell ⟨w.heap.size, 33, none⟩ (.int .u64 (IntKind.u64.wrap (PL + 4))) = Y0 at *
  generalize hcs1 : mcs { m1 with pl := IntKind.u64.wrap (PL + 4) } q = cs1 at *
  have HC1 := Lib.hid hcs1; have HZ1 := Lib.hid hz1
  clear hcs1 hz1
  obtain ⟨o3, z3, k3⟩ := SY.out.rows.b2
  obtain ⟨o4, z4, k4⟩ := SY.out.rows.b3
  have hlb := HH.out.lb
  refine tail33 w.heap.size cs1 #[.slice A R.inp.length c, .slice oA on oc, .int .i64 (R.checks + 1 : Nat), .slice sA sn sc] o3 o4 true (fun _ _ _ _ _ h => h) (by kernel_rfl) (by kernel_rfl) (by kernel_rfl) (by kernel_rfl) (by kernel_rfl) (by kernel_rfl) (by kernel_rfl) (by kernel_rfl) SY.out.rows.b0 SY.out.rows.b1 k3 k4 HZ1.out rfl z3 z4 ha1 (by simp [Value.oneCell']) SY.out.rd SY.out.fw (by omega) ?_
  intro Y y1 y2' y3 y4
  simp only [Act.put, List.setIfInBounds_toArray, List.set_cons_zero, List.set_cons_succ]
  go_wp2_with fail
  exact bodyPost_ret (v := .tuple #[.agg cs1, .agg #[.slice A R.inp.length c, .slice oA on oc, .int .i64 (R.checks + 1 : Nat), .slice sA sn sc], .bool true]) (res_cct Tryd.results23 _ _ _ _ _ _ _ rfl rfl rfl y1 HZ1.out y2' rfl) rfl ⟨{ m1 with pl := IntKind.u64.wrap (PL + 4) }, { R with checks := R.checks + 1 }, A, c, oA, on, oc, sA, sn, sc, true, by rw [if_pos rfl], fun hb => (by cases hb), by rw [HC1.out], y3, y4⟩
end Go.Proofs.YtppcbommaddkgaaDoor
namespace Go.Proofs.YtppcbommaddkgaaDoor
open Go.RowKit Go.Maps
set_option linter.unusedVariables false
set_option linter.unusedSimpArgs false
set_option maxRecDepth 10000
open Pm Pc Pl
set_option maxHeartbeats 3000000 in
theorem rstep_lui {m : Ma} {q base : Nat} {w : World} {R : Ru} {A : Option Addr} {c : Nat} {oA sA : Option Addr} {on oc sn sc : Nat} (h : Rd w base q m R A c (.slice oA on oc) (.slice sA sn sc)) (hb : hasB m.pl 4 m.mem.length = true) (op n : Int) (rd r1 r2 : Nat) (hop : op = 51) (hn : -9223372036854775808 ≤ n ∧ n < 9223372036854775808) (hd : rd < 32) (h1 : r1 < 32) (h2 : r2 < 32) (hdec : ∀ W : World, Calls Tryd.prog 29 #[.int .u32 (wordAt m)] W fun e w' => e = .returned (.tuple #[ins op rd r1 r2 n, .bool true]) ∧ Below W.heap.size W w') :
    Calls Tryd.prog 23 #[.agg (mcs m q), .agg #[.slice A R.inp.length c, .slice oA on oc, .int .i64 R.checks, .slice sA sn sc]] w (RTo w base q m R (some ({ m.set rd (IntKind.u64.wrap (n % 18446744073709551616 * 4096)) with pl := IntKind.u64.wrap (m.pl + 4) }, R))) := by
  have HOP := Lib.hid hop
  clear hop
  have hz := mcs_size h.ok.1 q
  have ha := mcs_all m q
  have c33 := mcs_33 h.ok.1 q
  have hp := fun W => rplace_any (q := q) (w := W) h.ok.1 h.ok.2.1 m.pl 4 h.ok.2.2.2.2.1 (Or.inr (Or.inl rfl))
  have HH := Lib.hid h
  generalize hcs0 : mcs m q = cs0 at *
  have w33 : ∀ Z, ((w.alloc (Obj.cells cs0 34)).alloc Z).cell? ⟨w.heap.size, 33, none⟩ = some (.int .u64 m.pl) := fun Z => by rw [cell_of_row _ _ 33 _ _ _ (aa0 _ _ _)]; exact c33
  rw [hb] at hp
  have hfit : m.pl + 4 ≤ m.mem.length := by unfold hasB at hb; exact (of_decide_eq_true hb).2
  have hbyte : ∀ i : Nat, 0 ≤ m.mem.getD i 0 ∧ m.mem.getD i 0 < 256 := fun i => by
    by_cases hi : i < m.mem.length
    · have e : m.mem.getD i 0 = m.mem[i] := by simp [List.getD, hi]
      rw [e]; exact h.ok.2.2.2.1 _ (List.getElem_mem hi)
    · have e : m.mem.getD i 0 = 0 := by simp [List.getD, List.getElem?_eq_none (Nat.le_of_not_lt hi)]
      rw [e]; omega
  have hpl0 := h.ok.2.2.2.2.1.1
  have HG : Hid (∀ W : World, W.heap[q]? = some (.cells (u8s m.mem).toArray 5) → Calls Tryd.prog 30 #[.agg cs0, .int .u64 m.pl, .int .i64 4] W fun e w' => e = .returned (.int .u64 (wordAt m)) ∧ Below W.heap.size W w') := Lib.hid fun W hW => by
    have := rget_any (q := q) (w := W) h.ok.1 h.ok.2.1 hbyte m.pl.toNat 4 (by omega) (by omega) hW
    rw [hcs0, Int.toNat_of_nonneg hpl0] at this
    exact this
  have hwr := getV_range m.mem hbyte 4 m.pl.toNat
  have hwd : 0 ≤ wordAt m ∧ wordAt m < 4294967296 := ⟨hwr.1, Int.lt_of_lt_of_le hwr.2 (by decide)⟩
  have hwrap : IntKind.u32.wrap (wordAt m) = wordAt m := by simp [IntKind.wrap, IntKind.bits, IntKind.signed]; omega
  have HDEC := Lib.hid hdec
  clear hdec hfit hbyte hwr hpl0
  generalize wordAt m = WD at *
  have HP := Lib.hid hp; have HZ := Lib.hid hz; have HC0 := Lib.hid hcs0
  have C33 := Lib.hid c33
  clear h hp hz hcs0 c33 hb
  generalize hPLm : m.pl = PL at *
  have HPL0 := Lib.hid hPLm
  clear hPLm
  have hlb := HH.out.lb
  go_enter Tryd.func23, Tryd.ntmps23
  go_wp2_with (first
    | ((with_reducible refine ld36 w.heap.size cs0 ?_ ?_ HZ.out ?_); rfl; exact a4_0 _ _ _ _ _)
    | fail)
  generalize hX : ((((w.alloc _).alloc _).alloc _).alloc _) = X
  have hb4 : Below w.heap.size w X := by rw [← hX]; exact bw_alloc (bw_alloc (bw_alloc (bw_alloc (Below.refl w.heap.size w) _) _) _) _
  have k0 : X.heap[w.heap.size]? = some (.cells cs0 34) := by rw [← hX]; exact a4_0 _ _ _ _ _
  have k1 : X.heap[w.heap.size + 1]? = some (.cells #[.slice A R.inp.length c, .slice oA on oc, .int .i64 R.checks, .slice sA sn sc] 71) := by rw [← hX]; exact a4_1 _ _ _ _ _
  have k2 : ∃ old : Array Value, old.size = 36 ∧ X.heap[w.heap.size + 2]? = some (.cells old 34) := by rw [← hX]; exact ⟨_, rfl, a4_2 _ _ _ _ _⟩
  have k3 : ∃ old : Array Value, old.size = 4 ∧ X.heap[w.heap.size + 3]? = some (.cells old 71) := by rw [← hX]; exact ⟨_, rfl, a4_3 _ _ _ _ _⟩
  clear hX w33
  with_reducible refine (HP.out X).mono ?_
  rintro e X1 ⟨rfl, bp⟩
  have hb5 := hb4.trans (bp.mono hb4.size)
  obtain ⟨o3, z3, k2⟩ := k2
  obtain ⟨o4, z4, k3⟩ := k3
  have K0 := Lib.hid (row_at bp (lt_of_at k0) k0); have K1 := Lib.hid (row_at bp (lt_of_at k1) k1); have K2 := Lib.hid (row_at bp (lt_of_at k2) k2); have K3 := Lib.hid (row_at bp (lt_of_at k3) k3); have HB5 := Lib.hid hb5
  clear k0 k1 k2 k3 bp hb4 hb5
  have c33' : cs0[33]? = some (.int .u64 PL) := C33.out
  have x33 : X1.cell? ⟨w.heap.size, 33, none⟩ = some (.int .u64 PL) := by rw [cell_of_row _ _ 33 _ _ _ K0.out]; exact c33'
  clear c33'
  go_wp2_with (first
    | ((with_reducible refine ld36 w.heap.size cs0 ?_ ?_ HZ.out ?_); rfl; exact K0.out)
    | fail)
  refine (HG.out X1 ((HB5.out.block q (lt_of_at HH.out.mem)).trans HH.out.mem)).mono ?_
  rintro e X2 ⟨rfl, b2⟩
  go_wp2_with fail
  with_reducible refine (HDEC.out X2).mono ?_
  rintro e X3 ⟨rfl, b3⟩
  have bX3 : Below X1.heap.size X1 X3 := b2.trans (b3.mono b2.size)
  have hX3 := HB5.out.size
  have hX4 := lt_of_at K3.out
  have hX5 := bX3.size
  have sb : Sb w (X3.alloc (Obj.cells #[.int .i64 op, .int .i64 rd, .int .i64 r1, .int .i64 r2, .int .i64 n] 49)) cs0 #[.slice A R.inp.length c, .slice oA on oc, .int .i64 R.checks, .slice sA sn sc] X3.heap.size op rd r1 r2 n := by
    have hbb := bX3.trans ((bw_alloc (Below.refl X3.heap.size X3) (Obj.cells #[.int .i64 op, .int .i64 rd, .int .i64 r1, .int .i64 r2, .int .i64 n] 49)).mono bX3.size)
    exact ⟨row_at hbb (lt_of_at K0.out) K0.out, row_at hbb (lt_of_at K1.out) K1.out, ⟨o3, z3, row_at hbb (lt_of_at K2.out) K2.out⟩, ⟨o4, z4, row_at hbb (lt_of_at K3.out) K3.out⟩, heap_alloc_new _ _, by omega, HB5.out.trans (hbb.mono HB5.out.size)⟩
  have HI : Hid (∀ k : Nat, ∀ W : World, Calls Tryd.prog 31 #[.int .i64 n] (W.drewN k) fun e w' => e = .returned (.int .u64 (n % 18446744073709551616)) ∧ W.drewN k = w') := Lib.hid fun k W => rimm_any n _ hn
  have X1c := mcs_x HH.out.ok.1 q h1
  have X2c := mcs_x HH.out.ok.1 q h2
  have hr1 := reg_range HH.out.ok r1
  have hr2 := reg_range HH.out.ok r2
  rw [HC0.out] at X1c X2c
  have hwk1 : IntKind.i64.wrap (r1 : Int) = r1 := IntWalk.i64_in _ (by omega)
  have hwk2 : IntKind.i64.wrap (r2 : Int) = r2 := IntWalk.i64_in _ (by omega)
  unfold Ma.reg at hr1 hr2
  generalize hv1 : m.x.getD r1 0 = v1 at *
  generalize hv2 : m.x.getD r2 0 = v2 at *
  have HV1 := Lib.hid hv1; have HV2 := Lib.hid hv2
  have y1 : ∀ k, (World.drewN (X3.alloc (Obj.cells #[.int .i64 op, .int .i64 rd, .int .i64 r1, .int .i64 r2, .int .i64 n] 49)) k).cell? ⟨w.heap.size, 1 + r1, none⟩ = some (.int .u64 v1) := fun k => by rw [cell_of_row _ _ (1 + r1) _ _ _ (show (World.drewN (X3.alloc (Obj.cells #[.int .i64 op, .int .i64 rd, .int .i64 r1, .int .i64 r2, .int .i64 n] 49)) k).heap[w.heap.size]? = _ from sb.b0)]; exact X1c
  have y2 : ∀ k, (World.drewN (X3.alloc (Obj.cells #[.int .i64 op, .int .i64 rd, .int .i64 r1, .int .i64 r2, .int .i64 n] 49)) k).cell? ⟨w.heap.size, 1 + r2, none⟩ = some (.int .u64 v2) := fun k => by rw [cell_of_row _ _ (1 + r2) _ _ _ (show (World.drewN (X3.alloc (Obj.cells #[.int .i64 op, .int .i64 rd, .int .i64 r1, .int .i64 r2, .int .i64 n] 49)) k).heap[w.heap.size]? = _ from sb.b0)]; exact X2c
  have y33 : ∀ k, (World.drewN (X3.alloc (Obj.cells #[.int .i64 op, .int .i64 rd, .int .i64 r1, .int .i64 r2, .int .i64 n] 49)) k).cell? ⟨w.heap.size, 33, none⟩ = some (.int .u64 PL) := fun k => by rw [cell_of_row _ _ 33 _ _ _ (show (World.drewN (X3.alloc (Obj.cells #[.int .i64 op, .int .i64 rd, .int .i64 r1, .int .i64 r2, .int .i64 n] 49)) k).heap[w.heap.size]? = _ from sb.b0)]; exact C33.out
  have SB := Lib.hid sb
  clear sb b2 b3 bX3 X1c X2c hv1 hv2 K0 K1 K2 K3 x33 HG HDEC hwrap
  go_wp2_with fail
  go_quiet (with_reducible refine (HI.out _ _).mono ?_; rintro e w9 ⟨rfl, rfl⟩; exact ⟨rfl, _, rfl⟩)
  have d27 : decide (op ≤ 27) = false := by have hop := HOP.out; simp; omega
  have d37 : decide (op ≤ 37) = false := by have hop := HOP.out; simp; omega
  have d44 : decide (op ≤ 44) = false := by have hop := HOP.out; simp; omega
  have d50 : decide (op ≤ 50) = false := by have hop := HOP.out; simp; omega
  have e51 : decide (op = 51) = true := by have hop := HOP.out; simp; omega
  have b51 : (op == 51) = true := by have hop := HOP.out; simp; omega
  have sb2 := SB.out.grow (X' := World.drewN (X3.alloc (Obj.cells #[.int .i64 op, .int .i64 rd, .int .i64 r1, .int .i64 r2, .int .i64 n] 49)) nq) ⟨rfl, rfl, rfl, Nat.le_refl _, fun _ _ => rfl⟩
  replace y33 := y33 nq
  clear SB y1 y2 HI
  generalize hbi : X3.heap.size = bi at *
  generalize hX : World.drewN (X3.alloc (Obj.cells #[.int .i64 op, .int .i64 rd, .int .i64 r1, .int .i64 r2, .int .i64 n] 49)) nq = X at *
  clear hX
  have sb3 := Lib.hid (fun Z => sb2.grow (bw_alloc (Below.refl _ _) Z))
  have xop' : ∀ Z, (X.alloc Z).cell? ⟨bi, 0, none⟩ = some (.int .i64 op) := fun Z => by rw [cell_of_row _ _ 0 _ _ _ ((Below.heap_alloc _ _ _ (lt_of_at sb2.bx)).trans sb2.bx)]; rfl
  have xop'' : X.cell? ⟨bi, 0, none⟩ = some (.int .i64 op) := by rw [cell_of_row _ _ 0 _ _ _ sb2.bx]; rfl
  have xrd' : ∀ Z, (X.alloc Z).cell? ⟨bi, 1, none⟩ = some (.int .i64 rd) := fun Z => by rw [cell_of_row _ _ 1 _ _ _ ((Below.heap_alloc _ _ _ (lt_of_at sb2.bx)).trans sb2.bx)]; rfl
  have y33' : ∀ Z, (X.alloc Z).cell? ⟨w.heap.size, 33, none⟩ = some (.int .u64 PL) := fun Z => by rw [cell_of_row _ _ 33 _ _ _ (sb3.out Z).b0]; exact C33.out
  have hVr := u64w (n % 18446744073709551616 * 4096)
  have hset2 : ∀ W : World, Calls Tryd.prog 32 #[.agg cs0, .int .i64 rd, .int .u64 (IntKind.u64.wrap (n % 18446744073709551616 * 4096))] W fun e w' => e = .returned (.agg (mcs (m.set rd (IntKind.u64.wrap (n % 18446744073709551616 * 4096))) q)) ∧ Below W.heap.size W w' := fun W => by
    have := rset_any (m := m) (q := q) (w := W) HH.out.ok.1 rd hd (IntKind.u64.wrap (n % 18446744073709551616 * 4096))
    rw [HC0.out] at this
    exact this
  have hmem1 : (m.set rd (IntKind.u64.wrap (n % 18446744073709551616 * 4096))).mem = m.mem := by unfold Ma.set; split <;> rfl
  have hpl1 : (m.set rd (IntKind.u64.wrap (n % 18446744073709551616 * 4096))).pl = m.pl := by unfold Ma.set; split <;> rfl
  have hsok := Ma.set_ok HH.out.ok rd hVr
  have hz5 : (mcs (m.set rd (IntKind.u64.wrap (n % 18446744073709551616 * 4096))) q).size = 36 := mcs_size hsok.1 q
  have ha5 := mcs_all (m.set rd (IntKind.u64.wrap (n % 18446744073709551616 * 4096))) q
  have hwkd : IntKind.i64.wrap (rd : Int) = rd := IntWalk.i64_in _ (by omega)
  generalize hm1 : m.set rd (IntKind.u64.wrap (n % 18446744073709551616 * 4096)) = m1 at *
  generalize hcs5 : mcs m1 q = cs5 at *
  have HM1 := Lib.hid hm1; have HC5 := Lib.hid hcs5; have HZ5 := Lib.hid hz5; have HSET := Lib.hid hset2; have HSOK := Lib.hid hsok; have HMEM1 := Lib.hid hmem1; have HPL := Lib.hid (hpl1.trans HPL0.out)
  clear hm1 hcs5 hz5 hset2 hsok hmem1 hpl1
  go_wp2_with (first
    | ((with_reducible refine ld36 w.heap.size cs0 ?_ ?_ HZ.out ?_); rfl; exact (sb3.out _).b0)
    | (with_reducible refine (HSET.out _).mono ?_)
    | fail)
  rintro e y2 ⟨rfl, hby2⟩
  have SB3 := Lib.hid (sb3.out (Obj.cells #[.int .i64 1, .int .i64 4, .int .i64 5, .int .i64 6, .int .i64 9, .int .i64 10, .int .i64 3, .int .i64 7, .int .i64 8, .int .i64 18] 86))
  clear sb2 sb3 xop' xop'' y33 xrd' y33'
  generalize hX4 : X.alloc (Obj.cells #[.int .i64 1, .int .i64 4, .int .i64 5, .int .i64 6, .int .i64 9, .int .i64 10, .int .i64 3, .int .i64 7, .int .i64 8, .int .i64 18] 86) = X4 at *
  clear hX4
  have SX : Hid (Sx w X4 base q m R A c (.slice oA on oc) (.slice sA sn sc) cs0 #[.slice A R.inp.length c, .slice oA on oc, .int .i64 R.checks, .slice sA sn sc]) := Lib.hid ⟨SB3.out.rows, HH.out.below SB3.out.below, Fw.below SB3.out.below, HC0.out, HH.out.lb⟩
  have xop : X4.cell? ⟨bi, 0, none⟩ = some (.int .i64 op) := by rw [cell_of_row _ _ 0 _ _ _ SB3.out.bx]; rfl
  have xrd : X4.cell? ⟨bi, 1, none⟩ = some (.int .i64 rd) := by rw [cell_of_row _ _ 1 _ _ _ SB3.out.bx]; rfl
  have HBB : Hid (Below X4.heap.size X4 y2) := Lib.hid hby2
  have SXY : Hid (Sx w y2 base q m R A c (.slice oA on oc) (.slice sA sn sc) cs0 #[.slice A R.inp.length c, .slice oA on oc, .int .i64 R.checks, .slice sA sn sc]) := Lib.hid ⟨SX.out.rows.fw (base := base) (q := q) (Fw.below HBB.out), SX.out.rd.below HBB.out, SX.out.fw.trans (Fw.below HBB.out), SX.out.mc, SX.out.lb⟩
  have SZ : Hid (Sx w (y2.setRow w.heap.size cs5) base q m1 R A c (.slice oA on oc) (.slice sA sn sc) cs5 #[.slice A R.inp.length c, .slice oA on oc, .int .i64 R.checks, .slice sA sn sc]) := Lib.hid (by
    have := SXY.out.ma (m' := m1) HMEM1.out HSOK.out
    rw [HC5.out] at this
    exact this)
  have hr0 := SXY.out.rows.b0
  have y33 : (y2.setRow w.heap.size cs5).cell? ⟨w.heap.size, 33, none⟩ = some (.int .u64 PL) := by rw [cell_of_row _ _ 33 _ _ _ SZ.out.rows.b0, ← SZ.out.mc]; exact (mcs_33 HSOK.out.1 q).trans (by rw [HPL.out])
  have fz : ∀ o, (y2.setRow w.heap.size cs5).frozen? ⟨w.heap.size, o, none⟩ = false := fun o => frozen_of_row _ _ _ _ _ SZ.out.rows.b0
  have xrd2 : y2.cell? ⟨bi, 1, none⟩ = some (.int .i64 rd) := (HBB.out.cell (p := ⟨bi, 1, none⟩) (lt_of_at SB3.out.bx)).trans xrd
  go_wp2_with (first
    | ((with_reducible refine st36 w.heap.size cs5 cs0 ?_ ?_ hr0 HZ.out HZ5.out ha5 ?_); rfl; rfl)
    | fail)
  clear hr0 xop xrd xrd2
  generalize y2.setRow w.heap.size cs5 = X5 at *
  have SY := Lib.hid (SZ.out.pl (IntKind.u64.wrap (PL + 4)) (u64w _))
  have hz1 : (mcs { m1 with pl := IntKind.u64.wrap (PL + 4) } q).size = 36 := mcs_size (m := { m1 with pl := IntKind.u64.wrap (PL + 4) }) HSOK.out.1 q
  have ha1 := mcs_all { m1 with pl := IntKind.u64.wrap (PL + 4) } q
  clear y33 fz
  generalize X5.setCell ⟨w.heap.size, 33, none⟩ (.int .u64 (IntKind.u64.wrap (PL + 4))) = Y0 at *
  generalize hcs1 : mcs { m1 with pl := IntKind.u64.wrap (PL + 4) } q = cs1 at *
  have HC1 := Lib.hid hcs1; have HZ1 := Lib.hid hz1
  clear hcs1 hz1
  obtain ⟨o3, z3, k3⟩ := SY.out.rows.b2
  obtain ⟨o4, z4, k4⟩ := SY.out.rows.b3
  have hlb := HH.out.lb
  refine tail33 w.heap.size cs1 #[.slice A R.inp.length c, .slice oA on oc, .int .i64 R.checks, .slice sA sn sc] o3 o4 true (fun _ _ _ _ _ h => h) (by kernel_rfl) (by kernel_rfl) (by kernel_rfl) (by kernel_rfl) (by kernel_rfl) (by kernel_rfl) (by kernel_rfl) (by kernel_rfl) SY.out.rows.b0 SY.out.rows.b1 k3 k4 HZ1.out rfl z3 z4 ha1 (by simp [Value.oneCell']) SY.out.rd SY.out.fw (by omega) ?_
  intro Y y1 y2' y3 y4
  simp only [Act.put, List.setIfInBounds_toArray, List.set_cons_zero, List.set_cons_succ]
  go_wp2_with fail
  exact bodyPost_ret (v := .tuple #[.agg cs1, .agg #[.slice A R.inp.length c, .slice oA on oc, .int .i64 R.checks, .slice sA sn sc], .bool true]) (res_cct Tryd.results23 _ _ _ _ _ _ _ rfl rfl rfl y1 HZ1.out y2' rfl) rfl ⟨{ m1 with pl := IntKind.u64.wrap (PL + 4) }, R, A, c, oA, on, oc, sA, sn, sc, true, by rw [if_pos rfl], fun hb => (by cases hb), by rw [HC1.out], y3, y4⟩
set_option maxHeartbeats 3000000 in
theorem rstep_auipc {m : Ma} {q base : Nat} {w : World} {R : Ru} {A : Option Addr} {c : Nat} {oA sA : Option Addr} {on oc sn sc : Nat} (h : Rd w base q m R A c (.slice oA on oc) (.slice sA sn sc)) (hb : hasB m.pl 4 m.mem.length = true) (op n : Int) (rd r1 r2 : Nat) (hop : op = 52) (hn : -9223372036854775808 ≤ n ∧ n < 9223372036854775808) (hd : rd < 32) (h1 : r1 < 32) (h2 : r2 < 32) (hdec : ∀ W : World, Calls Tryd.prog 29 #[.int .u32 (wordAt m)] W fun e w' => e = .returned (.tuple #[ins op rd r1 r2 n, .bool true]) ∧ Below W.heap.size W w') :
    Calls Tryd.prog 23 #[.agg (mcs m q), .agg #[.slice A R.inp.length c, .slice oA on oc, .int .i64 R.checks, .slice sA sn sc]] w (RTo w base q m R (some ({ m.set rd (IntKind.u64.wrap (IntKind.u64.wrap (n % 18446744073709551616 * 4096) + m.pl)) with pl := IntKind.u64.wrap (m.pl + 4) }, R))) := by
  have HOP := Lib.hid hop
  clear hop
  have hz := mcs_size h.ok.1 q
  have ha := mcs_all m q
  have c33 := mcs_33 h.ok.1 q
  have hp := fun W => rplace_any (q := q) (w := W) h.ok.1 h.ok.2.1 m.pl 4 h.ok.2.2.2.2.1 (Or.inr (Or.inl rfl))
  have HH := Lib.hid h
  generalize hcs0 : mcs m q = cs0 at *
  have w33 : ∀ Z, ((w.alloc (Obj.cells cs0 34)).alloc Z).cell? ⟨w.heap.size, 33, none⟩ = some (.int .u64 m.pl) := fun Z => by rw [cell_of_row _ _ 33 _ _ _ (aa0 _ _ _)]; exact c33
  rw [hb] at hp
  have hfit : m.pl + 4 ≤ m.mem.length := by unfold hasB at hb; exact (of_decide_eq_true hb).2
  have hbyte : ∀ i : Nat, 0 ≤ m.mem.getD i 0 ∧ m.mem.getD i 0 < 256 := fun i => by
    by_cases hi : i < m.mem.length
    · have e : m.mem.getD i 0 = m.mem[i] := by simp [List.getD, hi]
      rw [e]; exact h.ok.2.2.2.1 _ (List.getElem_mem hi)
    · have e : m.mem.getD i 0 = 0 := by simp [List.getD, List.getElem?_eq_none (Nat.le_of_not_lt hi)]
      rw [e]; omega
  have hpl0 := h.ok.2.2.2.2.1.1
  have HG : Hid (∀ W : World, W.heap[q]? = some (.cells (u8s m.mem).toArray 5) → Calls Tryd.prog 30 #[.agg cs0, .int .u64 m.pl, .int .i64 4] W fun e w' => e = .returned (.int .u64 (wordAt m)) ∧ Below W.heap.size W w') := Lib.hid fun W hW => by
    have := rget_any (q := q) (w := W) h.ok.1 h.ok.2.1 hbyte m.pl.toNat 4 (by omega) (by omega) hW
    rw [hcs0, Int.toNat_of_nonneg hpl0] at this
    exact this
  have hwr := getV_range m.mem hbyte 4 m.pl.toNat
  have hwd : 0 ≤ wordAt m ∧ wordAt m < 4294967296 := ⟨hwr.1, Int.lt_of_lt_of_le hwr.2 (by decide)⟩
  have hwrap : IntKind.u32.wrap (wordAt m) = wordAt m := by simp [IntKind.wrap, IntKind.bits, IntKind.signed]; omega
  have HDEC := Lib.hid hdec
  clear hdec hfit hbyte hwr hpl0
  generalize wordAt m = WD at *
  have HP := Lib.hid hp; have HZ := Lib.hid hz; have HC0 := Lib.hid hcs0
  have C33 := Lib.hid c33
  clear h hp hz hcs0 c33 hb
  generalize hPLm : m.pl = PL at *
  have HPL0 := Lib.hid hPLm
  clear hPLm
  have hlb := HH.out.lb
  go_enter Tryd.func23, Tryd.ntmps23
  go_wp2_with (first
    | ((with_reducible refine ld36 w.heap.size cs0 ?_ ?_ HZ.out ?_); rfl; exact a4_0 _ _ _ _ _)
    | fail)
  generalize hX : ((((w.alloc _).alloc _).alloc _).alloc _) = X
  have hb4 : Below w.heap.size w X := by rw [← hX]; exact bw_alloc (bw_alloc (bw_alloc (bw_alloc (Below.refl w.heap.size w) _) _) _) _
  have k0 : X.heap[w.heap.size]? = some (.cells cs0 34) := by rw [← hX]; exact a4_0 _ _ _ _ _
  have k1 : X.heap[w.heap.size + 1]? = some (.cells #[.slice A R.inp.length c, .slice oA on oc, .int .i64 R.checks, .slice sA sn sc] 71) := by rw [← hX]; exact a4_1 _ _ _ _ _
  have k2 : ∃ old : Array Value, old.size = 36 ∧ X.heap[w.heap.size + 2]? = some (.cells old 34) := by rw [← hX]; exact ⟨_, rfl, a4_2 _ _ _ _ _⟩
  have k3 : ∃ old : Array Value, old.size = 4 ∧ X.heap[w.heap.size + 3]? = some (.cells old 71) := by rw [← hX]; exact ⟨_, rfl, a4_3 _ _ _ _ _⟩
  clear hX w33
  with_reducible refine (HP.out X).mono ?_
  rintro e X1 ⟨rfl, bp⟩
  have hb5 := hb4.trans (bp.mono hb4.size)
  obtain ⟨o3, z3, k2⟩ := k2
  obtain ⟨o4, z4, k3⟩ := k3
  have K0 := Lib.hid (row_at bp (lt_of_at k0) k0); have K1 := Lib.hid (row_at bp (lt_of_at k1) k1); have K2 := Lib.hid (row_at bp (lt_of_at k2) k2); have K3 := Lib.hid (row_at bp (lt_of_at k3) k3); have HB5 := Lib.hid hb5
  clear k0 k1 k2 k3 bp hb4 hb5
  have c33' : cs0[33]? = some (.int .u64 PL) := C33.out
  have x33 : X1.cell? ⟨w.heap.size, 33, none⟩ = some (.int .u64 PL) := by rw [cell_of_row _ _ 33 _ _ _ K0.out]; exact c33'
  clear c33'
  go_wp2_with (first
    | ((with_reducible refine ld36 w.heap.size cs0 ?_ ?_ HZ.out ?_); rfl; exact K0.out)
    | fail)
  refine (HG.out X1 ((HB5.out.block q (lt_of_at HH.out.mem)).trans HH.out.mem)).mono ?_
  rintro e X2 ⟨rfl, b2⟩
  go_wp2_with fail
  with_reducible refine (HDEC.out X2).mono ?_
  rintro e X3 ⟨rfl, b3⟩
  have bX3 : Below X1.heap.size X1 X3 := b2.trans (b3.mono b2.size)
  have hX3 := HB5.out.size
  have hX4 := lt_of_at K3.out
  have hX5 := bX3.size
  have sb : Sb w (X3.alloc (Obj.cells #[.int .i64 op, .int .i64 rd, .int .i64 r1, .int .i64 r2, .int .i64 n] 49)) cs0 #[.slice A R.inp.length c, .slice oA on oc, .int .i64 R.checks, .slice sA sn sc] X3.heap.size op rd r1 r2 n := by
    have hbb := bX3.trans ((bw_alloc (Below.refl X3.heap.size X3) (Obj.cells #[.int .i64 op, .int .i64 rd, .int .i64 r1, .int .i64 r2, .int .i64 n] 49)).mono bX3.size)
    exact ⟨row_at hbb (lt_of_at K0.out) K0.out, row_at hbb (lt_of_at K1.out) K1.out, ⟨o3, z3, row_at hbb (lt_of_at K2.out) K2.out⟩, ⟨o4, z4, row_at hbb (lt_of_at K3.out) K3.out⟩, heap_alloc_new _ _, by omega, HB5.out.trans (hbb.mono HB5.out.size)⟩
  have HI : Hid (∀ k : Nat, ∀ W : World, Calls Tryd.prog 31 #[.int .i64 n] (W.drewN k) fun e w' => e = .returned (.int .u64 (n % 18446744073709551616)) ∧ W.drewN k = w') := Lib.hid fun k W => rimm_any n _ hn
  have X1c := mcs_x HH.out.ok.1 q h1
  have X2c := mcs_x HH.out.ok.1 q h2
  have hr1 := reg_range HH.out.ok r1
  have hr2 := reg_range HH.out.ok r2
  rw [HC0.out] at X1c X2c
  have hwk1 : IntKind.i64.wrap (r1 : Int) = r1 := IntWalk.i64_in _ (by omega)
  have hwk2 : IntKind.i64.wrap (r2 : Int) = r2 := IntWalk.i64_in _ (by omega)
  unfold Ma.reg at hr1 hr2
  generalize hv1 : m.x.getD r1 0 = v1 at *
  generalize hv2 : m.x.getD r2 0 = v2 at *
  have HV1 := Lib.hid hv1; have HV2 := Lib.hid hv2
  have y1 : ∀ k, (World.drewN (X3.alloc (Obj.cells #[.int .i64 op, .int .i64 rd, .int .i64 r1, .int .i64 r2, .int .i64 n] 49)) k).cell? ⟨w.heap.size, 1 + r1, none⟩ = some (.int .u64 v1) := fun k => by rw [cell_of_row _ _ (1 + r1) _ _ _ (show (World.drewN (X3.alloc (Obj.cells #[.int .i64 op, .int .i64 rd, .int .i64 r1, .int .i64 r2, .int .i64 n] 49)) k).heap[w.heap.size]? = _ from sb.b0)]; exact X1c
  have y2 : ∀ k, (World.drewN (X3.alloc (Obj.cells #[.int .i64 op, .int .i64 rd, .int .i64 r1, .int .i64 r2, .int .i64 n] 49)) k).cell? ⟨w.heap.size, 1 + r2, none⟩ = some (.int .u64 v2) := fun k => by rw [cell_of_row _ _ (1 + r2) _ _ _ (show (World.drewN (X3.alloc (Obj.cells #[.int .i64 op, .int .i64 rd, .int .i64 r1, .int .i64 r2, .int .i64 n] 49)) k).heap[w.heap.size]? = _ from sb.b0)]; exact X2c
  have y33 : ∀ k, (World.drewN (X3.alloc (Obj.cells #[.int .i64 op, .int .i64 rd, .int .i64 r1, .int .i64 r2, .int .i64 n] 49)) k).cell? ⟨w.heap.size, 33, none⟩ = some (.int .u64 PL) := fun k => by rw [cell_of_row _ _ 33 _ _ _ (show (World.drewN (X3.alloc (Obj.cells #[.int .i64 op, .int .i64 rd, .int .i64 r1, .int .i64 r2, .int .i64 n] 49)) k).heap[w.heap.size]? = _ from sb.b0)]; exact C33.out
  have SB := Lib.hid sb
  clear sb b2 b3 bX3 X1c X2c hv1 hv2 K0 K1 K2 K3 x33 HG HDEC hwrap
  go_wp2_with fail
  go_quiet (with_reducible refine (HI.out _ _).mono ?_; rintro e w9 ⟨rfl, rfl⟩; exact ⟨rfl, _, rfl⟩)
  have d27 : decide (op ≤ 27) = false := by have hop := HOP.out; simp; omega
  have d37 : decide (op ≤ 37) = false := by have hop := HOP.out; simp; omega
  have d44 : decide (op ≤ 44) = false := by have hop := HOP.out; simp; omega
  have d50 : decide (op ≤ 50) = false := by have hop := HOP.out; simp; omega
  have e51 : decide (op = 51) = false := by have hop := HOP.out; simp; omega
  have b51 : (op == 51) = false := by have hop := HOP.out; simp; omega
  have e52 : decide (op = 52) = true := by have hop := HOP.out; simp; omega
  have b52 : (op == 52) = true := by have hop := HOP.out; simp; omega
  have sb2 := SB.out.grow (X' := World.drewN (X3.alloc (Obj.cells #[.int .i64 op, .int .i64 rd, .int .i64 r1, .int .i64 r2, .int .i64 n] 49)) nq) ⟨rfl, rfl, rfl, Nat.le_refl _, fun _ _ => rfl⟩
  replace y33 := y33 nq
  clear SB y1 y2 HI
  generalize hbi : X3.heap.size = bi at *
  generalize hX : World.drewN (X3.alloc (Obj.cells #[.int .i64 op, .int .i64 rd, .int .i64 r1, .int .i64 r2, .int .i64 n] 49)) nq = X at *
  clear hX
  have sb3 := Lib.hid (fun Z => sb2.grow (bw_alloc (Below.refl _ _) Z))
  have xop' : ∀ Z, (X.alloc Z).cell? ⟨bi, 0, none⟩ = some (.int .i64 op) := fun Z => by rw [cell_of_row _ _ 0 _ _ _ ((Below.heap_alloc _ _ _ (lt_of_at sb2.bx)).trans sb2.bx)]; rfl
  have xop'' : X.cell? ⟨bi, 0, none⟩ = some (.int .i64 op) := by rw [cell_of_row _ _ 0 _ _ _ sb2.bx]; rfl
  have xrd' : ∀ Z, (X.alloc Z).cell? ⟨bi, 1, none⟩ = some (.int .i64 rd) := fun Z => by rw [cell_of_row _ _ 1 _ _ _ ((Below.heap_alloc _ _ _ (lt_of_at sb2.bx)).trans sb2.bx)]; rfl
  have y33' : ∀ Z, (X.alloc Z).cell? ⟨w.heap.size, 33, none⟩ = some (.int .u64 PL) := fun Z => by rw [cell_of_row _ _ 33 _ _ _ (sb3.out Z).b0]; exact C33.out
  have hVr := u64w (IntKind.u64.wrap (n % 18446744073709551616 * 4096) + PL)
  have hset2 : ∀ W : World, Calls Tryd.prog 32 #[.agg cs0, .int .i64 rd, .int .u64 (IntKind.u64.wrap (IntKind.u64.wrap (n % 18446744073709551616 * 4096) + PL))] W fun e w' => e = .returned (.agg (mcs (m.set rd (IntKind.u64.wrap (IntKind.u64.wrap (n % 18446744073709551616 * 4096) + PL))) q)) ∧ Below W.heap.size W w' := fun W => by
    have := rset_any (m := m) (q := q) (w := W) HH.out.ok.1 rd hd (IntKind.u64.wrap (IntKind.u64.wrap (n % 18446744073709551616 * 4096) + PL))
    rw [HC0.out] at this
    exact this
  have hmem1 : (m.set rd (IntKind.u64.wrap (IntKind.u64.wrap (n % 18446744073709551616 * 4096) + PL))).mem = m.mem := by unfold Ma.set; split <;> rfl
  have hpl1 : (m.set rd (IntKind.u64.wrap (IntKind.u64.wrap (n % 18446744073709551616 * 4096) + PL))).pl = m.pl := by unfold Ma.set; split <;> rfl
  have hsok := Ma.set_ok HH.out.ok rd hVr
  have hz5 : (mcs (m.set rd (IntKind.u64.wrap (IntKind.u64.wrap (n % 18446744073709551616 * 4096) + PL))) q).size = 36 := mcs_size hsok.1 q
  have ha5 := mcs_all (m.set rd (IntKind.u64.wrap (IntKind.u64.wrap (n % 18446744073709551616 * 4096) + PL))) q
  have hwkd : IntKind.i64.wrap (rd : Int) = rd := IntWalk.i64_in _ (by omega)
  generalize hm1 : m.set rd (IntKind.u64.wrap (IntKind.u64.wrap (n % 18446744073709551616 * 4096) + PL)) = m1 at *
  generalize hcs5 : mcs m1 q = cs5 at *
  have HM1 := Lib.hid hm1; have HC5 := Lib.hid hcs5; have HZ5 := Lib.hid hz5; have HSET := Lib.hid hset2; have HSOK := Lib.hid hsok; have HMEM1 := Lib.hid hmem1; have HPL := Lib.hid (hpl1.trans HPL0.out)
  clear hm1 hcs5 hz5 hset2 hsok hmem1 hpl1
  go_wp2_with (first
    | ((with_reducible refine ld36 w.heap.size cs0 ?_ ?_ HZ.out ?_); rfl; exact (sb3.out _).b0)
    | (with_reducible refine (HSET.out _).mono ?_)
    | fail)
  rintro e y2 ⟨rfl, hby2⟩
  have SB3 := Lib.hid (sb3.out (Obj.cells #[.int .i64 1, .int .i64 4, .int .i64 5, .int .i64 6, .int .i64 9, .int .i64 10, .int .i64 3, .int .i64 7, .int .i64 8, .int .i64 18] 86))
  clear sb2 sb3 xop' xop'' y33 xrd' y33'
  generalize hX4 : X.alloc (Obj.cells #[.int .i64 1, .int .i64 4, .int .i64 5, .int .i64 6, .int .i64 9, .int .i64 10, .int .i64 3, .int .i64 7, .int .i64 8, .int .i64 18] 86) = X4 at *
  clear hX4
  have SX : Hid (Sx w X4 base q m R A c (.slice oA on oc) (.slice sA sn sc) cs0 #[.slice A R.inp.length c, .slice oA on oc, .int .i64 R.checks, .slice sA sn sc]) := Lib.hid ⟨SB3.out.rows, HH.out.below SB3.out.below, Fw.below SB3.out.below, HC0.out, HH.out.lb⟩
  have xop : X4.cell? ⟨bi, 0, none⟩ = some (.int .i64 op) := by rw [cell_of_row _ _ 0 _ _ _ SB3.out.bx]; rfl
  have xrd : X4.cell? ⟨bi, 1, none⟩ = some (.int .i64 rd) := by rw [cell_of_row _ _ 1 _ _ _ SB3.out.bx]; rfl
  have HBB : Hid (Below X4.heap.size X4 y2) := Lib.hid hby2
  have SXY : Hid (Sx w y2 base q m R A c (.slice oA on oc) (.slice sA sn sc) cs0 #[.slice A R.inp.length c, .slice oA on oc, .int .i64 R.checks, .slice sA sn sc]) := Lib.hid ⟨SX.out.rows.fw (base := base) (q := q) (Fw.below HBB.out), SX.out.rd.below HBB.out, SX.out.fw.trans (Fw.below HBB.out), SX.out.mc, SX.out.lb⟩
  have SZ : Hid (Sx w (y2.setRow w.heap.size cs5) base q m1 R A c (.slice oA on oc) (.slice sA sn sc) cs5 #[.slice A R.inp.length c, .slice oA on oc, .int .i64 R.checks, .slice sA sn sc]) := Lib.hid (by
    have := SXY.out.ma (m' := m1) HMEM1.out HSOK.out
    rw [HC5.out] at this
    exact this)
  have hr0 := SXY.out.rows.b0
  have y33 : (y2.setRow w.heap.size cs5).cell? ⟨w.heap.size, 33, none⟩ = some (.int .u64 PL) := by rw [cell_of_row _ _ 33 _ _ _ SZ.out.rows.b0, ← SZ.out.mc]; exact (mcs_33 HSOK.out.1 q).trans (by rw [HPL.out])
  have fz : ∀ o, (y2.setRow w.heap.size cs5).frozen? ⟨w.heap.size, o, none⟩ = false := fun o => frozen_of_row _ _ _ _ _ SZ.out.rows.b0
  have xrd2 : y2.cell? ⟨bi, 1, none⟩ = some (.int .i64 rd) := (HBB.out.cell (p := ⟨bi, 1, none⟩) (lt_of_at SB3.out.bx)).trans xrd
  go_wp2_with (first
    | ((with_reducible refine st36 w.heap.size cs5 cs0 ?_ ?_ hr0 HZ.out HZ5.out ha5 ?_); rfl; rfl)
    | fail)
  clear hr0 xop xrd xrd2
  generalize y2.setRow w.heap.size cs5 = X5 at *
  have SY := Lib.hid (SZ.out.pl (IntKind.u64.wrap (PL + 4)) (u64w _))
  have hz1 : (mcs { m1 with pl := IntKind.u64.wrap (PL + 4) } q).size = 36 := mcs_size (m := { m1 with pl := IntKind.u64.wrap (PL + 4) }) HSOK.out.1 q
  have ha1 := mcs_all { m1 with pl := IntKind.u64.wrap (PL + 4) } q
  clear y33 fz
  generalize X5.setCell ⟨w.heap.size, 33, none⟩ (.int .u64 (IntKind.u64.wrap (PL + 4))) = Y0 at *
  generalize hcs1 : mcs { m1 with pl := IntKind.u64.wrap (PL + 4) } q = cs1 at *
  have HC1 := Lib.hid hcs1; have HZ1 := Lib.hid hz1
  clear hcs1 hz1
  obtain ⟨o3, z3, k3⟩ := SY.out.rows.b2
  obtain ⟨o4, z4, k4⟩ := SY.out.rows.b3
  have hlb := HH.out.lb
  refine tail33 w.heap.size cs1 #[.slice A R.inp.length c, .slice oA on oc, .int .i64 R.checks, .slice sA sn sc] o3 o4 true (fun _ _ _ _ _ h => h) (by kernel_rfl) (by kernel_rfl) (by kernel_rfl) (by kernel_rfl) (by kernel_rfl) (by kernel_rfl) (by kernel_rfl) (by kernel_rfl) SY.out.rows.b0 SY.out.rows.b1 k3 k4 HZ1.out rfl z3 z4 ha1 (by simp [Value.oneCell']) SY.out.rd SY.out.fw (by omega) ?_
  intro Y y1 y2' y3 y4
  simp only [Act.put, List.setIfInBounds_toArray, List.set_cons_zero, List.set_cons_succ]
  go_wp2_with fail
  exact bodyPost_ret (v := .tuple #[.agg cs1, .agg #[.slice A R.inp.length c, .slice oA on oc, .int .i64 R.checks, .slice sA sn sc], .bool true]) (res_cct Tryd.results23 _ _ _ _ _ _ _ rfl rfl rfl y1 HZ1.out y2' rfl) rfl ⟨{ m1 with pl := IntKind.u64.wrap (PL + 4) }, R, A, c, oA, on, oc, sA, sn, sc, true, by rw [if_pos rfl], fun hb => (by cases hb), by rw [HC1.out], y3, y4⟩
end Go.Proofs.YtppcbommaddkgaaDoor
namespace Go.Proofs.YtppcbommaddkgaaDoor
open Go.RowKit Go.Maps
set_option linter.unusedVariables false
set_option linter.unusedSimpArgs false
set_option maxRecDepth 10000
open Pm Pc Pl
set_option maxHeartbeats 3000000 in
theorem rstep_jal {m : Ma} {q base : Nat} {w : World} {R : Ru} {A : Option Addr} {c : Nat} {oA sA : Option Addr} {on oc sn sc : Nat} (h : Rd w base q m R A c (.slice oA on oc) (.slice sA sn sc)) (hb : hasB m.pl 4 m.mem.length = true) (op n : Int) (rd r1 r2 : Nat) (hop : op = 53) (hn : -9223372036854775808 ≤ n ∧ n < 9223372036854775808) (hd : rd < 32) (h1 : r1 < 32) (h2 : r2 < 32) (hdec : ∀ W : World, Calls Tryd.prog 29 #[.int .u32 (wordAt m)] W fun e w' => e = .returned (.tuple #[ins op rd r1 r2 n, .bool true]) ∧ Below W.heap.size W w') :
    Calls Tryd.prog 23 #[.agg (mcs m q), .agg #[.slice A R.inp.length c, .slice oA on oc, .int .i64 R.checks, .slice sA sn sc]] w (RTo w base q m R (some ({ m.set rd (IntKind.u64.wrap (m.pl + 4)) with pl := IntKind.u64.wrap (m.pl + n % 18446744073709551616) }, R))) := by
  have HOP := Lib.hid hop
  clear hop
  have hz := mcs_size h.ok.1 q
  have ha := mcs_all m q
  have c33 := mcs_33 h.ok.1 q
  have hp := fun W => rplace_any (q := q) (w := W) h.ok.1 h.ok.2.1 m.pl 4 h.ok.2.2.2.2.1 (Or.inr (Or.inl rfl))
  have HH := Lib.hid h
  generalize hcs0 : mcs m q = cs0 at *
  have w33 : ∀ Z, ((w.alloc (Obj.cells cs0 34)).alloc Z).cell? ⟨w.heap.size, 33, none⟩ = some (.int .u64 m.pl) := fun Z => by rw [cell_of_row _ _ 33 _ _ _ (aa0 _ _ _)]; exact c33
  rw [hb] at hp
  have hfit : m.pl + 4 ≤ m.mem.length := by unfold hasB at hb; exact (of_decide_eq_true hb).2
  have hbyte : ∀ i : Nat, 0 ≤ m.mem.getD i 0 ∧ m.mem.getD i 0 < 256 := fun i => by
    by_cases hi : i < m.mem.length
    · have e : m.mem.getD i 0 = m.mem[i] := by simp [List.getD, hi]
      rw [e]; exact h.ok.2.2.2.1 _ (List.getElem_mem hi)
    · have e : m.mem.getD i 0 = 0 := by simp [List.getD, List.getElem?_eq_none (Nat.le_of_not_lt hi)]
      rw [e]; omega
  have hpl0 := h.ok.2.2.2.2.1.1
  have HG : Hid (∀ W : World, W.heap[q]? = some (.cells (u8s m.mem).toArray 5) → Calls Tryd.prog 30 #[.agg cs0, .int .u64 m.pl, .int .i64 4] W fun e w' => e = .returned (.int .u64 (wordAt m)) ∧ Below W.heap.size W w') := Lib.hid fun W hW => by
    have := rget_any (q := q) (w := W) h.ok.1 h.ok.2.1 hbyte m.pl.toNat 4 (by omega) (by omega) hW
    rw [hcs0, Int.toNat_of_nonneg hpl0] at this
    exact this
  have hwr := getV_range m.mem hbyte 4 m.pl.toNat
  have hwd : 0 ≤ wordAt m ∧ wordAt m < 4294967296 := ⟨hwr.1, Int.lt_of_lt_of_le hwr.2 (by decide)⟩
  have hwrap : IntKind.u32.wrap (wordAt m) = wordAt m := by simp [IntKind.wrap, IntKind.bits, IntKind.signed]; omega
  have HDEC := Lib.hid hdec
  clear hdec hfit hbyte hwr hpl0
  generalize wordAt m = WD at *
  have HP := Lib.hid hp; have HZ := Lib.hid hz; have HC0 := Lib.hid hcs0
  have C33 := Lib.hid c33
  clear h hp hz hcs0 c33 hb
  generalize hPLm : m.pl = PL at *
  have HPL0 := Lib.hid hPLm
  clear hPLm
  have hlb := HH.out.lb
  go_enter Tryd.func23, Tryd.ntmps23
  go_wp2_with (first
    | ((with_reducible refine ld36 w.heap.size cs0 ?_ ?_ HZ.out ?_); rfl; exact a4_0 _ _ _ _ _)
    | fail)
  generalize hX : ((((w.alloc _).alloc _).alloc _).alloc _) = X
  have hb4 : Below w.heap.size w X := by rw [← hX]; exact bw_alloc (bw_alloc (bw_alloc (bw_alloc (Below.refl w.heap.size w) _) _) _) _
  have k0 : X.heap[w.heap.size]? = some (.cells cs0 34) := by rw [← hX]; exact a4_0 _ _ _ _ _
  have k1 : X.heap[w.heap.size + 1]? = some (.cells #[.slice A R.inp.length c, .slice oA on oc, .int .i64 R.checks, .slice sA sn sc] 71) := by rw [← hX]; exact a4_1 _ _ _ _ _
  have k2 : ∃ old : Array Value, old.size = 36 ∧ X.heap[w.heap.size + 2]? = some (.cells old 34) := by rw [← hX]; exact ⟨_, rfl, a4_2 _ _ _ _ _⟩
  have k3 : ∃ old : Array Value, old.size = 4 ∧ X.heap[w.heap.size + 3]? = some (.cells old 71) := by rw [← hX]; exact ⟨_, rfl, a4_3 _ _ _ _ _⟩
  clear hX w33
  with_reducible refine (HP.out X).mono ?_
  rintro e X1 ⟨rfl, bp⟩
  have hb5 := hb4.trans (bp.mono hb4.size)
  obtain ⟨o3, z3, k2⟩ := k2
  obtain ⟨o4, z4, k3⟩ := k3
  have K0 := Lib.hid (row_at bp (lt_of_at k0) k0); have K1 := Lib.hid (row_at bp (lt_of_at k1) k1); have K2 := Lib.hid (row_at bp (lt_of_at k2) k2); have K3 := Lib.hid (row_at bp (lt_of_at k3) k3); have HB5 := Lib.hid hb5
  clear k0 k1 k2 k3 bp hb4 hb5
  have c33' : cs0[33]? = some (.int .u64 PL) := C33.out
  have x33 : X1.cell? ⟨w.heap.size, 33, none⟩ = some (.int .u64 PL) := by rw [cell_of_row _ _ 33 _ _ _ K0.out]; exact c33'
  clear c33'
  go_wp2_with (first
    | ((with_reducible refine ld36 w.heap.size cs0 ?_ ?_ HZ.out ?_); rfl; exact K0.out)
    | fail)
  refine (HG.out X1 ((HB5.out.block q (lt_of_at HH.out.mem)).trans HH.out.mem)).mono ?_
  rintro e X2 ⟨rfl, b2⟩
  go_wp2_with fail
  with_reducible refine (HDEC.out X2).mono ?_
  rintro e X3 ⟨rfl, b3⟩
  have bX3 : Below X1.heap.size X1 X3 := b2.trans (b3.mono b2.size)
  have hX3 := HB5.out.size
  have hX4 := lt_of_at K3.out
  have hX5 := bX3.size
  have sb : Sb w (X3.alloc (Obj.cells #[.int .i64 op, .int .i64 rd, .int .i64 r1, .int .i64 r2, .int .i64 n] 49)) cs0 #[.slice A R.inp.length c, .slice oA on oc, .int .i64 R.checks, .slice sA sn sc] X3.heap.size op rd r1 r2 n := by
    have hbb := bX3.trans ((bw_alloc (Below.refl X3.heap.size X3) (Obj.cells #[.int .i64 op, .int .i64 rd, .int .i64 r1, .int .i64 r2, .int .i64 n] 49)).mono bX3.size)
    exact ⟨row_at hbb (lt_of_at K0.out) K0.out, row_at hbb (lt_of_at K1.out) K1.out, ⟨o3, z3, row_at hbb (lt_of_at K2.out) K2.out⟩, ⟨o4, z4, row_at hbb (lt_of_at K3.out) K3.out⟩, heap_alloc_new _ _, by omega, HB5.out.trans (hbb.mono HB5.out.size)⟩
  have HI : Hid (∀ k : Nat, ∀ W : World, Calls Tryd.prog 31 #[.int .i64 n] (W.drewN k) fun e w' => e = .returned (.int .u64 (n % 18446744073709551616)) ∧ W.drewN k = w') := Lib.hid fun k W => rimm_any n _ hn
  have X1c := mcs_x HH.out.ok.1 q h1
  have X2c := mcs_x HH.out.ok.1 q h2
  have hr1 := reg_range HH.out.ok r1
  have hr2 := reg_range HH.out.ok r2
  rw [HC0.out] at X1c X2c
  have hwk1 : IntKind.i64.wrap (r1 : Int) = r1 := IntWalk.i64_in _ (by omega)
  have hwk2 : IntKind.i64.wrap (r2 : Int) = r2 := IntWalk.i64_in _ (by omega)
  unfold Ma.reg at hr1 hr2
  generalize hv1 : m.x.getD r1 0 = v1 at *
  generalize hv2 : m.x.getD r2 0 = v2 at *
  have HV1 := Lib.hid hv1; have HV2 := Lib.hid hv2
  have y1 : ∀ k, (World.drewN (X3.alloc (Obj.cells #[.int .i64 op, .int .i64 rd, .int .i64 r1, .int .i64 r2, .int .i64 n] 49)) k).cell? ⟨w.heap.size, 1 + r1, none⟩ = some (.int .u64 v1) := fun k => by rw [cell_of_row _ _ (1 + r1) _ _ _ (show (World.drewN (X3.alloc (Obj.cells #[.int .i64 op, .int .i64 rd, .int .i64 r1, .int .i64 r2, .int .i64 n] 49)) k).heap[w.heap.size]? = _ from sb.b0)]; exact X1c
  have y2 : ∀ k, (World.drewN (X3.alloc (Obj.cells #[.int .i64 op, .int .i64 rd, .int .i64 r1, .int .i64 r2, .int .i64 n] 49)) k).cell? ⟨w.heap.size, 1 + r2, none⟩ = some (.int .u64 v2) := fun k => by rw [cell_of_row _ _ (1 + r2) _ _ _ (show (World.drewN (X3.alloc (Obj.cells #[.int .i64 op, .int .i64 rd, .int .i64 r1, .int .i64 r2, .int .i64 n] 49)) k).heap[w.heap.size]? = _ from sb.b0)]; exact X2c
  have y33 : ∀ k, (World.drewN (X3.alloc (Obj.cells #[.int .i64 op, .int .i64 rd, .int .i64 r1, .int .i64 r2, .int .i64 n] 49)) k).cell? ⟨w.heap.size, 33, none⟩ = some (.int .u64 PL) := fun k => by rw [cell_of_row _ _ 33 _ _ _ (show (World.drewN (X3.alloc (Obj.cells #[.int .i64 op, .int .i64 rd, .int .i64 r1, .int .i64 r2, .int .i64 n] 49)) k).heap[w.heap.size]? = _ from sb.b0)]; exact C33.out
  have SB := Lib.hid sb
  clear sb b2 b3 bX3 X1c X2c hv1 hv2 K0 K1 K2 K3 x33 HG HDEC hwrap
  go_wp2_with fail
  go_quiet (with_reducible refine (HI.out _ _).mono ?_; rintro e w9 ⟨rfl, rfl⟩; exact ⟨rfl, _, rfl⟩)
  have d27 : decide (op ≤ 27) = false := by have hop := HOP.out; simp; omega
  have d37 : decide (op ≤ 37) = false := by have hop := HOP.out; simp; omega
  have d44 : decide (op ≤ 44) = false := by have hop := HOP.out; simp; omega
  have d50 : decide (op ≤ 50) = false := by have hop := HOP.out; simp; omega
  have e51 : decide (op = 51) = false := by have hop := HOP.out; simp; omega
  have b51 : (op == 51) = false := by have hop := HOP.out; simp; omega
  have e52 : decide (op = 52) = false := by have hop := HOP.out; simp; omega
  have b52 : (op == 52) = false := by have hop := HOP.out; simp; omega
  have e53 : decide (op = 53) = true := by have hop := HOP.out; simp; omega
  have b53 : (op == 53) = true := by have hop := HOP.out; simp; omega
  have sb2 := SB.out.grow (X' := World.drewN (X3.alloc (Obj.cells #[.int .i64 op, .int .i64 rd, .int .i64 r1, .int .i64 r2, .int .i64 n] 49)) nq) ⟨rfl, rfl, rfl, Nat.le_refl _, fun _ _ => rfl⟩
  replace y33 := y33 nq
  clear SB y1 y2 HI
  generalize hbi : X3.heap.size = bi at *
  generalize hX : World.drewN (X3.alloc (Obj.cells #[.int .i64 op, .int .i64 rd, .int .i64 r1, .int .i64 r2, .int .i64 n] 49)) nq = X at *
  clear hX
  have sb3 := Lib.hid (fun Z => sb2.grow (bw_alloc (Below.refl _ _) Z))
  have xop' : ∀ Z, (X.alloc Z).cell? ⟨bi, 0, none⟩ = some (.int .i64 op) := fun Z => by rw [cell_of_row _ _ 0 _ _ _ ((Below.heap_alloc _ _ _ (lt_of_at sb2.bx)).trans sb2.bx)]; rfl
  have xop'' : X.cell? ⟨bi, 0, none⟩ = some (.int .i64 op) := by rw [cell_of_row _ _ 0 _ _ _ sb2.bx]; rfl
  have xrd' : ∀ Z, (X.alloc Z).cell? ⟨bi, 1, none⟩ = some (.int .i64 rd) := fun Z => by rw [cell_of_row _ _ 1 _ _ _ ((Below.heap_alloc _ _ _ (lt_of_at sb2.bx)).trans sb2.bx)]; rfl
  have y33' : ∀ Z, (X.alloc Z).cell? ⟨w.heap.size, 33, none⟩ = some (.int .u64 PL) := fun Z => by rw [cell_of_row _ _ 33 _ _ _ (sb3.out Z).b0]; exact C33.out
  have hVr := u64w (PL + 4)
  have hset2 : ∀ W : World, Calls Tryd.prog 32 #[.agg cs0, .int .i64 rd, .int .u64 (IntKind.u64.wrap (PL + 4))] W fun e w' => e = .returned (.agg (mcs (m.set rd (IntKind.u64.wrap (PL + 4))) q)) ∧ Below W.heap.size W w' := fun W => by
    have := rset_any (m := m) (q := q) (w := W) HH.out.ok.1 rd hd (IntKind.u64.wrap (PL + 4))
    rw [HC0.out] at this
    exact this
  have hmem1 : (m.set rd (IntKind.u64.wrap (PL + 4))).mem = m.mem := by unfold Ma.set; split <;> rfl
  have hpl1 : (m.set rd (IntKind.u64.wrap (PL + 4))).pl = m.pl := by unfold Ma.set; split <;> rfl
  have hsok := Ma.set_ok HH.out.ok rd hVr
  have hz5 : (mcs (m.set rd (IntKind.u64.wrap (PL + 4))) q).size = 36 := mcs_size hsok.1 q
  have ha5 := mcs_all (m.set rd (IntKind.u64.wrap (PL + 4))) q
  have hwkd : IntKind.i64.wrap (rd : Int) = rd := IntWalk.i64_in _ (by omega)
  generalize hm1 : m.set rd (IntKind.u64.wrap (PL + 4)) = m1 at *
  generalize hcs5 : mcs m1 q = cs5 at *
  have HM1 := Lib.hid hm1; have HC5 := Lib.hid hcs5; have HZ5 := Lib.hid hz5; have HSET := Lib.hid hset2; have HSOK := Lib.hid hsok; have HMEM1 := Lib.hid hmem1; have HPL := Lib.hid (hpl1.trans HPL0.out)
  clear hm1 hcs5 hz5 hset2 hsok hmem1 hpl1
  go_wp2_with (first
    | ((with_reducible refine ld36 w.heap.size cs0 ?_ ?_ HZ.out ?_); rfl; exact (sb3.out _).b0)
    | (with_reducible refine (HSET.out _).mono ?_)
    | fail)
  rintro e y2 ⟨rfl, hby2⟩
  have SB3 := Lib.hid (sb3.out (Obj.cells #[.int .i64 1, .int .i64 4, .int .i64 5, .int .i64 6, .int .i64 9, .int .i64 10, .int .i64 3, .int .i64 7, .int .i64 8, .int .i64 18] 86))
  clear sb2 sb3 xop' xop'' y33 xrd' y33'
  generalize hX4 : X.alloc (Obj.cells #[.int .i64 1, .int .i64 4, .int .i64 5, .int .i64 6, .int .i64 9, .int .i64 10, .int .i64 3, .int .i64 7, .int .i64 8, .int .i64 18] 86) = X4 at *
  clear hX4
  have SX : Hid (Sx w X4 base q m R A c (.slice oA on oc) (.slice sA sn sc) cs0 #[.slice A R.inp.length c, .slice oA on oc, .int .i64 R.checks, .slice sA sn sc]) := Lib.hid ⟨SB3.out.rows, HH.out.below SB3.out.below, Fw.below SB3.out.below, HC0.out, HH.out.lb⟩
  have xop : X4.cell? ⟨bi, 0, none⟩ = some (.int .i64 op) := by rw [cell_of_row _ _ 0 _ _ _ SB3.out.bx]; rfl
  have xrd : X4.cell? ⟨bi, 1, none⟩ = some (.int .i64 rd) := by rw [cell_of_row _ _ 1 _ _ _ SB3.out.bx]; rfl
  have HBB : Hid (Below X4.heap.size X4 y2) := Lib.hid hby2
  have SXY : Hid (Sx w y2 base q m R A c (.slice oA on oc) (.slice sA sn sc) cs0 #[.slice A R.inp.length c, .slice oA on oc, .int .i64 R.checks, .slice sA sn sc]) := Lib.hid ⟨SX.out.rows.fw (base := base) (q := q) (Fw.below HBB.out), SX.out.rd.below HBB.out, SX.out.fw.trans (Fw.below HBB.out), SX.out.mc, SX.out.lb⟩
  have SZ : Hid (Sx w (y2.setRow w.heap.size cs5) base q m1 R A c (.slice oA on oc) (.slice sA sn sc) cs5 #[.slice A R.inp.length c, .slice oA on oc, .int .i64 R.checks, .slice sA sn sc]) := Lib.hid (by
    have := SXY.out.ma (m' := m1) HMEM1.out HSOK.out
    rw [HC5.out] at this
    exact this)
  have hr0 := SXY.out.rows.b0
  have y33 : (y2.setRow w.heap.size cs5).cell? ⟨w.heap.size, 33, none⟩ = some (.int .u64 PL) := by rw [cell_of_row _ _ 33 _ _ _ SZ.out.rows.b0, ← SZ.out.mc]; exact (mcs_33 HSOK.out.1 q).trans (by rw [HPL.out])
  have fz : ∀ o, (y2.setRow w.heap.size cs5).frozen? ⟨w.heap.size, o, none⟩ = false := fun o => frozen_of_row _ _ _ _ _ SZ.out.rows.b0
  have xrd2 : y2.cell? ⟨bi, 1, none⟩ = some (.int .i64 rd) := (HBB.out.cell (p := ⟨bi, 1, none⟩) (lt_of_at SB3.out.bx)).trans xrd
  go_wp2_with (first
    | ((with_reducible refine st36 w.heap.size cs5 cs0 ?_ ?_ hr0 HZ.out HZ5.out ha5 ?_); rfl; rfl)
    | fail)
  clear hr0 xop xrd xrd2
  generalize y2.setRow w.heap.size cs5 = X5 at *
  have SY := Lib.hid (SZ.out.pl (IntKind.u64.wrap (PL + n % 18446744073709551616)) (u64w _))
  have hz1 : (mcs { m1 with pl := IntKind.u64.wrap (PL + n % 18446744073709551616) } q).size = 36 := mcs_size (m := { m1 with pl := IntKind.u64.wrap (PL + n % 18446744073709551616) }) HSOK.out.1 q
  have ha1 := mcs_all { m1 with pl := IntKind.u64.wrap (PL + n % 18446744073709551616) } q
  clear y33 fz
  generalize X5.setCell ⟨w.heap.size, 33, none⟩ (.int .u64 (IntKind.u64.wrap (PL + n % 18446744073709551616))) = Y0 at *
  generalize hcs1 : mcs { m1 with pl := IntKind.u64.wrap (PL + n % 18446744073709551616) } q = cs1 at *
  have HC1 := Lib.hid hcs1; have HZ1 := Lib.hid hz1
  clear hcs1 hz1
  obtain ⟨o3, z3, k3⟩ := SY.out.rows.b2
  obtain ⟨o4, z4, k4⟩ := SY.out.rows.b3
  have hlb := HH.out.lb
  refine tail33 w.heap.size cs1 #[.slice A R.inp.length c, .slice oA on oc, .int .i64 R.checks, .slice sA sn sc] o3 o4 true (fun _ _ _ _ _ h => h) (by kernel_rfl) (by kernel_rfl) (by kernel_rfl) (by kernel_rfl) (by kernel_rfl) (by kernel_rfl) (by kernel_rfl) (by kernel_rfl) SY.out.rows.b0 SY.out.rows.b1 k3 k4 HZ1.out rfl z3 z4 ha1 (by simp [Value.oneCell']) SY.out.rd SY.out.fw (by omega) ?_
  intro Y y1 y2' y3 y4
  simp only [Act.put, List.setIfInBounds_toArray, List.set_cons_zero, List.set_cons_succ]
  go_wp2_with fail
  exact bodyPost_ret (v := .tuple #[.agg cs1, .agg #[.slice A R.inp.length c, .slice oA on oc, .int .i64 R.checks, .slice sA sn sc], .bool true]) (res_cct Tryd.results23 _ _ _ _ _ _ _ rfl rfl rfl y1 HZ1.out y2' rfl) rfl ⟨{ m1 with pl := IntKind.u64.wrap (PL + n % 18446744073709551616) }, R, A, c, oA, on, oc, sA, sn, sc, true, by rw [if_pos rfl], fun hb => (by cases hb), by rw [HC1.out], y3, y4⟩
set_option maxHeartbeats 3000000 in
theorem rstep_jalr {m : Ma} {q base : Nat} {w : World} {R : Ru} {A : Option Addr} {c : Nat} {oA sA : Option Addr} {on oc sn sc : Nat} (h : Rd w base q m R A c (.slice oA on oc) (.slice sA sn sc)) (hb : hasB m.pl 4 m.mem.length = true) (op n : Int) (rd r1 r2 : Nat) (hop : op = 54) (hn : -9223372036854775808 ≤ n ∧ n < 9223372036854775808) (hd : rd < 32) (h1 : r1 < 32) (h2 : r2 < 32) (hdec : ∀ W : World, Calls Tryd.prog 29 #[.int .u32 (wordAt m)] W fun e w' => e = .returned (.tuple #[ins op rd r1 r2 n, .bool true]) ∧ Below W.heap.size W w') :
    Calls Tryd.prog 23 #[.agg (mcs m q), .agg #[.slice A R.inp.length c, .slice oA on oc, .int .i64 R.checks, .slice sA sn sc]] w (RTo w base q m R (some ({ m.set rd (IntKind.u64.wrap (m.pl + 4)) with pl := IntKind.u64.wrap (IntKind.u64.wrap ((IntKind.u64.wrap ((m.x.getD r1 0) + n % 18446744073709551616)).tdiv 2) * 2) }, R))) := by
  have HOP := Lib.hid hop
  clear hop
  have hz := mcs_size h.ok.1 q
  have ha := mcs_all m q
  have c33 := mcs_33 h.ok.1 q
  have hp := fun W => rplace_any (q := q) (w := W) h.ok.1 h.ok.2.1 m.pl 4 h.ok.2.2.2.2.1 (Or.inr (Or.inl rfl))
  have HH := Lib.hid h
  generalize hcs0 : mcs m q = cs0 at *
  have w33 : ∀ Z, ((w.alloc (Obj.cells cs0 34)).alloc Z).cell? ⟨w.heap.size, 33, none⟩ = some (.int .u64 m.pl) := fun Z => by rw [cell_of_row _ _ 33 _ _ _ (aa0 _ _ _)]; exact c33
  rw [hb] at hp
  have hfit : m.pl + 4 ≤ m.mem.length := by unfold hasB at hb; exact (of_decide_eq_true hb).2
  have hbyte : ∀ i : Nat, 0 ≤ m.mem.getD i 0 ∧ m.mem.getD i 0 < 256 := fun i => by
    by_cases hi : i < m.mem.length
    · have e : m.mem.getD i 0 = m.mem[i] := by simp [List.getD, hi]
      rw [e]; exact h.ok.2.2.2.1 _ (List.getElem_mem hi)
    · have e : m.mem.getD i 0 = 0 := by simp [List.getD, List.getElem?_eq_none (Nat.le_of_not_lt hi)]
      rw [e]; omega
  have hpl0 := h.ok.2.2.2.2.1.1
  have HG : Hid (∀ W : World, W.heap[q]? = some (.cells (u8s m.mem).toArray 5) → Calls Tryd.prog 30 #[.agg cs0, .int .u64 m.pl, .int .i64 4] W fun e w' => e = .returned (.int .u64 (wordAt m)) ∧ Below W.heap.size W w') := Lib.hid fun W hW => by
    have := rget_any (q := q) (w := W) h.ok.1 h.ok.2.1 hbyte m.pl.toNat 4 (by omega) (by omega) hW
    rw [hcs0, Int.toNat_of_nonneg hpl0] at this
    exact this
  have hwr := getV_range m.mem hbyte 4 m.pl.toNat
  have hwd : 0 ≤ wordAt m ∧ wordAt m < 4294967296 := ⟨hwr.1, Int.lt_of_lt_of_le hwr.2 (by decide)⟩
  have hwrap : IntKind.u32.wrap (wordAt m) = wordAt m := by simp [IntKind.wrap, IntKind.bits, IntKind.signed]; omega
  have HDEC := Lib.hid hdec
  clear hdec hfit hbyte hwr hpl0
  generalize wordAt m = WD at *
  have HP := Lib.hid hp; have HZ := Lib.hid hz; have HC0 := Lib.hid hcs0
  have C33 := Lib.hid c33
  clear h hp hz hcs0 c33 hb
  generalize hPLm : m.pl = PL at *
  have HPL0 := Lib.hid hPLm
  clear hPLm
  have hlb := HH.out.lb
  go_enter Tryd.func23, Tryd.ntmps23
  go_wp2_with (first
    | ((with_reducible refine ld36 w.heap.size cs0 ?_ ?_ HZ.out ?_); rfl; exact a4_0 _ _ _ _ _)
    | fail)
  generalize hX : ((((w.alloc _).alloc _).alloc _).alloc _) = X
  have hb4 : Below w.heap.size w X := by rw [← hX]; exact bw_alloc (bw_alloc (bw_alloc (bw_alloc (Below.refl w.heap.size w) _) _) _) _
  have k0 : X.heap[w.heap.size]? = some (.cells cs0 34) := by rw [← hX]; exact a4_0 _ _ _ _ _
  have k1 : X.heap[w.heap.size + 1]? = some (.cells #[.slice A R.inp.length c, .slice oA on oc, .int .i64 R.checks, .slice sA sn sc] 71) := by rw [← hX]; exact a4_1 _ _ _ _ _
  have k2 : ∃ old : Array Value, old.size = 36 ∧ X.heap[w.heap.size + 2]? = some (.cells old 34) := by rw [← hX]; exact ⟨_, rfl, a4_2 _ _ _ _ _⟩
  have k3 : ∃ old : Array Value, old.size = 4 ∧ X.heap[w.heap.size + 3]? = some (.cells old 71) := by rw [← hX]; exact ⟨_, rfl, a4_3 _ _ _ _ _⟩
  clear hX w33
  with_reducible refine (HP.out X).mono ?_
  rintro e X1 ⟨rfl, bp⟩
  have hb5 := hb4.trans (bp.mono hb4.size)
  obtain ⟨o3, z3, k2⟩ := k2
  obtain ⟨o4, z4, k3⟩ := k3
  have K0 := Lib.hid (row_at bp (lt_of_at k0) k0); have K1 := Lib.hid (row_at bp (lt_of_at k1) k1); have K2 := Lib.hid (row_at bp (lt_of_at k2) k2); have K3 := Lib.hid (row_at bp (lt_of_at k3) k3); have HB5 := Lib.hid hb5
  clear k0 k1 k2 k3 bp hb4 hb5
  have c33' : cs0[33]? = some (.int .u64 PL) := C33.out
  have x33 : X1.cell? ⟨w.heap.size, 33, none⟩ = some (.int .u64 PL) := by rw [cell_of_row _ _ 33 _ _ _ K0.out]; exact c33'
  clear c33'
  go_wp2_with (first
    | ((with_reducible refine ld36 w.heap.size cs0 ?_ ?_ HZ.out ?_); rfl; exact K0.out)
    | fail)
  refine (HG.out X1 ((HB5.out.block q (lt_of_at HH.out.mem)).trans HH.out.mem)).mono ?_
  rintro e X2 ⟨rfl, b2⟩
  go_wp2_with fail
  with_reducible refine (HDEC.out X2).mono ?_
  rintro e X3 ⟨rfl, b3⟩
  have bX3 : Below X1.heap.size X1 X3 := b2.trans (b3.mono b2.size)
  have hX3 := HB5.out.size
  have hX4 := lt_of_at K3.out
  have hX5 := bX3.size
  have sb : Sb w (X3.alloc (Obj.cells #[.int .i64 op, .int .i64 rd, .int .i64 r1, .int .i64 r2, .int .i64 n] 49)) cs0 #[.slice A R.inp.length c, .slice oA on oc, .int .i64 R.checks, .slice sA sn sc] X3.heap.size op rd r1 r2 n := by
    have hbb := bX3.trans ((bw_alloc (Below.refl X3.heap.size X3) (Obj.cells #[.int .i64 op, .int .i64 rd, .int .i64 r1, .int .i64 r2, .int .i64 n] 49)).mono bX3.size)
    exact ⟨row_at hbb (lt_of_at K0.out) K0.out, row_at hbb (lt_of_at K1.out) K1.out, ⟨o3, z3, row_at hbb (lt_of_at K2.out) K2.out⟩, ⟨o4, z4, row_at hbb (lt_of_at K3.out) K3.out⟩, heap_alloc_new _ _, by omega, HB5.out.trans (hbb.mono HB5.out.size)⟩
  have HI : Hid (∀ k : Nat, ∀ W : World, Calls Tryd.prog 31 #[.int .i64 n] (W.drewN k) fun e w' => e = .returned (.int .u64 (n % 18446744073709551616)) ∧ W.drewN k = w') := Lib.hid fun k W => rimm_any n _ hn
  have X1c := mcs_x HH.out.ok.1 q h1
  have X2c := mcs_x HH.out.ok.1 q h2
  have hr1 := reg_range HH.out.ok r1
  have hr2 := reg_range HH.out.ok r2
  rw [HC0.out] at X1c X2c
  have hwk1 : IntKind.i64.wrap (r1 : Int) = r1 := IntWalk.i64_in _ (by omega)
  have hwk2 : IntKind.i64.wrap (r2 : Int) = r2 := IntWalk.i64_in _ (by omega)
  unfold Ma.reg at hr1 hr2
  generalize hv1 : m.x.getD r1 0 = v1 at *
  generalize hv2 : m.x.getD r2 0 = v2 at *
  have HV1 := Lib.hid hv1; have HV2 := Lib.hid hv2
  have y1 : ∀ k, (World.drewN (X3.alloc (Obj.cells #[.int .i64 op, .int .i64 rd, .int .i64 r1, .int .i64 r2, .int .i64 n] 49)) k).cell? ⟨w.heap.size, 1 + r1, none⟩ = some (.int .u64 v1) := fun k => by rw [cell_of_row _ _ (1 + r1) _ _ _ (show (World.drewN (X3.alloc (Obj.cells #[.int .i64 op, .int .i64 rd, .int .i64 r1, .int .i64 r2, .int .i64 n] 49)) k).heap[w.heap.size]? = _ from sb.b0)]; exact X1c
  have y2 : ∀ k, (World.drewN (X3.alloc (Obj.cells #[.int .i64 op, .int .i64 rd, .int .i64 r1, .int .i64 r2, .int .i64 n] 49)) k).cell? ⟨w.heap.size, 1 + r2, none⟩ = some (.int .u64 v2) := fun k => by rw [cell_of_row _ _ (1 + r2) _ _ _ (show (World.drewN (X3.alloc (Obj.cells #[.int .i64 op, .int .i64 rd, .int .i64 r1, .int .i64 r2, .int .i64 n] 49)) k).heap[w.heap.size]? = _ from sb.b0)]; exact X2c
  have y33 : ∀ k, (World.drewN (X3.alloc (Obj.cells #[.int .i64 op, .int .i64 rd, .int .i64 r1, .int .i64 r2, .int .i64 n] 49)) k).cell? ⟨w.heap.size, 33, none⟩ = some (.int .u64 PL) := fun k => by rw [cell_of_row _ _ 33 _ _ _ (show (World.drewN (X3.alloc (Obj.cells #[.int .i64 op, .int .i64 rd, .int .i64 r1, .int .i64 r2, .int .i64 n] 49)) k).heap[w.heap.size]? = _ from sb.b0)]; exact C33.out
  have SB := Lib.hid sb
  clear sb b2 b3 bX3 X1c X2c hv1 hv2 K0 K1 K2 K3 x33 HG HDEC hwrap
  go_wp2_with fail
  go_quiet (with_reducible refine (HI.out _ _).mono ?_; rintro e w9 ⟨rfl, rfl⟩; exact ⟨rfl, _, rfl⟩)
  have d27 : decide (op ≤ 27) = false := by have hop := HOP.out; simp; omega
  have d37 : decide (op ≤ 37) = false := by have hop := HOP.out; simp; omega
  have d44 : decide (op ≤ 44) = false := by have hop := HOP.out; simp; omega
  have d50 : decide (op ≤ 50) = false := by have hop := HOP.out; simp; omega
  have e51 : decide (op = 51) = false := by have hop := HOP.out; simp; omega
  have b51 : (op == 51) = false := by have hop := HOP.out; simp; omega
  have e52 : decide (op = 52) = false := by have hop := HOP.out; simp; omega
  have b52 : (op == 52) = false := by have hop := HOP.out; simp; omega
  have e53 : decide (op = 53) = false := by have hop := HOP.out; simp; omega
  have b53 : (op == 53) = false := by have hop := HOP.out; simp; omega
  have e54 : decide (op = 54) = true := by have hop := HOP.out; simp; omega
  have b54 : (op == 54) = true := by have hop := HOP.out; simp; omega
  have sb2 := SB.out.grow (X' := World.drewN (X3.alloc (Obj.cells #[.int .i64 op, .int .i64 rd, .int .i64 r1, .int .i64 r2, .int .i64 n] 49)) nq) ⟨rfl, rfl, rfl, Nat.le_refl _, fun _ _ => rfl⟩
  replace y33 := y33 nq
  clear SB y1 y2 HI
  generalize hbi : X3.heap.size = bi at *
  generalize hX : World.drewN (X3.alloc (Obj.cells #[.int .i64 op, .int .i64 rd, .int .i64 r1, .int .i64 r2, .int .i64 n] 49)) nq = X at *
  clear hX
  have sb3 := Lib.hid (fun Z => sb2.grow (bw_alloc (Below.refl _ _) Z))
  have xop' : ∀ Z, (X.alloc Z).cell? ⟨bi, 0, none⟩ = some (.int .i64 op) := fun Z => by rw [cell_of_row _ _ 0 _ _ _ ((Below.heap_alloc _ _ _ (lt_of_at sb2.bx)).trans sb2.bx)]; rfl
  have xop'' : X.cell? ⟨bi, 0, none⟩ = some (.int .i64 op) := by rw [cell_of_row _ _ 0 _ _ _ sb2.bx]; rfl
  have xrd' : ∀ Z, (X.alloc Z).cell? ⟨bi, 1, none⟩ = some (.int .i64 rd) := fun Z => by rw [cell_of_row _ _ 1 _ _ _ ((Below.heap_alloc _ _ _ (lt_of_at sb2.bx)).trans sb2.bx)]; rfl
  have y33' : ∀ Z, (X.alloc Z).cell? ⟨w.heap.size, 33, none⟩ = some (.int .u64 PL) := fun Z => by rw [cell_of_row _ _ 33 _ _ _ (sb3.out Z).b0]; exact C33.out
  have hVr := u64w (PL + 4)
  have hset2 : ∀ W : World, Calls Tryd.prog 32 #[.agg cs0, .int .i64 rd, .int .u64 (IntKind.u64.wrap (PL + 4))] W fun e w' => e = .returned (.agg (mcs (m.set rd (IntKind.u64.wrap (PL + 4))) q)) ∧ Below W.heap.size W w' := fun W => by
    have := rset_any (m := m) (q := q) (w := W) HH.out.ok.1 rd hd (IntKind.u64.wrap (PL + 4))
    rw [HC0.out] at this
    exact this
  have hmem1 : (m.set rd (IntKind.u64.wrap (PL + 4))).mem = m.mem := by unfold Ma.set; split <;> rfl
  have hpl1 : (m.set rd (IntKind.u64.wrap (PL + 4))).pl = m.pl := by unfold Ma.set; split <;> rfl
  have hsok := Ma.set_ok HH.out.ok rd hVr
  have hz5 : (mcs (m.set rd (IntKind.u64.wrap (PL + 4))) q).size = 36 := mcs_size hsok.1 q
  have ha5 := mcs_all (m.set rd (IntKind.u64.wrap (PL + 4))) q
  have hwkd : IntKind.i64.wrap (rd : Int) = rd := IntWalk.i64_in _ (by omega)
  generalize hm1 : m.set rd (IntKind.u64.wrap (PL + 4)) = m1 at *
  generalize hcs5 : mcs m1 q = cs5 at *
  have HM1 := Lib.hid hm1; have HC5 := Lib.hid hcs5; have HZ5 := Lib.hid hz5; have HSET := Lib.hid hset2; have HSOK := Lib.hid hsok; have HMEM1 := Lib.hid hmem1; have HPL := Lib.hid (hpl1.trans HPL0.out)
  clear hm1 hcs5 hz5 hset2 hsok hmem1 hpl1
  go_wp2_with (first
    | ((with_reducible refine ld36 w.heap.size cs0 ?_ ?_ HZ.out ?_); rfl; exact (sb3.out _).b0)
    | (with_reducible refine (HSET.out _).mono ?_)
    | fail)
  rintro e y2 ⟨rfl, hby2⟩
  have SB3 := Lib.hid (sb3.out (Obj.cells #[.int .i64 1, .int .i64 4, .int .i64 5, .int .i64 6, .int .i64 9, .int .i64 10, .int .i64 3, .int .i64 7, .int .i64 8, .int .i64 18] 86))
  clear sb2 sb3 xop' xop'' y33 xrd' y33'
  generalize hX4 : X.alloc (Obj.cells #[.int .i64 1, .int .i64 4, .int .i64 5, .int .i64 6, .int .i64 9, .int .i64 10, .int .i64 3, .int .i64 7, .int .i64 8, .int .i64 18] 86) = X4 at *
  clear hX4
  have SX : Hid (Sx w X4 base q m R A c (.slice oA on oc) (.slice sA sn sc) cs0 #[.slice A R.inp.length c, .slice oA on oc, .int .i64 R.checks, .slice sA sn sc]) := Lib.hid ⟨SB3.out.rows, HH.out.below SB3.out.below, Fw.below SB3.out.below, HC0.out, HH.out.lb⟩
  have xop : X4.cell? ⟨bi, 0, none⟩ = some (.int .i64 op) := by rw [cell_of_row _ _ 0 _ _ _ SB3.out.bx]; rfl
  have xrd : X4.cell? ⟨bi, 1, none⟩ = some (.int .i64 rd) := by rw [cell_of_row _ _ 1 _ _ _ SB3.out.bx]; rfl
  have HBB : Hid (Below X4.heap.size X4 y2) := Lib.hid hby2
  have SXY : Hid (Sx w y2 base q m R A c (.slice oA on oc) (.slice sA sn sc) cs0 #[.slice A R.inp.length c, .slice oA on oc, .int .i64 R.checks, .slice sA sn sc]) := Lib.hid ⟨SX.out.rows.fw (base := base) (q := q) (Fw.below HBB.out), SX.out.rd.below HBB.out, SX.out.fw.trans (Fw.below HBB.out), SX.out.mc, SX.out.lb⟩
  have SZ : Hid (Sx w (y2.setRow w.heap.size cs5) base q m1 R A c (.slice oA on oc) (.slice sA sn sc) cs5 #[.slice A R.inp.length c, .slice oA on oc, .int .i64 R.checks, .slice sA sn sc]) := Lib.hid (by
    have := SXY.out.ma (m' := m1) HMEM1.out HSOK.out
    rw [HC5.out] at this
    exact this)
  have hr0 := SXY.out.rows.b0
  have y33 : (y2.setRow w.heap.size cs5).cell? ⟨w.heap.size, 33, none⟩ = some (.int .u64 PL) := by rw [cell_of_row _ _ 33 _ _ _ SZ.out.rows.b0, ← SZ.out.mc]; exact (mcs_33 HSOK.out.1 q).trans (by rw [HPL.out])
  have fz : ∀ o, (y2.setRow w.heap.size cs5).frozen? ⟨w.heap.size, o, none⟩ = false := fun o => frozen_of_row _ _ _ _ _ SZ.out.rows.b0
  have xrd2 : y2.cell? ⟨bi, 1, none⟩ = some (.int .i64 rd) := (HBB.out.cell (p := ⟨bi, 1, none⟩) (lt_of_at SB3.out.bx)).trans xrd
  go_wp2_with (first
    | ((with_reducible refine st36 w.heap.size cs5 cs0 ?_ ?_ hr0 HZ.out HZ5.out ha5 ?_); rfl; rfl)
    | fail)
  clear hr0 xop xrd xrd2
  generalize y2.setRow w.heap.size cs5 = X5 at *
  have SY := Lib.hid (SZ.out.pl (IntKind.u64.wrap (IntKind.u64.wrap ((IntKind.u64.wrap (v1 + n % 18446744073709551616)).tdiv 2) * 2)) (u64w _))
  have hz1 : (mcs { m1 with pl := IntKind.u64.wrap (IntKind.u64.wrap ((IntKind.u64.wrap (v1 + n % 18446744073709551616)).tdiv 2) * 2) } q).size = 36 := mcs_size (m := { m1 with pl := IntKind.u64.wrap (IntKind.u64.wrap ((IntKind.u64.wrap (v1 + n % 18446744073709551616)).tdiv 2) * 2) }) HSOK.out.1 q
  have ha1 := mcs_all { m1 with pl := IntKind.u64.wrap (IntKind.u64.wrap ((IntKind.u64.wrap (v1 + n % 18446744073709551616)).tdiv 2) * 2) } q
  clear y33 fz
  generalize X5.setCell ⟨w.heap.size, 33, none⟩ (.int .u64 (IntKind.u64.wrap (IntKind.u64.wrap ((IntKind.u64.wrap (v1 + n % 18446744073709551616)).tdiv 2) * 2))) = Y0 at *
  generalize hcs1 : mcs { m1 with pl := IntKind.u64.wrap (IntKind.u64.wrap ((IntKind.u64.wrap (v1 + n % 18446744073709551616)).tdiv 2) * 2) } q = cs1 at *
  have HC1 := Lib.hid hcs1; have HZ1 := Lib.hid hz1
  clear hcs1 hz1
  obtain ⟨o3, z3, k3⟩ := SY.out.rows.b2
  obtain ⟨o4, z4, k4⟩ := SY.out.rows.b3
  have hlb := HH.out.lb
  refine tail33 w.heap.size cs1 #[.slice A R.inp.length c, .slice oA on oc, .int .i64 R.checks, .slice sA sn sc] o3 o4 true (fun _ _ _ _ _ h => h) (by kernel_rfl) (by kernel_rfl) (by kernel_rfl) (by kernel_rfl) (by kernel_rfl) (by kernel_rfl) (by kernel_rfl) (by kernel_rfl) SY.out.rows.b0 SY.out.rows.b1 k3 k4 HZ1.out rfl z3 z4 ha1 (by simp [Value.oneCell']) SY.out.rd SY.out.fw (by omega) ?_
  intro Y y1 y2' y3 y4
  simp only [Act.put, List.setIfInBounds_toArray, List.set_cons_zero, List.set_cons_succ]
  go_wp2_with fail
  exact bodyPost_ret (v := .tuple #[.agg cs1, .agg #[.slice A R.inp.length c, .slice oA on oc, .int .i64 R.checks, .slice sA sn sc], .bool true]) (res_cct Tryd.results23 _ _ _ _ _ _ _ rfl rfl rfl y1 HZ1.out y2' rfl) rfl ⟨{ m1 with pl := IntKind.u64.wrap (IntKind.u64.wrap ((IntKind.u64.wrap (v1 + n % 18446744073709551616)).tdiv 2) * 2) }, R, A, c, oA, on, oc, sA, sn, sc, true, by rw [if_pos rfl], fun hb => (by cases hb), by rw [HC1.out], y3, y4⟩
end Go.Proofs.YtppcbommaddkgaaDoor
