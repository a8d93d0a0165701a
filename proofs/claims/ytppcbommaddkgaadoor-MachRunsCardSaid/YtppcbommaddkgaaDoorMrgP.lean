/- The document's machine: Step: loads and stores. Conditions: each theorem's. The document's machine: Step: an ECALL. Conditions: each theorem's. -/
import Derived.Test.YtppcbommaddkgaaDoorMrgM
namespace Go.Proofs.YtppcbommaddkgaaDoor
open Go.RowKit Go.Maps
set_option linter.unusedVariables false
set_option linter.unusedSimpArgs false
set_option maxRecDepth 10000
open Pm Pc Pl
set_option maxHeartbeats 3000000 in
theorem rstep_mem {m : Ma} {q base : Nat} {w : World} {R : Ru} {A : Option Addr} {c : Nat} {oA sA : Option Addr} {on oc sn sc : Nat} (h : Rd w base q m R A c (.slice oA on oc) (.slice sA sn sc)) (hb : hasB m.pl 4 m.mem.length = true) (op n : Int) (rd r1 r2 : Nat) (hop : 38 ≤ op ∧ op ≤ 44) (hn : -9223372036854775808 ≤ n ∧ n < 9223372036854775808) (hd : rd < 32) (h1 : r1 < 32) (h2 : r2 < 32) (O : Option (Ma × Ru)) (hmem : ∀ X : World, Rd X base q m R A c (.slice oA on oc) (.slice sA sn sc) → Calls Tryd.prog 34 #[.agg (mcs m q), .agg #[.slice A R.inp.length c, .slice oA on oc, .int .i64 R.checks, .slice sA sn sc], ins op rd r1 r2 n] X (RTo X base q m R O)) (hdec : ∀ W : World, Calls Tryd.prog 29 #[.int .u32 (wordAt m)] W fun e w' => e = .returned (.tuple #[ins op rd r1 r2 n, .bool true]) ∧ Below W.heap.size W w') :
    Calls Tryd.prog 23 #[.agg (mcs m q), .agg #[.slice A R.inp.length c, .slice oA on oc, .int .i64 R.checks, .slice sA sn sc]] w (RTo w base q m R (O.map fun x => ({ x.1 with pl := IntKind.u64.wrap (m.pl + 4) }, x.2))) := by
  have HMEM := Lib.hid hmem
  clear hmem
  have HOP := Lib.hid hop
  clear hop
  have hz := mcs_size h.ok.1 q
  have ha := mcs_all m q
  have c33 := mcs_33 h.ok.1 q
  have hp := fun W => rplace_any (q := q) (w := W) h.ok.1 h.ok.2.1 m.pl 4 h.ok.2.2.2.2.1 (Or.inr (Or.inl rfl))
  have HH := Lib.hid h
  generalize hO : O.map (fun x => (({ x.1 with pl := IntKind.u64.wrap (m.pl + 4) } : Ma), x.2)) = OO at *
  have HO := Lib.hid hO
  clear hO
  generalize hcs0 : mcs m q = cs0 at *
  have w33 : ∀ Z, ((w.alloc (Obj.cells cs0 34)).alloc Z).cell? ⟨w.heap.size, 33, none⟩ = some (.int .u64 m.pl) := fun Z => by rw [cell_of_row _ _ 33 _ _ _ (aa0 _ _ _)]; exact c33
  rw [hb] at hp
  have hfit : m.pl + 4 ≤ m.mem.length := by unfold hasB at hb; exact (of_decide_eq_true hb).2
  have hbyte : ∀ i : Nat, 0 ≤ m.mem.getD i 0 ∧ m.mem.getD i 0 < 256 := fun i => by
    by_cases hi : i < m.mem.length
    · have e : m.mem.getD i 0 = m.mem[i] := by simp [List.getD, hi]
      rw [e]; exact h.ok.2.2.2.1 _ (List.getElem_mem hi)
    · have e : m.mem.getD i 0 = 0 := by simp [List.getD, List.getElem?_eq_none (Nat.le_of_not_lt hi)]
      rw [e]; omega
  have hpl0 := h.ok.2.2.2.2.1.1
  have HG : Hid (∀ W : World, W.heap[q]? = some (.cells (u8s m.mem).toArray 5) → Calls Tryd.prog 30 #[.agg cs0, .int .u64 m.pl, .int .i64 4] W fun e w' => e = .returned (.int .u64 (wordAt m)) ∧ Below W.heap.size W w') := Lib.hid fun W hW => by
    have := rget_any (q := q) (w := W) h.ok.1 h.ok.2.1 hbyte m.pl.toNat 4 (by omega) (by omega) hW
    rw [hcs0, Int.toNat_of_nonneg hpl0] at this
    exact this
  have hwr := getV_range m.mem hbyte 4 m.pl.toNat
  have hwd : 0 ≤ wordAt m ∧ wordAt m < 4294967296 := ⟨hwr.1, Int.lt_of_lt_of_le hwr.2 (by decide)⟩
  have hwrap : IntKind.u32.wrap (wordAt m) = wordAt m := by simp [IntKind.wrap, IntKind.bits, IntKind.signed]; omega
  have HDEC := Lib.hid hdec
  clear hdec hfit hbyte hwr hpl0
  generalize wordAt m = WD at *
  have HP := Lib.hid hp; have HZ := Lib.hid hz; have HC0 := Lib.hid hcs0
  have C33 := Lib.hid c33
  clear h hp hz hcs0 c33 hb
  generalize hPLm : m.pl = PL at *
  have HPL0 := Lib.hid hPLm
  clear hPLm
  have hlb := HH.out.lb
  go_enter Tryd.func23, Tryd.ntmps23
  go_wp2_with (first
    | ((with_reducible refine ld36 w.heap.size cs0 ?_ ?_ HZ.out ?_); rfl; exact a4_0 _ _ _ _ _)
    | fail)
  generalize hX : ((((w.alloc _).alloc _).alloc _).alloc _) = X
  have hb4 : Below w.heap.size w X := by rw [← hX]; exact bw_alloc (bw_alloc (bw_alloc (bw_alloc (Below.refl w.heap.size w) _) _) _) _
  have k0 : X.heap[w.heap.size]? = some (.cells cs0 34) := by rw [← hX]; exact a4_0 _ _ _ _ _
  have k1 : X.heap[w.heap.size + 1]? = some (.cells #[.slice A R.inp.length c, .slice oA on oc, .int .i64 R.checks, .slice sA sn sc] 71) := by rw [← hX]; exact a4_1 _ _ _ _ _
  have k2 : ∃ old : Array Value, old.size = 36 ∧ X.heap[w.heap.size + 2]? = some (.cells old 34) := by rw [← hX]; exact ⟨_, rfl, a4_2 _ _ _ _ _⟩
  have k3 : ∃ old : Array Value, old.size = 4 ∧ X.heap[w.heap.size + 3]? = some (.cells old 71) := by rw [← hX]; exact ⟨_, rfl, a4_3 _ _ _ _ _⟩
  clear hX w33
  with_reducible refine (HP.out X).mono ?_
  rintro e X1 ⟨rfl, bp⟩
  have hb5 := hb4.trans (bp.mono hb4.size)
  obtain ⟨o3, z3, k2⟩ := k2
  obtain ⟨o4, z4, k3⟩ := k3
  have K0 := Lib.hid (row_at bp (lt_of_at k0) k0); have K1 := Lib.hid (row_at bp (lt_of_at k1) k1); have K2 := Lib.hid (row_at bp (lt_of_at k2) k2); have K3 := Lib.hid (row_at bp (lt_of_at k3) k3); have HB5 := Lib.hid hb5
  clear k0 k1 k2 k3 bp hb4 hb5
  have c33' : cs0[33]? = some (.int .u64 PL) := C33.out
  have x33 : X1.cell? ⟨w.heap.size, 33, none⟩ = some (.int .u64 PL) := by rw [cell_of_row _ _ 33 _ _ _ K0.out]; exact c33'
  clear c33'
  go_wp2_with (first
    | ((with_reducible refine ld36 w.heap.size cs0 ?_ ?_ HZ.out ?_); rfl; exact K0.out)
    | fail)
  refine (HG.out X1 ((HB5.out.block q (lt_of_at HH.out.mem)).trans HH.out.mem)).mono ?_
  rintro e X2 ⟨rfl, b2⟩
  go_wp2_with fail
  with_reducible refine (HDEC.out X2).mono ?_
  rintro e X3 ⟨rfl, b3⟩
  have bX3 : Below X1.heap.size X1 X3 := b2.trans (b3.mono b2.size)
  have hX3 := HB5.out.size
  have hX4 := lt_of_at K3.out
  have hX5 := bX3.size
  have sb : Sb w (X3.alloc (Obj.cells #[.int .i64 op, .int .i64 rd, .int .i64 r1, .int .i64 r2, .int .i64 n] 49)) cs0 #[.slice A R.inp.length c, .slice oA on oc, .int .i64 R.checks, .slice sA sn sc] X3.heap.size op rd r1 r2 n := by
    have hbb := bX3.trans ((bw_alloc (Below.refl X3.heap.size X3) (Obj.cells #[.int .i64 op, .int .i64 rd, .int .i64 r1, .int .i64 r2, .int .i64 n] 49)).mono bX3.size)
    exact ⟨row_at hbb (lt_of_at K0.out) K0.out, row_at hbb (lt_of_at K1.out) K1.out, ⟨o3, z3, row_at hbb (lt_of_at K2.out) K2.out⟩, ⟨o4, z4, row_at hbb (lt_of_at K3.out) K3.out⟩, heap_alloc_new _ _, by omega, HB5.out.trans (hbb.mono HB5.out.size)⟩
  have HI : Hid (∀ k : Nat, ∀ W : World, Calls Tryd.prog 31 #[.int .i64 n] (W.drewN k) fun e w' => e = .returned (.int .u64 (n % 18446744073709551616)) ∧ W.drewN k = w') := Lib.hid fun k W => rimm_any n _ hn
  have X1c := mcs_x HH.out.ok.1 q h1
  have X2c := mcs_x HH.out.ok.1 q h2
  have hr1 := reg_range HH.out.ok r1
  have hr2 := reg_range HH.out.ok r2
  rw [HC0.out] at X1c X2c
  have hwk1 : IntKind.i64.wrap (r1 : Int) = r1 := IntWalk.i64_in _ (by omega)
  have hwk2 : IntKind.i64.wrap (r2 : Int) = r2 := IntWalk.i64_in _ (by omega)
  unfold Ma.reg at hr1 hr2
  generalize hv1 : m.x.getD r1 0 = v1 at *
  generalize hv2 : m.x.getD r2 0 = v2 at *
  have HV1 := Lib.hid hv1; have HV2 := Lib.hid hv2
  have y1 : ∀ k, (World.drewN (X3.alloc (Obj.cells #[.int .i64 op, .int .i64 rd, .int .i64 r1, .int .i64 r2, .int .i64 n] 49)) k).cell? ⟨w.heap.size, 1 + r1, none⟩ = some (.int .u64 v1) := fun k => by rw [cell_of_row _ _ (1 + r1) _ _ _ (show (World.drewN (X3.alloc (Obj.cells #[.int .i64 op, .int .i64 rd, .int .i64 r1, .int .i64 r2, .int .i64 n] 49)) k).heap[w.heap.size]? = _ from sb.b0)]; exact X1c
  have y2 : ∀ k, (World.drewN (X3.alloc (Obj.cells #[.int .i64 op, .int .i64 rd, .int .i64 r1, .int .i64 r2, .int .i64 n] 49)) k).cell? ⟨w.heap.size, 1 + r2, none⟩ = some (.int .u64 v2) := fun k => by rw [cell_of_row _ _ (1 + r2) _ _ _ (show (World.drewN (X3.alloc (Obj.cells #[.int .i64 op, .int .i64 rd, .int .i64 r1, .int .i64 r2, .int .i64 n] 49)) k).heap[w.heap.size]? = _ from sb.b0)]; exact X2c
  have y33 : ∀ k, (World.drewN (X3.alloc (Obj.cells #[.int .i64 op, .int .i64 rd, .int .i64 r1, .int .i64 r2, .int .i64 n] 49)) k).cell? ⟨w.heap.size, 33, none⟩ = some (.int .u64 PL) := fun k => by rw [cell_of_row _ _ 33 _ _ _ (show (World.drewN (X3.alloc (Obj.cells #[.int .i64 op, .int .i64 rd, .int .i64 r1, .int .i64 r2, .int .i64 n] 49)) k).heap[w.heap.size]? = _ from sb.b0)]; exact C33.out
  have SB := Lib.hid sb
  clear sb b2 b3 bX3 X1c X2c hv1 hv2 K0 K1 K2 K3 x33 HG HDEC hwrap
  go_wp2_with fail
  go_quiet (with_reducible refine (HI.out _ _).mono ?_; rintro e w9 ⟨rfl, rfl⟩; exact ⟨rfl, _, rfl⟩)
  have d27 : decide (op ≤ 27) = false := by have hop := HOP.out; simp; omega
  have d37 : decide (op ≤ 37) = false := by have hop := HOP.out; simp; omega
  have d44 : decide (op ≤ 44) = true := by have hop := HOP.out; simp; omega
  have sb2 := SB.out.grow (X' := World.drewN (X3.alloc (Obj.cells #[.int .i64 op, .int .i64 rd, .int .i64 r1, .int .i64 r2, .int .i64 n] 49)) nq) ⟨rfl, rfl, rfl, Nat.le_refl _, fun _ _ => rfl⟩
  replace y33 := y33 nq
  clear SB y1 y2 HI
  generalize hbi : X3.heap.size = bi at *
  generalize hX : World.drewN (X3.alloc (Obj.cells #[.int .i64 op, .int .i64 rd, .int .i64 r1, .int .i64 r2, .int .i64 n] 49)) nq = X at *
  clear hX
  have sb3 := Lib.hid (fun Z => sb2.grow (bw_alloc (Below.refl _ _) Z))
  have xop' : ∀ Z, (X.alloc Z).cell? ⟨bi, 0, none⟩ = some (.int .i64 op) := fun Z => by rw [cell_of_row _ _ 0 _ _ _ ((Below.heap_alloc _ _ _ (lt_of_at sb2.bx)).trans sb2.bx)]; rfl
  have xop'' : X.cell? ⟨bi, 0, none⟩ = some (.int .i64 op) := by rw [cell_of_row _ _ 0 _ _ _ sb2.bx]; rfl
  have HX0 : Hid (∀ Z, Rd (X.alloc Z) base q m R A c (.slice oA on oc) (.slice sA sn sc)) := Lib.hid fun Z => HH.out.below (sb3.out Z).below
  go_wp2_with (first
    | ((with_reducible refine ld36 w.heap.size cs0 ?_ ?_ HZ.out ?_); rfl; exact (sb3.out _).b0)
    | ((with_reducible refine ld4 (w.heap.size + 1) #[.slice A R.inp.length c, .slice oA on oc, .int .i64 R.checks, .slice sA sn sc] ?_ ?_ ?_ ?_); rfl; exact (sb3.out _).b1; rfl)
    | ((with_reducible refine ld5 bi #[.int .i64 op, .int .i64 rd, .int .i64 r1, .int .i64 r2, .int .i64 n] ?_ ?_ ?_ ?_); rfl; exact (sb3.out _).bx; rfl)
    | (with_reducible refine (HMEM.out _ (HX0.out _)).mono ?_)
    | fail)
  rintro e X5 ⟨m1, R1, A1, c1, oA1, on1, oc1, sA1, sn1, sc1, b, ho, hbf, rfl, hR1, hF1⟩
  have SB3 := Lib.hid (sb3.out (Obj.cells #[.int .i64 1, .int .i64 4, .int .i64 5, .int .i64 6, .int .i64 9, .int .i64 10, .int .i64 3, .int .i64 7, .int .i64 8, .int .i64 18] 86))
  clear sb2 sb3 xop' xop'' y33 HX0
  generalize hX4 : X.alloc (Obj.cells #[.int .i64 1, .int .i64 4, .int .i64 5, .int .i64 6, .int .i64 9, .int .i64 10, .int .i64 3, .int .i64 7, .int .i64 8, .int .i64 18] 86) = X4 at *
  clear hX4
  have SX : Hid (Sx w X4 base q m R A c (.slice oA on oc) (.slice sA sn sc) cs0 #[.slice A R.inp.length c, .slice oA on oc, .int .i64 R.checks, .slice sA sn sc]) := Lib.hid ⟨SB3.out.rows, HH.out.below SB3.out.below, Fw.below SB3.out.below, HC0.out, HH.out.lb⟩
  have xop : X4.cell? ⟨bi, 0, none⟩ = some (.int .i64 op) := by rw [cell_of_row _ _ 0 _ _ _ SB3.out.bx]; rfl
  have xrd : X4.cell? ⟨bi, 1, none⟩ = some (.int .i64 rd) := by rw [cell_of_row _ _ 1 _ _ _ SB3.out.bx]; rfl
  have hF5 := SX.out.fw.trans hF1
  have hr5 := SX.out.rows.fw hF1
  have SZ := Lib.hid (Sx.both hr5 hR1 hF5 HH.out.lb #[.slice A1 R1.inp.length c1, .slice oA1 on1 oc1, .int .i64 R1.checks, .slice sA1 sn1 sc1])
  have hz5 : (mcs m1 q).size = 36 := mcs_size hR1.ok.1 q
  have ha5 := mcs_all m1 q
  have HOK1 := Lib.hid hR1.ok
  generalize hrv : (#[.slice A1 R1.inp.length c1, .slice oA1 on1 oc1, .int .i64 R1.checks, .slice sA1 sn1 sc1] : Array Value) = rv1 at *
  have hzr : rv1.size = 4 := by rw [← hrv]; rfl
  have har : rv1.all (·.oneCell') = true := by rw [← hrv]; simp [Value.oneCell']
  generalize hcs5 : mcs m1 q = cs5 at *
  have HC5 := Lib.hid hcs5; have HZ5 := Lib.hid hz5; have HZR := Lib.hid hzr; have HRW := Lib.hid hrv; have HBF := Lib.hid hbf; have HOO := Lib.hid ho
  have b0 := hr5.b0
  have b1 : (X5.setRow w.heap.size cs5).heap[w.heap.size + 1]? = _ := (setRow_other _ _ _ _ (by omega)).trans hr5.b1
  clear hz5 hcs5 hrv hzr hbf ho hR1 hF1 hF5 hr5
  have y33 : ((X5.setRow w.heap.size cs5).setRow (w.heap.size + 1) rv1).cell? ⟨w.heap.size, 33, none⟩ = some (.int .u64 m1.pl) := by rw [cell_of_row _ _ 33 _ _ _ SZ.out.rows.b0, ← SZ.out.mc]; exact mcs_33 HOK1.out.1 q
  have fz : ∀ o, ((X5.setRow w.heap.size cs5).setRow (w.heap.size + 1) rv1).frozen? ⟨w.heap.size, o, none⟩ = false := fun o => frozen_of_row _ _ _ _ _ SZ.out.rows.b0
  cases b with
  | true =>
    go_wp2_with (first
      | ((with_reducible refine st36 w.heap.size cs5 cs0 ?_ ?_ b0 HZ.out HZ5.out ha5 ?_); rfl; rfl)
      | ((with_reducible refine st4 (w.heap.size + 1) rv1 #[.slice A R.inp.length c, .slice oA on oc, .int .i64 R.checks, .slice sA sn sc] ?_ ?_ b1 rfl HZR.out har ?_); rfl; rfl)
      | fail)
    clear b0 b1 xop xrd
    generalize (X5.setRow w.heap.size cs5).setRow (w.heap.size + 1) rv1 = X6 at *
    have SY := Lib.hid (SZ.out.pl (IntKind.u64.wrap (PL + 4)) (u64w _))
    have hz1 : (mcs { m1 with pl := IntKind.u64.wrap (PL + 4) } q).size = 36 := mcs_size (m := { m1 with pl := IntKind.u64.wrap (PL + 4) }) HOK1.out.1 q
    have ha1 := mcs_all { m1 with pl := IntKind.u64.wrap (PL + 4) } q
    clear y33 fz
    generalize X6.setCell ⟨w.heap.size, 33, none⟩ (.int .u64 (IntKind.u64.wrap (PL + 4))) = Y0 at *
    generalize hcs1 : mcs { m1 with pl := IntKind.u64.wrap (PL + 4) } q = cs1 at *
    have HC1 := Lib.hid hcs1; have HZ1 := Lib.hid hz1
    clear hcs1 hz1
    obtain ⟨o3, z3, k3⟩ := SY.out.rows.b2
    obtain ⟨o4, z4, k4⟩ := SY.out.rows.b3
    have hlb := HH.out.lb
    refine tail33 w.heap.size cs1 rv1 o3 o4 true (fun _ _ _ _ _ h => h) (by kernel_rfl) (by kernel_rfl) (by kernel_rfl) (by kernel_rfl) (by kernel_rfl) (by kernel_rfl) (by kernel_rfl) (by kernel_rfl) SY.out.rows.b0 SY.out.rows.b1 k3 k4 HZ1.out HZR.out z3 z4 ha1 har SY.out.rd SY.out.fw (by omega) ?_
    intro Y y1 y2' y3 y4
    simp only [Act.put, List.setIfInBounds_toArray, List.set_cons_zero, List.set_cons_succ]
    go_wp2_with fail
    exact bodyPost_ret (v := .tuple #[.agg cs1, .agg rv1, .bool true]) (res_cct Tryd.results23 _ _ _ _ _ _ _ rfl rfl rfl y1 HZ1.out y2' HZR.out) rfl ⟨{ m1 with pl := IntKind.u64.wrap (PL + 4) }, R1, A1, c1, oA1, on1, oc1, sA1, sn1, sc1, true, by have h1 := HO.out; have h2 := HOO.out; simp at h2; rw [if_pos rfl, ← h1, h2]; rfl, fun hb => (by cases hb), by rw [HC1.out, HRW.out], y3, y4⟩
  | false =>
    go_wp2_with (first
      | ((with_reducible refine st36 w.heap.size cs5 cs0 ?_ ?_ b0 HZ.out HZ5.out ha5 ?_); rfl; rfl)
      | ((with_reducible refine st4 (w.heap.size + 1) rv1 #[.slice A R.inp.length c, .slice oA on oc, .int .i64 R.checks, .slice sA sn sc] ?_ ?_ b1 rfl HZR.out har ?_); rfl; rfl)
      | fail)
    clear b0 b1 xop xrd y33 fz
    have SY := SZ
    have HZ1 := HZ5
    have ha1 := ha5
    clear SZ HZ5 ha5
    generalize (X5.setRow w.heap.size cs5).setRow (w.heap.size + 1) rv1 = Y0 at *
    generalize hcs1 : cs5 = cs1 at *
    have HC1 : Hid (mcs m1 q = cs1) := HC5
    obtain ⟨o3, z3, k3⟩ := SY.out.rows.b2
    obtain ⟨o4, z4, k4⟩ := SY.out.rows.b3
    have hlb := HH.out.lb
    refine tail33 w.heap.size cs1 rv1 o3 o4 false (fun _ _ _ _ _ h => h) (by kernel_rfl) (by kernel_rfl) (by kernel_rfl) (by kernel_rfl) (by kernel_rfl) (by kernel_rfl) (by kernel_rfl) (by kernel_rfl) SY.out.rows.b0 SY.out.rows.b1 k3 k4 HZ1.out HZR.out z3 z4 ha1 har SY.out.rd SY.out.fw (by omega) ?_
    intro Y y1 y2' y3 y4
    simp only [Act.put, List.setIfInBounds_toArray, List.set_cons_zero, List.set_cons_succ]
    go_wp2_with fail
    exact bodyPost_ret (v := .tuple #[.agg cs1, .agg rv1, .bool false]) (res_cct Tryd.results23 _ _ _ _ _ _ _ rfl rfl rfl y1 HZ1.out y2' HZR.out) rfl ⟨m1, R1, A1, c1, oA1, on1, oc1, sA1, sn1, sc1, false, by have h1 := HO.out; have h2 := HOO.out; simp at h2; rw [← h1, h2]; rfl, fun _ => HBF.out (by simp), by rw [HC1.out, HRW.out], y3, y4⟩
end Go.Proofs.YtppcbommaddkgaaDoor
namespace Go.Proofs.YtppcbommaddkgaaDoor
open Go.RowKit Go.Maps
set_option linter.unusedVariables false
set_option linter.unusedSimpArgs false
set_option maxRecDepth 10000
open Pm Pc Pl
set_option maxHeartbeats 3000000 in
theorem rstep_call {m : Ma} {q base : Nat} {w : World} {R : Ru} {A : Option Addr} {c : Nat} {oA sA : Option Addr} {on oc sn sc : Nat} (h : Rd w base q m R A c (.slice oA on oc) (.slice sA sn sc)) (hb : hasB m.pl 4 m.mem.length = true) (op n : Int) (rd r1 r2 : Nat) (hop : op = 55) (hn : -9223372036854775808 ≤ n ∧ n < 9223372036854775808) (hd : rd < 32) (h1 : r1 < 32) (h2 : r2 < 32) (O : Option (Ma × Ru)) (hmem : ∀ X : World, Rd X base q m R A c (.slice oA on oc) (.slice sA sn sc) → Calls Tryd.prog 36 #[.agg (mcs m q), .agg #[.slice A R.inp.length c, .slice oA on oc, .int .i64 R.checks, .slice sA sn sc]] X (RTo X base q m R O)) (hdec : ∀ W : World, Calls Tryd.prog 29 #[.int .u32 (wordAt m)] W fun e w' => e = .returned (.tuple #[ins op rd r1 r2 n, .bool true]) ∧ Below W.heap.size W w') :
    Calls Tryd.prog 23 #[.agg (mcs m q), .agg #[.slice A R.inp.length c, .slice oA on oc, .int .i64 R.checks, .slice sA sn sc]] w (RTo w base q m R (O.map fun x => ({ x.1 with pl := IntKind.u64.wrap (m.pl + 4) }, x.2))) := by
  have HMEM := Lib.hid hmem
  clear hmem
  have HOP := Lib.hid hop
  clear hop
  have hz := mcs_size h.ok.1 q
  have ha := mcs_all m q
  have c33 := mcs_33 h.ok.1 q
  have hp := fun W => rplace_any (q := q) (w := W) h.ok.1 h.ok.2.1 m.pl 4 h.ok.2.2.2.2.1 (Or.inr (Or.inl rfl))
  have HH := Lib.hid h
  generalize hO : O.map (fun x => (({ x.1 with pl := IntKind.u64.wrap (m.pl + 4) } : Ma), x.2)) = OO at *
  have HO := Lib.hid hO
  clear hO
  generalize hcs0 : mcs m q = cs0 at *
  have w33 : ∀ Z, ((w.alloc (Obj.cells cs0 34)).alloc Z).cell? ⟨w.heap.size, 33, none⟩ = some (.int .u64 m.pl) := fun Z => by rw [cell_of_row _ _ 33 _ _ _ (aa0 _ _ _)]; exact c33
  rw [hb] at hp
  have hfit : m.pl + 4 ≤ m.mem.length := by unfold hasB at hb; exact (of_decide_eq_true hb).2
  have hbyte : ∀ i : Nat, 0 ≤ m.mem.getD i 0 ∧ m.mem.getD i 0 < 256 := fun i => by
    by_cases hi : i < m.mem.length
    · have e : m.mem.getD i 0 = m.mem[i] := by simp [List.getD, hi]
      rw [e]; exact h.ok.2.2.2.1 _ (List.getElem_mem hi)
    · have e : m.mem.getD i 0 = 0 := by simp [List.getD, List.getElem?_eq_none (Nat.le_of_not_lt hi)]
      rw [e]; omega
  have hpl0 := h.ok.2.2.2.2.1.1
  have HG : Hid (∀ W : World, W.heap[q]? = some (.cells (u8s m.mem).toArray 5) → Calls Tryd.prog 30 #[.agg cs0, .int .u64 m.pl, .int .i64 4] W fun e w' => e = .returned (.int .u64 (wordAt m)) ∧ Below W.heap.size W w') := Lib.hid fun W hW => by
    have := rget_any (q := q) (w := W) h.ok.1 h.ok.2.1 hbyte m.pl.toNat 4 (by omega) (by omega) hW
    rw [hcs0, Int.toNat_of_nonneg hpl0] at this
    exact this
  have hwr := getV_range m.mem hbyte 4 m.pl.toNat
  have hwd : 0 ≤ wordAt m ∧ wordAt m < 4294967296 := ⟨hwr.1, Int.lt_of_lt_of_le hwr.2 (by decide)⟩
  have hwrap : IntKind.u32.wrap (wordAt m) = wordAt m := by simp [IntKind.wrap, IntKind.bits, IntKind.signed]; omega
  have HDEC := Lib.hid hdec
  clear hdec hfit hbyte hwr hpl0
  generalize wordAt m = WD at *
  have HP := Lib.hid hp; have HZ := Lib.hid hz; have HC0 := Lib.hid hcs0
  have C33 := Lib.hid c33
  clear h hp hz hcs0 c33 hb
  generalize hPLm : m.pl = PL at *
  have HPL0 := Lib.hid hPLm
  clear hPLm
  have hlb := HH.out.lb
  go_enter Tryd.func23, Tryd.ntmps23
  go_wp2_with (first
    | ((with_reducible refine ld36 w.heap.size cs0 ?_ ?_ HZ.out ?_); rfl; exact a4_0 _ _ _ _ _)
    | fail)
  generalize hX : ((((w.alloc _).alloc _).alloc _).alloc _) = X
  have hb4 : Below w.heap.size w X := by rw [← hX]; exact bw_alloc (bw_alloc (bw_alloc (bw_alloc (Below.refl w.heap.size w) _) _) _) _
  have k0 : X.heap[w.heap.size]? = some (.cells cs0 34) := by rw [← hX]; exact a4_0 _ _ _ _ _
  have k1 : X.heap[w.heap.size + 1]? = some (.cells #[.slice A R.inp.length c, .slice oA on oc, .int .i64 R.checks, .slice sA sn sc] 71) := by rw [← hX]; exact a4_1 _ _ _ _ _
  have k2 : ∃ old : Array Value, old.size = 36 ∧ X.heap[w.heap.size + 2]? = some (.cells old 34) := by rw [← hX]; exact ⟨_, rfl, a4_2 _ _ _ _ _⟩
  have k3 : ∃ old : Array Value, old.size = 4 ∧ X.heap[w.heap.size + 3]? = some (.cells old 71) := by rw [← hX]; exact ⟨_, rfl, a4_3 _ _ _ _ _⟩
  clear hX w33
  with_reducible refine (HP.out X).mono ?_
  rintro e X1 ⟨rfl, bp⟩
  have hb5 := hb4.trans (bp.mono hb4.size)
  obtain ⟨o3, z3, k2⟩ := k2
  obtain ⟨o4, z4, k3⟩ := k3
  have K0 := Lib.hid (row_at bp (lt_of_at k0) k0); have K1 := Lib.hid (row_at bp (lt_of_at k1) k1); have K2 := Lib.hid (row_at bp (lt_of_at k2) k2); have K3 := Lib.hid (row_at bp (lt_of_at k3) k3); have HB5 := Lib.hid hb5
  clear k0 k1 k2 k3 bp hb4 hb5
  have c33' : cs0[33]? = some (.int .u64 PL) := C33.out
  have x33 : X1.cell? ⟨w.heap.size, 33, none⟩ = some (.int .u64 PL) := by rw [cell_of_row _ _ 33 _ _ _ K0.out]; exact c33'
  clear c33'
  go_wp2_with (first
    | ((with_reducible refine ld36 w.heap.size cs0 ?_ ?_ HZ.out ?_); rfl; exact K0.out)
    | fail)
  refine (HG.out X1 ((HB5.out.block q (lt_of_at HH.out.mem)).trans HH.out.mem)).mono ?_
  rintro e X2 ⟨rfl, b2⟩
  go_wp2_with fail
  with_reducible refine (HDEC.out X2).mono ?_
  rintro e X3 ⟨rfl, b3⟩
  have bX3 : Below X1.heap.size X1 X3 := b2.trans (b3.mono b2.size)
  have hX3 := HB5.out.size
  have hX4 := lt_of_at K3.out
  have hX5 := bX3.size
  have sb : Sb w (X3.alloc (Obj.cells #[.int .i64 op, .int .i64 rd, .int .i64 r1, .int .i64 r2, .int .i64 n] 49)) cs0 #[.slice A R.inp.length c, .slice oA on oc, .int .i64 R.checks, .slice sA sn sc] X3.heap.size op rd r1 r2 n := by
    have hbb := bX3.trans ((bw_alloc (Below.refl X3.heap.size X3) (Obj.cells #[.int .i64 op, .int .i64 rd, .int .i64 r1, .int .i64 r2, .int .i64 n] 49)).mono bX3.size)
    exact ⟨row_at hbb (lt_of_at K0.out) K0.out, row_at hbb (lt_of_at K1.out) K1.out, ⟨o3, z3, row_at hbb (lt_of_at K2.out) K2.out⟩, ⟨o4, z4, row_at hbb (lt_of_at K3.out) K3.out⟩, heap_alloc_new _ _, by omega, HB5.out.trans (hbb.mono HB5.out.size)⟩
  have HI : Hid (∀ k : Nat, ∀ W : World, Calls Tryd.prog 31 #[.int .i64 n] (W.drewN k) fun e w' => e = .returned (.int .u64 (n % 18446744073709551616)) ∧ W.drewN k = w') := Lib.hid fun k W => rimm_any n _ hn
  have X1c := mcs_x HH.out.ok.1 q h1
  have X2c := mcs_x HH.out.ok.1 q h2
  have hr1 := reg_range HH.out.ok r1
  have hr2 := reg_range HH.out.ok r2
  rw [HC0.out] at X1c X2c
  have hwk1 : IntKind.i64.wrap (r1 : Int) = r1 := IntWalk.i64_in _ (by omega)
  have hwk2 : IntKind.i64.wrap (r2 : Int) = r2 := IntWalk.i64_in _ (by omega)
  unfold Ma.reg at hr1 hr2
  generalize hv1 : m.x.getD r1 0 = v1 at *
  generalize hv2 : m.x.getD r2 0 = v2 at *
  have HV1 := Lib.hid hv1; have HV2 := Lib.hid hv2
  have y1 : ∀ k, (World.drewN (X3.alloc (Obj.cells #[.int .i64 op, .int .i64 rd, .int .i64 r1, .int .i64 r2, .int .i64 n] 49)) k).cell? ⟨w.heap.size, 1 + r1, none⟩ = some (.int .u64 v1) := fun k => by rw [cell_of_row _ _ (1 + r1) _ _ _ (show (World.drewN (X3.alloc (Obj.cells #[.int .i64 op, .int .i64 rd, .int .i64 r1, .int .i64 r2, .int .i64 n] 49)) k).heap[w.heap.size]? = _ from sb.b0)]; exact X1c
  have y2 : ∀ k, (World.drewN (X3.alloc (Obj.cells #[.int .i64 op, .int .i64 rd, .int .i64 r1, .int .i64 r2, .int .i64 n] 49)) k).cell? ⟨w.heap.size, 1 + r2, none⟩ = some (.int .u64 v2) := fun k => by rw [cell_of_row _ _ (1 + r2) _ _ _ (show (World.drewN (X3.alloc (Obj.cells #[.int .i64 op, .int .i64 rd, .int .i64 r1, .int .i64 r2, .int .i64 n] 49)) k).heap[w.heap.size]? = _ from sb.b0)]; exact X2c
  have y33 : ∀ k, (World.drewN (X3.alloc (Obj.cells #[.int .i64 op, .int .i64 rd, .int .i64 r1, .int .i64 r2, .int .i64 n] 49)) k).cell? ⟨w.heap.size, 33, none⟩ = some (.int .u64 PL) := fun k => by rw [cell_of_row _ _ 33 _ _ _ (show (World.drewN (X3.alloc (Obj.cells #[.int .i64 op, .int .i64 rd, .int .i64 r1, .int .i64 r2, .int .i64 n] 49)) k).heap[w.heap.size]? = _ from sb.b0)]; exact C33.out
  have SB := Lib.hid sb
  clear sb b2 b3 bX3 X1c X2c hv1 hv2 K0 K1 K2 K3 x33 HG HDEC hwrap
  go_wp2_with fail
  go_quiet (with_reducible refine (HI.out _ _).mono ?_; rintro e w9 ⟨rfl, rfl⟩; exact ⟨rfl, _, rfl⟩)
  have d27 : decide (op ≤ 27) = false := by have hop := HOP.out; simp; omega
  have d37 : decide (op ≤ 37) = false := by have hop := HOP.out; simp; omega
  have d44 : decide (op ≤ 44) = false := by have hop := HOP.out; simp; omega
  have d50 : decide (op ≤ 50) = false := by have hop := HOP.out; simp; omega
  have e51 : decide (op = 51) = false := by have hop := HOP.out; simp; omega
  have b51 : (op == 51) = false := by have hop := HOP.out; simp; omega
  have e52 : decide (op = 52) = false := by have hop := HOP.out; simp; omega
  have b52 : (op == 52) = false := by have hop := HOP.out; simp; omega
  have e53 : decide (op = 53) = false := by have hop := HOP.out; simp; omega
  have b53 : (op == 53) = false := by have hop := HOP.out; simp; omega
  have e54 : decide (op = 54) = false := by have hop := HOP.out; simp; omega
  have b54 : (op == 54) = false := by have hop := HOP.out; simp; omega
  have sb2 := SB.out.grow (X' := World.drewN (X3.alloc (Obj.cells #[.int .i64 op, .int .i64 rd, .int .i64 r1, .int .i64 r2, .int .i64 n] 49)) nq) ⟨rfl, rfl, rfl, Nat.le_refl _, fun _ _ => rfl⟩
  replace y33 := y33 nq
  clear SB y1 y2 HI
  generalize hbi : X3.heap.size = bi at *
  generalize hX : World.drewN (X3.alloc (Obj.cells #[.int .i64 op, .int .i64 rd, .int .i64 r1, .int .i64 r2, .int .i64 n] 49)) nq = X at *
  clear hX
  have sb3 := Lib.hid (fun Z => sb2.grow (bw_alloc (Below.refl _ _) Z))
  have xop' : ∀ Z, (X.alloc Z).cell? ⟨bi, 0, none⟩ = some (.int .i64 op) := fun Z => by rw [cell_of_row _ _ 0 _ _ _ ((Below.heap_alloc _ _ _ (lt_of_at sb2.bx)).trans sb2.bx)]; rfl
  have xop'' : X.cell? ⟨bi, 0, none⟩ = some (.int .i64 op) := by rw [cell_of_row _ _ 0 _ _ _ sb2.bx]; rfl
  have HX0 : Hid (∀ Z, Rd (X.alloc Z) base q m R A c (.slice oA on oc) (.slice sA sn sc)) := Lib.hid fun Z => HH.out.below (sb3.out Z).below
  go_wp2_with (first
    | ((with_reducible refine ld36 w.heap.size cs0 ?_ ?_ HZ.out ?_); rfl; exact (sb3.out _).b0)
    | ((with_reducible refine ld4 (w.heap.size + 1) #[.slice A R.inp.length c, .slice oA on oc, .int .i64 R.checks, .slice sA sn sc] ?_ ?_ ?_ ?_); rfl; exact (sb3.out _).b1; rfl)
    | ((with_reducible refine ld5 bi #[.int .i64 op, .int .i64 rd, .int .i64 r1, .int .i64 r2, .int .i64 n] ?_ ?_ ?_ ?_); rfl; exact (sb3.out _).bx; rfl)
    | (with_reducible refine (HMEM.out _ (HX0.out _)).mono ?_)
    | fail)
  rintro e X5 ⟨m1, R1, A1, c1, oA1, on1, oc1, sA1, sn1, sc1, b, ho, hbf, rfl, hR1, hF1⟩
  have SB3 := Lib.hid (sb3.out (Obj.cells #[.int .i64 1, .int .i64 4, .int .i64 5, .int .i64 6, .int .i64 9, .int .i64 10, .int .i64 3, .int .i64 7, .int .i64 8, .int .i64 18] 86))
  clear sb2 sb3 xop' xop'' y33 HX0
  generalize hX4 : X.alloc (Obj.cells #[.int .i64 1, .int .i64 4, .int .i64 5, .int .i64 6, .int .i64 9, .int .i64 10, .int .i64 3, .int .i64 7, .int .i64 8, .int .i64 18] 86) = X4 at *
  clear hX4
  have SX : Hid (Sx w X4 base q m R A c (.slice oA on oc) (.slice sA sn sc) cs0 #[.slice A R.inp.length c, .slice oA on oc, .int .i64 R.checks, .slice sA sn sc]) := Lib.hid ⟨SB3.out.rows, HH.out.below SB3.out.below, Fw.below SB3.out.below, HC0.out, HH.out.lb⟩
  have xop : X4.cell? ⟨bi, 0, none⟩ = some (.int .i64 op) := by rw [cell_of_row _ _ 0 _ _ _ SB3.out.bx]; rfl
  have xrd : X4.cell? ⟨bi, 1, none⟩ = some (.int .i64 rd) := by rw [cell_of_row _ _ 1 _ _ _ SB3.out.bx]; rfl
  have hF5 := SX.out.fw.trans hF1
  have hr5 := SX.out.rows.fw hF1
  have SZ := Lib.hid (Sx.both hr5 hR1 hF5 HH.out.lb #[.slice A1 R1.inp.length c1, .slice oA1 on1 oc1, .int .i64 R1.checks, .slice sA1 sn1 sc1])
  have hz5 : (mcs m1 q).size = 36 := mcs_size hR1.ok.1 q
  have ha5 := mcs_all m1 q
  have HOK1 := Lib.hid hR1.ok
  generalize hrv : (#[.slice A1 R1.inp.length c1, .slice oA1 on1 oc1, .int .i64 R1.checks, .slice sA1 sn1 sc1] : Array Value) = rv1 at *
  have hzr : rv1.size = 4 := by rw [← hrv]; rfl
  have har : rv1.all (·.oneCell') = true := by rw [← hrv]; simp [Value.oneCell']
  generalize hcs5 : mcs m1 q = cs5 at *
  have HC5 := Lib.hid hcs5; have HZ5 := Lib.hid hz5; have HZR := Lib.hid hzr; have HRW := Lib.hid hrv; have HBF := Lib.hid hbf; have HOO := Lib.hid ho
  have b0 := hr5.b0
  have b1 : (X5.setRow w.heap.size cs5).heap[w.heap.size + 1]? = _ := (setRow_other _ _ _ _ (by omega)).trans hr5.b1
  clear hz5 hcs5 hrv hzr hbf ho hR1 hF1 hF5 hr5
  have y33 : ((X5.setRow w.heap.size cs5).setRow (w.heap.size + 1) rv1).cell? ⟨w.heap.size, 33, none⟩ = some (.int .u64 m1.pl) := by rw [cell_of_row _ _ 33 _ _ _ SZ.out.rows.b0, ← SZ.out.mc]; exact mcs_33 HOK1.out.1 q
  have fz : ∀ o, ((X5.setRow w.heap.size cs5).setRow (w.heap.size + 1) rv1).frozen? ⟨w.heap.size, o, none⟩ = false := fun o => frozen_of_row _ _ _ _ _ SZ.out.rows.b0
  cases b with
  | true =>
    go_wp2_with (first
      | ((with_reducible refine st36 w.heap.size cs5 cs0 ?_ ?_ b0 HZ.out HZ5.out ha5 ?_); rfl; rfl)
      | ((with_reducible refine st4 (w.heap.size + 1) rv1 #[.slice A R.inp.length c, .slice oA on oc, .int .i64 R.checks, .slice sA sn sc] ?_ ?_ b1 rfl HZR.out har ?_); rfl; rfl)
      | fail)
    clear b0 b1 xop xrd
    generalize (X5.setRow w.heap.size cs5).setRow (w.heap.size + 1) rv1 = X6 at *
    have SY := Lib.hid (SZ.out.pl (IntKind.u64.wrap (PL + 4)) (u64w _))
    have hz1 : (mcs { m1 with pl := IntKind.u64.wrap (PL + 4) } q).size = 36 := mcs_size (m := { m1 with pl := IntKind.u64.wrap (PL + 4) }) HOK1.out.1 q
    have ha1 := mcs_all { m1 with pl := IntKind.u64.wrap (PL + 4) } q
    clear y33 fz
    generalize X6.setCell ⟨w.heap.size, 33, none⟩ (.int .u64 (IntKind.u64.wrap (PL + 4))) = Y0 at *
    generalize hcs1 : mcs { m1 with pl := IntKind.u64.wrap (PL + 4) } q = cs1 at *
    have HC1 := Lib.hid hcs1; have HZ1 := Lib.hid hz1
    clear hcs1 hz1
    obtain ⟨o3, z3, k3⟩ := SY.out.rows.b2
    obtain ⟨o4, z4, k4⟩ := SY.out.rows.b3
    have hlb := HH.out.lb
    refine tail33 w.heap.size cs1 rv1 o3 o4 true (fun _ _ _ _ _ h => h) (by kernel_rfl) (by kernel_rfl) (by kernel_rfl) (by kernel_rfl) (by kernel_rfl) (by kernel_rfl) (by kernel_rfl) (by kernel_rfl) SY.out.rows.b0 SY.out.rows.b1 k3 k4 HZ1.out HZR.out z3 z4 ha1 har SY.out.rd SY.out.fw (by omega) ?_
    intro Y y1 y2' y3 y4
    simp only [Act.put, List.setIfInBounds_toArray, List.set_cons_zero, List.set_cons_succ]
    go_wp2_with fail
    exact bodyPost_ret (v := .tuple #[.agg cs1, .agg rv1, .bool true]) (res_cct Tryd.results23 _ _ _ _ _ _ _ rfl rfl rfl y1 HZ1.out y2' HZR.out) rfl ⟨{ m1 with pl := IntKind.u64.wrap (PL + 4) }, R1, A1, c1, oA1, on1, oc1, sA1, sn1, sc1, true, by have h1 := HO.out; have h2 := HOO.out; simp at h2; rw [if_pos rfl, ← h1, h2]; rfl, fun hb => (by cases hb), by rw [HC1.out, HRW.out], y3, y4⟩
  | false =>
    go_wp2_with (first
      | ((with_reducible refine st36 w.heap.size cs5 cs0 ?_ ?_ b0 HZ.out HZ5.out ha5 ?_); rfl; rfl)
      | ((with_reducible refine st4 (w.heap.size + 1) rv1 #[.slice A R.inp.length c, .slice oA on oc, .int .i64 R.checks, .slice sA sn sc] ?_ ?_ b1 rfl HZR.out har ?_); rfl; rfl)
      | fail)
    clear b0 b1 xop xrd y33 fz
    have SY := SZ
    have HZ1 := HZ5
    have ha1 := ha5
    clear SZ HZ5 ha5
    generalize (X5.setRow w.heap.size cs5).setRow (w.heap.size + 1) rv1 = Y0 at *
    generalize hcs1 : cs5 = cs1 at *
    have HC1 : Hid (mcs m1 q = cs1) := HC5
    obtain ⟨o3, z3, k3⟩ := SY.out.rows.b2
    obtain ⟨o4, z4, k4⟩ := SY.out.rows.b3
    have hlb := HH.out.lb
    refine tail33 w.heap.size cs1 rv1 o3 o4 false (fun _ _ _ _ _ h => h) (by kernel_rfl) (by kernel_rfl) (by kernel_rfl) (by kernel_rfl) (by kernel_rfl) (by kernel_rfl) (by kernel_rfl) (by kernel_rfl) SY.out.rows.b0 SY.out.rows.b1 k3 k4 HZ1.out HZR.out z3 z4 ha1 har SY.out.rd SY.out.fw (by omega) ?_
    intro Y y1 y2' y3 y4
    simp only [Act.put, List.setIfInBounds_toArray, List.set_cons_zero, List.set_cons_succ]
    go_wp2_with fail
    exact bodyPost_ret (v := .tuple #[.agg cs1, .agg rv1, .bool false]) (res_cct Tryd.results23 _ _ _ _ _ _ _ rfl rfl rfl y1 HZ1.out y2' HZR.out) rfl ⟨m1, R1, A1, c1, oA1, on1, oc1, sA1, sn1, sc1, false, by have h1 := HO.out; have h2 := HOO.out; simp at h2; rw [← h1, h2]; rfl, fun _ => HBF.out (by simp), by rw [HC1.out, HRW.out], y3, y4⟩
end Go.Proofs.YtppcbommaddkgaaDoor
