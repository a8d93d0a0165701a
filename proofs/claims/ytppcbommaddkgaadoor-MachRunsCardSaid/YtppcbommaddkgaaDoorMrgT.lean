/- The document's machine: Step, begun: where no instruction can be. Conditions: each theorem's. The document's machine: Step: what it does, of any instruction. Conditions: each theorem's. -/
import Derived.Test.YtppcbommaddkgaaDoorMrgK
import Derived.Test.YtppcbommaddkgaaDoorMrgI
import Derived.Test.YtppcbommaddkgaaDoorMrgF
import Derived.StillTailTactics
import Derived.Deep.RegionHeld3
import Derived.Test.YtppcbommaddkgaaDoorMrgN
import Derived.Test.YtppcbommaddkgaaDoorMrgP
import Derived.Test.YtppcbommaddkgaaDoorMachQl
import Derived.Test.YtppcbommaddkgaaDoorMachQk
import Derived.Test.YtppcbommaddkgaaDoorCodeRdec
namespace Go.Proofs.YtppcbommaddkgaaDoor
open Go.RowKit Go.Maps
set_option linter.unusedVariables false
set_option linter.unusedSimpArgs false
set_option maxRecDepth 10000
open Pm Pc Pl
set_option maxHeartbeats 3000000 in
/-- Where no instruction can be. -/
theorem rstep_out {m : Ma} {q base : Nat} {w : World} {R : Ru} {A : Option Addr} {c : Nat} {oA sA : Option Addr} {on oc sn sc : Nat} (h : Rd w base q m R A c (.slice oA on oc) (.slice sA sn sc)) (hb : hasB m.pl 4 m.mem.length = false) :
    Calls Tryd.prog 23 #[.agg (mcs m q), .agg #[.slice A R.inp.length c, .slice oA on oc, .int .i64 R.checks, .slice sA sn sc]] w (RTo w base q m R none) := by
  have hz := mcs_size h.ok.1 q
  have ha := mcs_all m q
  have c33 := mcs_33 h.ok.1 q
  have hp := fun W => rplace_any (q := q) (w := W) h.ok.1 h.ok.2.1 m.pl 4 h.ok.2.2.2.2.1 (Or.inr (Or.inl rfl))
  have HH := Lib.hid h
  generalize hcs0 : mcs m q = cs0 at *
  have w33 : ∀ Z, ((w.alloc (Obj.cells cs0 34)).alloc Z).cell? ⟨w.heap.size, 33, none⟩ = some (.int .u64 m.pl) := fun Z => by rw [cell_of_row _ _ 33 _ _ _ (aa0 _ _ _)]; exact c33
  rw [hb] at hp
  have HP := Lib.hid hp; have HZ := Lib.hid hz; have HC0 := Lib.hid hcs0
  clear h hp hz hcs0 c33 hb
  generalize m.pl = PL at *
  have hlb := HH.out.lb
  go_enter Tryd.func23, Tryd.ntmps23
  go_wp2_with (first
    | ((with_reducible refine ld36 w.heap.size cs0 ?_ ?_ HZ.out ?_); rfl; exact a4_0 _ _ _ _ _)
    | fail)
  generalize hX : ((((w.alloc _).alloc _).alloc _).alloc _) = X
  have hb4 : Below w.heap.size w X := by rw [← hX]; exact bw_alloc (bw_alloc (bw_alloc (bw_alloc (Below.refl w.heap.size w) _) _) _) _
  have k0 : X.heap[w.heap.size]? = some (.cells cs0 34) := by rw [← hX]; exact a4_0 _ _ _ _ _
  have k1 : X.heap[w.heap.size + 1]? = some (.cells #[.slice A R.inp.length c, .slice oA on oc, .int .i64 R.checks, .slice sA sn sc] 71) := by rw [← hX]; exact a4_1 _ _ _ _ _
  have k2 : ∃ old : Array Value, old.size = 36 ∧ X.heap[w.heap.size + 2]? = some (.cells old 34) := by rw [← hX]; exact ⟨_, rfl, a4_2 _ _ _ _ _⟩
  have k3 : ∃ old : Array Value, old.size = 4 ∧ X.heap[w.heap.size + 3]? = some (.cells old 71) := by rw [← hX]; exact ⟨_, rfl, a4_3 _ _ _ _ _⟩
  clear hX w33
  with_reducible refine (HP.out X).mono ?_
  rintro e X1 ⟨rfl, bp⟩
  have hb5 := hb4.trans (bp.mono hb4.size)
  obtain ⟨o3, z3, k2⟩ := k2
  obtain ⟨o4, z4, k3⟩ := k3
  have K0 := Lib.hid (row_at bp (lt_of_at k0) k0); have K1 := Lib.hid (row_at bp (lt_of_at k1) k1); have K2 := Lib.hid (row_at bp (lt_of_at k2) k2); have K3 := Lib.hid (row_at bp (lt_of_at k3) k3); have HB5 := Lib.hid hb5
  clear k0 k1 k2 k3 bp hb4 hb5
  go_wp2_with fail
  refine tail7 w.heap.size (w.heap.size + 1) (w.heap.size + 2) (w.heap.size + 3) cs0 #[.slice A R.inp.length c, .slice oA on oc, .int .i64 R.checks, .slice sA sn sc] o3 o4 (.bool false) (by kernel_rfl) (by kernel_rfl) (by kernel_rfl) (by kernel_rfl) (by kernel_rfl) (by kernel_rfl) (by kernel_rfl) (by kernel_rfl) rfl rfl rfl rfl rfl rfl rfl rfl rfl rfl rfl rfl K0.out K1.out K2.out K3.out HZ.out rfl z3 z4 ha (by simp [Value.oneCell']) (by omega) (by omega) (HH.out.below HB5.out) (w0 := w) (Fw.below HB5.out) (by omega) (by omega) ?_
  intro Y y1 y2 y3 y4
  go_wp2_with fail
  exact bodyPost_ret (v := .tuple #[.agg cs0, .agg #[.slice A R.inp.length c, .slice oA on oc, .int .i64 R.checks, .slice sA sn sc], .bool false]) (res_cct Tryd.results23 _ _ _ _ _ _ _ rfl rfl rfl y1 HZ.out y2 rfl) rfl ⟨m, R, A, c, oA, on, oc, sA, sn, sc, false, rfl, fun _ => ⟨rfl, rfl⟩, by rw [HC0.out], y3, y4⟩
end Go.Proofs.YtppcbommaddkgaaDoor
namespace Go.Proofs.YtppcbommaddkgaaDoor
open Go.RowKit Go.Maps
set_option linter.unusedVariables false
set_option linter.unusedSimpArgs false
set_option maxRecDepth 10000
open Pm Pc Pl
set_option maxHeartbeats 3000000 in
theorem rstep_ref {m : Ma} {q base : Nat} {w : World} {R : Ru} {A : Option Addr} {c : Nat} {oA sA : Option Addr} {on oc sn sc : Nat} (h : Rd w base q m R A c (.slice oA on oc) (.slice sA sn sc)) (hb : hasB m.pl 4 m.mem.length = true) (hdec : ∀ W : World, Calls Tryd.prog 29 #[.int .u32 (wordAt m)] W fun e w' => e = .returned (.tuple #[ins 0 0 0 0 0, .bool false]) ∧ Below W.heap.size W w') :
    Calls Tryd.prog 23 #[.agg (mcs m q), .agg #[.slice A R.inp.length c, .slice oA on oc, .int .i64 R.checks, .slice sA sn sc]] w (RTo w base q m R none) := by
  have hz := mcs_size h.ok.1 q
  have ha := mcs_all m q
  have c33 := mcs_33 h.ok.1 q
  have hp := fun W => rplace_any (q := q) (w := W) h.ok.1 h.ok.2.1 m.pl 4 h.ok.2.2.2.2.1 (Or.inr (Or.inl rfl))
  have HH := Lib.hid h
  generalize hcs0 : mcs m q = cs0 at *
  have w33 : ∀ Z, ((w.alloc (Obj.cells cs0 34)).alloc Z).cell? ⟨w.heap.size, 33, none⟩ = some (.int .u64 m.pl) := fun Z => by rw [cell_of_row _ _ 33 _ _ _ (aa0 _ _ _)]; exact c33
  rw [hb] at hp
  have hfit : m.pl + 4 ≤ m.mem.length := by unfold hasB at hb; exact (of_decide_eq_true hb).2
  have hbyte : ∀ i : Nat, 0 ≤ m.mem.getD i 0 ∧ m.mem.getD i 0 < 256 := fun i => by
    by_cases hi : i < m.mem.length
    · have e : m.mem.getD i 0 = m.mem[i] := by simp [List.getD, hi]
      rw [e]; exact h.ok.2.2.2.1 _ (List.getElem_mem hi)
    · have e : m.mem.getD i 0 = 0 := by simp [List.getD, List.getElem?_eq_none (Nat.le_of_not_lt hi)]
      rw [e]; omega
  have hpl0 := h.ok.2.2.2.2.1.1
  have HG : Hid (∀ W : World, W.heap[q]? = some (.cells (u8s m.mem).toArray 5) → Calls Tryd.prog 30 #[.agg cs0, .int .u64 m.pl, .int .i64 4] W fun e w' => e = .returned (.int .u64 (wordAt m)) ∧ Below W.heap.size W w') := Lib.hid fun W hW => by
    have := rget_any (q := q) (w := W) h.ok.1 h.ok.2.1 hbyte m.pl.toNat 4 (by omega) (by omega) hW
    rw [hcs0, Int.toNat_of_nonneg hpl0] at this
    exact this
  have hwr := getV_range m.mem hbyte 4 m.pl.toNat
  have hwd : 0 ≤ wordAt m ∧ wordAt m < 4294967296 := ⟨hwr.1, Int.lt_of_lt_of_le hwr.2 (by decide)⟩
  have hwrap : IntKind.u32.wrap (wordAt m) = wordAt m := by simp [IntKind.wrap, IntKind.bits, IntKind.signed]; omega
  have HDEC := Lib.hid hdec
  clear hdec hfit hbyte hwr hpl0
  generalize wordAt m = WD at *
  have HP := Lib.hid hp; have HZ := Lib.hid hz; have HC0 := Lib.hid hcs0
  have C33 := Lib.hid c33
  clear h hp hz hcs0 c33 hb
  generalize hPLm : m.pl = PL at *
  have HPL0 := Lib.hid hPLm
  clear hPLm
  have hlb := HH.out.lb
  go_enter Tryd.func23, Tryd.ntmps23
  go_wp2_with (first
    | ((with_reducible refine ld36 w.heap.size cs0 ?_ ?_ HZ.out ?_); rfl; exact a4_0 _ _ _ _ _)
    | fail)
  generalize hX : ((((w.alloc _).alloc _).alloc _).alloc _) = X
  have hb4 : Below w.heap.size w X := by rw [← hX]; exact bw_alloc (bw_alloc (bw_alloc (bw_alloc (Below.refl w.heap.size w) _) _) _) _
  have k0 : X.heap[w.heap.size]? = some (.cells cs0 34) := by rw [← hX]; exact a4_0 _ _ _ _ _
  have k1 : X.heap[w.heap.size + 1]? = some (.cells #[.slice A R.inp.length c, .slice oA on oc, .int .i64 R.checks, .slice sA sn sc] 71) := by rw [← hX]; exact a4_1 _ _ _ _ _
  have k2 : ∃ old : Array Value, old.size = 36 ∧ X.heap[w.heap.size + 2]? = some (.cells old 34) := by rw [← hX]; exact ⟨_, rfl, a4_2 _ _ _ _ _⟩
  have k3 : ∃ old : Array Value, old.size = 4 ∧ X.heap[w.heap.size + 3]? = some (.cells old 71) := by rw [← hX]; exact ⟨_, rfl, a4_3 _ _ _ _ _⟩
  clear hX w33
  with_reducible refine (HP.out X).mono ?_
  rintro e X1 ⟨rfl, bp⟩
  have hb5 := hb4.trans (bp.mono hb4.size)
  obtain ⟨o3, z3, k2⟩ := k2
  obtain ⟨o4, z4, k3⟩ := k3
  have K0 := Lib.hid (row_at bp (lt_of_at k0) k0); have K1 := Lib.hid (row_at bp (lt_of_at k1) k1); have K2 := Lib.hid (row_at bp (lt_of_at k2) k2); have K3 := Lib.hid (row_at bp (lt_of_at k3) k3); have HB5 := Lib.hid hb5
  clear k0 k1 k2 k3 bp hb4 hb5
  have c33' : cs0[33]? = some (.int .u64 PL) := C33.out
  have x33 : X1.cell? ⟨w.heap.size, 33, none⟩ = some (.int .u64 PL) := by rw [cell_of_row _ _ 33 _ _ _ K0.out]; exact c33'
  clear c33'
  go_wp2_with (first
    | ((with_reducible refine ld36 w.heap.size cs0 ?_ ?_ HZ.out ?_); rfl; exact K0.out)
    | fail)
  refine (HG.out X1 ((HB5.out.block q (lt_of_at HH.out.mem)).trans HH.out.mem)).mono ?_
  rintro e X2 ⟨rfl, b2⟩
  go_wp2_with fail
  with_reducible refine (HDEC.out X2).mono ?_
  rintro e X3 ⟨rfl, b3⟩
  have bX3 : Below X1.heap.size X1 X3 := b2.trans (b3.mono b2.size)
  have hX3 := HB5.out.size
  have hX4 := lt_of_at K3.out
  have hX5 := bX3.size
  have hbb := bX3.trans ((bw_alloc (Below.refl X3.heap.size X3) (Obj.cells #[.int .i64 0, .int .i64 0, .int .i64 0, .int .i64 0, .int .i64 0] 49)).mono bX3.size)
  have k0 := Lib.hid (row_at hbb (lt_of_at K0.out) K0.out); have k1 := Lib.hid (row_at hbb (lt_of_at K1.out) K1.out); have k2 := Lib.hid (row_at hbb (lt_of_at K2.out) K2.out); have k3 := Lib.hid (row_at hbb (lt_of_at K3.out) K3.out)
  have HB6 := Lib.hid (HB5.out.trans (hbb.mono HB5.out.size))
  clear hbb bX3 b3 b2 K0 K1 K2 K3
  go_wp2_with fail
  refine tail7 w.heap.size (w.heap.size + 1) (w.heap.size + 2) (w.heap.size + 3) cs0 #[.slice A R.inp.length c, .slice oA on oc, .int .i64 R.checks, .slice sA sn sc] o3 o4 (.bool false) (by kernel_rfl) (by kernel_rfl) (by kernel_rfl) (by kernel_rfl) (by kernel_rfl) (by kernel_rfl) (by kernel_rfl) (by kernel_rfl) rfl rfl rfl rfl rfl rfl rfl rfl rfl rfl rfl rfl k0.out k1.out k2.out k3.out HZ.out rfl z3 z4 ha (by simp [Value.oneCell']) (by omega) (by omega) (HH.out.below HB6.out) (w0 := w) (Fw.below HB6.out) (by omega) (by omega) ?_
  intro Y y1 y2 y3 y4
  go_wp2_with fail
  exact bodyPost_ret (v := .tuple #[.agg cs0, .agg #[.slice A R.inp.length c, .slice oA on oc, .int .i64 R.checks, .slice sA sn sc], .bool false]) (res_cct Tryd.results23 _ _ _ _ _ _ _ rfl rfl rfl y1 HZ.out y2 rfl) rfl ⟨m, R, A, c, oA, on, oc, sA, sn, sc, false, rfl, fun _ => ⟨rfl, rfl⟩, by rw [HC0.out], y3, y4⟩
theorem dI_range (k u : Int) (h : 0 ≤ u ∧ u < 4294967296) : -9223372036854775808 ≤ dI k u ∧ dI k u < 9223372036854775808 := by
  unfold dI sg
  repeat' split
  all_goals omega
/-- Behind a load or a store; none: it faults. -/
def memV (m : Ma) (R : Ru) (op : Int) (rd r1 r2 : Nat) (n : Int) : Option (Ma × Ru) :=
  if hasB (m.ad r1 n) (widthV op) m.mem.length = true then
    (if op ≤ 41 then some (m.set rd (nrV (op != 39) (getV m.mem (m.ad r1 n).toNat (widthV op).toNat) (8 * widthV op)), R.note ⟨m.pl, m.ad r1 n, widthV op, false⟩)
     else some ({ m with mem := putV m.mem (m.ad r1 n).toNat (m.reg r2) (widthV op).toNat }, R.note ⟨m.pl, m.ad r1 n, widthV op, true⟩)) else none
theorem rto_as {w : World} {base q : Nat} {m : Ma} {R : Ru} {o o' : Option (Ma × Ru)} {e : Ending} {w' : World} (h : RTo w base q m R o e w') (ho : o = o') : RTo w base q m R o' e w' := by subst ho; exact h
theorem rmem_any {m : Ma} {q base : Nat} {w : World} {R : Ru} {A : Option Addr} {c : Nat} {oA sA : Option Addr} {on oc sn sc : Nat} (op n : Int) (rd r1 r2 : Nat) (hop : 38 ≤ op ∧ op ≤ 44) (hn : -9223372036854775808 ≤ n ∧ n < 9223372036854775808) (h1 : r1 < 32) (h2 : r2 < 32) (hd : rd < 32) (h : Rd w base q m R A c (.slice oA on oc) (.slice sA sn sc)) (hls : R.seen.length + 1 < 1099511627776) :
    Calls Tryd.prog 34 #[.agg (mcs m q), .agg #[.slice A R.inp.length c, .slice oA on oc, .int .i64 R.checks, .slice sA sn sc], ins op rd r1 r2 n] w (RTo w base q m R (memV m R op rd r1 r2 n)) := by
  have ho : op = 38 ∨ op = 39 ∨ op = 40 ∨ op = 41 ∨ op = 42 ∨ op = 43 ∨ op = 44 := by omega
  cases hb : hasB (m.ad r1 n) (widthV op) m.mem.length
  · rcases ho with rfl | rfl | rfl | rfl | rfl | rfl | rfl
    · exact (rmem_no38 n rd r1 r2 hn h1 h2 hd h hb).mono fun e w' hs => rto_as hs (by unfold memV; rw [if_neg (by rw [hb]; decide)])
    · exact (rmem_no39 n rd r1 r2 hn h1 h2 hd h hb).mono fun e w' hs => rto_as hs (by unfold memV; rw [if_neg (by rw [hb]; decide)])
    · exact (rmem_no40 n rd r1 r2 hn h1 h2 hd h hb).mono fun e w' hs => rto_as hs (by unfold memV; rw [if_neg (by rw [hb]; decide)])
    · exact (rmem_no41 n rd r1 r2 hn h1 h2 hd h hb).mono fun e w' hs => rto_as hs (by unfold memV; rw [if_neg (by rw [hb]; decide)])
    · exact (rmem_no42 n rd r1 r2 hn h1 h2 hd h hb).mono fun e w' hs => rto_as hs (by unfold memV; rw [if_neg (by rw [hb]; decide)])
    · exact (rmem_no43 n rd r1 r2 hn h1 h2 hd h hb).mono fun e w' hs => rto_as hs (by unfold memV; rw [if_neg (by rw [hb]; decide)])
    · exact (rmem_no44 n rd r1 r2 hn h1 h2 hd h hb).mono fun e w' hs => rto_as hs (by unfold memV; rw [if_neg (by rw [hb]; decide)])
  · rcases ho with rfl | rfl | rfl | rfl | rfl | rfl | rfl
    · exact (rmem_ld38 n rd r1 r2 hn h1 h2 hd h hb hls).mono fun e w' hs => rto_as hs (by unfold memV; rw [if_pos hb]; rfl)
    · exact (rmem_ld39 n rd r1 r2 hn h1 h2 hd h hb hls).mono fun e w' hs => rto_as hs (by unfold memV; rw [if_pos hb]; rfl)
    · exact (rmem_ld40 n rd r1 r2 hn h1 h2 hd h hb hls).mono fun e w' hs => rto_as hs (by unfold memV; rw [if_pos hb]; rfl)
    · exact (rmem_ld41 n rd r1 r2 hn h1 h2 hd h hb hls).mono fun e w' hs => rto_as hs (by unfold memV; rw [if_pos hb]; rfl)
    · exact (rmem_st42 n rd r1 r2 hn h1 h2 hd h hb hls).mono fun e w' hs => rto_as hs (by unfold memV; rw [if_pos hb]; rfl)
    · exact (rmem_st43 n rd r1 r2 hn h1 h2 hd h hb hls).mono fun e w' hs => rto_as hs (by unfold memV; rw [if_pos hb]; rfl)
    · exact (rmem_st44 n rd r1 r2 hn h1 h2 hd h hb hls).mono fun e w' hs => rto_as hs (by unfold memV; rw [if_pos hb]; rfl)
theorem rdo_step {m : Ma} {q base : Nat} {w : World} {R : Ru} {A : Option Addr} {c : Nat} {oA sA : Option Addr} {on oc sn sc : Nat} (h : Rd w base q m R A c (.slice oA on oc) (.slice sA sn sc)) (hb : hasB m.pl 4 m.mem.length = true) (op n : Int) (rd r1 r2 : Nat) (hop : 1 ≤ op ∧ op ≤ 55) (hn : -9223372036854775808 ≤ n ∧ n < 9223372036854775808) (hd : rd < 32) (h1 : r1 < 32) (h2 : r2 < 32) (hr2 : 28 ≤ op ∧ op ≤ 37 → r2 = 0)
    (hdec : ∀ W : World, Calls Tryd.prog 29 #[.int .u32 (wordAt m)] W fun e w' => e = .returned (.tuple #[ins op rd r1 r2 n, .bool true]) ∧ Below W.heap.size W w')
    (hl : R.out.length + 1 < 1099511627776) (hls : R.seen.length + 1 < 1099511627776) (hch : R.checks < 1099511627776) :
    Calls Tryd.prog 23 #[.agg (mcs m q), .agg #[.slice A R.inp.length c, .slice oA on oc, .int .i64 R.checks, .slice sA sn sc]] w (RTo w base q m R (doV m R op rd r1 r2 n)) := by
  have hnx : IntKind.u64.wrap (m.pl + 4) = m.nx := by rw [IntKind.wrap_u64]; rfl
  by_cases k1 : op ≤ 27
  · exact (rstep_R h hb op n rd r1 r2 ⟨hop.1, k1⟩ hn hd h1 h2 hdec).mono fun e w' hs => rto_as hs (by unfold doV; rw [if_pos k1, hnx]; rfl)
  by_cases k2 : op ≤ 37
  · by_cases hmk : op = 28 ∧ rd = 0 ∧ r1 = 0 ∧ n = 1
    · exact (rstep_M h hb op n rd r1 r2 (by omega) hn hd h1 h2 hmk hch hdec).mono fun e w' hs => rto_as hs (by
        have : markB op rd r1 r2 n = true := decide_eq_true ⟨hmk.1, by omega, by omega, by have := hr2 (by omega); omega, hmk.2.2.2⟩
        unfold doV; rw [if_neg k1, if_pos k2, if_pos this, hnx]; rfl)
    · exact (rstep_I h hb op n rd r1 r2 (by omega) hn hd h1 h2 hmk hdec).mono fun e w' hs => rto_as hs (by
        have : ¬ markB op rd r1 r2 n = true := fun hh => hmk (by have := of_decide_eq_true hh; exact ⟨this.1, by omega, by omega, this.2.2.2.2⟩)
        unfold doV; rw [if_neg k1, if_pos k2, if_neg this, hnx]; rfl)
  by_cases k4 : op ≤ 44
  · refine (rstep_mem h hb op n rd r1 r2 (by omega) hn hd h1 h2 (memV m R op rd r1 r2 n) (fun X hX => rmem_any op n rd r1 r2 (by omega) hn h1 h2 hd hX hls) hdec).mono fun e w' hs => rto_as hs ?_
    unfold memV doV
    rw [if_neg k1, if_neg k2]
    by_cases k3 : op ≤ 41
    · simp only [if_pos k3, hnx]
      split <;> rfl
    · simp only [if_neg k3, if_pos k4, hnx]
      split <;> rfl
  by_cases k5 : op ≤ 50
  · cases hold : holdV op (m.x.getD r1 0) (m.x.getD r2 0)
    · exact (rstep_no h hb op n rd r1 r2 (by omega) hn hd h1 h2 hold hdec).mono fun e w' hs => rto_as hs (by
        have hh : ¬ holdV op (m.reg r1) (m.reg r2) = true := by rw [show holdV op (m.reg r1) (m.reg r2) = false from hold]; decide
        unfold doV; rw [if_neg k1, if_neg k2, if_neg (by omega), if_neg k4, if_pos k5, if_neg hh, hnx])
    · exact (rstep_br h hb op n rd r1 r2 (by omega) hn hd h1 h2 hold hdec).mono fun e w' hs => rto_as hs (by
        have hh : holdV op (m.reg r1) (m.reg r2) = true := hold
        unfold doV; rw [if_neg k1, if_neg k2, if_neg (by omega), if_neg k4, if_pos k5, if_pos hh, IntKind.wrap_u64])
  have ho : op = 51 ∨ op = 52 ∨ op = 53 ∨ op = 54 ∨ op = 55 := by omega
  rcases ho with rfl | rfl | rfl | rfl | rfl
  · exact (rstep_lui h hb 51 n rd r1 r2 rfl hn hd h1 h2 hdec).mono fun e w' hs => rto_as hs (by simp only [IntKind.wrap_u64]; rfl)
  · exact (rstep_auipc h hb 52 n rd r1 r2 rfl hn hd h1 h2 hdec).mono fun e w' hs => rto_as hs (by
      simp only [IntKind.wrap_u64]
      show _ = some (({ m.set rd ((m.pl + n % 18446744073709551616 * 4096 % 18446744073709551616) % 18446744073709551616) with pl := m.nx } : Ma), R)
      rw [Int.add_comm m.pl (n % 18446744073709551616 * 4096 % 18446744073709551616)]; rfl)
  · exact (rstep_jal h hb 53 n rd r1 r2 rfl hn hd h1 h2 hdec).mono fun e w' hs => rto_as hs (by simp only [IntKind.wrap_u64]; rfl)
  · exact (rstep_jalr h hb 54 n rd r1 r2 rfl hn hd h1 h2 hdec).mono fun e w' hs => rto_as hs (by
      have hq := reg_range h.ok r1
      have e2 : IntKind.u64.wrap (IntKind.u64.wrap ((IntKind.u64.wrap (m.x.getD r1 0 + n % 18446744073709551616)).tdiv 2) * 2) = m.ad r1 n / 2 * 2 := by
        unfold Ma.ad Ma.reg; simp only [IntKind.wrap_u64]
        rw [Int.tdiv_eq_ediv_of_nonneg (Int.emod_nonneg _ (by decide))]; omega
      rw [e2, hnx]; rfl)
  · refine (rstep_call h hb 55 n rd r1 r2 rfl hn hd h1 h2 (callV m R) (fun X hX => rcall_any hX hl) hdec).mono fun e w' hs => rto_as hs ?_
    show _ = (match callV m R with | some x => some (({ x.1 with pl := m.nx } : Ma), x.2) | none => none)
    rw [hnx]
    cases callV m R <;> rfl
/-- A step of the document, of any machine. -/
theorem rstep_any {m : Ma} {q base : Nat} {w : World} {R : Ru} {A : Option Addr} {c : Nat} {oA sA : Option Addr} {on oc sn sc : Nat} (h : Rd w base q m R A c (.slice oA on oc) (.slice sA sn sc)) (hl : R.out.length + 1 < 1099511627776) (hls : R.seen.length + 1 < 1099511627776) (hch : R.checks < 1099511627776) :
    Calls Tryd.prog 23 #[.agg (mcs m q), .agg #[.slice A R.inp.length c, .slice oA on oc, .int .i64 R.checks, .slice sA sn sc]] w (RTo w base q m R (stepV m R)) := by
  cases hb : hasB m.pl 4 m.mem.length
  · exact (rstep_out h hb).mono fun e w' hs => rto_as hs (by unfold stepV; rw [if_neg (by rw [hb]; simp)])
  have hbyte : ∀ i : Nat, 0 ≤ m.mem.getD i 0 ∧ m.mem.getD i 0 < 256 := fun i => by
    by_cases hi : i < m.mem.length
    · have e : m.mem.getD i 0 = m.mem[i] := by simp [List.getD, hi]
      rw [e]; exact h.ok.2.2.2.1 _ (List.getElem_mem hi)
    · have e : m.mem.getD i 0 = 0 := by simp [List.getD, List.getElem?_eq_none (Nat.le_of_not_lt hi)]
      rw [e]; omega
  have hwr := getV_range m.mem hbyte 4 m.pl.toNat
  have hwd : 0 ≤ wordAt m ∧ wordAt m < 4294967296 := ⟨hwr.1, Int.lt_of_lt_of_le hwr.2 (by decide)⟩
  by_cases hf : findOp (wordAt m) = 0
  · refine (rstep_ref h hb fun W => (refDecode_any (wordAt m) W hwd.1 hwd.2).mono ?_).mono fun e w' hs => rto_as hs (by unfold stepV; rw [if_neg (by rw [hf]; simp)])
    rintro e w' ⟨rfl, hbw⟩
    rw [hf]
    exact ⟨rfl, hbw⟩
  · have hds := d_small (kOf (wordAt m)) (wordAt m)
    have hdi := dI_range (kOf (wordAt m)) (wordAt m) hwd
    have hfo := findOp_range (wordAt m)
    refine (rdo_step h hb (findOp (wordAt m)) (dI (kOf (wordAt m)) (wordAt m)) (dRd (kOf (wordAt m)) (wordAt m)).toNat (dR1 (kOf (wordAt m)) (wordAt m)).toNat (dR2 (kOf (wordAt m)) (wordAt m)).toNat (by omega) (by omega) (by omega) (by omega) (by omega) (fun ho => ?_) (fun W => (refDecode_any (wordAt m) W hwd.1 hwd.2).mono ?_) hl hls hch).mono fun e w' hs => rto_as hs (by unfold stepV; rw [if_pos ⟨hb, hf⟩])
    · have hk : dR2 (kOf (wordAt m)) (wordAt m) = 0 := by
        have := ho
        generalize hx : findOp (wordAt m) = op at *
        unfold kOf
        rw [hx]
        have hoo : op = 28 ∨ op = 29 ∨ op = 30 ∨ op = 31 ∨ op = 32 ∨ op = 33 ∨ op = 34 ∨ op = 35 ∨ op = 36 ∨ op = 37 := by omega
        rcases hoo with rfl | rfl | rfl | rfl | rfl | rfl | rfl | rfl | rfl | rfl <;> rfl
      rw [hk]; rfl
    · rintro e w' ⟨rfl, hbw⟩
      refine ⟨?_, hbw⟩
      have hbeq : (findOp (wordAt m) == 0) = false := by simpa using hf
      simp only [if_neg hf, hbeq, Int.toNat_of_nonneg hds.1, Int.toNat_of_nonneg hds.2.2.1, Int.toNat_of_nonneg hds.2.2.2.2.1]
      rfl
end Go.Proofs.YtppcbommaddkgaaDoor
