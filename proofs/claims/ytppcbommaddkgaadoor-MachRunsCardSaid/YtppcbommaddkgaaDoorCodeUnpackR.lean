/- What a word uses, taken apart by a form: the instruction. At most new blocks in memory. Conditions: the ranges that each theorem names. -/
import Derived.Test.YtppcbommaddkgaaDoorCodeUnpackH
namespace Go.Proofs.YtppcbommaddkgaaDoor
open Go.RowKit
set_option linter.unusedVariables false
set_option linter.unusedSimpArgs false
set_option maxRecDepth 10000
open Pc
section
variable (fx lo hi st a0 w0 c0 a1 w1 c1 a2 w2 c2 a3 w3 c3 op u : Int)

set_option maxHeartbeats 4000000 in
theorem unpack_R (V0 V1 V2 V3 n1 n2 n3 n4 : Int) (w : World) (hu : 0 ≤ u) (hu' : u < 4294967296) (p0 : okT a0 w0 c0) (p1 : okT a1 w1 c1) (p2 : okT a2 w2 c2) (p3 : okT a3 w3 c3)
    (HV0 : Hid (takeV a0.toNat w0.toNat c0.toNat u = V0)) (HV1 : Hid (takeV a1.toNat w1.toNat c1.toNat u = V1)) (HV2 : Hid (takeV a2.toNat w2.toNat c2.toNat u = V2)) (HV3 : Hid (takeV a3.toNat w3.toNat c3.toNat u = V3))
    (o1 : bits .or .i64 0 V0 = n1) (o2 : bits .or .i64 n1 V1 = n2) (o3 : bits .or .i64 n2 V2 = n3) (o4 : bits .or .i64 n3 V3 = n4) :
    Calls Tryd.prog 73 #[frm true true true fx lo hi st a0 w0 c0 a1 w1 c1 a2 w2 c2 a3 w3 c3, .int .i64 op, .int .u32 u] w fun e w' =>
      e = .returned (ins op (u / 2 ^ (7 : Int).toNat % 32) (u / 2 ^ (15 : Int).toNat % 32) (u / 2 ^ (20 : Int).toNat % 32) n4) ∧ Below w.heap.size w w' := by
  obtain ⟨q01, q02, q03, q04, q05, q06⟩ := p0
  obtain ⟨q11, q12, q13, q14, q15, q16⟩ := p1
  obtain ⟨q21, q22, q23, q24, q25, q26⟩ := p2
  obtain ⟨q31, q32, q33, q34, q35, q36⟩ := p3
  have i0 := idx0 a0 w0 c0 a1 w1 c1 a2 w2 c2 a3 w3 c3
  have i1 := idx1 a0 w0 c0 a1 w1 c1 a2 w2 c2 a3 w3 c3
  have i2 := idx2 a0 w0 c0 a1 w1 c1 a2 w2 c2 a3 w3 c3
  have i3 := idx3 a0 w0 c0 a1 w1 c1 a2 w2 c2 a3 w3 c3
  generalize hRD : u / 2 ^ (7 : Int).toNat % 32 = RD
  have HRD := Lib.hid hRD; clear hRD
  generalize hR1 : u / 2 ^ (15 : Int).toNat % 32 = R1
  have HR1 := Lib.hid hR1; clear hR1
  generalize hR2 : u / 2 ^ (20 : Int).toNat % 32 = R2
  have HR2 := Lib.hid hR2; clear hR2
  go_enter Tryd.func73, Tryd.ntmps73
  go_wp2_with fail
  refine (register_any u 7 _ hu hu' (by decide) (by decide)).mono ?_
  rintro e w' ⟨rfl, rfl⟩
  rw [HRD.out]
  go_wp2_with fail
  refine (register_any u 15 _ hu hu' (by decide) (by decide)).mono ?_
  rintro e w' ⟨rfl, rfl⟩
  rw [HR1.out]
  go_wp2_with fail
  refine (register_any u 20 _ hu hu' (by decide) (by decide)).mono ?_
  rintro e w' ⟨rfl, rfl⟩
  rw [HR2.out]
  go_wp2_with (refine wpList_load_mid (op := ⟨some 28, _, _, _, _, _⟩) rfl 132 (.tmp 27) rfl w.heap.size 7 rfl [.int .i64 a0, .int .i64 w0, .int .i64 c0, .int .i64 a1, .int .i64 w1, .int .i64 c1, .int .i64 a2, .int .i64 w2, .int .i64 c2, .int .i64 a3, .int .i64 w3, .int .i64 c3] _ (range_of_row 7 _ (heap_alloc3_old w _ _ _) rfl) Tryd.underlying132 rfl sizePieces ?_)
  have hZ0 : (((boxF w true true true fx lo hi st a0 w0 c0 a1 w1 c1 a2 w2 c2 a3 w3 c3).alloc (insB 0 0 0 0 0)).alloc (insB op RD R1 R2 0)).heap[w.heap.size + 1]? = some (insB 0 0 0 0 0) := blk2 _ _ _ _
  have hI0 : (((boxF w true true true fx lo hi st a0 w0 c0 a1 w1 c1 a2 w2 c2 a3 w3 c3).alloc (insB 0 0 0 0 0)).alloc (insB op RD R1 R2 0)).heap[w.heap.size + 1 + 1]? = some (insB op RD R1 R2 0) := blk3 _ _ _ _
  have hB0 : Below w.heap.size w (((boxF w true true true fx lo hi st a0 w0 c0 a1 w1 c1 a2 w2 c2 a3 w3 c3).alloc (insB 0 0 0 0 0)).alloc (insB op RD R1 R2 0)) := below3 _ _ _ _
  have hz0 : w.heap.size + 1 + 1 < (((boxF w true true true fx lo hi st a0 w0 c0 a1 w1 c1 a2 w2 c2 a3 w3 c3).alloc (insB 0 0 0 0 0)).alloc (insB op RD R1 R2 0)).heap.size := by simp
  generalize ((boxF w true true true fx lo hi st a0 w0 c0 a1 w1 c1 a2 w2 c2 a3 w3 c3).alloc (insB 0 0 0 0 0)).alloc (insB op RD R1 R2 0) = x0 at *
  refine wp_loop_rounds 5 ?_
  rw [rounds_succ]
  have hcI : x0.cell? ⟨w.heap.size + 1 + 1, 4, none⟩ = some (.int .i64 0) := by rw [cell_of_row x0 _ 4 _ _ _ hI0]; rfl
  have hfI : x0.frozen? ⟨w.heap.size + 1 + 1, 4, none⟩ = false := frozen_of_row x0 _ 4 _ _ hI0
  go_wp2_with fail
  apply cut_frame (R := UnRel w op RD R1 R2 n1)
  case first =>
    go_region_with (go_at_call 80; refine (take_at a0 w0 c0 u V0 _ hu hu' q01 q02 q03 q04 q05 q06 HV0).mono ?_; rintro e y ⟨rfl, hb⟩; obtain ⟨hc, hf⟩ := bcell hb; have hz := hb.size; have f1 := hf (w.heap.size + 1 + 1) 4 (by simp only [szA, szD]; omega); have f2 := hc (w.heap.size + 1 + 1) 4 (by simp only [szA, szD]; omega); clear hc hf; simp only [szA, szD] at hz)
    all_goals
      go_wp2_with fail
      refine ⟨rfl, ?_⟩
      exact un_rel hB0 hZ0 hI0 hz0 (by repeat (first | exact Below.refl _ _ | apply Below.drew | (refine Below.alloc ?_ (by simp) _))) hb
  case rest =>
    rintro wc ⟨hZ1, hI1, hB1, hz1⟩
    clear hcI hfI hZ0 hI0 hB0 hz0
    generalize wc = x1 at *
    go_wp2_with fail
    rw [rounds_succ]
    have hcI : x1.cell? ⟨w.heap.size + 1 + 1, 4, none⟩ = some (.int .i64 n1) := by rw [cell_of_row x1 _ 4 _ _ _ hI1]; rfl
    have hfI : x1.frozen? ⟨w.heap.size + 1 + 1, 4, none⟩ = false := frozen_of_row x1 _ 4 _ _ hI1
    go_wp2_with fail
    apply cut_frame (R := UnRel w op RD R1 R2 n2)
    case first =>
      go_region_with (go_at_call 80; refine (take_at a1 w1 c1 u V1 _ hu hu' q11 q12 q13 q14 q15 q16 HV1).mono ?_; rintro e y ⟨rfl, hb⟩; obtain ⟨hc, hf⟩ := bcell hb; have hz := hb.size; have f1 := hf (w.heap.size + 1 + 1) 4 (by simp only [szA, szD]; omega); have f2 := hc (w.heap.size + 1 + 1) 4 (by simp only [szA, szD]; omega); clear hc hf; simp only [szA, szD] at hz)
      all_goals
        go_wp2_with fail
        refine ⟨rfl, ?_⟩
        exact un_rel hB1 hZ1 hI1 hz1 (by repeat (first | exact Below.refl _ _ | apply Below.drew | (refine Below.alloc ?_ (by simp) _))) hb
    case rest =>
      rintro wc ⟨hZ2, hI2, hB2, hz2⟩
      clear hcI hfI hZ1 hI1 hB1 hz1
      generalize wc = x2 at *
      go_wp2_with fail
      rw [rounds_succ]
      have hcI : x2.cell? ⟨w.heap.size + 1 + 1, 4, none⟩ = some (.int .i64 n2) := by rw [cell_of_row x2 _ 4 _ _ _ hI2]; rfl
      have hfI : x2.frozen? ⟨w.heap.size + 1 + 1, 4, none⟩ = false := frozen_of_row x2 _ 4 _ _ hI2
      go_wp2_with fail
      apply cut_frame (R := UnRel w op RD R1 R2 n3)
      case first =>
        go_region_with (go_at_call 80; refine (take_at a2 w2 c2 u V2 _ hu hu' q21 q22 q23 q24 q25 q26 HV2).mono ?_; rintro e y ⟨rfl, hb⟩; obtain ⟨hc, hf⟩ := bcell hb; have hz := hb.size; have f1 := hf (w.heap.size + 1 + 1) 4 (by simp only [szA, szD]; omega); have f2 := hc (w.heap.size + 1 + 1) 4 (by simp only [szA, szD]; omega); clear hc hf; simp only [szA, szD] at hz)
        all_goals
          go_wp2_with fail
          refine ⟨rfl, ?_⟩
          exact un_rel hB2 hZ2 hI2 hz2 (by repeat (first | exact Below.refl _ _ | apply Below.drew | (refine Below.alloc ?_ (by simp) _))) hb
      case rest =>
        rintro wc ⟨hZ3, hI3, hB3, hz3⟩
        clear hcI hfI hZ2 hI2 hB2 hz2
        generalize wc = x3 at *
        go_wp2_with fail
        rw [rounds_succ]
        have hcI : x3.cell? ⟨w.heap.size + 1 + 1, 4, none⟩ = some (.int .i64 n3) := by rw [cell_of_row x3 _ 4 _ _ _ hI3]; rfl
        have hfI : x3.frozen? ⟨w.heap.size + 1 + 1, 4, none⟩ = false := frozen_of_row x3 _ 4 _ _ hI3
        go_wp2_with fail
        apply cut_frame (R := UnRel w op RD R1 R2 n4)
        case first =>
          go_region_with (go_at_call 80; refine (take_at a3 w3 c3 u V3 _ hu hu' q31 q32 q33 q34 q35 q36 HV3).mono ?_; rintro e y ⟨rfl, hb⟩; obtain ⟨hc, hf⟩ := bcell hb; have hz := hb.size; have f1 := hf (w.heap.size + 1 + 1) 4 (by simp only [szA, szD]; omega); have f2 := hc (w.heap.size + 1 + 1) 4 (by simp only [szA, szD]; omega); clear hc hf; simp only [szA, szD] at hz)
          all_goals
            go_wp2_with fail
            refine ⟨rfl, ?_⟩
            exact un_rel hB3 hZ3 hI3 hz3 (by repeat (first | exact Below.refl _ _ | apply Below.drew | (refine Below.alloc ?_ (by simp) _))) hb
        case rest =>
          rintro wc ⟨hZ4, hI4, hB4, hz4⟩
          clear hcI hfI hZ3 hI3 hB3 hz3
          generalize wc = x4 at *
          go_wp2_with fail
          rw [rounds_succ]
          go_wp2_with (first | (refine wpList_load_row (o := ⟨some 40, _, _, _, _, _⟩) rfl 49 (.tmp 7) rfl (w.heap.size + 1 + 1) rfl 49 _ (0, 0) _ hI4 Tryd.underlying49 rfl sizeInstr ?_) | (refine wpList_store_row (o := ⟨none, _, _, _, _, _⟩) rfl 49 (.tmp 6) (.tmp 40) rfl (w.heap.size + 1) #[.int .i64 op, .int .i64 RD, .int .i64 R1, .int .i64 R2, .int .i64 n4] rfl rfl 49 _ hZ4 sizeInstr rfl (ins_one _ _ _ _ _) ?_))
          exact bodyPost_ret (v := ins op RD R1 R2 n4) (results_cell_row Tryd.results73 _ _ (w.heap.size + 1) 49 _ (0, 0) _ rfl (setRow_heap x4 (w.heap.size + 1) _ _ _ _ hZ4) Tryd.underlying49 rfl sizeInstr) rfl ⟨rfl, below_setRow hB4 (by omega) _⟩
end
end Go.Proofs.YtppcbommaddkgaaDoor
