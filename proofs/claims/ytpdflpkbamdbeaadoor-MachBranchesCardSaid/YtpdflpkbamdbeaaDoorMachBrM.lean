/- MachBranches answers true, of any arguments; at most new blocks in memory. Conditions: the tables as the program lays them, and that the arguments are of their Go types. -/
import Derived.Test.YtpdflpkbamdbeaaDoorMachM2
namespace Go.Proofs.YtpdflpkbamdbeaaDoor
open Go.RowKit Go.Maps
set_option linter.unusedVariables false
set_option linter.unusedSimpArgs false
set_option maxRecDepth 10000
open Pm Pc Pl
namespace Pm
def brL (k : Int) : List In5 := [(k, 0, 5, 6, 12), (53, 1, 0, 0, 12), (0, 0, 0, 0, 0), (54, 2, 7, 0, 5)]
def BrFacts (k : Int) : Prop := (bytesOf (brL k)).length ≤ 64 ∧ DecAt (maNew (bytesOf (brL k)) 64).mem 0 k 0 5 6 12 ∧ DecAt (maNew (bytesOf (brL k)) 64).mem 4 53 1 0 0 12 ∧ DecAt (maNew (bytesOf (brL k)) 64).mem 8 54 2 7 0 5
theorem br_45 : BrFacts 45 := by unfold BrFacts DecAt; decide +kernel
theorem br_46 : BrFacts 46 := by unfold BrFacts DecAt; decide +kernel
theorem br_47 : BrFacts 47 := by unfold BrFacts DecAt; decide +kernel
theorem br_48 : BrFacts 48 := by unfold BrFacts DecAt; decide +kernel
theorem br_49 : BrFacts 49 := by unfold BrFacts DecAt; decide +kernel
theorem br_50 : BrFacts 50 := by unfold BrFacts DecAt; decide +kernel
/-- The machine with its registers set. -/
def brM (k a b : Int) : Ma := (((maNew (bytesOf (brL k)) 64).set 5 a).set 6 b).set 7 16
theorem brM_eq (k a b : Int) : brM k a b = ⟨(maNew (bytesOf (brL k)) 64).mem, (((List.replicate 32 0).set 5 a).set 6 b).set 7 16, 0, 0, 0⟩ := rfl
theorem br_run1 (k a b : Int) (hk : 45 ≤ k ∧ k ≤ 50) (h : BrFacts k) : (runV 1 (brM k a b) aw0).1 = { brM k a b with pl := if holdV k a b = true then 12 else 4 } := by
  have hs := stepV_dec (m := brM k a b) (R := aw0) (a := 0) rfl h.2.1
  have hd : doV (brM k a b) aw0 k 0 5 6 12 = some ({ brM k a b with pl := if holdV k a b = true then 12 else 4 }, aw0) := by
    unfold doV
    rw [if_neg (by omega), if_neg (by omega), if_neg (by omega), if_neg (by omega), if_pos (by omega)]
    rfl
  rw [runV_one rfl (hs.trans hd)]
def brM2 (k a b : Int) : Ma := { (({ brM k a b with pl := 4 } : Ma).set 1 8) with pl := 16 }
theorem br_run2 (k a b : Int) (h : BrFacts k) : (runV 1 { brM k a b with pl := 4 } aw0).1 = brM2 k a b := by
  have hs := stepV_dec (m := { brM k a b with pl := 4 }) (R := aw0) (a := 4) rfl h.2.2.1
  have hd : doV { brM k a b with pl := 4 } aw0 53 1 0 0 12 = some (brM2 k a b, aw0) := rfl
  rw [runV_one rfl (hs.trans hd)]
def brM3 (k a b : Int) : Ma := { (({ brM2 k a b with pl := 8 } : Ma).set 2 12) with pl := 20 }
theorem br_run3 (k a b : Int) (h : BrFacts k) : (runV 1 { brM2 k a b with pl := 8 } aw0).1 = brM3 k a b := by
  have hs := stepV_dec (m := { brM2 k a b with pl := 8 }) (R := aw0) (a := 8) rfl h.2.2.2
  have hd : doV { brM2 k a b with pl := 8 } aw0 54 2 7 0 5 = some (brM3 k a b, aw0) := rfl
  rw [runV_one rfl (hs.trans hd)]
end Pm
set_option maxRecDepth 100000 in
set_option maxHeartbeats 4000000 in
theorem br_45_true (op a b : Int) (w : World) (ho : 0 ≤ op ∧ op < 256) (hom : op % 6 = 0) (ha : 0 ≤ a ∧ a < 18446744073709551616) (hb : 0 ≤ b ∧ b < 18446744073709551616) (hF : FormsIn w) (hO : OpsIn w) (hT : (a == b) = true) :
    Calls Tryd.prog 12 #[.int .u8 op, .int .u64 a, .int .u64 b] w fun e w' => e = .returned (.bool true) ∧ Below w.heap.size w w' := by
  have hHT : holdV 45 a b = true := by rw [← hT]; first | rfl | (rw [Bool.eq_iff_iff]; simp [holdV])
  have HT := Lib.hid hHT; clear hHT
  have HBF := Lib.hid br_45
  have h2 := hO.two
  have hix : ∀ (x0 x1 x2 x3 x4 x5 : Bool) (W : World), (Instr.index 83 (.agg #[.bool x0, .bool x1, .bool x2, .bool x3, .bool x4, .bool x5]) (.int .i64 0)).run Tryd.prog W = .ok (.bool x0) W := fun _ _ _ _ _ _ _ => by kernel_rfl
  go_enter Tryd.func12, Tryd.ntmps12
  go_wp2_with fail
  refine (awake3 _ hF hO).mono ?_
  rintro e w1 ⟨rfl, b1⟩
  have hF1 := hF.keep b1 (Nat.le_refl _)
  have hO1 := hO.below b1
  clear hF hO
  go_wp2_with fail
  refine (bytes_any (l := brL 45) (by simp [brL]) (insAt_new w1 (brL 45) _ rfl _)).mono ?_
  rintro e w2 ⟨v, rfl, hown, b2⟩
  obtain ⟨A, c, rfl, hsrc, -⟩ := src_own hown (bytesOf_range _)
  have hle := HBF.out.1
  have B2 : Below w1.heap.size w1 w2 := ((Below.refl w1.heap.size w1).alloc (Nat.le_refl _) _).trans (b2.mono (by simp only [szA]; omega))
  have hF2 := hF1.keep B2 (Nat.le_refl _)
  have hO2 := hO1.below B2
  have B12 := b1.trans (B2.mono b1.size)
  clear hF1 hO1 b1 B2 b2 hown
  go_wp2_with fail
  refine (ks_new (w0 := w) (N := 64) hle (by decide) hsrc hF2 hO2 B12 h2).mono ?_
  rintro e w3 ⟨rfl, k3⟩
  clear hF2 hO2 B12 hsrc
  generalize w2.heap.size = q at *
  go_wp2_with fail
  refine (ks_set k3 (k := 5) (by omega) a ha).mono ?_
  rintro e w4 ⟨rfl, k4⟩
  go_wp2_with fail
  refine (ks_set k4 (k := 6) (by omega) b hb).mono ?_
  rintro e w5 ⟨rfl, k5⟩
  go_wp2_with fail
  refine (ks_set k5 (k := 7) (by omega) 16 (by omega)).mono ?_
  rintro e w6 ⟨rfl, k6⟩
  clear k3 k4 k5
  go_wp2_with fail
  refine (ks_run k6 1 (by decide)).mono ?_
  rintro e w7 ⟨A1, n1, c1, rfl, k7'⟩
  have k7 : Ks w w7 (q + 1) q { brM 45 a b with pl := 12 } := by
    have h1 := br_run1 45 a b (by omega) HBF.out
    rw [HT.out] at h1
    exact h1 ▸ k7'
  clear k6 k7'
  go_wp2_with (go_at_call 31; refine (ks_place k7).mono ?_; rintro e w8 ⟨rfl, rfl⟩)
  go_ret
  exact ⟨rfl, k7.below⟩
set_option maxRecDepth 100000 in
set_option maxHeartbeats 4000000 in
theorem br_45_false (op a b : Int) (w : World) (ho : 0 ≤ op ∧ op < 256) (hom : op % 6 = 0) (ha : 0 ≤ a ∧ a < 18446744073709551616) (hb : 0 ≤ b ∧ b < 18446744073709551616) (hF : FormsIn w) (hO : OpsIn w) (hT : (a == b) = false) :
    Calls Tryd.prog 12 #[.int .u8 op, .int .u64 a, .int .u64 b] w fun e w' => e = .returned (.bool true) ∧ Below w.heap.size w w' := by
  have hHT : holdV 45 a b = false := by rw [← hT]; first | rfl | (rw [Bool.eq_iff_iff]; simp [holdV])
  have HT := Lib.hid hHT; clear hHT
  have HBF := Lib.hid br_45
  have h2 := hO.two
  have hix : ∀ (x0 x1 x2 x3 x4 x5 : Bool) (W : World), (Instr.index 83 (.agg #[.bool x0, .bool x1, .bool x2, .bool x3, .bool x4, .bool x5]) (.int .i64 0)).run Tryd.prog W = .ok (.bool x0) W := fun _ _ _ _ _ _ _ => by kernel_rfl
  go_enter Tryd.func12, Tryd.ntmps12
  go_wp2_with fail
  refine (awake3 _ hF hO).mono ?_
  rintro e w1 ⟨rfl, b1⟩
  have hF1 := hF.keep b1 (Nat.le_refl _)
  have hO1 := hO.below b1
  clear hF hO
  go_wp2_with fail
  refine (bytes_any (l := brL 45) (by simp [brL]) (insAt_new w1 (brL 45) _ rfl _)).mono ?_
  rintro e w2 ⟨v, rfl, hown, b2⟩
  obtain ⟨A, c, rfl, hsrc, -⟩ := src_own hown (bytesOf_range _)
  have hle := HBF.out.1
  have B2 : Below w1.heap.size w1 w2 := ((Below.refl w1.heap.size w1).alloc (Nat.le_refl _) _).trans (b2.mono (by simp only [szA]; omega))
  have hF2 := hF1.keep B2 (Nat.le_refl _)
  have hO2 := hO1.below B2
  have B12 := b1.trans (B2.mono b1.size)
  clear hF1 hO1 b1 B2 b2 hown
  go_wp2_with fail
  refine (ks_new (w0 := w) (N := 64) hle (by decide) hsrc hF2 hO2 B12 h2).mono ?_
  rintro e w3 ⟨rfl, k3⟩
  clear hF2 hO2 B12 hsrc
  generalize w2.heap.size = q at *
  go_wp2_with fail
  refine (ks_set k3 (k := 5) (by omega) a ha).mono ?_
  rintro e w4 ⟨rfl, k4⟩
  go_wp2_with fail
  refine (ks_set k4 (k := 6) (by omega) b hb).mono ?_
  rintro e w5 ⟨rfl, k5⟩
  go_wp2_with fail
  refine (ks_set k5 (k := 7) (by omega) 16 (by omega)).mono ?_
  rintro e w6 ⟨rfl, k6⟩
  clear k3 k4 k5
  go_wp2_with fail
  refine (ks_run k6 1 (by decide)).mono ?_
  rintro e w7 ⟨A1, n1, c1, rfl, k7'⟩
  have k7 : Ks w w7 (q + 1) q { brM 45 a b with pl := 4 } := by
    have h1 := br_run1 45 a b (by omega) HBF.out
    rw [HT.out] at h1
    exact h1 ▸ k7'
  clear k6 k7'
  go_wp2_with fail
  refine (ks_place k7).mono ?_
  rintro e w8 ⟨rfl, rfl⟩
  go_wp2_with fail
  refine (ks_run k7 1 (by decide)).mono ?_
  rintro e w9 ⟨A2, n2, c2, rfl, k9'⟩
  have k9 : Ks w w9 (q + 1) q (brM2 45 a b) := (br_run2 45 a b HBF.out) ▸ k9'
  clear k7 k9'
  have hr1 := ks_reg k9 (k := 1) (by omega)
  rw [show (brM2 45 a b).reg 1 = 8 from rfl] at hr1
  have HR1 := Lib.hid hr1; clear hr1
  have hpl9 := ks_place k9
  rw [show (brM2 45 a b).pl = 16 from rfl] at hpl9
  have HP9 := Lib.hid hpl9; clear hpl9
  go_wp2_with (first | (go_at_call 31; refine HP9.out.mono ?_; rintro e w8 ⟨rfl, rfl⟩) | (go_at_call 33; refine HR1.out.mono ?_; rintro e w8 ⟨rfl, rfl⟩))
  refine (ks_jump k9 8 (by decide)).mono ?_
  rintro e w10 ⟨rfl, k10⟩
  clear HR1 HP9
  go_wp2_with fail
  refine (ks_run k10 1 (by decide)).mono ?_
  rintro e w11 ⟨A3, n3, c3, rfl, k11'⟩
  have k11 : Ks w w11 (q + 1) q (brM3 45 a b) := (br_run3 45 a b HBF.out) ▸ k11'
  clear k9 k10 k11'
  have hr2 := ks_reg k11 (k := 2) (by omega)
  rw [show (brM3 45 a b).reg 2 = 12 from rfl] at hr2
  have HR2 := Lib.hid hr2; clear hr2
  have hpl11 := ks_place k11
  rw [show (brM3 45 a b).pl = 20 from rfl] at hpl11
  have HP11 := Lib.hid hpl11; clear hpl11
  go_wp2_with (first | (go_at_call 31; refine HP11.out.mono ?_; rintro e w8 ⟨rfl, rfl⟩) | (go_at_call 33; refine HR2.out.mono ?_; rintro e w8 ⟨rfl, rfl⟩))
  go_ret
  exact ⟨rfl, k11.below⟩
set_option maxRecDepth 100000 in
set_option maxHeartbeats 4000000 in
theorem br_46_true (op a b : Int) (w : World) (ho : 0 ≤ op ∧ op < 256) (hom : op % 6 = 1) (ha : 0 ≤ a ∧ a < 18446744073709551616) (hb : 0 ≤ b ∧ b < 18446744073709551616) (hF : FormsIn w) (hO : OpsIn w) (hT : (a != b) = true) :
    Calls Tryd.prog 12 #[.int .u8 op, .int .u64 a, .int .u64 b] w fun e w' => e = .returned (.bool true) ∧ Below w.heap.size w w' := by
  have hHT : holdV 46 a b = true := by rw [← hT]; first | rfl | (rw [Bool.eq_iff_iff]; simp [holdV])
  have HT := Lib.hid hHT; clear hHT
  have HBF := Lib.hid br_46
  have h2 := hO.two
  have hix : ∀ (x0 x1 x2 x3 x4 x5 : Bool) (W : World), (Instr.index 83 (.agg #[.bool x0, .bool x1, .bool x2, .bool x3, .bool x4, .bool x5]) (.int .i64 1)).run Tryd.prog W = .ok (.bool x1) W := fun _ _ _ _ _ _ _ => by kernel_rfl
  go_enter Tryd.func12, Tryd.ntmps12
  go_wp2_with fail
  refine (awake3 _ hF hO).mono ?_
  rintro e w1 ⟨rfl, b1⟩
  have hF1 := hF.keep b1 (Nat.le_refl _)
  have hO1 := hO.below b1
  clear hF hO
  go_wp2_with fail
  refine (bytes_any (l := brL 46) (by simp [brL]) (insAt_new w1 (brL 46) _ rfl _)).mono ?_
  rintro e w2 ⟨v, rfl, hown, b2⟩
  obtain ⟨A, c, rfl, hsrc, -⟩ := src_own hown (bytesOf_range _)
  have hle := HBF.out.1
  have B2 : Below w1.heap.size w1 w2 := ((Below.refl w1.heap.size w1).alloc (Nat.le_refl _) _).trans (b2.mono (by simp only [szA]; omega))
  have hF2 := hF1.keep B2 (Nat.le_refl _)
  have hO2 := hO1.below B2
  have B12 := b1.trans (B2.mono b1.size)
  clear hF1 hO1 b1 B2 b2 hown
  go_wp2_with fail
  refine (ks_new (w0 := w) (N := 64) hle (by decide) hsrc hF2 hO2 B12 h2).mono ?_
  rintro e w3 ⟨rfl, k3⟩
  clear hF2 hO2 B12 hsrc
  generalize w2.heap.size = q at *
  go_wp2_with fail
  refine (ks_set k3 (k := 5) (by omega) a ha).mono ?_
  rintro e w4 ⟨rfl, k4⟩
  go_wp2_with fail
  refine (ks_set k4 (k := 6) (by omega) b hb).mono ?_
  rintro e w5 ⟨rfl, k5⟩
  go_wp2_with fail
  refine (ks_set k5 (k := 7) (by omega) 16 (by omega)).mono ?_
  rintro e w6 ⟨rfl, k6⟩
  clear k3 k4 k5
  go_wp2_with fail
  refine (ks_run k6 1 (by decide)).mono ?_
  rintro e w7 ⟨A1, n1, c1, rfl, k7'⟩
  have k7 : Ks w w7 (q + 1) q { brM 46 a b with pl := 12 } := by
    have h1 := br_run1 46 a b (by omega) HBF.out
    rw [HT.out] at h1
    exact h1 ▸ k7'
  clear k6 k7'
  go_wp2_with (go_at_call 31; refine (ks_place k7).mono ?_; rintro e w8 ⟨rfl, rfl⟩)
  go_ret
  exact ⟨rfl, k7.below⟩
set_option maxRecDepth 100000 in
set_option maxHeartbeats 4000000 in
theorem br_46_false (op a b : Int) (w : World) (ho : 0 ≤ op ∧ op < 256) (hom : op % 6 = 1) (ha : 0 ≤ a ∧ a < 18446744073709551616) (hb : 0 ≤ b ∧ b < 18446744073709551616) (hF : FormsIn w) (hO : OpsIn w) (hT : (a != b) = false) :
    Calls Tryd.prog 12 #[.int .u8 op, .int .u64 a, .int .u64 b] w fun e w' => e = .returned (.bool true) ∧ Below w.heap.size w w' := by
  have hHT : holdV 46 a b = false := by rw [← hT]; first | rfl | (rw [Bool.eq_iff_iff]; simp [holdV])
  have HT := Lib.hid hHT; clear hHT
  have HBF := Lib.hid br_46
  have h2 := hO.two
  have hix : ∀ (x0 x1 x2 x3 x4 x5 : Bool) (W : World), (Instr.index 83 (.agg #[.bool x0, .bool x1, .bool x2, .bool x3, .bool x4, .bool x5]) (.int .i64 1)).run Tryd.prog W = .ok (.bool x1) W := fun _ _ _ _ _ _ _ => by kernel_rfl
  go_enter Tryd.func12, Tryd.ntmps12
  go_wp2_with fail
  refine (awake3 _ hF hO).mono ?_
  rintro e w1 ⟨rfl, b1⟩
  have hF1 := hF.keep b1 (Nat.le_refl _)
  have hO1 := hO.below b1
  clear hF hO
  go_wp2_with fail
  refine (bytes_any (l := brL 46) (by simp [brL]) (insAt_new w1 (brL 46) _ rfl _)).mono ?_
  rintro e w2 ⟨v, rfl, hown, b2⟩
  obtain ⟨A, c, rfl, hsrc, -⟩ := src_own hown (bytesOf_range _)
  have hle := HBF.out.1
  have B2 : Below w1.heap.size w1 w2 := ((Below.refl w1.heap.size w1).alloc (Nat.le_refl _) _).trans (b2.mono (by simp only [szA]; omega))
  have hF2 := hF1.keep B2 (Nat.le_refl _)
  have hO2 := hO1.below B2
  have B12 := b1.trans (B2.mono b1.size)
  clear hF1 hO1 b1 B2 b2 hown
  go_wp2_with fail
  refine (ks_new (w0 := w) (N := 64) hle (by decide) hsrc hF2 hO2 B12 h2).mono ?_
  rintro e w3 ⟨rfl, k3⟩
  clear hF2 hO2 B12 hsrc
  generalize w2.heap.size = q at *
  go_wp2_with fail
  refine (ks_set k3 (k := 5) (by omega) a ha).mono ?_
  rintro e w4 ⟨rfl, k4⟩
  go_wp2_with fail
  refine (ks_set k4 (k := 6) (by omega) b hb).mono ?_
  rintro e w5 ⟨rfl, k5⟩
  go_wp2_with fail
  refine (ks_set k5 (k := 7) (by omega) 16 (by omega)).mono ?_
  rintro e w6 ⟨rfl, k6⟩
  clear k3 k4 k5
  go_wp2_with fail
  refine (ks_run k6 1 (by decide)).mono ?_
  rintro e w7 ⟨A1, n1, c1, rfl, k7'⟩
  have k7 : Ks w w7 (q + 1) q { brM 46 a b with pl := 4 } := by
    have h1 := br_run1 46 a b (by omega) HBF.out
    rw [HT.out] at h1
    exact h1 ▸ k7'
  clear k6 k7'
  go_wp2_with fail
  refine (ks_place k7).mono ?_
  rintro e w8 ⟨rfl, rfl⟩
  go_wp2_with fail
  refine (ks_run k7 1 (by decide)).mono ?_
  rintro e w9 ⟨A2, n2, c2, rfl, k9'⟩
  have k9 : Ks w w9 (q + 1) q (brM2 46 a b) := (br_run2 46 a b HBF.out) ▸ k9'
  clear k7 k9'
  have hr1 := ks_reg k9 (k := 1) (by omega)
  rw [show (brM2 46 a b).reg 1 = 8 from rfl] at hr1
  have HR1 := Lib.hid hr1; clear hr1
  have hpl9 := ks_place k9
  rw [show (brM2 46 a b).pl = 16 from rfl] at hpl9
  have HP9 := Lib.hid hpl9; clear hpl9
  go_wp2_with (first | (go_at_call 31; refine HP9.out.mono ?_; rintro e w8 ⟨rfl, rfl⟩) | (go_at_call 33; refine HR1.out.mono ?_; rintro e w8 ⟨rfl, rfl⟩))
  refine (ks_jump k9 8 (by decide)).mono ?_
  rintro e w10 ⟨rfl, k10⟩
  clear HR1 HP9
  go_wp2_with fail
  refine (ks_run k10 1 (by decide)).mono ?_
  rintro e w11 ⟨A3, n3, c3, rfl, k11'⟩
  have k11 : Ks w w11 (q + 1) q (brM3 46 a b) := (br_run3 46 a b HBF.out) ▸ k11'
  clear k9 k10 k11'
  have hr2 := ks_reg k11 (k := 2) (by omega)
  rw [show (brM3 46 a b).reg 2 = 12 from rfl] at hr2
  have HR2 := Lib.hid hr2; clear hr2
  have hpl11 := ks_place k11
  rw [show (brM3 46 a b).pl = 20 from rfl] at hpl11
  have HP11 := Lib.hid hpl11; clear hpl11
  go_wp2_with (first | (go_at_call 31; refine HP11.out.mono ?_; rintro e w8 ⟨rfl, rfl⟩) | (go_at_call 33; refine HR2.out.mono ?_; rintro e w8 ⟨rfl, rfl⟩))
  go_ret
  exact ⟨rfl, k11.below⟩
set_option maxRecDepth 100000 in
set_option maxHeartbeats 4000000 in
theorem br_47_true (op a b : Int) (w : World) (ho : 0 ≤ op ∧ op < 256) (hom : op % 6 = 2) (ha : 0 ≤ a ∧ a < 18446744073709551616) (hb : 0 ≤ b ∧ b < 18446744073709551616) (hF : FormsIn w) (hO : OpsIn w) (hT : decide (wrap64 a < wrap64 b) = true) :
    Calls Tryd.prog 12 #[.int .u8 op, .int .u64 a, .int .u64 b] w fun e w' => e = .returned (.bool true) ∧ Below w.heap.size w w' := by
  have hHT : holdV 47 a b = true := by rw [← hT]; first | rfl | (rw [Bool.eq_iff_iff]; simp [holdV])
  have HT := Lib.hid hHT; clear hHT
  have HBF := Lib.hid br_47
  have h2 := hO.two
  have hix : ∀ (x0 x1 x2 x3 x4 x5 : Bool) (W : World), (Instr.index 83 (.agg #[.bool x0, .bool x1, .bool x2, .bool x3, .bool x4, .bool x5]) (.int .i64 2)).run Tryd.prog W = .ok (.bool x2) W := fun _ _ _ _ _ _ _ => by kernel_rfl
  go_enter Tryd.func12, Tryd.ntmps12
  go_wp2_with fail
  refine (awake3 _ hF hO).mono ?_
  rintro e w1 ⟨rfl, b1⟩
  have hF1 := hF.keep b1 (Nat.le_refl _)
  have hO1 := hO.below b1
  clear hF hO
  go_wp2_with fail
  refine (bytes_any (l := brL 47) (by simp [brL]) (insAt_new w1 (brL 47) _ rfl _)).mono ?_
  rintro e w2 ⟨v, rfl, hown, b2⟩
  obtain ⟨A, c, rfl, hsrc, -⟩ := src_own hown (bytesOf_range _)
  have hle := HBF.out.1
  have B2 : Below w1.heap.size w1 w2 := ((Below.refl w1.heap.size w1).alloc (Nat.le_refl _) _).trans (b2.mono (by simp only [szA]; omega))
  have hF2 := hF1.keep B2 (Nat.le_refl _)
  have hO2 := hO1.below B2
  have B12 := b1.trans (B2.mono b1.size)
  clear hF1 hO1 b1 B2 b2 hown
  go_wp2_with fail
  refine (ks_new (w0 := w) (N := 64) hle (by decide) hsrc hF2 hO2 B12 h2).mono ?_
  rintro e w3 ⟨rfl, k3⟩
  clear hF2 hO2 B12 hsrc
  generalize w2.heap.size = q at *
  go_wp2_with fail
  refine (ks_set k3 (k := 5) (by omega) a ha).mono ?_
  rintro e w4 ⟨rfl, k4⟩
  go_wp2_with fail
  refine (ks_set k4 (k := 6) (by omega) b hb).mono ?_
  rintro e w5 ⟨rfl, k5⟩
  go_wp2_with fail
  refine (ks_set k5 (k := 7) (by omega) 16 (by omega)).mono ?_
  rintro e w6 ⟨rfl, k6⟩
  clear k3 k4 k5
  go_wp2_with fail
  refine (ks_run k6 1 (by decide)).mono ?_
  rintro e w7 ⟨A1, n1, c1, rfl, k7'⟩
  have k7 : Ks w w7 (q + 1) q { brM 47 a b with pl := 12 } := by
    have h1 := br_run1 47 a b (by omega) HBF.out
    rw [HT.out] at h1
    exact h1 ▸ k7'
  clear k6 k7'
  go_wp2_with (go_at_call 31; refine (ks_place k7).mono ?_; rintro e w8 ⟨rfl, rfl⟩)
  go_ret
  exact ⟨rfl, k7.below⟩
set_option maxRecDepth 100000 in
set_option maxHeartbeats 4000000 in
theorem br_47_false (op a b : Int) (w : World) (ho : 0 ≤ op ∧ op < 256) (hom : op % 6 = 2) (ha : 0 ≤ a ∧ a < 18446744073709551616) (hb : 0 ≤ b ∧ b < 18446744073709551616) (hF : FormsIn w) (hO : OpsIn w) (hT : decide (wrap64 a < wrap64 b) = false) :
    Calls Tryd.prog 12 #[.int .u8 op, .int .u64 a, .int .u64 b] w fun e w' => e = .returned (.bool true) ∧ Below w.heap.size w w' := by
  have hHT : holdV 47 a b = false := by rw [← hT]; first | rfl | (rw [Bool.eq_iff_iff]; simp [holdV])
  have HT := Lib.hid hHT; clear hHT
  have HBF := Lib.hid br_47
  have h2 := hO.two
  have hix : ∀ (x0 x1 x2 x3 x4 x5 : Bool) (W : World), (Instr.index 83 (.agg #[.bool x0, .bool x1, .bool x2, .bool x3, .bool x4, .bool x5]) (.int .i64 2)).run Tryd.prog W = .ok (.bool x2) W := fun _ _ _ _ _ _ _ => by kernel_rfl
  go_enter Tryd.func12, Tryd.ntmps12
  go_wp2_with fail
  refine (awake3 _ hF hO).mono ?_
  rintro e w1 ⟨rfl, b1⟩
  have hF1 := hF.keep b1 (Nat.le_refl _)
  have hO1 := hO.below b1
  clear hF hO
  go_wp2_with fail
  refine (bytes_any (l := brL 47) (by simp [brL]) (insAt_new w1 (brL 47) _ rfl _)).mono ?_
  rintro e w2 ⟨v, rfl, hown, b2⟩
  obtain ⟨A, c, rfl, hsrc, -⟩ := src_own hown (bytesOf_range _)
  have hle := HBF.out.1
  have B2 : Below w1.heap.size w1 w2 := ((Below.refl w1.heap.size w1).alloc (Nat.le_refl _) _).trans (b2.mono (by simp only [szA]; omega))
  have hF2 := hF1.keep B2 (Nat.le_refl _)
  have hO2 := hO1.below B2
  have B12 := b1.trans (B2.mono b1.size)
  clear hF1 hO1 b1 B2 b2 hown
  go_wp2_with fail
  refine (ks_new (w0 := w) (N := 64) hle (by decide) hsrc hF2 hO2 B12 h2).mono ?_
  rintro e w3 ⟨rfl, k3⟩
  clear hF2 hO2 B12 hsrc
  generalize w2.heap.size = q at *
  go_wp2_with fail
  refine (ks_set k3 (k := 5) (by omega) a ha).mono ?_
  rintro e w4 ⟨rfl, k4⟩
  go_wp2_with fail
  refine (ks_set k4 (k := 6) (by omega) b hb).mono ?_
  rintro e w5 ⟨rfl, k5⟩
  go_wp2_with fail
  refine (ks_set k5 (k := 7) (by omega) 16 (by omega)).mono ?_
  rintro e w6 ⟨rfl, k6⟩
  clear k3 k4 k5
  go_wp2_with fail
  refine (ks_run k6 1 (by decide)).mono ?_
  rintro e w7 ⟨A1, n1, c1, rfl, k7'⟩
  have k7 : Ks w w7 (q + 1) q { brM 47 a b with pl := 4 } := by
    have h1 := br_run1 47 a b (by omega) HBF.out
    rw [HT.out] at h1
    exact h1 ▸ k7'
  clear k6 k7'
  go_wp2_with fail
  refine (ks_place k7).mono ?_
  rintro e w8 ⟨rfl, rfl⟩
  go_wp2_with fail
  refine (ks_run k7 1 (by decide)).mono ?_
  rintro e w9 ⟨A2, n2, c2, rfl, k9'⟩
  have k9 : Ks w w9 (q + 1) q (brM2 47 a b) := (br_run2 47 a b HBF.out) ▸ k9'
  clear k7 k9'
  have hr1 := ks_reg k9 (k := 1) (by omega)
  rw [show (brM2 47 a b).reg 1 = 8 from rfl] at hr1
  have HR1 := Lib.hid hr1; clear hr1
  have hpl9 := ks_place k9
  rw [show (brM2 47 a b).pl = 16 from rfl] at hpl9
  have HP9 := Lib.hid hpl9; clear hpl9
  go_wp2_with (first | (go_at_call 31; refine HP9.out.mono ?_; rintro e w8 ⟨rfl, rfl⟩) | (go_at_call 33; refine HR1.out.mono ?_; rintro e w8 ⟨rfl, rfl⟩))
  refine (ks_jump k9 8 (by decide)).mono ?_
  rintro e w10 ⟨rfl, k10⟩
  clear HR1 HP9
  go_wp2_with fail
  refine (ks_run k10 1 (by decide)).mono ?_
  rintro e w11 ⟨A3, n3, c3, rfl, k11'⟩
  have k11 : Ks w w11 (q + 1) q (brM3 47 a b) := (br_run3 47 a b HBF.out) ▸ k11'
  clear k9 k10 k11'
  have hr2 := ks_reg k11 (k := 2) (by omega)
  rw [show (brM3 47 a b).reg 2 = 12 from rfl] at hr2
  have HR2 := Lib.hid hr2; clear hr2
  have hpl11 := ks_place k11
  rw [show (brM3 47 a b).pl = 20 from rfl] at hpl11
  have HP11 := Lib.hid hpl11; clear hpl11
  go_wp2_with (first | (go_at_call 31; refine HP11.out.mono ?_; rintro e w8 ⟨rfl, rfl⟩) | (go_at_call 33; refine HR2.out.mono ?_; rintro e w8 ⟨rfl, rfl⟩))
  go_ret
  exact ⟨rfl, k11.below⟩
set_option maxRecDepth 100000 in
set_option maxHeartbeats 4000000 in
theorem br_48_true (op a b : Int) (w : World) (ho : 0 ≤ op ∧ op < 256) (hom : op % 6 = 3) (ha : 0 ≤ a ∧ a < 18446744073709551616) (hb : 0 ≤ b ∧ b < 18446744073709551616) (hF : FormsIn w) (hO : OpsIn w) (hT : decide (wrap64 b ≤ wrap64 a) = true) :
    Calls Tryd.prog 12 #[.int .u8 op, .int .u64 a, .int .u64 b] w fun e w' => e = .returned (.bool true) ∧ Below w.heap.size w w' := by
  have hHT : holdV 48 a b = true := by rw [← hT]; first | rfl | (rw [Bool.eq_iff_iff]; simp [holdV])
  have HT := Lib.hid hHT; clear hHT
  have HBF := Lib.hid br_48
  have h2 := hO.two
  have hix : ∀ (x0 x1 x2 x3 x4 x5 : Bool) (W : World), (Instr.index 83 (.agg #[.bool x0, .bool x1, .bool x2, .bool x3, .bool x4, .bool x5]) (.int .i64 3)).run Tryd.prog W = .ok (.bool x3) W := fun _ _ _ _ _ _ _ => by kernel_rfl
  go_enter Tryd.func12, Tryd.ntmps12
  go_wp2_with fail
  refine (awake3 _ hF hO).mono ?_
  rintro e w1 ⟨rfl, b1⟩
  have hF1 := hF.keep b1 (Nat.le_refl _)
  have hO1 := hO.below b1
  clear hF hO
  go_wp2_with fail
  refine (bytes_any (l := brL 48) (by simp [brL]) (insAt_new w1 (brL 48) _ rfl _)).mono ?_
  rintro e w2 ⟨v, rfl, hown, b2⟩
  obtain ⟨A, c, rfl, hsrc, -⟩ := src_own hown (bytesOf_range _)
  have hle := HBF.out.1
  have B2 : Below w1.heap.size w1 w2 := ((Below.refl w1.heap.size w1).alloc (Nat.le_refl _) _).trans (b2.mono (by simp only [szA]; omega))
  have hF2 := hF1.keep B2 (Nat.le_refl _)
  have hO2 := hO1.below B2
  have B12 := b1.trans (B2.mono b1.size)
  clear hF1 hO1 b1 B2 b2 hown
  go_wp2_with fail
  refine (ks_new (w0 := w) (N := 64) hle (by decide) hsrc hF2 hO2 B12 h2).mono ?_
  rintro e w3 ⟨rfl, k3⟩
  clear hF2 hO2 B12 hsrc
  generalize w2.heap.size = q at *
  go_wp2_with fail
  refine (ks_set k3 (k := 5) (by omega) a ha).mono ?_
  rintro e w4 ⟨rfl, k4⟩
  go_wp2_with fail
  refine (ks_set k4 (k := 6) (by omega) b hb).mono ?_
  rintro e w5 ⟨rfl, k5⟩
  go_wp2_with fail
  refine (ks_set k5 (k := 7) (by omega) 16 (by omega)).mono ?_
  rintro e w6 ⟨rfl, k6⟩
  clear k3 k4 k5
  go_wp2_with fail
  refine (ks_run k6 1 (by decide)).mono ?_
  rintro e w7 ⟨A1, n1, c1, rfl, k7'⟩
  have k7 : Ks w w7 (q + 1) q { brM 48 a b with pl := 12 } := by
    have h1 := br_run1 48 a b (by omega) HBF.out
    rw [HT.out] at h1
    exact h1 ▸ k7'
  clear k6 k7'
  go_wp2_with (go_at_call 31; refine (ks_place k7).mono ?_; rintro e w8 ⟨rfl, rfl⟩)
  go_ret
  exact ⟨rfl, k7.below⟩
set_option maxRecDepth 100000 in
set_option maxHeartbeats 4000000 in
theorem br_48_false (op a b : Int) (w : World) (ho : 0 ≤ op ∧ op < 256) (hom : op % 6 = 3) (ha : 0 ≤ a ∧ a < 18446744073709551616) (hb : 0 ≤ b ∧ b < 18446744073709551616) (hF : FormsIn w) (hO : OpsIn w) (hT : decide (wrap64 b ≤ wrap64 a) = false) :
    Calls Tryd.prog 12 #[.int .u8 op, .int .u64 a, .int .u64 b] w fun e w' => e = .returned (.bool true) ∧ Below w.heap.size w w' := by
  have hHT : holdV 48 a b = false := by rw [← hT]; first | rfl | (rw [Bool.eq_iff_iff]; simp [holdV])
  have HT := Lib.hid hHT; clear hHT
  have HBF := Lib.hid br_48
  have h2 := hO.two
  have hix : ∀ (x0 x1 x2 x3 x4 x5 : Bool) (W : World), (Instr.index 83 (.agg #[.bool x0, .bool x1, .bool x2, .bool x3, .bool x4, .bool x5]) (.int .i64 3)).run Tryd.prog W = .ok (.bool x3) W := fun _ _ _ _ _ _ _ => by kernel_rfl
  go_enter Tryd.func12, Tryd.ntmps12
  go_wp2_with fail
  refine (awake3 _ hF hO).mono ?_
  rintro e w1 ⟨rfl, b1⟩
  have hF1 := hF.keep b1 (Nat.le_refl _)
  have hO1 := hO.below b1
  clear hF hO
  go_wp2_with fail
  refine (bytes_any (l := brL 48) (by simp [brL]) (insAt_new w1 (brL 48) _ rfl _)).mono ?_
  rintro e w2 ⟨v, rfl, hown, b2⟩
  obtain ⟨A, c, rfl, hsrc, -⟩ := src_own hown (bytesOf_range _)
  have hle := HBF.out.1
  have B2 : Below w1.heap.size w1 w2 := ((Below.refl w1.heap.size w1).alloc (Nat.le_refl _) _).trans (b2.mono (by simp only [szA]; omega))
  have hF2 := hF1.keep B2 (Nat.le_refl _)
  have hO2 := hO1.below B2
  have B12 := b1.trans (B2.mono b1.size)
  clear hF1 hO1 b1 B2 b2 hown
  go_wp2_with fail
  refine (ks_new (w0 := w) (N := 64) hle (by decide) hsrc hF2 hO2 B12 h2).mono ?_
  rintro e w3 ⟨rfl, k3⟩
  clear hF2 hO2 B12 hsrc
  generalize w2.heap.size = q at *
  go_wp2_with fail
  refine (ks_set k3 (k := 5) (by omega) a ha).mono ?_
  rintro e w4 ⟨rfl, k4⟩
  go_wp2_with fail
  refine (ks_set k4 (k := 6) (by omega) b hb).mono ?_
  rintro e w5 ⟨rfl, k5⟩
  go_wp2_with fail
  refine (ks_set k5 (k := 7) (by omega) 16 (by omega)).mono ?_
  rintro e w6 ⟨rfl, k6⟩
  clear k3 k4 k5
  go_wp2_with fail
  refine (ks_run k6 1 (by decide)).mono ?_
  rintro e w7 ⟨A1, n1, c1, rfl, k7'⟩
  have k7 : Ks w w7 (q + 1) q { brM 48 a b with pl := 4 } := by
    have h1 := br_run1 48 a b (by omega) HBF.out
    rw [HT.out] at h1
    exact h1 ▸ k7'
  clear k6 k7'
  go_wp2_with fail
  refine (ks_place k7).mono ?_
  rintro e w8 ⟨rfl, rfl⟩
  go_wp2_with fail
  refine (ks_run k7 1 (by decide)).mono ?_
  rintro e w9 ⟨A2, n2, c2, rfl, k9'⟩
  have k9 : Ks w w9 (q + 1) q (brM2 48 a b) := (br_run2 48 a b HBF.out) ▸ k9'
  clear k7 k9'
  have hr1 := ks_reg k9 (k := 1) (by omega)
  rw [show (brM2 48 a b).reg 1 = 8 from rfl] at hr1
  have HR1 := Lib.hid hr1; clear hr1
  have hpl9 := ks_place k9
  rw [show (brM2 48 a b).pl = 16 from rfl] at hpl9
  have HP9 := Lib.hid hpl9; clear hpl9
  go_wp2_with (first | (go_at_call 31; refine HP9.out.mono ?_; rintro e w8 ⟨rfl, rfl⟩) | (go_at_call 33; refine HR1.out.mono ?_; rintro e w8 ⟨rfl, rfl⟩))
  refine (ks_jump k9 8 (by decide)).mono ?_
  rintro e w10 ⟨rfl, k10⟩
  clear HR1 HP9
  go_wp2_with fail
  refine (ks_run k10 1 (by decide)).mono ?_
  rintro e w11 ⟨A3, n3, c3, rfl, k11'⟩
  have k11 : Ks w w11 (q + 1) q (brM3 48 a b) := (br_run3 48 a b HBF.out) ▸ k11'
  clear k9 k10 k11'
  have hr2 := ks_reg k11 (k := 2) (by omega)
  rw [show (brM3 48 a b).reg 2 = 12 from rfl] at hr2
  have HR2 := Lib.hid hr2; clear hr2
  have hpl11 := ks_place k11
  rw [show (brM3 48 a b).pl = 20 from rfl] at hpl11
  have HP11 := Lib.hid hpl11; clear hpl11
  go_wp2_with (first | (go_at_call 31; refine HP11.out.mono ?_; rintro e w8 ⟨rfl, rfl⟩) | (go_at_call 33; refine HR2.out.mono ?_; rintro e w8 ⟨rfl, rfl⟩))
  go_ret
  exact ⟨rfl, k11.below⟩
set_option maxRecDepth 100000 in
set_option maxHeartbeats 4000000 in
theorem br_49_true (op a b : Int) (w : World) (ho : 0 ≤ op ∧ op < 256) (hom : op % 6 = 4) (ha : 0 ≤ a ∧ a < 18446744073709551616) (hb : 0 ≤ b ∧ b < 18446744073709551616) (hF : FormsIn w) (hO : OpsIn w) (hT : decide (a < b) = true) :
    Calls Tryd.prog 12 #[.int .u8 op, .int .u64 a, .int .u64 b] w fun e w' => e = .returned (.bool true) ∧ Below w.heap.size w w' := by
  have hHT : holdV 49 a b = true := by rw [← hT]; first | rfl | (rw [Bool.eq_iff_iff]; simp [holdV])
  have HT := Lib.hid hHT; clear hHT
  have HBF := Lib.hid br_49
  have h2 := hO.two
  have hix : ∀ (x0 x1 x2 x3 x4 x5 : Bool) (W : World), (Instr.index 83 (.agg #[.bool x0, .bool x1, .bool x2, .bool x3, .bool x4, .bool x5]) (.int .i64 4)).run Tryd.prog W = .ok (.bool x4) W := fun _ _ _ _ _ _ _ => by kernel_rfl
  go_enter Tryd.func12, Tryd.ntmps12
  go_wp2_with fail
  refine (awake3 _ hF hO).mono ?_
  rintro e w1 ⟨rfl, b1⟩
  have hF1 := hF.keep b1 (Nat.le_refl _)
  have hO1 := hO.below b1
  clear hF hO
  go_wp2_with fail
  refine (bytes_any (l := brL 49) (by simp [brL]) (insAt_new w1 (brL 49) _ rfl _)).mono ?_
  rintro e w2 ⟨v, rfl, hown, b2⟩
  obtain ⟨A, c, rfl, hsrc, -⟩ := src_own hown (bytesOf_range _)
  have hle := HBF.out.1
  have B2 : Below w1.heap.size w1 w2 := ((Below.refl w1.heap.size w1).alloc (Nat.le_refl _) _).trans (b2.mono (by simp only [szA]; omega))
  have hF2 := hF1.keep B2 (Nat.le_refl _)
  have hO2 := hO1.below B2
  have B12 := b1.trans (B2.mono b1.size)
  clear hF1 hO1 b1 B2 b2 hown
  go_wp2_with fail
  refine (ks_new (w0 := w) (N := 64) hle (by decide) hsrc hF2 hO2 B12 h2).mono ?_
  rintro e w3 ⟨rfl, k3⟩
  clear hF2 hO2 B12 hsrc
  generalize w2.heap.size = q at *
  go_wp2_with fail
  refine (ks_set k3 (k := 5) (by omega) a ha).mono ?_
  rintro e w4 ⟨rfl, k4⟩
  go_wp2_with fail
  refine (ks_set k4 (k := 6) (by omega) b hb).mono ?_
  rintro e w5 ⟨rfl, k5⟩
  go_wp2_with fail
  refine (ks_set k5 (k := 7) (by omega) 16 (by omega)).mono ?_
  rintro e w6 ⟨rfl, k6⟩
  clear k3 k4 k5
  go_wp2_with fail
  refine (ks_run k6 1 (by decide)).mono ?_
  rintro e w7 ⟨A1, n1, c1, rfl, k7'⟩
  have k7 : Ks w w7 (q + 1) q { brM 49 a b with pl := 12 } := by
    have h1 := br_run1 49 a b (by omega) HBF.out
    rw [HT.out] at h1
    exact h1 ▸ k7'
  clear k6 k7'
  go_wp2_with (go_at_call 31; refine (ks_place k7).mono ?_; rintro e w8 ⟨rfl, rfl⟩)
  go_ret
  exact ⟨rfl, k7.below⟩
set_option maxRecDepth 100000 in
set_option maxHeartbeats 4000000 in
theorem br_49_false (op a b : Int) (w : World) (ho : 0 ≤ op ∧ op < 256) (hom : op % 6 = 4) (ha : 0 ≤ a ∧ a < 18446744073709551616) (hb : 0 ≤ b ∧ b < 18446744073709551616) (hF : FormsIn w) (hO : OpsIn w) (hT : decide (a < b) = false) :
    Calls Tryd.prog 12 #[.int .u8 op, .int .u64 a, .int .u64 b] w fun e w' => e = .returned (.bool true) ∧ Below w.heap.size w w' := by
  have hHT : holdV 49 a b = false := by rw [← hT]; first | rfl | (rw [Bool.eq_iff_iff]; simp [holdV])
  have HT := Lib.hid hHT; clear hHT
  have HBF := Lib.hid br_49
  have h2 := hO.two
  have hix : ∀ (x0 x1 x2 x3 x4 x5 : Bool) (W : World), (Instr.index 83 (.agg #[.bool x0, .bool x1, .bool x2, .bool x3, .bool x4, .bool x5]) (.int .i64 4)).run Tryd.prog W = .ok (.bool x4) W := fun _ _ _ _ _ _ _ => by kernel_rfl
  go_enter Tryd.func12, Tryd.ntmps12
  go_wp2_with fail
  refine (awake3 _ hF hO).mono ?_
  rintro e w1 ⟨rfl, b1⟩
  have hF1 := hF.keep b1 (Nat.le_refl _)
  have hO1 := hO.below b1
  clear hF hO
  go_wp2_with fail
  refine (bytes_any (l := brL 49) (by simp [brL]) (insAt_new w1 (brL 49) _ rfl _)).mono ?_
  rintro e w2 ⟨v, rfl, hown, b2⟩
  obtain ⟨A, c, rfl, hsrc, -⟩ := src_own hown (bytesOf_range _)
  have hle := HBF.out.1
  have B2 : Below w1.heap.size w1 w2 := ((Below.refl w1.heap.size w1).alloc (Nat.le_refl _) _).trans (b2.mono (by simp only [szA]; omega))
  have hF2 := hF1.keep B2 (Nat.le_refl _)
  have hO2 := hO1.below B2
  have B12 := b1.trans (B2.mono b1.size)
  clear hF1 hO1 b1 B2 b2 hown
  go_wp2_with fail
  refine (ks_new (w0 := w) (N := 64) hle (by decide) hsrc hF2 hO2 B12 h2).mono ?_
  rintro e w3 ⟨rfl, k3⟩
  clear hF2 hO2 B12 hsrc
  generalize w2.heap.size = q at *
  go_wp2_with fail
  refine (ks_set k3 (k := 5) (by omega) a ha).mono ?_
  rintro e w4 ⟨rfl, k4⟩
  go_wp2_with fail
  refine (ks_set k4 (k := 6) (by omega) b hb).mono ?_
  rintro e w5 ⟨rfl, k5⟩
  go_wp2_with fail
  refine (ks_set k5 (k := 7) (by omega) 16 (by omega)).mono ?_
  rintro e w6 ⟨rfl, k6⟩
  clear k3 k4 k5
  go_wp2_with fail
  refine (ks_run k6 1 (by decide)).mono ?_
  rintro e w7 ⟨A1, n1, c1, rfl, k7'⟩
  have k7 : Ks w w7 (q + 1) q { brM 49 a b with pl := 4 } := by
    have h1 := br_run1 49 a b (by omega) HBF.out
    rw [HT.out] at h1
    exact h1 ▸ k7'
  clear k6 k7'
  go_wp2_with fail
  refine (ks_place k7).mono ?_
  rintro e w8 ⟨rfl, rfl⟩
  go_wp2_with fail
  refine (ks_run k7 1 (by decide)).mono ?_
  rintro e w9 ⟨A2, n2, c2, rfl, k9'⟩
  have k9 : Ks w w9 (q + 1) q (brM2 49 a b) := (br_run2 49 a b HBF.out) ▸ k9'
  clear k7 k9'
  have hr1 := ks_reg k9 (k := 1) (by omega)
  rw [show (brM2 49 a b).reg 1 = 8 from rfl] at hr1
  have HR1 := Lib.hid hr1; clear hr1
  have hpl9 := ks_place k9
  rw [show (brM2 49 a b).pl = 16 from rfl] at hpl9
  have HP9 := Lib.hid hpl9; clear hpl9
  go_wp2_with (first | (go_at_call 31; refine HP9.out.mono ?_; rintro e w8 ⟨rfl, rfl⟩) | (go_at_call 33; refine HR1.out.mono ?_; rintro e w8 ⟨rfl, rfl⟩))
  refine (ks_jump k9 8 (by decide)).mono ?_
  rintro e w10 ⟨rfl, k10⟩
  clear HR1 HP9
  go_wp2_with fail
  refine (ks_run k10 1 (by decide)).mono ?_
  rintro e w11 ⟨A3, n3, c3, rfl, k11'⟩
  have k11 : Ks w w11 (q + 1) q (brM3 49 a b) := (br_run3 49 a b HBF.out) ▸ k11'
  clear k9 k10 k11'
  have hr2 := ks_reg k11 (k := 2) (by omega)
  rw [show (brM3 49 a b).reg 2 = 12 from rfl] at hr2
  have HR2 := Lib.hid hr2; clear hr2
  have hpl11 := ks_place k11
  rw [show (brM3 49 a b).pl = 20 from rfl] at hpl11
  have HP11 := Lib.hid hpl11; clear hpl11
  go_wp2_with (first | (go_at_call 31; refine HP11.out.mono ?_; rintro e w8 ⟨rfl, rfl⟩) | (go_at_call 33; refine HR2.out.mono ?_; rintro e w8 ⟨rfl, rfl⟩))
  go_ret
  exact ⟨rfl, k11.below⟩
set_option maxRecDepth 100000 in
set_option maxHeartbeats 4000000 in
theorem br_50_true (op a b : Int) (w : World) (ho : 0 ≤ op ∧ op < 256) (hom : op % 6 = 5) (ha : 0 ≤ a ∧ a < 18446744073709551616) (hb : 0 ≤ b ∧ b < 18446744073709551616) (hF : FormsIn w) (hO : OpsIn w) (hT : decide (b ≤ a) = true) :
    Calls Tryd.prog 12 #[.int .u8 op, .int .u64 a, .int .u64 b] w fun e w' => e = .returned (.bool true) ∧ Below w.heap.size w w' := by
  have hHT : holdV 50 a b = true := by rw [← hT]; first | rfl | (rw [Bool.eq_iff_iff]; simp [holdV])
  have HT := Lib.hid hHT; clear hHT
  have HBF := Lib.hid br_50
  have h2 := hO.two
  have hix : ∀ (x0 x1 x2 x3 x4 x5 : Bool) (W : World), (Instr.index 83 (.agg #[.bool x0, .bool x1, .bool x2, .bool x3, .bool x4, .bool x5]) (.int .i64 5)).run Tryd.prog W = .ok (.bool x5) W := fun _ _ _ _ _ _ _ => by kernel_rfl
  go_enter Tryd.func12, Tryd.ntmps12
  go_wp2_with fail
  refine (awake3 _ hF hO).mono ?_
  rintro e w1 ⟨rfl, b1⟩
  have hF1 := hF.keep b1 (Nat.le_refl _)
  have hO1 := hO.below b1
  clear hF hO
  go_wp2_with fail
  refine (bytes_any (l := brL 50) (by simp [brL]) (insAt_new w1 (brL 50) _ rfl _)).mono ?_
  rintro e w2 ⟨v, rfl, hown, b2⟩
  obtain ⟨A, c, rfl, hsrc, -⟩ := src_own hown (bytesOf_range _)
  have hle := HBF.out.1
  have B2 : Below w1.heap.size w1 w2 := ((Below.refl w1.heap.size w1).alloc (Nat.le_refl _) _).trans (b2.mono (by simp only [szA]; omega))
  have hF2 := hF1.keep B2 (Nat.le_refl _)
  have hO2 := hO1.below B2
  have B12 := b1.trans (B2.mono b1.size)
  clear hF1 hO1 b1 B2 b2 hown
  go_wp2_with fail
  refine (ks_new (w0 := w) (N := 64) hle (by decide) hsrc hF2 hO2 B12 h2).mono ?_
  rintro e w3 ⟨rfl, k3⟩
  clear hF2 hO2 B12 hsrc
  generalize w2.heap.size = q at *
  go_wp2_with fail
  refine (ks_set k3 (k := 5) (by omega) a ha).mono ?_
  rintro e w4 ⟨rfl, k4⟩
  go_wp2_with fail
  refine (ks_set k4 (k := 6) (by omega) b hb).mono ?_
  rintro e w5 ⟨rfl, k5⟩
  go_wp2_with fail
  refine (ks_set k5 (k := 7) (by omega) 16 (by omega)).mono ?_
  rintro e w6 ⟨rfl, k6⟩
  clear k3 k4 k5
  go_wp2_with fail
  refine (ks_run k6 1 (by decide)).mono ?_
  rintro e w7 ⟨A1, n1, c1, rfl, k7'⟩
  have k7 : Ks w w7 (q + 1) q { brM 50 a b with pl := 12 } := by
    have h1 := br_run1 50 a b (by omega) HBF.out
    rw [HT.out] at h1
    exact h1 ▸ k7'
  clear k6 k7'
  go_wp2_with (go_at_call 31; refine (ks_place k7).mono ?_; rintro e w8 ⟨rfl, rfl⟩)
  go_ret
  exact ⟨rfl, k7.below⟩
set_option maxRecDepth 100000 in
set_option maxHeartbeats 4000000 in
theorem br_50_false (op a b : Int) (w : World) (ho : 0 ≤ op ∧ op < 256) (hom : op % 6 = 5) (ha : 0 ≤ a ∧ a < 18446744073709551616) (hb : 0 ≤ b ∧ b < 18446744073709551616) (hF : FormsIn w) (hO : OpsIn w) (hT : decide (b ≤ a) = false) :
    Calls Tryd.prog 12 #[.int .u8 op, .int .u64 a, .int .u64 b] w fun e w' => e = .returned (.bool true) ∧ Below w.heap.size w w' := by
  have hHT : holdV 50 a b = false := by rw [← hT]; first | rfl | (rw [Bool.eq_iff_iff]; simp [holdV])
  have HT := Lib.hid hHT; clear hHT
  have HBF := Lib.hid br_50
  have h2 := hO.two
  have hix : ∀ (x0 x1 x2 x3 x4 x5 : Bool) (W : World), (Instr.index 83 (.agg #[.bool x0, .bool x1, .bool x2, .bool x3, .bool x4, .bool x5]) (.int .i64 5)).run Tryd.prog W = .ok (.bool x5) W := fun _ _ _ _ _ _ _ => by kernel_rfl
  go_enter Tryd.func12, Tryd.ntmps12
  go_wp2_with fail
  refine (awake3 _ hF hO).mono ?_
  rintro e w1 ⟨rfl, b1⟩
  have hF1 := hF.keep b1 (Nat.le_refl _)
  have hO1 := hO.below b1
  clear hF hO
  go_wp2_with fail
  refine (bytes_any (l := brL 50) (by simp [brL]) (insAt_new w1 (brL 50) _ rfl _)).mono ?_
  rintro e w2 ⟨v, rfl, hown, b2⟩
  obtain ⟨A, c, rfl, hsrc, -⟩ := src_own hown (bytesOf_range _)
  have hle := HBF.out.1
  have B2 : Below w1.heap.size w1 w2 := ((Below.refl w1.heap.size w1).alloc (Nat.le_refl _) _).trans (b2.mono (by simp only [szA]; omega))
  have hF2 := hF1.keep B2 (Nat.le_refl _)
  have hO2 := hO1.below B2
  have B12 := b1.trans (B2.mono b1.size)
  clear hF1 hO1 b1 B2 b2 hown
  go_wp2_with fail
  refine (ks_new (w0 := w) (N := 64) hle (by decide) hsrc hF2 hO2 B12 h2).mono ?_
  rintro e w3 ⟨rfl, k3⟩
  clear hF2 hO2 B12 hsrc
  generalize w2.heap.size = q at *
  go_wp2_with fail
  refine (ks_set k3 (k := 5) (by omega) a ha).mono ?_
  rintro e w4 ⟨rfl, k4⟩
  go_wp2_with fail
  refine (ks_set k4 (k := 6) (by omega) b hb).mono ?_
  rintro e w5 ⟨rfl, k5⟩
  go_wp2_with fail
  refine (ks_set k5 (k := 7) (by omega) 16 (by omega)).mono ?_
  rintro e w6 ⟨rfl, k6⟩
  clear k3 k4 k5
  go_wp2_with fail
  refine (ks_run k6 1 (by decide)).mono ?_
  rintro e w7 ⟨A1, n1, c1, rfl, k7'⟩
  have k7 : Ks w w7 (q + 1) q { brM 50 a b with pl := 4 } := by
    have h1 := br_run1 50 a b (by omega) HBF.out
    rw [HT.out] at h1
    exact h1 ▸ k7'
  clear k6 k7'
  go_wp2_with fail
  refine (ks_place k7).mono ?_
  rintro e w8 ⟨rfl, rfl⟩
  go_wp2_with fail
  refine (ks_run k7 1 (by decide)).mono ?_
  rintro e w9 ⟨A2, n2, c2, rfl, k9'⟩
  have k9 : Ks w w9 (q + 1) q (brM2 50 a b) := (br_run2 50 a b HBF.out) ▸ k9'
  clear k7 k9'
  have hr1 := ks_reg k9 (k := 1) (by omega)
  rw [show (brM2 50 a b).reg 1 = 8 from rfl] at hr1
  have HR1 := Lib.hid hr1; clear hr1
  have hpl9 := ks_place k9
  rw [show (brM2 50 a b).pl = 16 from rfl] at hpl9
  have HP9 := Lib.hid hpl9; clear hpl9
  go_wp2_with (first | (go_at_call 31; refine HP9.out.mono ?_; rintro e w8 ⟨rfl, rfl⟩) | (go_at_call 33; refine HR1.out.mono ?_; rintro e w8 ⟨rfl, rfl⟩))
  refine (ks_jump k9 8 (by decide)).mono ?_
  rintro e w10 ⟨rfl, k10⟩
  clear HR1 HP9
  go_wp2_with fail
  refine (ks_run k10 1 (by decide)).mono ?_
  rintro e w11 ⟨A3, n3, c3, rfl, k11'⟩
  have k11 : Ks w w11 (q + 1) q (brM3 50 a b) := (br_run3 50 a b HBF.out) ▸ k11'
  clear k9 k10 k11'
  have hr2 := ks_reg k11 (k := 2) (by omega)
  rw [show (brM3 50 a b).reg 2 = 12 from rfl] at hr2
  have HR2 := Lib.hid hr2; clear hr2
  have hpl11 := ks_place k11
  rw [show (brM3 50 a b).pl = 20 from rfl] at hpl11
  have HP11 := Lib.hid hpl11; clear hpl11
  go_wp2_with (first | (go_at_call 31; refine HP11.out.mono ?_; rintro e w8 ⟨rfl, rfl⟩) | (go_at_call 33; refine HR2.out.mono ?_; rintro e w8 ⟨rfl, rfl⟩))
  go_ret
  exact ⟨rfl, k11.below⟩
theorem machBranches_walk (op a b : Int) (w : World) (ho : 0 ≤ op ∧ op < 256) (ha : 0 ≤ a ∧ a < 18446744073709551616) (hb : 0 ≤ b ∧ b < 18446744073709551616) (hF : FormsIn w) (hO : OpsIn w) :
    Calls Tryd.prog 12 #[.int .u8 op, .int .u64 a, .int .u64 b] w fun e w' => e = .returned (.bool true) ∧ Below w.heap.size w w' := by
  have h6 : op % 6 = 0 ∨ op % 6 = 1 ∨ op % 6 = 2 ∨ op % 6 = 3 ∨ op % 6 = 4 ∨ op % 6 = 5 := by omega
  rcases h6 with h | h | h | h | h | h
  · cases hT : (a == b)
    · exact br_45_false op a b w ho h ha hb hF hO hT
    · exact br_45_true op a b w ho h ha hb hF hO hT
  · cases hT : (a != b)
    · exact br_46_false op a b w ho h ha hb hF hO hT
    · exact br_46_true op a b w ho h ha hb hF hO hT
  · cases hT : decide (wrap64 a < wrap64 b)
    · exact br_47_false op a b w ho h ha hb hF hO hT
    · exact br_47_true op a b w ho h ha hb hF hO hT
  · cases hT : decide (wrap64 b ≤ wrap64 a)
    · exact br_48_false op a b w ho h ha hb hF hO hT
    · exact br_48_true op a b w ho h ha hb hF hO hT
  · cases hT : decide (a < b)
    · exact br_49_false op a b w ho h ha hb hF hO hT
    · exact br_49_true op a b w ho h ha hb hF hO hT
  · cases hT : decide (b ≤ a)
    · exact br_50_false op a b w ho h ha hb hF hO hT
    · exact br_50_true op a b w ho h ha hb hF hO hT
end Go.Proofs.YtpdflpkbamdbeaaDoor
