/- HeapBounds answers true. Conditions: each theorem's. -/
import Derived.Test.YtcjffhfigelhhaaHeapM
namespace Go.Proofs.Ytcjffhfigelhhaa
open Go.RowKit Go.Maps
set_option linter.unusedVariables false
set_option linter.unusedSimpArgs false
set_option maxRecDepth 100000
open Hp
namespace Hp
def bdA (n : Int) : Ab := ⟨1, fun b => if b = 1 then some (n, true) else none, fun _ _ => v0⟩
def m40 (x : Int) : Int := (x % 18446744073709551616) % 40
end Hp
theorem m40_lt (x : Int) : 0 ≤ m40 x ∧ m40 x < 40 := by unfold m40; omega
theorem m40_eq (x : Int) : wrap64 ((IntKind.u64.wrap x).tmod 40) = m40 x := by
  rw [IntKind.wrap_u64, Int.tmod_eq_emod_of_nonneg (by omega)]
  unfold m40 wrap64
  omega
theorem bdA_make {n : Int} (h0 : 0 ≤ n) (h1 : n < 40) : ab0.make n true = bdA n ∧ ab0.makeV n = ⟨1, 0, 0, n⟩ ∧ Ab.makeE n = 0 := by
  have hb : big n = false := by unfold big; simp; omega
  unfold Ab.make Ab.makeV Ab.makeE bdA ab0
  rw [hb]
  exact ⟨rfl, rfl, rfl⟩
theorem bd_p {n t b : Int} (hb : b = 1 ∨ b = 4 ∨ b = 8) (ht : in64 t) : (bdA n).at_ (mv ⟨1, 0, 0, n⟩ t) b = if 0 ≤ t ∧ t + b ≤ n then 0 else 21 := by
  have hw : wid b = true := by unfold wid; rcases hb with rfl | rfl | rfl <;> rfl
  have hm : mv ⟨1, 0, 0, n⟩ t = ⟨1, t, 0, n⟩ := by
    unfold mv
    rw [if_neg (by show ¬ (1 : Int) = 0; decide)]
    simp only [Int.zero_add]
    rw [w64_id ht]
  unfold Ab.at_
  rw [hw, hm]
  simp [bdA, fits]
theorem bd_pt {n a s : Int} (h0 : 0 ≤ a) (h1 : a < 40) (s0 : 0 ≤ s) (s1 : s < 40) : pt ⟨1, 0, 0, n⟩ a s = ⟨1, a, a, if a + s < n then a + s else n⟩ := by
  unfold pt
  rw [if_neg (by show ¬ (1 : Int) = 0; decide)]
  have e1 : w64 (0 + a) = a := by rw [Int.zero_add]; exact w64_id (by unfold in64; omega)
  simp only [e1]
  have e2 : w64 (a + s) = a + s := w64_id (by unfold in64; omega)
  rw [e2]
  have e3 : (if a > 0 then a else 0) = a := by split <;> omega
  rw [e3]
theorem bd_q {n a s t b : Int} (hb : b = 1 ∨ b = 4 ∨ b = 8) (h0 : 0 ≤ a) (h1 : a < 40) (s0 : 0 ≤ s) (s1 : s < 40) (t0 : -9 ≤ t) (t1 : t < 50) : (bdA n).at_ (mv (pt ⟨1, 0, 0, n⟩ a s) t) b = if 0 ≤ t ∧ t + b ≤ s ∧ a + t + b ≤ n then 0 else 21 := by
  have hw : wid b = true := by unfold wid; rcases hb with rfl | rfl | rfl <;> rfl
  rw [bd_pt h0 h1 s0 s1]
  have hm : mv ⟨1, a, a, if a + s < n then a + s else n⟩ t = ⟨1, a + t, a, if a + s < n then a + s else n⟩ := by
    unfold mv
    rw [if_neg (by show ¬ (1 : Int) = 0; decide)]
    simp only
    rw [w64_id (by unfold in64; omega)]
  unfold Ab.at_
  rw [hw, hm]
  simp only [bdA, fits, Bool.true_eq_false, if_false, if_true, Int.one_ne_zero, Option.isNone_some, Bool.false_eq_true, decide_eq_true_eq]
  by_cases e : 0 ≤ t ∧ t + b ≤ s ∧ a + t + b ≤ n
  · rw [if_pos e, if_pos]
    split <;> omega
  · rw [if_neg e, if_neg]
    split <;> omega
namespace Hp
def cP (n t b : Int) : Int := if 0 ≤ t ∧ t + b ≤ n then 0 else 21
def cQ (n a s t b : Int) : Int := if 0 ≤ t ∧ t + b ≤ s ∧ a + t + b ≤ n then 0 else 21
theorem cP_y {n t b : Int} (h : 0 ≤ t ∧ t + b ≤ n) : cP n t b = 0 := if_pos h
theorem cP_n {n t b : Int} (h : ¬ (0 ≤ t ∧ t + b ≤ n)) : cP n t b = 21 := if_neg h
theorem cQ_y {n a s t b : Int} (h : 0 ≤ t ∧ t + b ≤ s ∧ a + t + b ≤ n) : cQ n a s t b = 0 := if_pos h
theorem cQ_n {n a s t b : Int} (h : ¬ (0 ≤ t ∧ t + b ≤ s ∧ a + t + b ≤ n)) : cQ n a s t b = 21 := if_neg h
end Hp
set_option maxHeartbeats 8000000 in
theorem heapBounds_walk (x0 off x1 x2 : Int) (h0 : in64 x0) (h1 : in64 off) (h2 : in64 x1) (h3 : in64 x2) (w : World) :
    Calls Try.prog 5 #[.int .i64 x0, .int .i64 off, .agg #[.int .i64 x1, .int .i64 x2]] w fun e w' => e = .returned (.bool true) ∧ Below w.heap.size w w' := by
  have HIN := Lib.hid h1
  unfold in64 at h0 h1 h2 h3
  go_enter Try.func5, Try.ntmps5
  go_wp2_with fail
  refine (new_any _).mono ?_
  rintro e w1 ⟨h, o, rfl, hpa, hoa, hba⟩
  have HPA := Lib.hid hpa
  have u := row_in hba (row_new (n := w.heap.size) rfl (.cells #[.int .i64 x1, .int .i64 x2] 32)) (by simp)
  have HOA := Lib.hid hoa
  have HBA := Lib.hid (((Below.refl w.heap.size w).alloc (Nat.le_refl _) (.cells #[.int .i64 x1, .int .i64 x2] 32)).trans (hba.mono (by simp)))
  clear hpa hoa
  go_wp2_with fail
  refine (awake_any _).mono ?_
  rintro e w2 ⟨rfl, hb2⟩
  have HP2 := Lib.hid (HPA.out.below hb2)
  replace u := row_in hb2 u (lt_of_at u)
  have HB2 := Lib.hid (HBA.out.trans (hb2.mono HBA.out.size))
  clear hb2
  go_wp2_with fail
  have hmn := m40_lt x0
  have hma := m40_lt x1
  have hms := m40_lt x2
  rw [m40_eq]
  generalize m40 x0 = n at *
  obtain ⟨k1, k2, k3⟩ := bdA_make hmn.1 hmn.2
  refine (make_any HP2.out (by omega) n true).mono ?_
  rintro e w3 ⟨o2, he, hp3, hs3⟩
  rw [k1] at hp3
  rw [k2, k3] at he
  simp only [Ptr.v] at he
  subst he
  have hno : ¬ o w.heap.size := fun e => by have := HOA.out _ e; simp at this; omega
  have hu3 := hs3.at_ u hno
  have hge : ∀ j, o j → w.heap.size ≤ j := fun j hj => by have := HOA.out j hj; simp at this; omega
  have HB3 := Lib.hid (HB2.out.trans (hs3.toBelow HB2.out.size hge))
  have HP3 := Lib.hid hp3
  clear hs3 hp3 u k1 k2 k3 hge hno
  obtain ⟨hu3, -⟩ := hu3
  have hl0 := lt_of_at hu3
  have rp := row_new (w := w3) (n := w3.heap.size) rfl (.cells #[.int .i64 1, .int .i64 0, .int .i64 0, .int .i64 n] 31)
  have u3 := row_up hu3 (.cells #[.int .i64 1, .int .i64 0, .int .i64 0, .int .i64 n] 31)
  have HPX := Lib.hid (HP3.out.alloc (.cells #[.int .i64 1, .int .i64 0, .int .i64 0, .int .i64 n] 31))
  have HBX := Lib.hid (HB3.out.alloc HB3.out.size (.cells #[.int .i64 1, .int .i64 0, .int .i64 0, .int .i64 n] 31))
  have u0 : (w3.alloc (.cells #[.int .i64 1, .int .i64 0, .int .i64 0, .int .i64 n] 31)).cell? ⟨w.heap.size, 0, none⟩ = some (.int .i64 x1) := cell_of_row _ _ _ _ _ _ u3
  have u1 : (w3.alloc (.cells #[.int .i64 1, .int .i64 0, .int .i64 0, .int .i64 n] 31)).cell? ⟨w.heap.size, 1, none⟩ = some (.int .i64 x2) := cell_of_row _ _ _ _ _ _ u3
  have hl0X := lt_of_at u3
  go_wp2_with fail
  generalize w3.alloc (.cells #[.int .i64 1, .int .i64 0, .int .i64 0, .int .i64 n] 31) = X at *
  generalize w3.heap.size = m8 at *
  go_quiet (fail)
  rw [m40_eq, m40_eq]
  generalize m40 x1 = a at *
  generalize m40 x2 = sz at *
  have rpX : Hid _ := Lib.hid rp
  have hp1 : (Ptr.mk 1 0 0 n).ok := by unfold Ptr.ok in64; refine ⟨?_, ?_, ?_, ?_⟩ <;> dsimp only <;> omega
  clear rp u0 u1 u3 hu3 hl0X
  have hbY : Below X.heap.size X (X.drewN nq) := belowN (Below.refl _ _)
  have rpY := row_in hbY rpX.out (lt_of_at rpX.out)
  have HPY := Lib.hid (HPX.out.below hbY)
  have HBY := Lib.hid (HBX.out.trans (hbY.mono HBX.out.size))
  clear hbY rpX
  generalize X.drewN nq = Y at *
  obtain ⟨q0, q1, q2, q3⟩ := cells4 rpY
  have hm8 := lt_of_at rpY
  go_wp2_with fail
  refine (part_any ⟨1, 0, 0, n⟩ a sz _ hp1).mono ?_
  rintro e Z0 ⟨he, hbZ⟩
  have hqok := pt_ok hp1 a sz
  have HQ : Hid (∀ t b : Int, (b = 1 ∨ b = 4 ∨ b = 8) → -9 ≤ t → t < 50 → (bdA n).at_ (mv (pt ⟨1, 0, 0, n⟩ a sz) t) b = cQ n a sz t b) := Lib.hid (fun t b hb t0 t1 => bd_q hb hma.1 hma.2 hms.1 hms.2 t0 t1)
  have HP : Hid (∀ t b : Int, (b = 1 ∨ b = 4 ∨ b = 8) → in64 t → (bdA n).at_ (mv ⟨1, 0, 0, n⟩ t) b = cP n t b) := Lib.hid (fun t b hb ht => bd_p hb ht)
  generalize pt ⟨1, 0, 0, n⟩ a sz = q at *
  simp only [Ptr.v] at he
  subst he
  have rpZ := row_in hbZ rpY (lt_of_at rpY)
  have HPZ := Lib.hid (HPY.out.below hbZ)
  have HBZ := Lib.hid (HBY.out.trans (hbZ.mono HBY.out.size))
  clear hbZ rpY q0 q1 q2 q3
  have rqW := row_new (w := Z0) (n := Z0.heap.size) rfl (.cells #[.int .i64 q.bl, .int .i64 q.off, .int .i64 q.lo, .int .i64 q.hi] 31)
  have rpW := row_up rpZ (.cells #[.int .i64 q.bl, .int .i64 q.off, .int .i64 q.lo, .int .i64 q.hi] 31)
  have HPW := Lib.hid (HPZ.out.alloc (.cells #[.int .i64 q.bl, .int .i64 q.off, .int .i64 q.lo, .int .i64 q.hi] 31))
  have HBW := Lib.hid (HBZ.out.alloc HBZ.out.size (.cells #[.int .i64 q.bl, .int .i64 q.off, .int .i64 q.lo, .int .i64 q.hi] 31))
  have HP1 := Lib.hid hp1
  have HQOK := Lib.hid hqok
  have RP := Lib.hid rpW
  have RQ := Lib.hid rqW
  have hidx : ∀ k : Nat, k < 3 → ∃ b : Int, (b = 1 ∨ b = 4 ∨ b = 8) ∧ ∀ W, (Instr.index 67 (.agg #[.int .i64 1, .int .i64 4, .int .i64 8]) (.int .i64 k)).run Try.prog W = .ok (.int .i64 b) W := fun k hk => by
    have : k = 0 ∨ k = 1 ∨ k = 2 := by omega
    rcases this with rfl | rfl | rfl
    · exact ⟨1, .inl rfl, fun W => by kernel_rfl⟩
    · exact ⟨4, .inr (.inl rfl), fun W => by kernel_rfl⟩
    · exact ⟨8, .inr (.inr rfl), fun W => by kernel_rfl⟩
  have HIDX := Lib.hid hidx
  have hlp8 := lt_of_at rpW
  have hlq := lt_of_at rqW
  clear hp1 hqok rpW rqW rpZ hidx h0 h2 h3
  go_wp2_with fail
  generalize Z0.alloc (.cells #[.int .i64 q.bl, .int .i64 q.off, .int .i64 q.lo, .int .i64 q.hi] 31) = V at *
  generalize Z0.heap.size = m12 at *
  go_loopw [56] (fun i wr => ∃ k : Nat, k ≤ 3 ∧ i = .int .i64 k ∧ Hid (Below V.heap.size V wr)) (fun i _ => 3 - (intOf i).toNat)
  case atStart => exact ⟨0, by omega, rfl, Lib.hid (Below.refl _ _)⟩
  case round =>
    obtain ⟨k, hk, rfl, hbe⟩ := hrel
    by_cases hlt : k < 3
    · obtain ⟨b, hb, hix⟩ := HIDX.out k hlt
      have HB := Lib.hid hb
      have hbr : 1 ≤ b ∧ b ≤ 8 := by omega
      have dk1 : decide ((k : Int) < 3) = true := decide_eq_true (by omega)
      clear hb
      obtain ⟨U, hU⟩ : ∃ U, U = wr := ⟨_, rfl⟩
      subst hU
      go_wp2_with fail
      go_loopw [15] (fun i wr => ∃ t : Int, -9 ≤ t ∧ t ≤ 50 ∧ i = .int .i64 t ∧ Hid (Below V.heap.size V wr)) (fun i _ => (50 - intOf i).toNat)
      case atStart => exact ⟨-9, by omega, by omega, rfl, hbe⟩
      case round =>
        obtain ⟨t, t0, t1, rfl, hbt⟩ := hrel
        by_cases htl : t < 50
        · have dt1 : decide (t < 50) = true := decide_eq_true htl
          have g1 := HP.out t b HB.out (by unfold in64; omega)
          have g2 := HQ.out t b HB.out t0 htl
          have G1 := Lib.hid g1
          have G2 := Lib.hid g2
          have rp := row_in hbt.out RP.out hlp8
          have rq := row_in hbt.out RQ.out hlq
          obtain ⟨p0, p1, p2, p3⟩ := cells4 rp
          have hla := lt_of_at rp
          have hlb := lt_of_at rq
          have HRQ := Lib.hid rq
          have hw1 : wrap64 (t + b) = t + b := IntWalk.wrap64_in _ (by omega)
          have hw2 : wrap64 (a + t) = a + t := IntWalk.wrap64_in _ (by omega)
          have hw3 : wrap64 (a + t + b) = a + t + b := IntWalk.wrap64_in _ (by omega)
          have hw4 : wrap64 (t + 1) = t + 1 := IntWalk.wrap64_in _ (by omega)
          have HPr := Lib.hid (HPW.out.below hbt.out)
          clear g1 g2 rp rq
          go_wp2_with fail
          refine (move_any ⟨1, 0, 0, n⟩ t _ HP1.out).mono ?_
          rintro e S1 ⟨rfl, hs1⟩
          have HS1 := Lib.hid hs1
          have HPS1 := Lib.hid (HPr.out.below hs1)
          clear hs1
          go_wp2_with fail
          refine (load_any HPS1.out (mv ⟨1, 0, 0, n⟩ t) (mv_ok HP1.out t) b).mono ?_
          rintro e S2 ⟨he, hs2⟩
          rw [G1.out] at he
          simp only [Val.v] at he
          subst he
          have HB2' := Lib.hid (HS1.out.trans (hs2.mono HS1.out.size))
          have HPS2 := Lib.hid (HPS1.out.below hs2)
          have rq2 := row_up (row_in HB2'.out HRQ.out hlb) (.cells (valA ((bdA n).load (mv ⟨1, 0, 0, n⟩ t) b)) 35)
          simp only [valA] at rq2
          obtain ⟨s0, s1, s2, s3⟩ := cells4 rq2
          have hlb2 := lt_of_at (row_in HB2'.out HRQ.out hlb)
          clear hs2 p0 p1 p2 p3 rq2
          go_wp2_with fail
          refine (move_any q t _ HQOK.out).mono ?_
          rintro e S3 ⟨rfl, hs3⟩
          have HB3' := Lib.hid ((HB2'.out.alloc HB2'.out.size _).trans (hs3.mono (by have := HB2'.out.size; simp; omega)))
          have HPS3 := Lib.hid ((HPS2.out.alloc _).below hs3)
          clear hs3 s0 s1 s2 s3
          go_wp2_with fail
          refine (load_any HPS3.out (mv q t) (mv_ok HQOK.out t) b).mono ?_
          rintro e S4 ⟨he, hs4⟩
          rw [G2.out] at he
          simp only [Val.v] at he
          subst he
          have HB4' := Lib.hid (HB3'.out.trans (hs4.mono HB3'.out.size))
          clear hs4
          have hfin := Lib.hid (hbt.out.trans ((HB4'.out.alloc HB4'.out.size (.cells (valA ((bdA n).load (mv q t) b)) 35)).mono hbt.out.size))
          simp only [valA] at hfin
          have key : ∀ (c1 c2 : Prop) [Decidable c1] [Decidable c2], True := fun _ _ _ _ => trivial
          clear key
          by_cases e0 : 0 ≤ t
          · by_cases e1 : t + b ≤ n
            · by_cases e2 : t + b ≤ sz
              · by_cases e3 : a + t + b ≤ n
                · rw [cP_y ⟨e0, e1⟩, cQ_y ⟨e0, e2, e3⟩]
                  go_wp2
                  go_roundw
                  case rel => exact ⟨t + 1, by omega, by omega, by first | with_reducible rfl | (simp only [hw4]), hfin⟩
                  case measure => simp [intOf]; omega
                · rw [cP_y ⟨e0, e1⟩, cQ_n (fun q => e3 q.2.2)]
                  go_wp2
                  go_roundw
                  case rel => exact ⟨t + 1, by omega, by omega, by first | with_reducible rfl | (simp only [hw4]), hfin⟩
                  case measure => simp [intOf]; omega
              · rw [cP_y ⟨e0, e1⟩, cQ_n (fun q => e2 q.2.1)]
                go_wp2
                go_roundw
                case rel => exact ⟨t + 1, by omega, by omega, by first | with_reducible rfl | (simp only [hw4]), hfin⟩
                case measure => simp [intOf]; omega
            · rw [cP_n (fun q => e1 q.2), cQ_n (fun q => e1 (by omega))]
              by_cases e2 : t + b ≤ sz
              · have e3 : ¬ (a + t + b ≤ n) := by omega
                go_wp2
                go_roundw
                case rel => exact ⟨t + 1, by omega, by omega, by first | with_reducible rfl | (simp only [hw4]), hfin⟩
                case measure => simp [intOf]; omega
              · go_wp2
                go_roundw
                case rel => exact ⟨t + 1, by omega, by omega, by first | with_reducible rfl | (simp only [hw4]), hfin⟩
                case measure => simp [intOf]; omega
          · rw [cP_n (fun q => e0 q.1), cQ_n (fun q => e0 q.1)]
            go_wp2
            go_roundw
            case rel => exact ⟨t + 1, by omega, by omega, by first | with_reducible rfl | (simp only [hw4]), hfin⟩
            case measure => simp [intOf]; omega
        · have dt1 : decide (t < 50) = false := decide_eq_false htl
          have g1 := HP.out off b HB.out HIN.out
          have G1 := Lib.hid g1
          have rp := row_in hbt.out RP.out hlp8
          obtain ⟨p0, p1, p2, p3⟩ := cells4 rp
          have hla := lt_of_at rp
          have HPr := Lib.hid (HPW.out.below hbt.out)
          have hw5 : wrap64 (n - b) = n - b := IntWalk.wrap64_in _ (by omega)
          clear g1 rp
          go_wp2_with fail
          refine (move_any ⟨1, 0, 0, n⟩ off _ HP1.out).mono ?_
          rintro e S1 ⟨rfl, hs1⟩
          have HS1 := Lib.hid hs1
          have HPS1 := Lib.hid (HPr.out.below hs1)
          clear hs1 p0 p1 p2 p3
          go_wp2_with fail
          refine (load_any HPS1.out (mv ⟨1, 0, 0, n⟩ off) (mv_ok HP1.out off) b).mono ?_
          rintro e S2 ⟨he, hs2⟩
          rw [G1.out] at he
          simp only [Val.v] at he
          subst he
          have HB2' := Lib.hid (HS1.out.trans (hs2.mono HS1.out.size))
          have hfin := Lib.hid (hbt.out.trans ((HB2'.out.alloc HB2'.out.size (.cells (valA ((bdA n).load (mv ⟨1, 0, 0, n⟩ off) b)) 35)).mono hbt.out.size))
          simp only [valA] at hfin
          clear hs2
          by_cases e0 : 0 ≤ off
          · by_cases e1 : off + b ≤ n
            · have e2 : off ≤ n - b := by omega
              rw [cP_y ⟨e0, e1⟩]
              go_wp2
              go_roundw
              case rel => exact ⟨k + 1, by omega, by go_num, hfin⟩
              case measure => simp [intOf]; omega
            · have e2 : ¬ (off ≤ n - b) := by omega
              rw [cP_n (fun q => e1 q.2)]
              go_wp2
              go_roundw
              case rel => exact ⟨k + 1, by omega, by go_num, hfin⟩
              case measure => simp [intOf]; omega
          · rw [cP_n (fun q => e0 q.1)]
            go_wp2
            go_roundw
            case rel => exact ⟨k + 1, by omega, by go_num, hfin⟩
            case measure => simp [intOf]; omega
    · have dk1 : decide ((k : Int) < 3) = false := decide_eq_false (by omega)
      go_wp2
      go_ret
      exact ⟨rfl, HBW.out.trans (hbe.out.mono (by have := HBW.out.size; omega))⟩
end Go.Proofs.Ytcjffhfigelhhaa
