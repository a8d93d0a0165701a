/- Registers and pieces of an Imm taken from a word. At most new blocks in memory. Conditions: the ranges that each theorem names. -/
import Derived.Test.YtppcbommaddkgaaDoorCodePack
namespace Go.Proofs.YtppcbommaddkgaaDoor
open Go.RowKit
set_option linter.unusedVariables false
set_option linter.unusedSimpArgs false
set_option maxRecDepth 10000
open Pc

namespace Pc
theorem and31n (x : Nat) : x &&& 31 = x % 32 := Nat.and_two_pow_sub_one_eq_mod x 5
theorem and31 (x : Int) (h : 0 ≤ x) (h' : x < 4294967296) : bits .and .u32 x 31 = x % 32 := by
  rw [and32 x 31 h h' (by omega) (by omega)]
  unfold andI
  rw [show (31 : Int).toNat = 31 from rfl, and31n]
  omega
theorem take_sign (w : Int) (pw pb : Nat) (h0 : 0 ≤ w) (h1 : w < 4294967296) (h : pw + pb = 32) (hb : 1 ≤ pb) :
    ((w + 2147483648) % 4294967296 - 2147483648) / 2 ^ pw = sg (w / 2 ^ pw) (2 ^ pb) := by
  have e : (2 : Int) ^ pb * 2 ^ pw = 4294967296 := by rw [← Int.pow_add, show pb + pw = 32 by omega]; rfl
  have e2 : (2 : Int) ^ pb / 2 * 2 ^ pw = 2147483648 := by
    obtain ⟨c, rfl⟩ : ∃ c, pb = c + 1 := ⟨pb - 1, by omega⟩
    rw [Int.pow_succ, Int.mul_ediv_cancel _ (by decide), ← Int.pow_add, show c + pw = 31 by omega]; rfl
  have hp := tp pw
  unfold sg
  by_cases hw : w < 2147483648
  · rw [if_neg (by rw [Int.le_ediv_iff_mul_le hp]; omega)]
    congr 1; omega
  · rw [if_pos (by rw [Int.le_ediv_iff_mul_le hp]; omega)]
    rw [show (w + 2147483648) % 4294967296 - 2147483648 = w - 2 ^ pb * 2 ^ pw by rw [e]; omega]
    rw [Int.sub_mul_ediv_right _ _ (Int.ne_of_gt hp)]
theorem take_plain (w : Int) (pw pb : Nat) (h0 : 0 ≤ w) (h : pw + pb ≤ 32) :
    w * 2 ^ (32 - pb - pw) % 4294967296 / 2 ^ (32 - pb) = w / 2 ^ pw % 2 ^ pb := by
  have e : (4294967296 : Int) = 2 ^ (pw + pb) * 2 ^ (32 - pb - pw) := by rw [← Int.pow_add, show pw + pb + (32 - pb - pw) = 32 by omega]; rfl
  have e2 : (2 : Int) ^ (32 - pb) = 2 ^ pw * 2 ^ (32 - pb - pw) := by rw [← Int.pow_add]; congr 1; omega
  have hd := tp (32 - pb - pw)
  rw [e, e2, Int.mul_comm w, Int.mul_comm (2 ^ (pw + pb)), Int.mul_emod_mul_of_pos _ _ hd, Int.mul_comm (2 ^ pw), Int.mul_ediv_mul_of_pos _ _ hd]
  obtain ⟨x, rfl⟩ := Int.eq_ofNat_of_zero_le h0
  have key : x % 2 ^ (pw + pb) / 2 ^ pw = x / 2 ^ pw % 2 ^ pb := by rw [Nat.pow_add, Nat.mod_mul_right_div_self]
  exact_mod_cast key
theorem takeV_range (pi pw pb : Nat) (w : Int) (h0 : 0 ≤ w) (h1 : w < 4294967296) (hp : pi ≤ 20) (h : pw + pb ≤ 32) : -9007199254740992 ≤ takeV pi pw pb w ∧ takeV pi pw pb w ≤ 9007199254740992 := by
  have hs : -4294967296 ≤ (if pw + pb = 32 then sg (w / 2 ^ pw) (2 ^ pb) else w / 2 ^ pw % 2 ^ pb) ∧ (if pw + pb = 32 then sg (w / 2 ^ pw) (2 ^ pb) else w / 2 ^ pw % 2 ^ pb) ≤ 4294967296 := by
    have d0 := Int.ediv_nonneg h0 (Int.le_of_lt (tp pw))
    have d1 := Int.ediv_le_self (2 ^ pw) h0
    have m0 := Int.emod_nonneg (w / 2 ^ pw) (Int.ne_of_gt (tp pb))
    have m1 := Int.emod_lt_of_pos (w / 2 ^ pw) (tp pb)
    have hpb : (2 : Int) ^ pb ≤ 4294967296 := by
      rw [← tp32 pb (by omega)]
      have := Int.mul_le_mul_of_nonneg_left (show (1 : Int) ≤ 2 ^ (32 - pb) by have := tp (32 - pb); omega) (Int.le_of_lt (tp pb))
      omega
    have := tp pb
    unfold sg
    split
    · split <;> omega
    · omega
  have e : takeV pi pw pb w = (if pw + pb = 32 then sg (w / 2 ^ pw) (2 ^ pb) else w / 2 ^ pw % 2 ^ pb) * 2 ^ pi := by unfold takeV; split <;> rfl
  rw [e]
  generalize (if pw + pb = 32 then sg (w / 2 ^ pw) (2 ^ pb) else w / 2 ^ pw % 2 ^ pb) = x at *
  have hpi : (2 : Int) ^ pi ≤ 1048576 := by
    have e20 : (2 : Int) ^ pi * 2 ^ (20 - pi) = 1048576 := by rw [← Int.pow_add, show pi + (20 - pi) = 20 by omega]; rfl
    have := Int.mul_le_mul_of_nonneg_left (show (1 : Int) ≤ 2 ^ (20 - pi) by have := tp (20 - pi); omega) (Int.le_of_lt (tp pi))
    omega
  have hpos := tp pi
  generalize (2 : Int) ^ pi = p at *
  have b1 : x * p ≤ 4294967296 * p := Int.mul_le_mul_of_nonneg_right hs.2 (Int.le_of_lt hpos)
  have b2 : -4294967296 * p ≤ x * p := Int.mul_le_mul_of_nonneg_right hs.1 (Int.le_of_lt hpos)
  omega
theorem wrapmul (X p V : Int) (hp : 0 < p) (h : X * p = V) (hr : -9007199254740992 ≤ V ∧ V ≤ 9007199254740992) : wrap64 (wrap64 X * p) = V := by
  have h1 : -9007199254740992 ≤ X ∧ X ≤ 9007199254740992 := by
    constructor
    · rcases Int.lt_or_le X 0 with h0 | h0
      · have := Int.mul_le_mul_of_nonneg_left (show (1 : Int) ≤ p by omega) (show 0 ≤ -X by omega)
        rw [Int.neg_mul, Int.neg_mul] at this
        omega
      · omega
    · rcases Int.lt_or_le X 0 with h0 | h0
      · omega
      · have := Int.mul_le_mul_of_nonneg_left (show (1 : Int) ≤ p by omega) h0
        omega
  have e : wrap64 X = X := by unfold wrap64; omega
  rw [e, h]
  unfold wrap64; omega
end Pc

theorem register_any (w0 a : Int) (w : World) (h0 : 0 ≤ w0) (h1 : w0 < 4294967296) (ha : 0 ≤ a) (ha' : a ≤ 31) :
    Calls Tryd.prog 79 #[.int .u32 w0, .int .i64 a] w fun e w' => e = .returned (.int .i64 (w0 / 2 ^ a.toNat % 32)) ∧ w = w' := by
  have hd0 := Int.ediv_nonneg h0 (Int.le_of_lt (tp a.toNat))
  have hd1 := Int.ediv_le_self (2 ^ a.toNat) h0
  have e := and31 (w0 / 2 ^ a.toNat) hd0 (by omega)
  have hm : 0 ≤ w0 / 2 ^ a.toNat % 32 ∧ w0 / 2 ^ a.toNat % 32 < 32 := by omega
  go_enter Tryd.func79, Tryd.ntmps79
  go_wp2
  go_ret
  exact ⟨ret1' rfl, rfl⟩

set_option maxHeartbeats 1000000 in
theorem take_piece (pi pw pb w0 : Int) (w : World) (hw0 : 0 ≤ w0) (hw1 : w0 < 4294967296) (h0 : 0 ≤ pi) (h0' : pi ≤ 20) (h1 : 0 ≤ pw) (h2 : 0 ≤ pb) (h3 : pw + pb ≤ 32) (hb : pw + pb = 32 → 1 ≤ pb) :
    Calls Tryd.prog 80 #[.agg #[.int .i64 pi, .int .i64 pw, .int .i64 pb], .int .u32 w0] w fun e w' =>
      e = .returned (.int .i64 (takeV pi.toNat pw.toNat pb.toNat w0)) ∧ Below w.heap.size w w' := by
  have k1 : IntKind.i64.wrap (32 - pb) = 32 - pb := IntWalk.i64_in _ (by omega)
  have k2 : IntKind.i64.wrap (32 - pb - pw) = 32 - pb - pw := IntWalk.i64_in _ (by omega)
  have k7 : IntKind.i64.wrap (pw + pb) = pw + pb := IntWalk.i64_in _ (by omega)
  have k3 : 0 ≤ 32 - pb := by omega
  have k4 : 0 ≤ 32 - pb - pw := by omega
  have k5 : 32 - pb ≤ 32 := by omega
  have k6 : 32 - pb - pw ≤ 32 := by omega
  have hr := takeV_range pi.toNat pw.toNat pb.toNat w0 hw0 hw1 (by omega) (by omega)
  generalize hV : takeV pi.toNat pw.toNat pb.toNat w0 = V at *
  have HV := Lib.hid hV; clear hV
  by_cases hc : pw + pb = 32
  · have hc' : (pw + pb == 32) = true := by simp [hc]
    have Hc := Lib.hid hc; clear hc
    go_enter Tryd.func80, Tryd.ntmps80
    go_wp2
    go_quiet (fail)
    go_wp2
    go_ret
    refine ⟨ret1' ?_, belowN ((Below.refl _ _).alloc (Nat.le_refl _) _)⟩
    have hr' := HV.out
    unfold takeV at hr'
    rw [if_pos (show pw.toNat + pb.toNat = 32 by have := Hc.out; omega)] at hr'
    rw [show (32 - pb - pw).toNat = 0 by have := Hc.out; omega, Int.pow_zero, Int.mul_one, Int.emod_eq_of_lt hw0 hw1, show (32 - pb).toNat = pw.toNat by have := Hc.out; omega]
    rw [show wrap32 w0 = (w0 + 2147483648) % 4294967296 - 2147483648 by unfold wrap32; rfl, take_sign w0 pw.toNat pb.toNat hw0 hw1 (by have := Hc.out; omega) (by have := hb Hc.out; omega)]
    exact wrapmul _ _ _ (tp _) hr' hr
  · have hc' : (pw + pb == 32) = false := by simp [hc]
    have Hc := Lib.hid hc; clear hc
    go_enter Tryd.func80, Tryd.ntmps80
    go_wp2
    go_quiet (fail)
    go_wp2
    go_ret
    refine ⟨ret1' ?_, belowN ((Below.refl _ _).alloc (Nat.le_refl _) _)⟩
    have hr' := HV.out
    unfold takeV at hr'
    rw [if_neg (show ¬ pw.toNat + pb.toNat = 32 by have := Hc.out; omega)] at hr'
    rw [show (32 - pb - pw).toNat = 32 - pb.toNat - pw.toNat by omega, show (32 - pb).toNat = 32 - pb.toNat by omega, take_plain w0 pw.toNat pb.toNat hw0 (by omega)]
    exact wrapmul _ _ _ (tp _) hr' hr
end Go.Proofs.YtppcbommaddkgaaDoor
