/- Each form takes its words apart as the document says. Conditions: that the word is of 32 bits. -/
import Derived.Test.YtppcbommaddkgaaDoorCodeUnpackR
import Derived.Test.YtppcbommaddkgaaDoorCodeUnpackI
import Derived.Test.YtppcbommaddkgaaDoorCodeUnpackS
import Derived.Test.YtppcbommaddkgaaDoorCodeUnpackU
import Derived.Test.YtppcbommaddkgaaDoorCodeUnpackN
import Derived.Test.YtppcbommaddkgaaDoorCodeMask
namespace Go.Proofs.YtppcbommaddkgaaDoor
open Go.RowKit
set_option linter.unusedVariables false
set_option linter.unusedSimpArgs false
set_option maxRecDepth 10000
open Pc

namespace Pc
theorem tk0 (u : Int) : takeV 0 0 0 u = 0 := by simp [takeV, Int.emod_one]
theorem tk_a (u : Int) : takeV 0 20 12 u = sg (u / 1048576) 4096 * 1 := by simp [takeV]
theorem tk_b (u : Int) : takeV 0 20 6 u = u / 1048576 % 64 := by simp [takeV]
theorem tk_c (u : Int) : takeV 0 7 5 u = u / 128 % 32 := by simp [takeV]
theorem tk_d (u : Int) : takeV 5 25 7 u = sg (u / 33554432) 128 * 32 := by simp [takeV]
theorem tk_e (u : Int) : takeV 11 7 1 u = u / 128 % 2 * 2048 := by simp [takeV]
theorem tk_f (u : Int) : takeV 1 8 4 u = u / 256 % 16 * 2 := by simp [takeV]
theorem tk_g (u : Int) : takeV 5 25 6 u = u / 33554432 % 64 * 32 := by simp [takeV]
theorem tk_h (u : Int) : takeV 12 31 1 u = sg (u / 2147483648) 2 * 4096 := by simp [takeV]
theorem tk_i (u : Int) : takeV 0 12 20 u = sg (u / 4096) 1048576 * 1 := by simp [takeV]
theorem tk_j (u : Int) : takeV 12 12 8 u = u / 4096 % 256 * 4096 := by simp [takeV]
theorem tk_k (u : Int) : takeV 11 20 1 u = u / 1048576 % 2 * 2048 := by simp [takeV]
theorem tk_l (u : Int) : takeV 1 21 10 u = u / 2097152 % 1024 * 2 := by simp [takeV]
theorem tk_m (u : Int) : takeV 20 31 1 u = sg (u / 2147483648) 2 * 1048576 := by simp [takeV]
theorem or00 : bits .or .i64 0 0 = 0 := or64z 0 (by omega) (by omega)
theorem orz (x : Int) (hx : -9223372036854775808 ≤ x) (hx' : x < 9223372036854775808) : bits .or .i64 0 x = x := by
  by_cases h : 0 ≤ x
  · rw [or64n 0 x (by omega) (by omega) h hx', zero_orI x h]
  · have := or64s 0 x 1 18446744073709551616 0 (by rfl) (by omega) (by omega) (by omega) (by omega) (by omega)
    rwa [Int.mul_one, Int.zero_add] at this
theorem sgr (x n N : Int) (hn : n = 2 * N) (h0 : 0 ≤ x) (h1 : x < n) : -N ≤ sg x n ∧ sg x n < N := by
  subst hn; unfold sg; split <;> omega
theorem orS (u : Int) (h0 : 0 ≤ u) (h1 : u < 4294967296) : bits .or .i64 (u / 128 % 32) (sg (u / 33554432) 128 * 32) = u / 128 % 32 + sg (u / 33554432) 128 * 32 := by
  have := sgr (u / 33554432) 128 64 (by rfl) (by omega) (by omega)
  exact or64s _ _ 32 576460752303423488 5 (by rfl) (by rfl) (by omega) (by omega) (by omega) (by omega)
theorem or3 (x y z py pz : Int) (a b : Nat) (hy : py = 2 ^ a) (hz : pz = 2 ^ b) (hx0 : 0 ≤ x) (hx : x < py) (hy0 : 0 ≤ y) (hlt : x + y * py < pz) (hz0 : 0 ≤ z) (hb1 : y * py < 9223372036854775808) (hb2 : z * pz < 9223372036854775808) (hpz : pz < 9223372036854775808) :
    bits .or .i64 (bits .or .i64 (z * pz) x) (y * py) = x + y * py + z * pz ∧ bits .or .i64 (bits .or .i64 (z * pz) (y * py)) x = x + y * py + z * pz := by
  have hpy : 0 < py := by omega
  have hyp : 0 ≤ y * py := Int.mul_nonneg hy0 (by omega)
  have hpz0 : 0 < pz := by omega
  have hzp : 0 ≤ z * pz := Int.mul_nonneg hz0 (by omega)
  have hx' : x < 9223372036854775808 := by omega
  constructor
  · rw [or64n (z * pz) x hzp hb2 hx0 hx', or64n _ _ (orI_nonneg _ _) (orI_lt63 _ _ hb2 hx') hyp hb1]
    refine Eq.trans (b := orI (orI x (y * py)) (z * pz)) (by ac_rfl) ?_
    rw [orI_add x y py a hy hx0 hx hy0, orI_add _ z pz b hz (by omega) hlt hz0]
  · rw [or64n (z * pz) (y * py) hzp hb2 hyp hb1, or64n _ _ (orI_nonneg _ _) (orI_lt63 _ _ hb2 hb1) hx0 hx']
    refine Eq.trans (b := orI (orI x (y * py)) (z * pz)) (by ac_rfl) ?_
    rw [orI_add x y py a hy hx0 hx hy0, orI_add _ z pz b hz (by omega) hlt hz0]
end Pc

/-- What a form does with a word. -/
def FormOK (k : Nat) (u : Int) : Prop :=
  ∃ (b1 b2 b3 : Bool) (fx lo hi st a0 w0 c0 a1 w1 c1 a2 w2 c2 a3 w3 c3 : Int), fmL k = frmL b1 b2 b3 fx lo hi st a0 w0 c0 a1 w1 c1 a2 w2 c2 a3 w3 c3 ∧ fx = fixI (k : Int) ∧
    ∀ (x : Int) (W : World), Calls Tryd.prog 73 #[frm b1 b2 b3 fx lo hi st a0 w0 c0 a1 w1 c1 a2 w2 c2 a3 w3 c3, .int .i64 x, .int .u32 u] W fun e w' =>
      e = .returned (ins x (dRd (k : Int) u) (dR1 (k : Int) u) (dR2 (k : Int) u) (dI (k : Int) u)) ∧ Below W.heap.size W w'

theorem formOK0 (u : Int) (h0 : 0 ≤ u) (h1 : u < 4294967296) : FormOK 0 u := by
  refine ⟨true, true, true, 4261441663, 1, 0, 0, 0, 0, 0, 0, 0, 0, 0, 0, 0, 0, 0, 0, rfl, rfl, fun x W => ?_⟩
  have key := unpack_R 4261441663 1 0 0 0 0 0 0 0 0 0 0 0 0 0 0 x u (0) (0) (0) (0) (0) (0) (0) (0) W h0 h1 (by unfold okT; omega) (by unfold okT; omega) (by unfold okT; omega) (by unfold okT; omega)
    (Lib.hid (tk0 u)) (Lib.hid (tk0 u)) (Lib.hid (tk0 u)) (Lib.hid (tk0 u)) or00 or00 or00 or00
  refine key.mono fun e w' h => ⟨h.1.trans ?_, h.2⟩
  simp [dRd, dR1, dR2, dI, uRd, uR1, uR2]
  try omega

theorem formOK1 (u : Int) (h0 : 0 ≤ u) (h1 : u < 4294967296) : FormOK 1 u := by
  refine ⟨true, true, false, 28799, (-2048), 2047, 1, 0, 20, 12, 0, 0, 0, 0, 0, 0, 0, 0, 0, rfl, rfl, fun x W => ?_⟩
  have hs := sgr (u / 1048576) 4096 2048 (by rfl) (by omega) (by omega)
  have key := unpack_I 28799 (-2048) 2047 1 0 20 12 0 0 0 0 0 0 0 0 0 x u (sg (u / 1048576) 4096 * 1) (0) (0) (0) (sg (u / 1048576) 4096 * 1) (sg (u / 1048576) 4096 * 1) (sg (u / 1048576) 4096 * 1) (sg (u / 1048576) 4096 * 1) W h0 h1 (by unfold okT; omega) (by unfold okT; omega) (by unfold okT; omega) (by unfold okT; omega)
    (Lib.hid (tk_a u)) (Lib.hid (tk0 u)) (Lib.hid (tk0 u)) (Lib.hid (tk0 u)) (orz _ (by omega) (by omega)) (or64z _ (by omega) (by omega)) (or64z _ (by omega) (by omega)) (or64z _ (by omega) (by omega))
  refine key.mono fun e w' h => ⟨h.1.trans ?_, h.2⟩
  simp [dRd, dR1, dR2, dI, uRd, uR1, uR2]
  try omega

theorem formOK2 (u : Int) (h0 : 0 ≤ u) (h1 : u < 4294967296) : FormOK 2 u := by
  refine ⟨true, true, false, 4227887231, 0, 63, 1, 0, 20, 6, 0, 0, 0, 0, 0, 0, 0, 0, 0, rfl, rfl, fun x W => ?_⟩
  have key := unpack_I 4227887231 0 63 1 0 20 6 0 0 0 0 0 0 0 0 0 x u (u / 1048576 % 64) (0) (0) (0) (u / 1048576 % 64) (u / 1048576 % 64) (u / 1048576 % 64) (u / 1048576 % 64) W h0 h1 (by unfold okT; omega) (by unfold okT; omega) (by unfold okT; omega) (by unfold okT; omega)
    (Lib.hid (tk_b u)) (Lib.hid (tk0 u)) (Lib.hid (tk0 u)) (Lib.hid (tk0 u)) (orz _ (by omega) (by omega)) (or64z _ (by omega) (by omega)) (or64z _ (by omega) (by omega)) (or64z _ (by omega) (by omega))
  refine key.mono fun e w' h => ⟨h.1.trans ?_, h.2⟩
  simp [dRd, dR1, dR2, dI, uRd, uR1, uR2]
  try omega

theorem formOK3 (u : Int) (h0 : 0 ≤ u) (h1 : u < 4294967296) : FormOK 3 u := by
  refine ⟨false, true, true, 28799, (-2048), 2047, 1, 0, 7, 5, 5, 25, 7, 0, 0, 0, 0, 0, 0, rfl, rfl, fun x W => ?_⟩
  have hs := sgr (u / 33554432) 128 64 (by rfl) (by omega) (by omega)
  have key := unpack_S 28799 (-2048) 2047 1 0 7 5 5 25 7 0 0 0 0 0 0 x u (u / 128 % 32) (sg (u / 33554432) 128 * 32) (0) (0) (u / 128 % 32) (u / 128 % 32 + sg (u / 33554432) 128 * 32) (u / 128 % 32 + sg (u / 33554432) 128 * 32) (u / 128 % 32 + sg (u / 33554432) 128 * 32) W h0 h1 (by unfold okT; omega) (by unfold okT; omega) (by unfold okT; omega) (by unfold okT; omega)
    (Lib.hid (tk_c u)) (Lib.hid (tk_d u)) (Lib.hid (tk0 u)) (Lib.hid (tk0 u)) (orz _ (by omega) (by omega)) (orS u h0 h1) (or64z _ (by omega) (by omega)) (or64z _ (by omega) (by omega))
  refine key.mono fun e w' h => ⟨h.1.trans ?_, h.2⟩
  simp [dRd, dR1, dR2, dI, uRd, uR1, uR2]
  try omega

theorem formOK4 (u : Int) (h0 : 0 ≤ u) (h1 : u < 4294967296) : FormOK 4 u := by
  refine ⟨false, true, true, 28799, (-4096), 4094, 2, 11, 7, 1, 1, 8, 4, 5, 25, 6, 12, 31, 1, rfl, rfl, fun x W => ?_⟩
  have hs := sgr (u / 2147483648) 2 1 (by rfl) (by omega) (by omega)
  have ho3 := (or3 (u / 256 % 16 * 2) (u / 33554432 % 64) (u / 128 % 2) 32 2048 5 11 (by rfl) (by rfl) (by omega) (by omega) (by omega) (by omega) (by omega) (by omega) (by omega) (by omega)).1
  have key := unpack_S 28799 (-4096) 4094 2 11 7 1 1 8 4 5 25 6 12 31 1 x u (u / 128 % 2 * 2048) (u / 256 % 16 * 2) (u / 33554432 % 64 * 32) (sg (u / 2147483648) 2 * 4096) (u / 128 % 2 * 2048) (bits .or .i64 (u / 128 % 2 * 2048) (u / 256 % 16 * 2)) (u / 256 % 16 * 2 + u / 33554432 % 64 * 32 + u / 128 % 2 * 2048) (u / 256 % 16 * 2 + u / 33554432 % 64 * 32 + u / 128 % 2 * 2048 + sg (u / 2147483648) 2 * 4096) W h0 h1 (by unfold okT; omega) (by unfold okT; omega) (by unfold okT; omega) (by unfold okT; omega)
    (Lib.hid (tk_e u)) (Lib.hid (tk_f u)) (Lib.hid (tk_g u)) (Lib.hid (tk_h u)) (orz _ (by omega) (by omega)) rfl ho3 (or64s _ _ 4096 4503599627370496 12 (by rfl) (by rfl) (by omega) (by omega) (by omega) (by omega))
  refine key.mono fun e w' h => ⟨h.1.trans ?_, h.2⟩
  simp [dRd, dR1, dR2, dI, uRd, uR1, uR2]
  try omega

theorem formOK5 (u : Int) (h0 : 0 ≤ u) (h1 : u < 4294967296) : FormOK 5 u := by
  refine ⟨true, false, false, 127, (-524288), 524287, 1, 0, 12, 20, 0, 0, 0, 0, 0, 0, 0, 0, 0, rfl, rfl, fun x W => ?_⟩
  have hs := sgr (u / 4096) 1048576 524288 (by rfl) (by omega) (by omega)
  have key := unpack_U 127 (-524288) 524287 1 0 12 20 0 0 0 0 0 0 0 0 0 x u (sg (u / 4096) 1048576 * 1) (0) (0) (0) (sg (u / 4096) 1048576 * 1) (sg (u / 4096) 1048576 * 1) (sg (u / 4096) 1048576 * 1) (sg (u / 4096) 1048576 * 1) W h0 h1 (by unfold okT; omega) (by unfold okT; omega) (by unfold okT; omega) (by unfold okT; omega)
    (Lib.hid (tk_i u)) (Lib.hid (tk0 u)) (Lib.hid (tk0 u)) (Lib.hid (tk0 u)) (orz _ (by omega) (by omega)) (or64z _ (by omega) (by omega)) (or64z _ (by omega) (by omega)) (or64z _ (by omega) (by omega))
  refine key.mono fun e w' h => ⟨h.1.trans ?_, h.2⟩
  simp [dRd, dR1, dR2, dI, uRd, uR1, uR2]
  try omega

theorem formOK6 (u : Int) (h0 : 0 ≤ u) (h1 : u < 4294967296) : FormOK 6 u := by
  refine ⟨true, false, false, 127, (-1048576), 1048574, 2, 12, 12, 8, 11, 20, 1, 1, 21, 10, 20, 31, 1, rfl, rfl, fun x W => ?_⟩
  have hs := sgr (u / 2147483648) 2 1 (by rfl) (by omega) (by omega)
  have ho3 := (or3 (u / 2097152 % 1024 * 2) (u / 1048576 % 2) (u / 4096 % 256) 2048 4096 11 12 (by rfl) (by rfl) (by omega) (by omega) (by omega) (by omega) (by omega) (by omega) (by omega) (by omega)).2
  have key := unpack_U 127 (-1048576) 1048574 2 12 12 8 11 20 1 1 21 10 20 31 1 x u (u / 4096 % 256 * 4096) (u / 1048576 % 2 * 2048) (u / 2097152 % 1024 * 2) (sg (u / 2147483648) 2 * 1048576) (u / 4096 % 256 * 4096) (bits .or .i64 (u / 4096 % 256 * 4096) (u / 1048576 % 2 * 2048)) (u / 2097152 % 1024 * 2 + u / 1048576 % 2 * 2048 + u / 4096 % 256 * 4096) (u / 2097152 % 1024 * 2 + u / 1048576 % 2 * 2048 + u / 4096 % 256 * 4096 + sg (u / 2147483648) 2 * 1048576) W h0 h1 (by unfold okT; omega) (by unfold okT; omega) (by unfold okT; omega) (by unfold okT; omega)
    (Lib.hid (tk_j u)) (Lib.hid (tk_k u)) (Lib.hid (tk_l u)) (Lib.hid (tk_m u)) (orz _ (by omega) (by omega)) rfl ho3 (or64s _ _ 1048576 17592186044416 20 (by rfl) (by rfl) (by omega) (by omega) (by omega) (by omega))
  refine key.mono fun e w' h => ⟨h.1.trans ?_, h.2⟩
  simp [dRd, dR1, dR2, dI, uRd, uR1, uR2]
  try omega

theorem formOK7 (u : Int) (h0 : 0 ≤ u) (h1 : u < 4294967296) : FormOK 7 u := by
  refine ⟨false, false, false, 4294967295, 1, 0, 0, 0, 0, 0, 0, 0, 0, 0, 0, 0, 0, 0, 0, rfl, rfl, fun x W => ?_⟩
  have key := unpack_N 4294967295 1 0 0 0 0 0 0 0 0 0 0 0 0 0 0 x u (0) (0) (0) (0) (0) (0) (0) (0) W h0 h1 (by unfold okT; omega) (by unfold okT; omega) (by unfold okT; omega) (by unfold okT; omega)
    (Lib.hid (tk0 u)) (Lib.hid (tk0 u)) (Lib.hid (tk0 u)) (Lib.hid (tk0 u)) or00 or00 or00 or00
  refine key.mono fun e w' h => ⟨h.1.trans ?_, h.2⟩
  simp [dRd, dR1, dR2, dI, uRd, uR1, uR2]
  try omega

theorem formOK (k : Nat) (hk : k < 8) (u : Int) (h0 : 0 ≤ u) (h1 : u < 4294967296) : FormOK k u := by
  match k, hk with
  | 0, _ => exact formOK0 u h0 h1
  | 1, _ => exact formOK1 u h0 h1
  | 2, _ => exact formOK2 u h0 h1
  | 3, _ => exact formOK3 u h0 h1
  | 4, _ => exact formOK4 u h0 h1
  | 5, _ => exact formOK5 u h0 h1
  | 6, _ => exact formOK6 u h0 h1
  | 7, _ => exact formOK7 u h0 h1
end Go.Proofs.YtppcbommaddkgaaDoor
