/- Package lay: the size of a type, the next multiple of a line. Conditions: each theorem's. -/
import Derived.Test.YtalelgnooemooaaLayM
import Derived.Laws.MakeOwn
import Derived.StillTailTactics
namespace Go.Proofs.Ytalelgnooemooaa
open Go.RowKit Go.Maps
set_option linter.unusedVariables false
set_option linter.unusedSimpArgs false
set_option maxRecDepth 10000
open Py
namespace Py
/-- The next multiple. -/
def nextV (n line : Int) : Int := if line = 1 then n else if line = 4 then (n + 3) / 4 * 4 else if line = 8 then (n + 7) / 8 * 8 else 0
def sizeV (t : Ty) : Int := if 0 < t.st then 8 else mapV t
theorem mapV_cases (t : Ty) : mapV t = 0 ∨ mapV t = 1 ∨ mapV t = 4 ∨ mapV t = 8 := by
  unfold mapV
  repeat' split
  all_goals simp
theorem sizeV_cases (t : Ty) : sizeV t = 0 ∨ sizeV t = 1 ∨ sizeV t = 4 ∨ sizeV t = 8 := by
  unfold sizeV
  split
  · simp
  · exact mapV_cases t
end Py
theorem NumsAt.keep {w w' : World} {B b : Nat} (h : NumsAt w b) (hb : Below B w w') (hlt : b < B) : NumsAt w' b := by
  obtain ⟨D, ⟨es, clock, h1, h2⟩, h3⟩ := h
  exact ⟨D, ⟨es, clock, (hb.block b hlt).trans h1, h2⟩, h3⟩
theorem NumsAt.lt {w : World} {b : Nat} (h : NumsAt w b) : b < w.heap.size := by
  obtain ⟨D, h1, -⟩ := h
  exact h1.lt
theorem zero_int (w : World) : (zeroValue 3).run Try.prog w = .ok (.int .i64 0) w := by kernel_rfl
theorem NumsAt.look {w : World} {b : Nat} (h : NumsAt w b) (t : Ty) (ht : tyOk t) : (Instr.lookup 67 (.map (some b)) (.agg #[.int .i64 t.ba, .int .i64 t.st, .string t.sn]) false).run Try.prog w = .ok (.int .i64 (mapV t)) w := by
  obtain ⟨D, h1, h2⟩ := h
  obtain ⟨c, hr, hc, -⟩ := h1.lookup_int lawTy Try.underlying67 Try.underlying3 (zero_int w) (key_ty t ht)
  have := (h2 t ht).symm.trans hc
  injection this with this
  injection this with _ this
  rw [hr, this]
set_option maxHeartbeats 1000000 in
theorem of_any {w : World} {b : Nat} (t : Ty) (h : NumsAt w b) (ht : tyOk t) :
    Calls Try.prog 22 #[.map (some b), .agg #[.int .i64 t.ba, .int .i64 t.st, .string t.sn]] w fun e w' => e = .returned (.int .i64 (sizeV t)) ∧ Below w.heap.size w w' := by
  have hb0 := (Below.refl w.heap.size w).alloc (Nat.le_refl _) (.cells #[.int .i64 t.ba, .int .i64 t.st, .string t.sn] 24)
  have hl := (h.keep hb0 h.lt).look t ht
  go_enter Try.func22, Try.ntmps22
  by_cases hs : 0 < t.st
  · have h1 : decide (0 < t.st) = true := decide_eq_true hs
    rw [show sizeV t = 8 by unfold sizeV; rw [if_pos hs]]
    go_wp2
    go_ret
    exact ⟨rfl, hb0⟩
  · have h1 : decide (0 < t.st) = false := decide_eq_false hs
    rw [show sizeV t = mapV t by unfold sizeV; rw [if_neg hs]]
    go_wp2
    go_ret
    exact ⟨rfl, hb0⟩
theorem andn_mask (x k m : Nat) (hx : x < 2 ^ (m + k)) : x &&& ((2 ^ m - 1) <<< k) = (x >>> k) <<< k := by
  apply Nat.eq_of_testBit_eq
  intro i
  rw [Nat.testBit_and, Nat.testBit_shiftLeft, Nat.testBit_shiftLeft, Nat.testBit_shiftRight, Nat.testBit_two_pow_sub_one]
  by_cases h : k ≤ i
  · rw [Nat.add_sub_cancel' h]
    by_cases hm : i - k < m
    · simp [h, hm]
    · have : x.testBit i = false := Nat.testBit_lt_two_pow (Nat.lt_of_lt_of_le hx (Nat.pow_le_pow_right (by decide) (by omega)))
      simp [this]
  · simp [h]
theorem andn_i64 (x : Int) (k m y M : Nat) (h0 : 0 ≤ x) (h1 : x < 9223372036854775808) (hM : (~~~ BitVec.ofInt 64 (y : Int) : BitVec 64).toNat = (2 ^ m - 1) <<< k) (hm : m + k = 64) : bits .andNot .i64 x y = x / 2 ^ k * 2 ^ k := by
  obtain ⟨x, rfl⟩ := Int.eq_ofNat_of_zero_le h0
  have h2 : (BitVec.ofInt 64 (x : Int)).toNat = x := by
    rw [BitVec.ofInt_natCast, BitVec.toNat_ofNat]; exact Nat.mod_eq_of_lt (by omega)
  show IntKind.i64.wrap ((BitVec.ofInt 64 (x : Int) &&& ~~~ BitVec.ofInt 64 (y : Int)).toNat : Int) = _
  rw [BitVec.toNat_and, h2, hM, andn_mask x k m (by rw [hm]; omega), Nat.shiftLeft_eq, Nat.shiftRight_eq_div_pow, IntKind.wrap_i64]
  have h3 : x / 2 ^ k * 2 ^ k ≤ x := Nat.div_mul_le_self _ _
  have h4 : ((x / 2 ^ k * 2 ^ k : Nat) : Int) = (x : Int) / 2 ^ k * 2 ^ k := by simp
  rw [← h4]
  omega
theorem andn_all (x : Int) : bits .andNot .i64 x (-1) = 0 := by
  show IntKind.i64.wrap ((BitVec.ofInt 64 x &&& ~~~ BitVec.ofInt 64 (-1)).toNat : Int) = _
  rw [BitVec.toNat_and, show (~~~ BitVec.ofInt 64 (-1) : BitVec 64).toNat = 0 by decide, Nat.and_zero]
  decide
set_option maxHeartbeats 1000000 in
theorem next_any (n line : Int) (w : World) (hn : 0 ≤ n ∧ n < 1099511627776) (hl : line = 0 ∨ line = 1 ∨ line = 4 ∨ line = 8) :
    Calls Try.prog 29 #[.int .i64 n, .int .i64 line] w fun e w' => e = .returned (.int .i64 (nextV n line)) ∧ w = w' := by
  have a0 : bits .andNot .i64 (n - 1) (-1) = 0 := andn_all _
  have a1 : bits .andNot .i64 n 0 = n := by
    have := andn_i64 n 0 64 0 0 hn.1 (by omega) (by decide) rfl
    simpa using this
  have a4 : bits .andNot .i64 (n + 4 - 1) 3 = (n + 3) / 4 * 4 := by
    rw [show n + 4 - 1 = n + 3 by omega]; exact andn_i64 (n + 3) 2 62 3 0 (by omega) (by omega) (by decide) rfl
  have a8 : bits .andNot .i64 (n + 8 - 1) 7 = (n + 7) / 8 * 8 := by
    rw [show n + 8 - 1 = n + 7 by omega]; exact andn_i64 (n + 7) 3 61 7 0 (by omega) (by omega) (by decide) rfl
  rcases hl with rfl | rfl | rfl | rfl
  all_goals
    go_enter Try.func29, Try.ntmps29
    go_wp2
    go_ret
    exact ⟨rfl, rfl⟩
end Go.Proofs.Ytalelgnooemooaa
