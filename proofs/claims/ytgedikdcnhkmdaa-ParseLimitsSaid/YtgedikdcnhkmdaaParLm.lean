/- So many params, arguments, stars and elements: the law. Conditions: each theorem's. -/
import Derived.Test.YtgedikdcnhkmdaaParDg
import Derived.Test.YtgedikdcnhkmdaaParPq
import Derived.Test.YtgedikdcnhkmdaaParDe
namespace Go.Proofs.Ytgedikdcnhkmdaa
open Go.RowKit Go.Maps
set_option linter.unusedVariables false
set_option linter.unusedSimpArgs false
set_option maxRecDepth 100000
open Lx Pa
theorem dig_any (m : Nat) (hm : m < 1000) : DigC m (digN m) := by
  unfold digN
  by_cases h1 : m < 10
  · rw [if_pos h1]; exact dig_one m h1
  rw [if_neg h1]
  have hlo := dig_one (m % 10) (by omega)
  by_cases h2 : m < 100
  · rw [if_pos h2]
    exact dig_more m (by omega) (by omega) (dig_one (m / 10) (by omega)) hlo (by simp) (by simp)
  · rw [if_neg h2]
    exact dig_more m (by omega) (by omega) (dig_more (m / 10) (by omega) (by omega) (dig_one (m / 10 / 10) (by omega)) (dig_one (m / 10 % 10) (by omega)) (by simp) (by simp)) hlo (by simp) (by simp)
theorem parL_len (k : Nat) : (parL k).length ≤ 6 * k := by
  induction k with
  | zero => simp [parL]
  | succ j ih =>
    simp only [parL, List.length_append, List.length_cons, List.length_nil]
    have : (if j = 0 then ([] : List UInt8) else [44]).length ≤ 1 := by split <;> simp
    omega
theorem argL_len (k : Nat) : (argL k).length ≤ 2 * k := by
  induction k with
  | zero => simp [argL]
  | succ j ih =>
    simp only [argL, List.length_append, List.length_cons, List.length_nil]
    have : (if j = 0 then ([] : List UInt8) else [44]).length ≤ 1 := by split <;> simp
    omega
theorem digN_len (m : Nat) : (digN m).length ≤ 3 := by unfold digN; split; simp; split <;> simp
theorem two_of {x : ByteArray} {l : List UInt8} {a b : Int} (hx : x.data.toList = l) (h : decide ((parseV ⟨l.toArray⟩).2 = (a, b)) = true) : (parseV x).2.1 = a ∧ (parseV x).2.2 = b := by
  have := of_decide_eq_true h
  rw [ba_ext hx, this]
  exact ⟨rfl, rfl⟩
theorem small_mod2 (a : Int) : ∃ k m : Nat, k < 10 ∧ m < 600 ∧ wrap64 ((IntKind.u64.wrap a).tmod 10) = (k : Int) ∧ (IntKind.u64.wrap a).tmod 600 = (m : Int) := by
  obtain ⟨k, hk, h1⟩ := small_mod a 10 (by omega) (by omega)
  have h0 : 0 ≤ IntKind.u64.wrap a := by unfold IntKind.wrap; simp [IntKind.bits, IntKind.signed]; omega
  have h2 : (IntKind.u64.wrap a).tmod 600 = IntKind.u64.wrap a % 600 := Int.tmod_eq_emod_of_nonneg h0
  have h3 := Int.emod_nonneg (IntKind.u64.wrap a) (show (600 : Int) ≠ 0 by omega)
  have h4 := Int.emod_lt_of_pos (IntKind.u64.wrap a) (show (0 : Int) < 600 by omega)
  refine ⟨k, (IntKind.u64.wrap a % 600).toNat, hk, by omega, h1, by rw [h2]; omega⟩
set_option maxHeartbeats 16000000 in
theorem limits_walk {w : World} (a : Int) (hM : MaxIs w) :
    Calls Try.prog 6 #[.int .i64 a] w fun e w' => e = .returned (.bool true) ∧ Below w.heap.size w w' := by
  obtain ⟨k, m, hk, hm, hA, hB⟩ := small_mod2 a
  go_enter Try.func6, Try.ntmps6
  go_wp2_with fail
  refine (awake_any hM).mono ?_
  rintro e w1 ⟨rfl, b1⟩
  have hM1 := hM.keep b1
  clear hM
  go_wp2_with fail
  try rw [hA]
  go_loopw [4, 5, 6] (fun vp va vi wr => Hid (wr = w1) ∧ ∃ (j : Nat) (P A : ByteArray), j ≤ k ∧ vi = .int .i64 j ∧ vp = .string P ∧ va = .string A ∧ Hid (P.data.toList = parL j) ∧ Hid (A.data.toList = argL j)) (fun _ _ vi _ => k - (intOf vi).toNat)
  case atStart => exact ⟨Lib.hid rfl, 0, ⟨#[]⟩, ⟨#[]⟩, by omega, rfl, rfl, rfl, Lib.hid rfl, Lib.hid rfl⟩
  case round =>
    obtain ⟨hwr, j, P, A, hj, rfl, rfl, rfl, hP, hQ⟩ := hrel
    have sP : P.size ≤ 60 := by rw [← sz, hP.out]; have := parL_len j; omega
    have sA : A.size ≤ 60 := by rw [← sz, hQ.out]; have := argL_len j; omega
    by_cases hlt : j < k
    · have d1 : decide ((j : Int) < (k : Int)) = true := decide_eq_true (by omega)
      have hwj : IntKind.i64.wrap ((j : Int) + 1) = (j : Int) + 1 := IntWalk.i64_in _ (by omega)
      by_cases h0 : j = 0
      · have d2 : decide ((0 : Int) < (j : Int)) = false := decide_eq_false (by omega)
        go_wp2
        try simp only [Act.put]
        go_roundw
        case rel => exact ⟨hwr, j + 1, P ++ ⟨#[105, 110, 116, 32, 97]⟩, A ++ ⟨#[49]⟩, by omega, by go_num, rfl, rfl, Lib.hid (by rw [ba_app, hP.out]; simp [parL, h0]), Lib.hid (by rw [ba_app, hQ.out]; simp [argL, h0])⟩
        case measure => simp [intOf]; omega
      · have d2 : decide ((0 : Int) < (j : Int)) = true := decide_eq_true (by omega)
        go_wp2
        try simp only [Act.put]
        go_roundw
        case rel => exact ⟨hwr, j + 1, P ++ ⟨#[44]⟩ ++ ⟨#[105, 110, 116, 32, 97]⟩, A ++ ⟨#[44]⟩ ++ ⟨#[49]⟩, by omega, by go_num, rfl, rfl, Lib.hid (by rw [ba_app, ba_app, hP.out]; simp [parL, h0]), Lib.hid (by rw [ba_app, ba_app, hQ.out]; simp [argL, h0])⟩
        case measure => simp [intOf]; omega
    · have d1 : decide ((j : Int) < (k : Int)) = false := decide_eq_false (by omega)
      obtain rfl : j = k := by omega
      clear hlt hj
      have hwr' := hwr.out
      subst hwr'
      clear hwr
      have hX1 : ((⟨#[105, 110, 116, 32, 102, 40]⟩ : ByteArray) ++ P ++ ⟨#[41, 32, 123, 125]⟩).data.toList = tpL j := by rw [ba_app, ba_app, hP.out]; rfl
      have hX2 : ((⟨#[105, 110, 116, 32, 102, 40, 41, 123, 103, 40]⟩ : ByteArray) ++ A ++ ⟨#[41, 59, 125]⟩).data.toList = taL j := by rw [ba_app, ba_app, hQ.out]; rfl
      have hp1 := parse_any ((⟨#[105, 110, 116, 32, 102, 40]⟩ : ByteArray) ++ P ++ ⟨#[41, 32, 123, 125]⟩) wr (by rw [← sz, hX1]; have := parL_len j; simp [tpL]; omega) hM1
      unfold ParseP at hp1
      have hv1 := of_range allP (k := j) hk
      have hv2 := of_range allA (k := j) hk
      have hv3 := of_range allS' (k := j) hk
      have hv4 := allM m hm
      unfold okP at hv1
      unfold okA at hv2
      unfold okS at hv3
      unfold okM at hv4
      have HV1 := Lib.hid hv1
      have HV2 := Lib.hid hv2
      have HV3 := Lib.hid hv3
      have HV4 := Lib.hid hv4
      have HX1 := Lib.hid hX1
      have HX2 := Lib.hid hX2
      clear hv1 hv2 hv3 hv4 hX1 hX2
      go_wp2_with fail
      refine hp1.mono ?_
      rintro e w2 ⟨vs, vv, vf, rfl, hpa, b2⟩
      clear hp1
      have hO2 := Lib.hid hpa.one
      have hM2 := (hM1.keep b2).keep (belowA w2 (.cells #[vs, vv, vf] 27))
      have B2 := (b1.trans (b2.mono b1.size)).alloc (by have := b1.size; have := b2.size; omega) (.cells #[vs, vv, vf] 27)
      have hp2 := parse_any ((⟨#[105, 110, 116, 32, 102, 40, 41, 123, 103, 40]⟩ : ByteArray) ++ A ++ ⟨#[41, 59, 125]⟩) _ (by rw [← sz, HX2.out]; have := argL_len j; simp [taL]; omega) hM2
      unfold ParseP at hp2
      clear hpa b2
      go_wp2_with (((with_reducible refine stN 27 w2.heap.size #[vs, vv, vf] rfl ?_ ?_ ?_ ?_ ?_ ?_); rfl; rfl; exact sizePr; rfl; exact hO2.out))
      refine hp2.mono ?_
      rintro e w3 ⟨us, uv, uf, rfl, hpb, b3⟩
      clear hp2
      have hO3 := Lib.hid hpb.one
      have hM3 := (hM2.keep b3).keep (belowA w3 (.cells #[us, uv, uf] 27))
      have B3 := (B2.trans (b3.mono B2.size)).alloc (by have := B2.size; have := b3.size; omega) (.cells #[us, uv, uf] 27)
      clear hpb b3 B2 hM2
      have hr := Try.strings_Repeat ⟨#[42]⟩ j (w3.alloc (.cells #[us, uv, uf] 27)) (by omega) (by show 1 * j ≤ _; omega)
      obtain ⟨T, hTd⟩ : ∃ T : ByteArray, T = ⟨(Lib.repeatL (⟨#[42]⟩ : ByteArray).data.toList j).toArray⟩ := ⟨_, rfl⟩
      rw [← hTd] at hr
      have HTL : Hid (T.data.toList = Lib.repeatL [42] j) := Lib.hid (by rw [hTd])
      have hTs : T.size ≤ 51 := by rw [← sz, HTL.out, Lib.repeatL_length]; show j * 1 ≤ 51; omega
      clear hTd
      go_wp2_with (((with_reducible refine stN 27 w3.heap.size #[us, uv, uf] rfl ?_ ?_ ?_ ?_ ?_ ?_); rfl; rfl; exact sizePr; rfl; exact hO3.out))
      refine hr.mono ?_
      rintro e w4 ⟨rfl, b4⟩
      clear hr
      have hM4 := hM3.keep b4
      have B4 := B3.trans (b4.mono B3.size)
      clear b4 B3 hM3
      have hX3 : ((⟨#[105, 110, 116]⟩ : ByteArray) ++ T ++ ⟨#[32, 112, 59]⟩).data.toList = tsL j := by rw [ba_app, ba_app, HTL.out]; rfl
      have hp3 := parse_any ((⟨#[105, 110, 116]⟩ : ByteArray) ++ T ++ ⟨#[32, 112, 59]⟩) w4 (by rw [← sz, hX3]; simp [tsL, Lib.repeatL_length]; omega) hM4
      unfold ParseP at hp3
      have HX3 := Lib.hid hX3
      clear hX3
      go_wp2_with fail
      refine hp3.mono ?_
      rintro e w5 ⟨xs, xv, xf, rfl, hpc, b5⟩
      clear hp3
      have hO5 := Lib.hid hpc.one
      have hM5 := (hM4.keep b5).keep (belowA w5 (.cells #[xs, xv, xf] 27))
      have B5 := (B4.trans (b5.mono B4.size)).alloc (by have := B4.size; have := b5.size; omega) (.cells #[xs, xv, xf] 27)
      have hdg := dig_any m (by omega) (w5.alloc (.cells #[xs, xv, xf] 27))
      clear hpc b5 B4 hM4
      go_wp2_with (((with_reducible refine stN 27 w5.heap.size #[xs, xv, xf] rfl ?_ ?_ ?_ ?_ ?_ ?_); rfl; rfl; exact sizePr; rfl; exact hO5.out))
      try rw [hB]
      refine hdg.mono ?_
      rintro e w6 ⟨D, rfl, hD, b6⟩
      clear hdg
      have hDs : D.size ≤ 3 := by rw [← sz, hD]; exact digN_len m
      have hM6 := hM5.keep b6
      have B6 := B5.trans (b6.mono B5.size)
      have hX4 : ((⟨#[105, 110, 116, 32, 112, 91]⟩ : ByteArray) ++ D ++ ⟨#[93, 59]⟩).data.toList = tmL m := by rw [ba_app, ba_app, hD]; rfl
      have hp4 := parse_any ((⟨#[105, 110, 116, 32, 112, 91]⟩ : ByteArray) ++ D ++ ⟨#[93, 59]⟩) w6 (by rw [← sz, hX4]; have := digN_len m; simp [tmL]; omega) hM6
      unfold ParseP at hp4
      have HX4 := Lib.hid hX4
      clear hX4 hD b6 B5 hM5
      go_wp2_with fail
      refine hp4.mono ?_
      rintro e w7 ⟨ys, yv, yf, rfl, hpd, b7⟩
      clear hp4
      have hO7 := Lib.hid hpd.one
      have B7 := (B6.trans (b7.mono B6.size)).alloc (by have := B6.size; have := b7.size; omega) (.cells #[ys, yv, yf] 27)
      clear hpd b7 hM6
      have m0 : (0 : Int) ≤ m := by omega
      rcases (show m = 0 ∨ (1 ≤ m ∧ m ≤ 500) ∨ 500 < m by omega) with hmc | hmc | hmc
      · rcases (show j ≤ 4 ∨ (4 < j ∧ j ≤ 6) ∨ 6 < j by omega) with hkc | hkc | hkc
        · obtain ⟨p1, e1⟩ := two_of (a := 0) (b := 0) HX1.out (by have h := HV1.out; rw [if_neg (by omega)] at h; exact h)
          obtain ⟨p2, e2⟩ := two_of (a := 0) (b := 0) HX2.out (by have h := HV2.out; rw [if_neg (by omega)] at h; exact h)
          obtain ⟨p3, e3⟩ := two_of (a := 0) (b := 0) HX3.out (by have h := HV3.out; rw [if_neg (by omega)] at h; exact h)
          obtain ⟨p4, e4⟩ := two_of (a := 6) (b := 1) HX4.out (by have h := HV4.out; rw [if_neg (by omega)] at h; exact h)
          rw [p1, e1, p2, e2, p3, e3, p4, e4]
          clear p1 e1 p2 e2 p3 e3 p4 e4
          have k6 : decide ((6 : Int) < (j : Int)) = false := decide_eq_false (by omega)
          have k4 : decide ((4 : Int) < (j : Int)) = false := decide_eq_false (by omega)
          have k4b : decide ((j : Int) ≤ 4) = true := decide_eq_true (by omega)
          have m1 : decide ((1 : Int) ≤ (m : Int)) = false := decide_eq_false (by omega)
          clear hkc hmc
          go_wp2_with (((with_reducible refine stN 27 w7.heap.size #[ys, yv, yf] rfl ?_ ?_ ?_ ?_ ?_ ?_); rfl; rfl; exact sizePr; rfl; exact hO7.out))
          go_ret
          exact ⟨rfl, B7⟩
        · obtain ⟨p1, e1⟩ := two_of (a := 0) (b := 0) HX1.out (by have h := HV1.out; rw [if_neg (by omega)] at h; exact h)
          obtain ⟨p2, e2⟩ := two_of (a := 0) (b := 0) HX2.out (by have h := HV2.out; rw [if_neg (by omega)] at h; exact h)
          obtain ⟨p3, e3⟩ := two_of (a := 7) (b := 1) HX3.out (by have h := HV3.out; rw [if_pos (by omega)] at h; exact h)
          obtain ⟨p4, e4⟩ := two_of (a := 6) (b := 1) HX4.out (by have h := HV4.out; rw [if_neg (by omega)] at h; exact h)
          rw [p1, e1, p2, e2, p3, e3, p4, e4]
          clear p1 e1 p2 e2 p3 e3 p4 e4
          have k6 : decide ((6 : Int) < (j : Int)) = false := decide_eq_false (by omega)
          have k4 : decide ((4 : Int) < (j : Int)) = true := decide_eq_true (by omega)
          have k4b : decide ((j : Int) ≤ 4) = false := decide_eq_false (by omega)
          have m1 : decide ((1 : Int) ≤ (m : Int)) = false := decide_eq_false (by omega)
          clear hkc hmc
          go_wp2_with (((with_reducible refine stN 27 w7.heap.size #[ys, yv, yf] rfl ?_ ?_ ?_ ?_ ?_ ?_); rfl; rfl; exact sizePr; rfl; exact hO7.out))
          go_ret
          exact ⟨rfl, B7⟩
        · obtain ⟨p1, e1⟩ := two_of (a := 42) (b := 3) HX1.out (by have h := HV1.out; rw [if_pos (by omega)] at h; exact h)
          obtain ⟨p2, e2⟩ := two_of (a := 22) (b := 3) HX2.out (by have h := HV2.out; rw [if_pos (by omega)] at h; exact h)
          obtain ⟨p3, e3⟩ := two_of (a := 7) (b := 1) HX3.out (by have h := HV3.out; rw [if_pos (by omega)] at h; exact h)
          obtain ⟨p4, e4⟩ := two_of (a := 6) (b := 1) HX4.out (by have h := HV4.out; rw [if_neg (by omega)] at h; exact h)
          rw [p1, e1, p2, e2, p3, e3, p4, e4]
          clear p1 e1 p2 e2 p3 e3 p4 e4
          have k6 : decide ((6 : Int) < (j : Int)) = true := decide_eq_true (by omega)
          have k4 : decide ((4 : Int) < (j : Int)) = true := decide_eq_true (by omega)
          have k4b : decide ((j : Int) ≤ 4) = false := decide_eq_false (by omega)
          have m1 : decide ((1 : Int) ≤ (m : Int)) = false := decide_eq_false (by omega)
          clear hkc hmc
          go_wp2_with (((with_reducible refine stN 27 w7.heap.size #[ys, yv, yf] rfl ?_ ?_ ?_ ?_ ?_ ?_); rfl; rfl; exact sizePr; rfl; exact hO7.out))
          go_ret
          exact ⟨rfl, B7⟩
      · rcases (show j ≤ 4 ∨ (4 < j ∧ j ≤ 6) ∨ 6 < j by omega) with hkc | hkc | hkc
        · obtain ⟨p1, e1⟩ := two_of (a := 0) (b := 0) HX1.out (by have h := HV1.out; rw [if_neg (by omega)] at h; exact h)
          obtain ⟨p2, e2⟩ := two_of (a := 0) (b := 0) HX2.out (by have h := HV2.out; rw [if_neg (by omega)] at h; exact h)
          obtain ⟨p3, e3⟩ := two_of (a := 0) (b := 0) HX3.out (by have h := HV3.out; rw [if_neg (by omega)] at h; exact h)
          obtain ⟨p4, e4⟩ := two_of (a := 0) (b := 0) HX4.out (by have h := HV4.out; rw [if_pos (by omega)] at h; exact h)
          rw [p1, e1, p2, e2, p3, e3, p4, e4]
          clear p1 e1 p2 e2 p3 e3 p4 e4
          have k6 : decide ((6 : Int) < (j : Int)) = false := decide_eq_false (by omega)
          have k4 : decide ((4 : Int) < (j : Int)) = false := decide_eq_false (by omega)
          have k4b : decide ((j : Int) ≤ 4) = true := decide_eq_true (by omega)
          have m1 : decide ((1 : Int) ≤ (m : Int)) = true := decide_eq_true (by omega)
          have m5 : decide ((m : Int) ≤ 500) = true := decide_eq_true (by omega)
          clear hkc hmc
          go_wp2_with (((with_reducible refine stN 27 w7.heap.size #[ys, yv, yf] rfl ?_ ?_ ?_ ?_ ?_ ?_); rfl; rfl; exact sizePr; rfl; exact hO7.out))
          go_ret
          exact ⟨rfl, B7⟩
        · obtain ⟨p1, e1⟩ := two_of (a := 0) (b := 0) HX1.out (by have h := HV1.out; rw [if_neg (by omega)] at h; exact h)
          obtain ⟨p2, e2⟩ := two_of (a := 0) (b := 0) HX2.out (by have h := HV2.out; rw [if_neg (by omega)] at h; exact h)
          obtain ⟨p3, e3⟩ := two_of (a := 7) (b := 1) HX3.out (by have h := HV3.out; rw [if_pos (by omega)] at h; exact h)
          obtain ⟨p4, e4⟩ := two_of (a := 0) (b := 0) HX4.out (by have h := HV4.out; rw [if_pos (by omega)] at h; exact h)
          rw [p1, e1, p2, e2, p3, e3, p4, e4]
          clear p1 e1 p2 e2 p3 e3 p4 e4
          have k6 : decide ((6 : Int) < (j : Int)) = false := decide_eq_false (by omega)
          have k4 : decide ((4 : Int) < (j : Int)) = true := decide_eq_true (by omega)
          have k4b : decide ((j : Int) ≤ 4) = false := decide_eq_false (by omega)
          have m1 : decide ((1 : Int) ≤ (m : Int)) = true := decide_eq_true (by omega)
          have m5 : decide ((m : Int) ≤ 500) = true := decide_eq_true (by omega)
          clear hkc hmc
          go_wp2_with (((with_reducible refine stN 27 w7.heap.size #[ys, yv, yf] rfl ?_ ?_ ?_ ?_ ?_ ?_); rfl; rfl; exact sizePr; rfl; exact hO7.out))
          go_ret
          exact ⟨rfl, B7⟩
        · obtain ⟨p1, e1⟩ := two_of (a := 42) (b := 3) HX1.out (by have h := HV1.out; rw [if_pos (by omega)] at h; exact h)
          obtain ⟨p2, e2⟩ := two_of (a := 22) (b := 3) HX2.out (by have h := HV2.out; rw [if_pos (by omega)] at h; exact h)
          obtain ⟨p3, e3⟩ := two_of (a := 7) (b := 1) HX3.out (by have h := HV3.out; rw [if_pos (by omega)] at h; exact h)
          obtain ⟨p4, e4⟩ := two_of (a := 0) (b := 0) HX4.out (by have h := HV4.out; rw [if_pos (by omega)] at h; exact h)
          rw [p1, e1, p2, e2, p3, e3, p4, e4]
          clear p1 e1 p2 e2 p3 e3 p4 e4
          have k6 : decide ((6 : Int) < (j : Int)) = true := decide_eq_true (by omega)
          have k4 : decide ((4 : Int) < (j : Int)) = true := decide_eq_true (by omega)
          have k4b : decide ((j : Int) ≤ 4) = false := decide_eq_false (by omega)
          have m1 : decide ((1 : Int) ≤ (m : Int)) = true := decide_eq_true (by omega)
          have m5 : decide ((m : Int) ≤ 500) = true := decide_eq_true (by omega)
          clear hkc hmc
          go_wp2_with (((with_reducible refine stN 27 w7.heap.size #[ys, yv, yf] rfl ?_ ?_ ?_ ?_ ?_ ?_); rfl; rfl; exact sizePr; rfl; exact hO7.out))
          go_ret
          exact ⟨rfl, B7⟩
      · rcases (show j ≤ 4 ∨ (4 < j ∧ j ≤ 6) ∨ 6 < j by omega) with hkc | hkc | hkc
        · obtain ⟨p1, e1⟩ := two_of (a := 0) (b := 0) HX1.out (by have h := HV1.out; rw [if_neg (by omega)] at h; exact h)
          obtain ⟨p2, e2⟩ := two_of (a := 0) (b := 0) HX2.out (by have h := HV2.out; rw [if_neg (by omega)] at h; exact h)
          obtain ⟨p3, e3⟩ := two_of (a := 0) (b := 0) HX3.out (by have h := HV3.out; rw [if_neg (by omega)] at h; exact h)
          obtain ⟨p4, e4⟩ := two_of (a := 6) (b := 1) HX4.out (by have h := HV4.out; rw [if_neg (by omega)] at h; exact h)
          rw [p1, e1, p2, e2, p3, e3, p4, e4]
          clear p1 e1 p2 e2 p3 e3 p4 e4
          have k6 : decide ((6 : Int) < (j : Int)) = false := decide_eq_false (by omega)
          have k4 : decide ((4 : Int) < (j : Int)) = false := decide_eq_false (by omega)
          have k4b : decide ((j : Int) ≤ 4) = true := decide_eq_true (by omega)
          have m1 : decide ((1 : Int) ≤ (m : Int)) = true := decide_eq_true (by omega)
          have m5 : decide ((m : Int) ≤ 500) = false := decide_eq_false (by omega)
          clear hkc hmc
          go_wp2_with (((with_reducible refine stN 27 w7.heap.size #[ys, yv, yf] rfl ?_ ?_ ?_ ?_ ?_ ?_); rfl; rfl; exact sizePr; rfl; exact hO7.out))
          go_ret
          exact ⟨rfl, B7⟩
        · obtain ⟨p1, e1⟩ := two_of (a := 0) (b := 0) HX1.out (by have h := HV1.out; rw [if_neg (by omega)] at h; exact h)
          obtain ⟨p2, e2⟩ := two_of (a := 0) (b := 0) HX2.out (by have h := HV2.out; rw [if_neg (by omega)] at h; exact h)
          obtain ⟨p3, e3⟩ := two_of (a := 7) (b := 1) HX3.out (by have h := HV3.out; rw [if_pos (by omega)] at h; exact h)
          obtain ⟨p4, e4⟩ := two_of (a := 6) (b := 1) HX4.out (by have h := HV4.out; rw [if_neg (by omega)] at h; exact h)
          rw [p1, e1, p2, e2, p3, e3, p4, e4]
          clear p1 e1 p2 e2 p3 e3 p4 e4
          have k6 : decide ((6 : Int) < (j : Int)) = false := decide_eq_false (by omega)
          have k4 : decide ((4 : Int) < (j : Int)) = true := decide_eq_true (by omega)
          have k4b : decide ((j : Int) ≤ 4) = false := decide_eq_false (by omega)
          have m1 : decide ((1 : Int) ≤ (m : Int)) = true := decide_eq_true (by omega)
          have m5 : decide ((m : Int) ≤ 500) = false := decide_eq_false (by omega)
          clear hkc hmc
          go_wp2_with (((with_reducible refine stN 27 w7.heap.size #[ys, yv, yf] rfl ?_ ?_ ?_ ?_ ?_ ?_); rfl; rfl; exact sizePr; rfl; exact hO7.out))
          go_ret
          exact ⟨rfl, B7⟩
        · obtain ⟨p1, e1⟩ := two_of (a := 42) (b := 3) HX1.out (by have h := HV1.out; rw [if_pos (by omega)] at h; exact h)
          obtain ⟨p2, e2⟩ := two_of (a := 22) (b := 3) HX2.out (by have h := HV2.out; rw [if_pos (by omega)] at h; exact h)
          obtain ⟨p3, e3⟩ := two_of (a := 7) (b := 1) HX3.out (by have h := HV3.out; rw [if_pos (by omega)] at h; exact h)
          obtain ⟨p4, e4⟩ := two_of (a := 6) (b := 1) HX4.out (by have h := HV4.out; rw [if_neg (by omega)] at h; exact h)
          rw [p1, e1, p2, e2, p3, e3, p4, e4]
          clear p1 e1 p2 e2 p3 e3 p4 e4
          have k6 : decide ((6 : Int) < (j : Int)) = true := decide_eq_true (by omega)
          have k4 : decide ((4 : Int) < (j : Int)) = true := decide_eq_true (by omega)
          have k4b : decide ((j : Int) ≤ 4) = false := decide_eq_false (by omega)
          have m1 : decide ((1 : Int) ≤ (m : Int)) = true := decide_eq_true (by omega)
          have m5 : decide ((m : Int) ≤ 500) = false := decide_eq_false (by omega)
          clear hkc hmc
          go_wp2_with (((with_reducible refine stN 27 w7.heap.size #[ys, yv, yf] rfl ?_ ?_ ?_ ?_ ?_ ?_); rfl; rfl; exact sizePr; rfl; exact hO7.out))
          go_ret
          exact ⟨rfl, B7⟩
end Go.Proofs.Ytgedikdcnhkmdaa
