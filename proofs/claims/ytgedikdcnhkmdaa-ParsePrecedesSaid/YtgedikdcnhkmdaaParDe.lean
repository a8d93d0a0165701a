/- Signs, brackets, blocks in one another. Conditions: each theorem's. -/
import Derived.Test.YtgedikdcnhkmdaaParMv
import Derived.Test.YtgedikdcnhkmdaaShelfR
import Derived.Laws.IdiomStrings
namespace Go.Proofs.Ytgedikdcnhkmdaa
open Go.RowKit Go.Maps
set_option linter.unusedVariables false
set_option linter.unusedSimpArgs false
set_option maxRecDepth 100000
open Lx Pa
theorem small_mod (a : Int) (m : Nat) (hm : 0 < m) (hm2 : m ≤ 100000) : ∃ n : Nat, n < m ∧ wrap64 ((IntKind.u64.wrap a).tmod m) = (n : Int) := by
  have h0 : 0 ≤ IntKind.u64.wrap a := by unfold IntKind.wrap; simp [IntKind.bits, IntKind.signed]; omega
  have h1 : (IntKind.u64.wrap a).tmod m = IntKind.u64.wrap a % m := Int.tmod_eq_emod_of_nonneg h0
  have h2 := Int.emod_nonneg (IntKind.u64.wrap a) (show (m : Int) ≠ 0 by omega)
  have h3 := Int.emod_lt_of_pos (IntKind.u64.wrap a) (show (0 : Int) < m by omega)
  rw [h1]
  generalize IntKind.u64.wrap a % (m : Int) = r at *
  exact ⟨r.toNat, by omega, by unfold wrap64; omega⟩

theorem ba_ext {a : ByteArray} {l : List UInt8} (h : a.data.toList = l) : a = ⟨l.toArray⟩ := by
  obtain ⟨⟨x⟩⟩ := a
  simp only at h
  rw [h]
theorem ba_app (a b : ByteArray) : (a ++ b).data.toList = a.data.toList ++ b.data.toList := by simp
theorem repL_len (x : UInt8) (n : Nat) : (Lib.repeatL [x] n).length = n := by
  rw [Lib.repeatL_length]; simp
def allE (h : Nat) : Bool := (List.range 50).all fun i => dOk h (i + 1)
theorem of_allE {h : Nat} (H : allE h = true) {n : Nat} (h1 : 1 ≤ n) (h2 : n < 51) : dOk h n = true := by
  have := (List.all_eq_true.1 H) (n - 1) (by simp; omega)
  rwa [Nat.sub_add_cancel h1] at this
/-- What is answered of such a text, however it is put together. -/
def DeepA (h n : Nat) (at_ er : Int) : Prop := if n ≤ mostD h then er = 0 else er = 12 ∧ (9 + mostD h : Int) ≤ at_ ∧ at_ ≤ 9 + (n : Int)
theorem deepA {h n : Nat} (H : allE h = true) (h1 : 1 ≤ n) (h2 : n < 51) {x : ByteArray} (hx : x.data.toList = deepL h n) : DeepA h n (parseV x).2.1 (parseV x).2.2 := by
  have := of_allE H h1 h2
  unfold dOk at this
  rw [← ba_ext hx] at this
  unfold DeepA
  simp only at this
  split
  · rename_i hc; rw [if_pos hc] at this; exact of_decide_eq_true this
  · rename_i hc
    rw [if_neg hc] at this
    simp only [Bool.and_eq_true, decide_eq_true_eq] at this
    exact ⟨this.1.1, this.1.2, this.2⟩
set_option maxHeartbeats 8000000 in
theorem deeps_0 {w : World} (a how : Int) (hM : MaxIs w) (hq : how.tmod 3 = 0) (H : allE 0 = true) :
    Calls Try.prog 4 #[.int .i64 a, .int .u8 how] w fun e w' => e = .returned (.bool true) ∧ Below w.heap.size w w' := by
  obtain ⟨n, hn, hA'⟩ := small_mod a 50 (by omega) (by omega)
  have hA : wrap64 ((IntKind.u64.wrap a).tmod 50) = (n : Int) := hA'
  clear hA'
  have hw1 : IntKind.i64.wrap ((n : Int) + 1) = (n : Int) + 1 := IntWalk.i64_in _ (by omega)
  go_enter Try.func4, Try.ntmps4
  go_wp2_with fail
  refine (awake_any hM).mono ?_
  rintro e w1 ⟨rfl, b1⟩
  have hM1 := hM.keep b1
  have hr := Try.strings_Repeat ⟨#[126]⟩ (n + 1) w1 (by omega) (by show 1 * (n + 1) ≤ _; omega)
  rw [show ((n + 1 : Nat) : Int) = (n : Int) + 1 from rfl] at hr
  obtain ⟨A, hAd⟩ : ∃ A : ByteArray, A = ⟨(Lib.repeatL (⟨#[126]⟩ : ByteArray).data.toList (n + 1)).toArray⟩ := ⟨_, rfl⟩
  rw [← hAd] at hr
  have HAL : Hid (A.data.toList = Lib.repeatL [126] (n + 1)) := Lib.hid (by rw [hAd])
  have hAs : A.size ≤ 51 := by rw [← sz, HAL.out, Lib.repeatL_length]; show (n + 1) * 1 ≤ 51; omega
  clear hAd
  go_wp2_with fail
  refine hr.mono ?_
  rintro e w2 ⟨rfl, b2⟩
  clear hr
  have hM2 := hM1.keep b2
  have B2 := b1.trans (b2.mono b1.size)
  have hr := Try.strings_Repeat ⟨#[]⟩ (n + 1) w2 (by omega) (by show 0 * (n + 1) ≤ _; omega)
  rw [show ((n + 1 : Nat) : Int) = (n : Int) + 1 from rfl] at hr
  obtain ⟨E, hEd⟩ : ∃ E : ByteArray, E = ⟨(Lib.repeatL (⟨#[]⟩ : ByteArray).data.toList (n + 1)).toArray⟩ := ⟨_, rfl⟩
  rw [← hEd] at hr
  have HEL : Hid (E.data.toList = Lib.repeatL [] (n + 1)) := Lib.hid (by rw [hEd])
  have hEs : E.size ≤ 51 := by rw [← sz, HEL.out, Lib.repeatL_length]; show (n + 1) * 0 ≤ 51; omega
  clear hEd
  go_wp2_with fail
  refine hr.mono ?_
  rintro e w3 ⟨rfl, b3⟩
  clear hr
  have hM3 := hM2.keep b3
  have B3 := B2.trans (b3.mono B2.size)
  have hX : (⟨#[105, 110, 116, 32, 102, 40, 41, 32, 123]⟩ ++ (A ++ ⟨#[49]⟩ ++ E ++ ⟨#[59]⟩) ++ ⟨#[125]⟩ : ByteArray).data.toList = deepL 0 (n + 1) := by
    simp only [ba_app, HAL.out, HEL.out]
    simp [deepL]
  have hd := deepA H (n := n + 1) (by omega) (by omega) hX
  have hp := parse_any (⟨#[105, 110, 116, 32, 102, 40, 41, 32, 123]⟩ ++ (A ++ ⟨#[49]⟩ ++ E ++ ⟨#[59]⟩) ++ ⟨#[125]⟩ : ByteArray) w3 (by rw [← sz, hX]; simp [deepL, Lib.repeatL_length]; omega) hM3
  unfold ParseP at hp
  clear hX
  generalize (parseV (⟨#[105, 110, 116, 32, 102, 40, 41, 32, 123]⟩ ++ (A ++ ⟨#[49]⟩ ++ E ++ ⟨#[59]⟩) ++ ⟨#[125]⟩ : ByteArray)).2.1 = pl at *
  generalize (parseV (⟨#[105, 110, 116, 32, 102, 40, 41, 32, 123]⟩ ++ (A ++ ⟨#[49]⟩ ++ E ++ ⟨#[59]⟩) ++ ⟨#[125]⟩ : ByteArray)).2.2 = er at *
  go_wp2_with fail
  refine hp.mono ?_
  rintro e w4 ⟨vs, vv, vf, rfl, hpa, b4⟩
  clear hp
  have B4 := Lib.hid ((B3.trans (b4.mono B3.size)).alloc (by have := B3.size; have := b4.size; omega) (.cells #[vs, vv, vf] 27))
  have HONE := Lib.hid hpa.one
  clear hpa b1 b2 b3 b4 B2 B3
  unfold DeepA at hd
  simp only [show mostD 0 = 37 from rfl] at hd
  by_cases hc : n + 1 ≤ 37
  · rw [if_pos hc] at hd
    subst hd
    have hc1 : decide ((n : Int) + 1 ≤ 37) = true := decide_eq_true (by omega)
    clear hc
    go_wp2_with (((with_reducible refine stN 27 w4.heap.size #[vs, vv, vf] rfl ?_ ?_ ?_ ?_ ?_ ?_); rfl; rfl; exact sizePr; rfl; exact HONE.out))
    go_ret
    exact ⟨rfl, B4.out⟩
  · rw [if_neg hc] at hd
    obtain ⟨rfl, hp1, hp2⟩ := hd
    have hc1 : decide ((n : Int) + 1 ≤ 37) = false := decide_eq_false (by omega)
    have hc2 : decide ((46 : Int) ≤ pl) = true := decide_eq_true (by omega)
    have hw2 : IntKind.i64.wrap (9 + ((n : Int) + 1)) = 9 + ((n : Int) + 1) := IntWalk.i64_in _ (by omega)
    have hc3 : decide (pl ≤ 9 + ((n : Int) + 1)) = true := decide_eq_true (by omega)
    clear hc hp1 hp2
    go_wp2_with (((with_reducible refine stN 27 w4.heap.size #[vs, vv, vf] rfl ?_ ?_ ?_ ?_ ?_ ?_); rfl; rfl; exact sizePr; rfl; exact HONE.out))
    go_ret
    exact ⟨rfl, B4.out⟩
set_option maxHeartbeats 8000000 in
theorem deeps_1 {w : World} (a how : Int) (hM : MaxIs w) (hq : how.tmod 3 = 1) (H : allE 1 = true) :
    Calls Try.prog 4 #[.int .i64 a, .int .u8 how] w fun e w' => e = .returned (.bool true) ∧ Below w.heap.size w w' := by
  obtain ⟨n, hn, hA'⟩ := small_mod a 50 (by omega) (by omega)
  have hA : wrap64 ((IntKind.u64.wrap a).tmod 50) = (n : Int) := hA'
  clear hA'
  have hw1 : IntKind.i64.wrap ((n : Int) + 1) = (n : Int) + 1 := IntWalk.i64_in _ (by omega)
  go_enter Try.func4, Try.ntmps4
  go_wp2_with fail
  refine (awake_any hM).mono ?_
  rintro e w1 ⟨rfl, b1⟩
  have hM1 := hM.keep b1
  have hr := Try.strings_Repeat ⟨#[40]⟩ (n + 1) w1 (by omega) (by show 1 * (n + 1) ≤ _; omega)
  rw [show ((n + 1 : Nat) : Int) = (n : Int) + 1 from rfl] at hr
  obtain ⟨A, hAd⟩ : ∃ A : ByteArray, A = ⟨(Lib.repeatL (⟨#[40]⟩ : ByteArray).data.toList (n + 1)).toArray⟩ := ⟨_, rfl⟩
  rw [← hAd] at hr
  have HAL : Hid (A.data.toList = Lib.repeatL [40] (n + 1)) := Lib.hid (by rw [hAd])
  have hAs : A.size ≤ 51 := by rw [← sz, HAL.out, Lib.repeatL_length]; show (n + 1) * 1 ≤ 51; omega
  clear hAd
  go_wp2_with fail
  refine hr.mono ?_
  rintro e w2 ⟨rfl, b2⟩
  clear hr
  have hM2 := hM1.keep b2
  have B2 := b1.trans (b2.mono b1.size)
  have hr := Try.strings_Repeat ⟨#[41]⟩ (n + 1) w2 (by omega) (by show 1 * (n + 1) ≤ _; omega)
  rw [show ((n + 1 : Nat) : Int) = (n : Int) + 1 from rfl] at hr
  obtain ⟨E, hEd⟩ : ∃ E : ByteArray, E = ⟨(Lib.repeatL (⟨#[41]⟩ : ByteArray).data.toList (n + 1)).toArray⟩ := ⟨_, rfl⟩
  rw [← hEd] at hr
  have HEL : Hid (E.data.toList = Lib.repeatL [41] (n + 1)) := Lib.hid (by rw [hEd])
  have hEs : E.size ≤ 51 := by rw [← sz, HEL.out, Lib.repeatL_length]; show (n + 1) * 1 ≤ 51; omega
  clear hEd
  go_wp2_with fail
  refine hr.mono ?_
  rintro e w3 ⟨rfl, b3⟩
  clear hr
  have hM3 := hM2.keep b3
  have B3 := B2.trans (b3.mono B2.size)
  have hX : (⟨#[105, 110, 116, 32, 102, 40, 41, 32, 123]⟩ ++ (A ++ ⟨#[49]⟩ ++ E ++ ⟨#[59]⟩) ++ ⟨#[125]⟩ : ByteArray).data.toList = deepL 1 (n + 1) := by
    simp only [ba_app, HAL.out, HEL.out]
    simp [deepL]
  have hd := deepA H (n := n + 1) (by omega) (by omega) hX
  have hp := parse_any (⟨#[105, 110, 116, 32, 102, 40, 41, 32, 123]⟩ ++ (A ++ ⟨#[49]⟩ ++ E ++ ⟨#[59]⟩) ++ ⟨#[125]⟩ : ByteArray) w3 (by rw [← sz, hX]; simp [deepL, Lib.repeatL_length]; omega) hM3
  unfold ParseP at hp
  clear hX
  generalize (parseV (⟨#[105, 110, 116, 32, 102, 40, 41, 32, 123]⟩ ++ (A ++ ⟨#[49]⟩ ++ E ++ ⟨#[59]⟩) ++ ⟨#[125]⟩ : ByteArray)).2.1 = pl at *
  generalize (parseV (⟨#[105, 110, 116, 32, 102, 40, 41, 32, 123]⟩ ++ (A ++ ⟨#[49]⟩ ++ E ++ ⟨#[59]⟩) ++ ⟨#[125]⟩ : ByteArray)).2.2 = er at *
  go_wp2_with fail
  refine hp.mono ?_
  rintro e w4 ⟨vs, vv, vf, rfl, hpa, b4⟩
  clear hp
  have B4 := Lib.hid ((B3.trans (b4.mono B3.size)).alloc (by have := B3.size; have := b4.size; omega) (.cells #[vs, vv, vf] 27))
  have HONE := Lib.hid hpa.one
  clear hpa b1 b2 b3 b4 B2 B3
  unfold DeepA at hd
  simp only [show mostD 1 = 18 from rfl] at hd
  by_cases hc : n + 1 ≤ 18
  · rw [if_pos hc] at hd
    subst hd
    have hc1 : decide ((n : Int) + 1 ≤ 18) = true := decide_eq_true (by omega)
    clear hc
    go_wp2_with (((with_reducible refine stN 27 w4.heap.size #[vs, vv, vf] rfl ?_ ?_ ?_ ?_ ?_ ?_); rfl; rfl; exact sizePr; rfl; exact HONE.out))
    go_ret
    exact ⟨rfl, B4.out⟩
  · rw [if_neg hc] at hd
    obtain ⟨rfl, hp1, hp2⟩ := hd
    have hc1 : decide ((n : Int) + 1 ≤ 18) = false := decide_eq_false (by omega)
    have hc2 : decide ((27 : Int) ≤ pl) = true := decide_eq_true (by omega)
    have hw2 : IntKind.i64.wrap (9 + ((n : Int) + 1)) = 9 + ((n : Int) + 1) := IntWalk.i64_in _ (by omega)
    have hc3 : decide (pl ≤ 9 + ((n : Int) + 1)) = true := decide_eq_true (by omega)
    clear hc hp1 hp2
    go_wp2_with (((with_reducible refine stN 27 w4.heap.size #[vs, vv, vf] rfl ?_ ?_ ?_ ?_ ?_ ?_); rfl; rfl; exact sizePr; rfl; exact HONE.out))
    go_ret
    exact ⟨rfl, B4.out⟩
set_option maxHeartbeats 8000000 in
theorem deeps_2 {w : World} (a how : Int) (hM : MaxIs w) (hq : how.tmod 3 = 2) (H : allE 2 = true) :
    Calls Try.prog 4 #[.int .i64 a, .int .u8 how] w fun e w' => e = .returned (.bool true) ∧ Below w.heap.size w w' := by
  obtain ⟨n, hn, hA'⟩ := small_mod a 50 (by omega) (by omega)
  have hA : wrap64 ((IntKind.u64.wrap a).tmod 50) = (n : Int) := hA'
  clear hA'
  have hw1 : IntKind.i64.wrap ((n : Int) + 1) = (n : Int) + 1 := IntWalk.i64_in _ (by omega)
  go_enter Try.func4, Try.ntmps4
  go_wp2_with fail
  refine (awake_any hM).mono ?_
  rintro e w1 ⟨rfl, b1⟩
  have hM1 := hM.keep b1
  have hr := Try.strings_Repeat ⟨#[123]⟩ (n + 1) w1 (by omega) (by show 1 * (n + 1) ≤ _; omega)
  rw [show ((n + 1 : Nat) : Int) = (n : Int) + 1 from rfl] at hr
  obtain ⟨A, hAd⟩ : ∃ A : ByteArray, A = ⟨(Lib.repeatL (⟨#[123]⟩ : ByteArray).data.toList (n + 1)).toArray⟩ := ⟨_, rfl⟩
  rw [← hAd] at hr
  have HAL : Hid (A.data.toList = Lib.repeatL [123] (n + 1)) := Lib.hid (by rw [hAd])
  have hAs : A.size ≤ 51 := by rw [← sz, HAL.out, Lib.repeatL_length]; show (n + 1) * 1 ≤ 51; omega
  clear hAd
  go_wp2_with fail
  refine hr.mono ?_
  rintro e w2 ⟨rfl, b2⟩
  clear hr
  have hM2 := hM1.keep b2
  have B2 := b1.trans (b2.mono b1.size)
  have hr := Try.strings_Repeat ⟨#[125]⟩ (n + 1) w2 (by omega) (by show 1 * (n + 1) ≤ _; omega)
  rw [show ((n + 1 : Nat) : Int) = (n : Int) + 1 from rfl] at hr
  obtain ⟨E, hEd⟩ : ∃ E : ByteArray, E = ⟨(Lib.repeatL (⟨#[125]⟩ : ByteArray).data.toList (n + 1)).toArray⟩ := ⟨_, rfl⟩
  rw [← hEd] at hr
  have HEL : Hid (E.data.toList = Lib.repeatL [125] (n + 1)) := Lib.hid (by rw [hEd])
  have hEs : E.size ≤ 51 := by rw [← sz, HEL.out, Lib.repeatL_length]; show (n + 1) * 1 ≤ 51; omega
  clear hEd
  go_wp2_with fail
  refine hr.mono ?_
  rintro e w3 ⟨rfl, b3⟩
  clear hr
  have hM3 := hM2.keep b3
  have B3 := B2.trans (b3.mono B2.size)
  have hX : (⟨#[105, 110, 116, 32, 102, 40, 41, 32, 123]⟩ ++ (A ++ ⟨#[49, 59]⟩ ++ E) ++ ⟨#[125]⟩ : ByteArray).data.toList = deepL 2 (n + 1) := by
    simp only [ba_app, HAL.out, HEL.out]
    simp [deepL]
  have hd := deepA H (n := n + 1) (by omega) (by omega) hX
  have hp := parse_any (⟨#[105, 110, 116, 32, 102, 40, 41, 32, 123]⟩ ++ (A ++ ⟨#[49, 59]⟩ ++ E) ++ ⟨#[125]⟩ : ByteArray) w3 (by rw [← sz, hX]; simp [deepL, Lib.repeatL_length]; omega) hM3
  unfold ParseP at hp
  clear hX
  generalize (parseV (⟨#[105, 110, 116, 32, 102, 40, 41, 32, 123]⟩ ++ (A ++ ⟨#[49, 59]⟩ ++ E) ++ ⟨#[125]⟩ : ByteArray)).2.1 = pl at *
  generalize (parseV (⟨#[105, 110, 116, 32, 102, 40, 41, 32, 123]⟩ ++ (A ++ ⟨#[49, 59]⟩ ++ E) ++ ⟨#[125]⟩ : ByteArray)).2.2 = er at *
  go_wp2_with fail
  refine hp.mono ?_
  rintro e w4 ⟨vs, vv, vf, rfl, hpa, b4⟩
  clear hp
  have B4 := Lib.hid ((B3.trans (b4.mono B3.size)).alloc (by have := B3.size; have := b4.size; omega) (.cells #[vs, vv, vf] 27))
  have HONE := Lib.hid hpa.one
  clear hpa b1 b2 b3 b4 B2 B3
  unfold DeepA at hd
  simp only [show mostD 2 = 37 from rfl] at hd
  by_cases hc : n + 1 ≤ 37
  · rw [if_pos hc] at hd
    subst hd
    have hc1 : decide ((n : Int) + 1 ≤ 37) = true := decide_eq_true (by omega)
    clear hc
    go_wp2_with (((with_reducible refine stN 27 w4.heap.size #[vs, vv, vf] rfl ?_ ?_ ?_ ?_ ?_ ?_); rfl; rfl; exact sizePr; rfl; exact HONE.out))
    go_ret
    exact ⟨rfl, B4.out⟩
  · rw [if_neg hc] at hd
    obtain ⟨rfl, hp1, hp2⟩ := hd
    have hc1 : decide ((n : Int) + 1 ≤ 37) = false := decide_eq_false (by omega)
    have hc2 : decide ((46 : Int) ≤ pl) = true := decide_eq_true (by omega)
    have hw2 : IntKind.i64.wrap (9 + ((n : Int) + 1)) = 9 + ((n : Int) + 1) := IntWalk.i64_in _ (by omega)
    have hc3 : decide (pl ≤ 9 + ((n : Int) + 1)) = true := decide_eq_true (by omega)
    clear hc hp1 hp2
    go_wp2_with (((with_reducible refine stN 27 w4.heap.size #[vs, vv, vf] rfl ?_ ?_ ?_ ?_ ?_ ?_); rfl; rfl; exact sizePr; rfl; exact HONE.out))
    go_ret
    exact ⟨rfl, B4.out⟩
end Go.Proofs.Ytgedikdcnhkmdaa
