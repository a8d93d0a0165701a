/- Numbers written in decimal and in hexadecimal. Conditions: each theorem's. -/
import Derived.Test.YtahpgjibpcbjbaaLexO
import Derived.Laws.IdiomStrings
namespace Go.Proofs.Ytahpgjibpcbjbaa
open Go.RowKit Go.Maps
set_option linter.unusedVariables false
set_option linter.unusedSimpArgs false
set_option maxRecDepth 100000
open Lx
namespace Lx
def vl (base : Int) : Int → List UInt8 → Int
  | a, [] => a
  | a, c :: l => vl base (a * base + dv (bt c)) l
def digs (base : Int) (l : List UInt8) : Prop := ∀ c ∈ l, dv (bt c) < base
theorem vl_ge {base a : Int} {l : List UInt8} (hb : base = 10 ∨ base = 16) (ha : 0 ≤ a) : a ≤ vl base a l := by
  induction l generalizing a with
  | nil => exact Int.le_refl _
  | cons c l ih =>
    have hd := dv_range (bt c)
    have : 0 ≤ a * base + dv (bt c) ∧ a ≤ a * base + dv (bt c) := by rcases hb with rfl | rfl <;> omega
    exact Int.le_trans this.2 (ih this.1)
theorem mnD_vl {base a : Int} {l : List UInt8} (hb : base = 10 ∨ base = 16) (ha : 0 ≤ a) (ha2 : a ≤ 9223372036854775807) (hl : digs base l) : mnD base a l = if vl base a l ≤ 9223372036854775807 then some (vl base a l) else none := by
  induction l generalizing a with
  | nil => rw [mnD, vl, if_pos ha2]
  | cons c l ih =>
    have hd := dv_range (bt c)
    have hdb : dv (bt c) < base := hl c (by simp)
    rw [mnD, vl]
    generalize dv (bt c) = d at *
    have h0 : 0 ≤ a * base + d := by rcases hb with rfl | rfl <;> omega
    by_cases h : a * base + d ≤ 9223372036854775807
    · have hbad : badD base a d = false := by
        unfold badD
        rw [decide_eq_false (by omega), decide_eq_false (by rcases hb with rfl | rfl <;> omega)]
        rfl
      rw [hbad, if_neg (by simp)]
      exact ih h0 h (fun c hc => hl c (by simp [hc]))
    · have hbad : badD base a d = true := by
        unfold badD
        rw [decide_eq_false (by omega : ¬ base ≤ d), decide_eq_true (by rcases hb with rfl | rfl <;> omega)]
        rfl
      have := vl_ge (base := base) (l := l) hb h0
      rw [hbad, if_pos rfl, if_neg (by omega)]
def endN (n : Int) : Option Int := if n ≤ 9223372036854775807 then some n else none
theorem mean_dec {l : List UInt8} {n : Int} (h0 : l ≠ []) (hl : l.length ≤ 20) (hd : ∀ c ∈ l, 48 ≤ bt c ∧ bt c ≤ 57) (hv : vl 10 0 l = n) : meanV l = endN n := by
  have hdg : digs 10 l := fun c hc => by have := hd c hc; unfold dv; rw [if_pos this]; omega
  obtain ⟨c, r, rfl⟩ : ∃ c r, l = c :: r := by cases l with
    | nil => exact absurd rfl h0
    | cons c r => exact ⟨c, r, rfl⟩
  have hc := hd c (by simp)
  have hp : Lib.hasPrefix (c :: r) [48, 120] = false := by
    cases r with
    | nil => simp [Lib.hasPrefix, List.isPrefixOf]
    | cons x r =>
      have hx := hd x (by simp)
      have : x ≠ 120 := fun e => by subst e; revert hx; decide
      simp [Lib.hasPrefix, List.isPrefixOf]
      intro _ e; exact this e.symm
  unfold meanV
  rw [if_neg (by rw [isQ_39 (by rw [List.getD_cons_zero]; omega)]; simp), if_neg (by omega), if_neg (by rw [hp]; simp)]
  unfold meanIn endN
  rw [if_neg (by simp), mnD_vl (.inl rfl) (by omega) (by omega) hdg, hv]
theorem mean_hex {l : List UInt8} {n : Int} (h0 : l ≠ []) (hl : l.length ≤ 16) (hd : digs 16 l) (hv : vl 16 0 l = n) : meanV (48 :: 120 :: l) = endN n := by
  have hp : Lib.hasPrefix (48 :: 120 :: l) [48, 120] = true := by simp [Lib.hasPrefix, List.isPrefixOf]
  unfold meanV
  rw [if_neg (by rw [isQ_39 (by rw [List.getD_cons_zero]; decide)]; simp), if_neg (by simp; omega), if_pos hp]
  show meanIn 16 l = _
  unfold meanIn endN
  rw [if_neg h0, mnD_vl (.inr rfl) (by omega) (by omega) hd, hv]
def decC (x : Int) : UInt8 := ((48 + x % 10).toNat).toUInt8
def hexS : ByteArray := ⟨#[48, 49, 50, 51, 52, 53, 54, 55, 56, 57, 97, 98, 99, 100, 101, 102]⟩
theorem decC_bt {x : Int} (h : 0 ≤ x) : bt (decC x) = 48 + x % 10 := by
  unfold bt decC
  have : (48 + x % 10).toNat < 256 := by omega
  rw [UInt8.toNat_ofNat_of_lt' this]
  omega
end Lx
def hexC (k : Nat) : UInt8 := hexS.data.toList.getD k 0
theorem hexC_dv : ∀ k, k < 16 → dv (bt (hexC k)) = k := by decide
theorem hex_ext (k : Nat) (hk : k < 16) : (hexS.extract k (k + 1)).data.toList = [hexC k] := by
  have : ∀ k, k < 16 → (hexS.data.toList.drop k).take 1 = [hexC k] := by decide
  rw [Lib.extract_data, show k + 1 - k = 1 by omega]
  exact this k hk
theorem pow_step16 {X : Int} {k : Nat} (h0 : 0 ≤ X) (hk : k < 16) (h : X < 16 ^ (16 - k)) : X / 16 < 16 ^ (16 - (1 + k)) := by
  have e : (16 : Int) ^ (16 - k) = 16 ^ (16 - (1 + k)) * 16 := by rw [← Int.pow_succ]; congr 1; omega
  rw [e] at h
  omega
theorem pow_len16 {X : Int} {k : Nat} (hk : k ≤ 16) (h0 : 0 < X) (h : X < 16 ^ (16 - k)) : k < 16 := by
  rcases Nat.lt_or_ge k 16 with h' | h'
  · exact h'
  · have : 16 - k = 0 := by omega
    rw [this] at h
    simp at h
    omega
def mS (d : Value) : Nat := match d with | .string D => if D.size = 0 then 1 else 0 | _ => 0
theorem mS_str (D : ByteArray) : mS (.string D) = if D.size = 0 then 1 else 0 := rfl
theorem app_list (A D : ByteArray) : (A ++ D).data.toList = A.data.toList ++ D.data.toList := by simp
theorem app_size (A D : ByteArray) : (A ++ D).size = A.size + D.size := by simp
theorem conv_dec {wr : World} {X : Int} (h : 0 ≤ X) : (convert 38 9 (.slice (some ⟨wr.heap.size, 0, none⟩) 1 1)).run Try.prog (wr.alloc (.cells #[.int .u8 (48 + X % 10)] 5)) = .ok (.string ⟨#[decC X]⟩) (wr.alloc (.cells #[.int .u8 (48 + X % 10)] 5)) :=
  run_convert_bytes_back (P := Try.prog) (wr.alloc (.cells #[.int .u8 (48 + X % 10)] 5)) 38 9 5 ⟨wr.heap.size, 0, none⟩ 1 [decC X] Try.underlying38 Try.underlying5 Try.underlying9 (fun j hj => by
    have hj0 : j = 0 := by simp at hj; omega
    subst hj0
    have hadd : (⟨wr.heap.size, 0, none⟩ : Addr).add 0 = ⟨wr.heap.size, 0, none⟩ := by unfold Addr.add; rfl
    rw [hadd, cell_of_row _ _ _ _ _ _ (heap_alloc_new wr _)]
    have := decC_bt h
    unfold bt at this
    show some (Value.int .u8 (48 + X % 10)) = some (.int .u8 ((decC X).toNat : Int))
    rw [this])
theorem dv_decC {X : Int} (h : 0 ≤ X) : dv (bt (decC X)) = X % 10 := by
  rw [decC_bt h]; unfold dv; rw [if_pos (by omega)]; omega
theorem pow_step {X : Int} {k : Nat} (h0 : 0 ≤ X) (hk : k < 20) (h : X < 10 ^ (20 - k)) : X / 10 < 10 ^ (20 - (1 + k)) := by
  have e : (10 : Int) ^ (20 - k) = 10 ^ (20 - (1 + k)) * 10 := by rw [← Int.pow_succ]; congr 1; omega
  rw [e] at h
  omega
theorem pow_len {X : Int} {k : Nat} (hk : k ≤ 20) (h0 : 0 < X) (h : X < 10 ^ (20 - k)) : k < 20 := by
  rcases Nat.lt_or_ge k 20 with h' | h'
  · exact h'
  · have : 20 - k = 0 := by omega
    rw [this] at h
    simp at h
    omega
theorem wf64 {n : Int} (h : (Lit.int .u64 n).wf = true) : 0 ≤ n ∧ n ≤ 18446744073709551615 := by
  have h' : (decide (IntKind.u64.min ≤ n) && decide (n ≤ IntKind.u64.max)) = true := h
  rw [show IntKind.u64.min = 0 from by decide, show IntKind.u64.max = 18446744073709551615 from by decide] at h'
  simpa using h'
set_option maxHeartbeats 8000000 in
theorem lexNumbers_walk {w : World} (n : Int) (hM : MaxIs w) (n0 : 0 ≤ n) (n1 : n ≤ 18446744073709551615) :
    Calls Try.prog 7 #[.int .u64 n] w fun e w' => e = .returned (.bool true) ∧ Below w.heap.size w w' := by
  go_enter Try.func7, Try.ntmps7
  go_wp2_with fail
  refine (awake_any _ hM).mono ?_
  rintro e w1 ⟨rfl, hb1⟩
  go_wp2_with fail
  go_loopw [3, 5] (fun d x wr => ∃ (D : ByteArray) (X : Int), d = .string D ∧ x = .int .u64 X ∧ 0 ≤ X ∧ X ≤ 18446744073709551615 ∧ Below w.heap.size w wr ∧ D.size ≤ 20 ∧ Hid (X < 10 ^ (20 - D.size) ∧ vl 10 X D.data.toList = n ∧ ∀ c ∈ D.data.toList, 48 ≤ bt c ∧ bt c ≤ 57)) (fun d x _ => (intOf x).toNat + mS d)
  case atStart => exact ⟨⟨#[]⟩, n, rfl, rfl, n0, n1, hb1, by decide, Lib.hid ⟨by show n < 10 ^ 20; omega, rfl, by simp⟩⟩
  case round =>
    obtain ⟨D, X, rfl, rfl, X0, X1, hbe, hD, HD⟩ := hrel
    by_cases hX : 0 < X
    · have hconv' : True := trivial
      · have hconv := conv_dec (wr := wr) X0
        have hlen : D.size < 20 := pow_len hD hX HD.out.1
        go_wp2
        go_roundw
        case rel =>
          obtain ⟨k1, k2, k3⟩ := HD.out
          refine ⟨⟨#[decC X]⟩ ++ D, X / 10, rfl, rfl, by omega, by omega, hbe.alloc hbe.size _, by rw [app_size]; show 1 + D.size ≤ 20; omega, Lib.hid ⟨?_, ?_, ?_⟩⟩
          · rw [app_size]; exact pow_step X0 hlen k1
          · rw [app_list]
            show vl 10 (X / 10 * 10 + dv (bt (decC X))) D.data.toList = n
            rw [dv_decC X0, show X / 10 * 10 + X % 10 = X by omega]
            exact k2
          · rw [app_list]
            intro c hc
            rcases List.mem_append.1 hc with h | h
            · have : c = decC X := by simpa using h
              rw [this, decC_bt X0]; omega
            · exact k3 c h
        case measure =>
          rw [mS_str, mS_str, app_size, if_neg (show ¬ ((⟨#[decC X]⟩ : ByteArray).size + D.size = 0) by show ¬ (1 + D.size = 0); omega)]
          simp only [intOf]
          split <;> omega
    · by_cases hz : D.size = 0
      · have he : D.toList.isEmpty = true := by rw [ByteArray.toList_eq, List.length_eq_zero_iff.1 (show D.data.toList.length = 0 by rw [sz]; exact hz)]; rfl
        have he2 : D.toList = [] := by rw [ByteArray.toList_eq]; exact List.length_eq_zero_iff.1 (show D.data.toList.length = 0 by rw [sz]; exact hz)
        have hconv := conv_dec (wr := wr) X0
        have hlen : D.size < 20 := by omega
        go_wp2
        go_roundw
        case rel =>
          obtain ⟨k1, k2, k3⟩ := HD.out
          refine ⟨⟨#[decC X]⟩ ++ D, X / 10, rfl, rfl, by omega, by omega, hbe.alloc hbe.size _, by rw [app_size]; show 1 + D.size ≤ 20; omega, Lib.hid ⟨?_, ?_, ?_⟩⟩
          · rw [app_size]; exact pow_step X0 hlen k1
          · rw [app_list]
            show vl 10 (X / 10 * 10 + dv (bt (decC X))) D.data.toList = n
            rw [dv_decC X0, show X / 10 * 10 + X % 10 = X by omega]
            exact k2
          · rw [app_list]
            intro c hc
            rcases List.mem_append.1 hc with h | h
            · have : c = decC X := by simpa using h
              rw [this, decC_bt X0]; omega
            · exact k3 c h
        case measure =>
          rw [mS_str, mS_str, app_size, if_neg (show ¬ ((⟨#[decC X]⟩ : ByteArray).size + D.size = 0) by show ¬ (1 + D.size = 0); omega)]
          simp only [intOf]
          rw [if_pos hz]; omega
      · have hne : D.data.toList ≠ [] := fun e => hz (by rw [← sz, e]; rfl)
        have he : D.toList.isEmpty = false := by
          rw [ByteArray.toList_eq]
          cases hx : D.data.toList with
          | nil => exact absurd hx hne
          | cons => rfl
        have he2 : (!D.toList.isEmpty) = true := by rw [he]; rfl
        obtain rfl : X = 0 := by omega
        have HNE := Lib.hid hne
        clear hne
        go_wp2_with fail
        go_loop [4, 6] (fun d x => ∃ (E : ByteArray) (Y : Int), d = .string E ∧ x = .int .u64 Y ∧ 0 ≤ Y ∧ Y ≤ 18446744073709551615 ∧ E.size ≤ 16 ∧ Hid (Y < 16 ^ (16 - E.size) ∧ vl 16 Y E.data.toList = n ∧ digs 16 E.data.toList)) (fun d x => (intOf x).toNat + mS d)
        case atStart => exact ⟨⟨#[]⟩, n, rfl, rfl, n0, n1, by decide, Lib.hid ⟨by show n < 16 ^ 16; omega, rfl, by intro c hc; cases hc⟩⟩
        case round =>
          obtain ⟨E, Y, rfl, rfl, Y0, Y1, hE, HE⟩ := hrel
          by_cases hY : 0 < Y
          · have tok : True := trivial
            obtain ⟨q, hq, hq16⟩ : ∃ q : Nat, Y % 16 = (q : Int) ∧ q < 16 := ⟨(Y % 16).toNat, by omega, by omega⟩
            have hlen : E.size < 16 := pow_len16 hE hY HE.out.1
            have q0 : (0 : Int) ≤ (q : Int) := by omega
            have q1 : (q : Int) < 16 := by omega
            have q2 : (q : Int) + 1 ≤ 16 := by omega
            have q3 : (q : Int) ≤ (q : Int) + 1 := by omega
            have HQ := Lib.hid hq
            go_wp2
            go_round
            case rel =>
              obtain ⟨k1, k2, k3⟩ := HE.out
              refine ⟨hexS.extract q (q + 1) ++ E, Y / 16, rfl, rfl, by omega, by omega, by rw [app_size, ext_size hexS q 1 (by show q + 1 ≤ 16; omega)]; omega, Lib.hid ⟨?_, ?_, ?_⟩⟩
              · rw [app_size, ext_size hexS q 1 (by show q + 1 ≤ 16; omega)]; exact pow_step16 Y0 hlen k1
              · rw [app_list, hex_ext q hq16]
                show vl 16 (Y / 16 * 16 + dv (bt (hexC q))) E.data.toList = n
                rw [hexC_dv q hq16, show Y / 16 * 16 + (q : Int) = Y by have := HQ.out; omega]
                exact k2
              · rw [app_list, hex_ext q hq16]
                intro c hc
                rcases List.mem_append.1 hc with h | h
                · have : c = hexC q := by simpa using h
                  rw [this, hexC_dv q hq16]; omega
                · exact k3 c h
            case measure =>
              have hsz2 : (hexS.extract q (q + 1)).size = 1 := ext_size hexS q 1 (by show q + 1 ≤ 16; omega)
              show (intOf (.int .u64 (Y / 16))).toNat + mS (.string (hexS.extract q (q + 1) ++ E)) < _
              rw [mS_str, mS_str, app_size, hsz2, if_neg (show ¬ (1 + E.size = 0) by omega)]
              simp only [intOf]
              split <;> omega
          · by_cases hz2 : E.size = 0
            · have he3 : E.toList.isEmpty = true := by rw [ByteArray.toList_eq, List.length_eq_zero_iff.1 (show E.data.toList.length = 0 by rw [sz]; exact hz2)]; rfl
              have he4 : E.toList = [] := by rw [ByteArray.toList_eq]; exact List.length_eq_zero_iff.1 (show E.data.toList.length = 0 by rw [sz]; exact hz2)
              obtain ⟨q, hq, hq16⟩ : ∃ q : Nat, Y % 16 = (q : Int) ∧ q < 16 := ⟨(Y % 16).toNat, by omega, by omega⟩
              have hlen : E.size < 16 := by omega
              have q0 : (0 : Int) ≤ (q : Int) := by omega
              have q1 : (q : Int) < 16 := by omega
              have q2 : (q : Int) + 1 ≤ 16 := by omega
              have q3 : (q : Int) ≤ (q : Int) + 1 := by omega
              have HQ := Lib.hid hq
              go_wp2
              go_round
              case rel =>
                obtain ⟨k1, k2, k3⟩ := HE.out
                refine ⟨hexS.extract q (q + 1) ++ E, Y / 16, rfl, rfl, by omega, by omega, by rw [app_size, ext_size hexS q 1 (by show q + 1 ≤ 16; omega)]; omega, Lib.hid ⟨?_, ?_, ?_⟩⟩
                · rw [app_size, ext_size hexS q 1 (by show q + 1 ≤ 16; omega)]; exact pow_step16 Y0 hlen k1
                · rw [app_list, hex_ext q hq16]
                  show vl 16 (Y / 16 * 16 + dv (bt (hexC q))) E.data.toList = n
                  rw [hexC_dv q hq16, show Y / 16 * 16 + (q : Int) = Y by have := HQ.out; omega]
                  exact k2
                · rw [app_list, hex_ext q hq16]
                  intro c hc
                  rcases List.mem_append.1 hc with h | h
                  · have : c = hexC q := by simpa using h
                    rw [this, hexC_dv q hq16]; omega
                  · exact k3 c h
              case measure =>
                have hsz2 : (hexS.extract q (q + 1)).size = 1 := ext_size hexS q 1 (by show q + 1 ≤ 16; omega)
                show (intOf (.int .u64 (Y / 16))).toNat + mS (.string (hexS.extract q (q + 1) ++ E)) < _
                rw [mS_str, mS_str, app_size, hsz2, if_neg (show ¬ (1 + E.size = 0) by omega)]
                simp only [intOf]
                rw [if_pos hz2]; omega
            · have hne2 : E.data.toList ≠ [] := fun e => hz2 (by rw [← sz, e]; rfl)
              have he3 : E.toList.isEmpty = false := by
                rw [ByteArray.toList_eq]
                cases hx : E.data.toList with
                | nil => exact absurd hx hne2
                | cons => rfl
              have he4 : (!E.toList.isEmpty) = true := by rw [he3]; rfl
              obtain rfl : Y = 0 := by omega
              have hm1 := mean_any D wr (by omega)
              have hm2 := mean_any ((⟨#[48, 120]⟩ : ByteArray) ++ E) wr (by rw [app_size]; show 2 + E.size ≤ _; omega)
              rw [mean_dec HNE.out (by rw [sz]; exact hD) HD.out.2.2 HD.out.2.1] at hm1
              rw [app_list] at hm2
              rw [show (⟨#[48, 120]⟩ : ByteArray).data.toList ++ E.data.toList = 48 :: 120 :: E.data.toList from rfl, mean_hex hne2 (by rw [sz]; exact hE) HE.out.2.2 HE.out.2.1] at hm2
              clear hne2
              by_cases hbig : n ≤ 9223372036854775807
              · have hen : endN n = some n := by unfold endN; rw [if_pos hbig]
                rw [hen] at hm1 hm2
                simp only [mnE, Option.isSome_some, Option.getD_some, if_true] at hm1 hm2
                clear hen
                have hnb : ¬ (9223372036854775808 : Int) ≤ n := by omega
                go_wp2_with fail
                refine hm1.mono ?_
                rintro e w' ⟨rfl, rfl⟩
                clear hm1
                go_wp2_with fail
                refine hm2.mono ?_
                rintro e w' ⟨rfl, rfl⟩
                clear hm2
                go_wp2
                go_ret
                exact ⟨rfl, hbe⟩
              · have hen : endN n = none := by unfold endN; rw [if_neg hbig]
                rw [hen] at hm1 hm2
                simp only [mnE, Option.isSome_none, Option.getD_none] at hm1 hm2
                clear hen
                have hnb : (9223372036854775808 : Int) ≤ n := by omega
                go_wp2_with fail
                refine hm1.mono ?_
                rintro e w' ⟨rfl, rfl⟩
                clear hm1
                go_wp2_with fail
                refine hm2.mono ?_
                rintro e w' ⟨rfl, rfl⟩
                clear hm2
                go_wp2
                go_ret
                exact ⟨rfl, hbe⟩
end Go.Proofs.Ytahpgjibpcbjbaa
