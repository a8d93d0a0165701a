/- Package lay: the cells of so many of a type. Conditions: each theorem's. -/
import Derived.Test.YtalelgnooemooaaLayC0
namespace Go.Proofs.Ytalelgnooemooaa
open Go.RowKit Go.Maps
set_option linter.unusedVariables false
set_option linter.unusedSimpArgs false
set_option maxRecDepth 10000
open Py
theorem own_grow4 {w w' : World} {B base size n : Nat} {e : TypeId} {v : Value} {xs : List Value} (hv : w.ownsRow base e size v n xs) (hBb : B ≤ base) (hgr : w.grownBy w' v.ownBlock) (hsz : base ≤ w.heap.size) {w0 : World} (h : Below B w0 w) : Below B w0 w' :=
  h.grown hgr (by omega) (fun k hk => by
    rcases Nat.lt_or_ge k base with hlt | hge
    · exact absurd hk (own_base hv hlt)
    · omega)
theorem cls_next {w : World} {base i j n : Nat} {v : Value} {z off : Int} {t : Ty} {C : List Cl} (hj : j < C.length) (hn : (allC z C i ++ (shiftC z i C).take j).length = n) (h : w.ownsRow base 36 4 v (n + 1) (clsL (allC z C i ++ (shiftC z i C).take j) ++ [.int .i64 off, .int .i64 t.ba, .int .i64 t.st, .string t.sn])) (h1 : off = i * z + (C.getD j cl0).off) (h2 : t = (C.getD j cl0).ty) : ClsAt w base v (allC z C i ++ (shiftC z i C).take (j + 1)) := by
  subst h1 h2
  unfold ClsAt
  rw [shiftC_take z i j C hj, ← List.append_assoc, clsL_app, List.length_append, hn]
  exact h
set_option maxHeartbeats 8000000 in
theorem cells_any {w : World} {B n : Nat} {A : Option Addr} {c : Nat} {l : List Sc} (t : Ty) (z : Int) (C : List Cl) (hS : ScsAt w B A l) (hB : B ≤ w.heap.size) (hn : n ≤ 500) (hz : 0 ≤ z ∧ z ≤ 1073741824) (hC : 0 < C.length ∧ C.length ≤ 1000) (hCo : ∀ j, j < C.length → 0 ≤ (C.getD j cl0).off ∧ (C.getD j cl0).off ≤ 1073741824)
    (hsize : ∀ W : World, ScsAt W B A l → B ≤ W.heap.size → Calls Try.prog 10 #[.slice A l.length c, .agg #[.int .i64 t.ba, .int .i64 t.st, .string t.sn]] W fun e w' => e = .returned (.tuple #[.int .i64 z, .int .i64 0]) ∧ Below W.heap.size W w')
    (hone : ∀ W : World, ScsAt W B A l → B ≤ W.heap.size → Calls Try.prog 14 #[.slice A l.length c, .agg #[.int .i64 t.ba, .int .i64 t.st, .string t.sn]] W fun e w' => ∃ v, e = .returned v ∧ ClsAt w' W.heap.size v C ∧ Below W.heap.size W w') :
    Calls Try.prog 8 #[.slice A l.length c, .agg #[.int .i64 t.ba, .int .i64 t.st, .string t.sn], .int .i64 n] w fun e w' => ∃ v, e = .returned (.tuple #[v, .int .i64 0]) ∧ ClsAt w' w.heap.size v (allC z C n) ∧ Below w.heap.size w w' := by
  have hb0 := (Below.refl w.heap.size w).alloc (Nat.le_refl _) (.cells #[.int .i64 t.ba, .int .i64 t.st, .string t.sn] 24)
  have hx := heap_alloc_new w (.cells #[.int .i64 t.ba, .int .i64 t.st, .string t.sn] 24)
  obtain ⟨a0, a1, a2⟩ := sc_cells3 hx
  obtain ⟨i0, hi0, hz0, hz1, hz2⟩ := info_parts infoCl
  have HSZ := Lib.hid hsize
  have HON := Lib.hid hone
  have HCO := Lib.hid hCo
  clear hsize hone hCo
  have hn0 : decide ((n : Int) < 0) = false := decide_eq_false (by omega)
  have hn5 : decide ((500 : Int) < (n : Int)) = false := decide_eq_false (by omega)
  go_enter Try.func8, Try.ntmps8
  go_wp2_with fail
  refine (HSZ.out _ (hS.keep hb0 hB) (by simp only [szA]; omega)).mono ?_
  rintro e w1 ⟨rfl, h1⟩
  have hb1 := hb0.trans (h1.mono (by simp only [szA]; omega))
  have hx1 := row_below2 h1 hx (lt_of_row hx)
  obtain ⟨d0, d1, d2⟩ := sc_cells3 hx1
  clear a0 a1 a2
  go_wp2_with fail
  refine (HON.out _ (hS.keep hb1 hB) (by have := hb1.size; omega)).mono ?_
  rintro e w2 ⟨v, rfl, hv, h2⟩
  have hb2 := hb1.trans (h2.mono hb1.size)
  obtain ⟨g, cap, rfl, hg1, hg2, hcells⟩ := cls_at hv hC.1
  have HCE := Lib.hid hcells
  have hm1 : n * C.length ≤ 500 * 1000 := Nat.mul_le_mul hn hC.2
  have hmul : (n : Int) * (C.length : Int) = ((n * C.length : Nat) : Int) := by rw [Int.natCast_mul]
  have HLEN := Lib.hid (allC_len z C n)
  have HHH : Hid (∀ j, j < n → j * C.length + C.length ≤ n * C.length) := Lib.hid (fun j hj => by rw [← Nat.succ_mul]; exact Nat.mul_le_mul_right _ hj)
  generalize n * C.length = m at *
  obtain ⟨wm, hmk, hom, hgm⟩ := run_make_own (P := Try.prog) w2 w2.heap.size 27 36 i0 (.agg #[.int .i64 0, .int .i64 0, .int .i64 0, .string ⟨#[]⟩]) 4 Try.underlying27 hi0 hz0 hz1 .i64 .i64 m (by rw [hz2]; omega) (by unfold maxLen; omega) (Nat.le_refl _)
  have hbm4 : Below w2.heap.size w2 wm := (Below.refl w2.heap.size w2).grown hgm (Nat.le_refl _) (fun k hk => by cases hk)
  have hbm := hb2.trans (hbm4.mono hb2.size)
  clear hcells d0 d1 d2 hx hx1 hgm h1 h2 hb0
  go_wp2_with fail
  have hc0 : ClsAt wm w2.heap.size (.slice (some ⟨w2.heap.size, 0, none⟩) 0 m) (allC z C 0) := hom
  have hzm := hbm4.size
  clear hom hmk hv
  go_loopw [11, 39] (fun v k wr => ∃ i : Nat, i ≤ n ∧ k = .int .i64 i ∧ ClsAt wr w2.heap.size v (allC z C i) ∧ Below w2.heap.size w2 wr) (fun _ k _ => n - (intOf k).toNat)
  case atStart => exact ⟨0, Nat.zero_le _, rfl, hc0, hbm4⟩
  case round =>
    obtain ⟨i, hi, rfl, hov, hbe⟩ := hrel
    have hzw := hbe.size
    by_cases hlt : i < n
    · have hP0 : (0 : Int) ≤ (i : Int) * z := Int.mul_nonneg (by omega) hz.1
      have hP1 : (i : Int) * z ≤ 500 * 1073741824 := Int.mul_le_mul (by omega) hz.2 hz.1 (by omega)
      have hov' : ClsAt wr w2.heap.size u11 (allC z C i ++ (shiftC z i C).take 0) := by simpa using hov
      have hmi := HHH.out i hlt
      have hal := allC_len z C i
      obtain ⟨P, hP⟩ : ∃ P, (i : Int) * z = P := ⟨_, rfl⟩
      rw [hP] at hP0 hP1
      clear hov hc0
      go_wp2_with fail
      go_loopw [11, 44] (fun v k wr => ∃ j : Nat, j ≤ C.length ∧ k = .int .i64 j ∧ ClsAt wr w2.heap.size v (allC z C i ++ (shiftC z i C).take j) ∧ Below w2.heap.size w2 wr) (fun _ k _ => C.length - (intOf k).toNat)
      case atStart => exact ⟨0, Nat.zero_le _, rfl, hov', hbe⟩
      case round =>
        obtain ⟨j, hj, rfl, hov, hbe⟩ := hrel
        have hzw := hbe.size
        by_cases hlt : j < C.length
        · obtain ⟨c0, c1, c2, c3⟩ := HCE.out j hlt
          obtain ⟨o1, o2⟩ := HCO.out j hlt
          have e0 := (hbe.cell (p := ⟨g, j * 4, none⟩) hg2).trans c0
          have e1 := (hbe.cell (p := ⟨g, j * 4 + 1, none⟩) hg2).trans c1
          have e2 := (hbe.cell (p := ⟨g, j * 4 + 2, none⟩) hg2).trans c2
          have e3 := (hbe.cell (p := ⟨g, j * 4 + 3, none⟩) hg2).trans c3
          have hlen : (allC z C i ++ (shiftC z i C).take j).length = i * C.length + j := by rw [List.length_append, hal, List.length_take, shiftC_len]; omega
          have hsn := Lib.hid (fun (W : World) (v : Value) (off : Int) (h : W.ownsRow w2.heap.size 36 4 v (i * C.length + j + 1) (clsL (allC z C i ++ (shiftC z i C).take j) ++ [.int .i64 off, .int .i64 (C.getD j cl0).ty.ba, .int .i64 (C.getD j cl0).ty.st, .string (C.getD j cl0).ty.sn])) (h1 : off = i * z + (C.getD j cl0).off) => cls_next hlt hlen h h1 rfl)
          unfold ClsAt at hov
          rw [hlen] at hov
          have HOV := Lib.hid hov
          have dk0 : (0 : Int) ≤ (j : Int) := by omega
          have dk1 : (j : Int) < (C.length : Int) := by omega
          have hgr : g < wr.heap.size := by omega
          clear hov hov' c0 c1 c2 c3 hlen hal
          generalize (C.getD j cl0).off = off at *
          generalize (C.getD j cl0).ty = ty at *
          obtain ⟨ba, st, sn⟩ := ty
          dsimp only at *
          generalize i * C.length = N at *
          have hnew := heap_alloc_new wr (.cells #[.int .i64 off, .int .i64 ba, .int .i64 st, .string sn] 36)
          have q0 : (wr.alloc (.cells #[.int .i64 off, .int .i64 ba, .int .i64 st, .string sn] 36)).cell? ⟨wr.heap.size, 0, none⟩ = some (.int .i64 off) := by rw [cell_of_row _ _ _ _ _ _ hnew]; rfl
          have q1 : (wr.alloc (.cells #[.int .i64 off, .int .i64 ba, .int .i64 st, .string sn] 36)).cell? ⟨wr.heap.size, 1, none⟩ = some (.int .i64 ba) := by rw [cell_of_row _ _ _ _ _ _ hnew]; rfl
          have q2 : (wr.alloc (.cells #[.int .i64 off, .int .i64 ba, .int .i64 st, .string sn] 36)).cell? ⟨wr.heap.size, 2, none⟩ = some (.int .i64 st) := by rw [cell_of_row _ _ _ _ _ _ hnew]; rfl
          have q3 : (wr.alloc (.cells #[.int .i64 off, .int .i64 ba, .int .i64 st, .string sn] 36)).cell? ⟨wr.heap.size, 3, none⟩ = some (.string sn) := by rw [cell_of_row _ _ _ _ _ _ hnew]; rfl
          have hnw : ∀ (k : Nat) (u : Value), [Value.int .i64 (P + off), .int .i64 ba, .int .i64 st, .string sn][k]? = some u → ((wr.alloc (.cells #[.int .i64 off, .int .i64 ba, .int .i64 st, .string sn] 36)).alloc (.cells #[.int .i64 (P + off), .int .i64 ba, .int .i64 st, .string sn] 36)).cell? ((⟨wr.heap.size + 1, 0, none⟩ : Addr).add k) = some u := by
            have h := World.news_of_block (fr := (0, 0)) (heap_alloc_new (wr.alloc (.cells #[.int .i64 off, .int .i64 ba, .int .i64 st, .string sn] 36)) (.cells #[.int .i64 (P + off), .int .i64 ba, .int .i64 st, .string sn] 36))
            rw [szA] at h
            exact h
          have HNW := Lib.hid hnw
          clear hnew hnw
          go_wp2_with (at_builtin; refine wpList_append_lies (o := ⟨some 59, _, _, _, _, _⟩) _ rfl (.tmp 48) (.tmp 58) 27 rfl w2.heap.size 36 i0 (.agg #[.int .i64 0, .int .i64 0, .int .i64 0, .string ⟨#[]⟩]) 4 40 Try.underlying27 hi0 hz0 hz1 hz2 rfl (by decide) _ _ _ rfl ((HOV.out.alloc _).alloc _) ⟨wr.heap.size + 1, 0, none⟩ 1 1 [.int .i64 (P + off), .int .i64 ba, .int .i64 st, .string sn] rfl rfl HNW.out (by simp [Value.oneCell']) (by omega) (by unfold maxLen; omega) (by omega) (by simp only [szA]; omega) _ rfl ?_; intro ga cap2 w7 hown7 hgrow hat hlt7)
          go_roundw
          case rel =>
            refine ⟨j + 1, by omega, by go_num, hsn.out _ _ _ hown7 (by rw [hP]), ?_⟩
            exact own_grow4 (HOV.out.alloc _ |>.alloc _) (Nat.le_refl _) hgrow (by simp only [szA]; omega) ((hbe.alloc hzw _).alloc (by simp only [szA]; omega) _)
          case measure => simp [intOf]; omega
        · obtain rfl : j = C.length := by omega
          rw [List.take_of_length_le (by rw [shiftC_len]; exact Nat.le_refl _), ← allC_succ] at hov
          go_wp2_with fail
          go_roundw
          case rel => exact ⟨i + 1, by omega, by go_num, hov, hbe⟩
          case measure => simp [intOf]; omega
    · obtain rfl : i = n := by omega
      go_wp2_with fail
      go_ret2
      exact ⟨_, rfl, own_lower hov hb2.size, hb2.trans (hbe.mono hb2.size)⟩
set_option maxHeartbeats 1000000 in
theorem cells_range {w : World} {A : Option Addr} {L c : Nat} (t : Ty) (n : Int) (hn : n < 0 ∨ 500 < n) :
    Calls Try.prog 8 #[.slice A L c, .agg #[.int .i64 t.ba, .int .i64 t.st, .string t.sn], .int .i64 n] w fun e w' => e = .returned (.tuple #[.slice none 0 0, .int .i64 1]) ∧ Below w.heap.size w w' := by
  have hb0 := (Below.refl w.heap.size w).alloc (Nat.le_refl _) (.cells #[.int .i64 t.ba, .int .i64 t.st, .string t.sn] 24)
  go_enter Try.func8, Try.ntmps8
  by_cases h0 : n < 0
  · have hn0 : decide (n < 0) = true := decide_eq_true h0
    go_wp2
    go_ret2
    exact ⟨rfl, hb0⟩
  · have hn0 : decide (n < 0) = false := decide_eq_false h0
    have hn5 : decide (500 < n) = true := decide_eq_true (by omega)
    go_wp2
    go_ret2
    exact ⟨rfl, hb0⟩
set_option maxHeartbeats 1000000 in
theorem cells_no {w : World} {B : Nat} {A : Option Addr} {c : Nat} {l : List Sc} (t : Ty) (n : Int) (hS : ScsAt w B A l) (hB : B ≤ w.heap.size) (hn : 0 ≤ n ∧ n ≤ 500)
    (hsize : ∀ W : World, ScsAt W B A l → B ≤ W.heap.size → Calls Try.prog 10 #[.slice A l.length c, .agg #[.int .i64 t.ba, .int .i64 t.st, .string t.sn]] W fun e w' => e = .returned (.tuple #[.int .i64 0, .int .i64 14]) ∧ Below W.heap.size W w') :
    Calls Try.prog 8 #[.slice A l.length c, .agg #[.int .i64 t.ba, .int .i64 t.st, .string t.sn], .int .i64 n] w fun e w' => e = .returned (.tuple #[.slice none 0 0, .int .i64 14]) ∧ Below w.heap.size w w' := by
  have hb0 := (Below.refl w.heap.size w).alloc (Nat.le_refl _) (.cells #[.int .i64 t.ba, .int .i64 t.st, .string t.sn] 24)
  have hx := heap_alloc_new w (.cells #[.int .i64 t.ba, .int .i64 t.st, .string t.sn] 24)
  obtain ⟨a0, a1, a2⟩ := sc_cells3 hx
  have HSZ := Lib.hid hsize
  clear hsize
  have hn0 : decide (n < 0) = false := decide_eq_false (by omega)
  have hn5 : decide (500 < n) = false := decide_eq_false (by omega)
  go_enter Try.func8, Try.ntmps8
  go_wp2_with fail
  refine (HSZ.out _ (hS.keep hb0 hB) (by simp only [szA]; omega)).mono ?_
  rintro e w1 ⟨rfl, h1⟩
  have hb1 := hb0.trans (h1.mono (by simp only [szA]; omega))
  go_wp2
  go_ret2
  exact ⟨rfl, hb1⟩
end Go.Proofs.Ytalelgnooemooaa
