/- LayApart answers true, of any structs, types and counts; at most new blocks in memory. Conditions: arguments as they lie in memory, of their Go types. -/
import Derived.Test.YtalelgnooemooaaLayAq
import Derived.Test.YtalelgnooemooaaLayW
import Derived.BigQuiet
namespace Go.Proofs.Ytalelgnooemooaa
open Go.RowKit Go.Maps
set_option linter.unusedVariables false
set_option linter.unusedSimpArgs false
set_option maxRecDepth 10000
open Py
theorem whole_no {t : Ty} (h : whole t = false) : (t.st == 0) = false ∨ (t.st == 0) = true ∧ (t.ba == 4) = false := by
  unfold whole at h
  by_cases h0 : t.st = 0
  · refine .inr ⟨by rw [h0]; rfl, ?_⟩
    rw [beq_eq_false_iff_ne]
    rintro e
    rw [e, h0] at h
    simp at h
  · exact .inl (by rw [beq_eq_false_iff_ne]; exact h0)
theorem own_cells {w : World} {base : Nat} {e : TypeId} {v : Value} {T : List Cl} (h : w.ownsRow base e 4 v T.length (clsL T)) : ∃ A cap, v = .slice A T.length cap ∧ ∀ k, k < T.length → ∃ g, A = some ⟨g, 0, none⟩ ∧ base ≤ g ∧ g < w.heap.size ∧
    w.cell? ⟨g, k * 4, none⟩ = some (.int .i64 (T.getD k cl0).off) ∧ w.cell? ⟨g, k * 4 + 1, none⟩ = some (.int .i64 (T.getD k cl0).ty.ba) ∧ w.cell? ⟨g, k * 4 + 2, none⟩ = some (.int .i64 (T.getD k cl0).ty.st) ∧ w.cell? ⟨g, k * 4 + 3, none⟩ = some (.string (T.getD k cl0).ty.sn) := by
  obtain ⟨hl, h⟩ := h
  rcases h with ⟨rfl, hz⟩ | ⟨g, cap, cur, rfl, hb, hh, hn, hm, hsz, htk⟩
  · exact ⟨none, 0, by rw [hz], fun k hk => by omega⟩
  · refine ⟨_, cap, rfl, fun k hk => ⟨g, rfl, hb, (Array.getElem?_eq_some_iff.1 hh).1, ?_⟩⟩
    have hget : ∀ j, j < 4 → cur[k * 4 + j]? = (clL (T.getD k cl0))[j]? := fun j hj => by
      rw [← clsL_get T k hk j hj, ← htk, List.getElem?_take, if_pos (by omega)]
      simp
    refine ⟨?_, ?_, ?_, ?_⟩
    · rw [cell_of_row _ _ _ _ _ _ hh]; exact hget 0 (by omega)
    · rw [cell_of_row _ _ _ _ _ _ hh]; exact hget 1 (by omega)
    · rw [cell_of_row _ _ _ _ _ _ hh]; exact hget 2 (by omega)
    · rw [cell_of_row _ _ _ _ _ _ hh]; exact hget 3 (by omega)
theorem own_keep {w w' : World} {base size n : Nat} {e : TypeId} {v : Value} {xs : List Value} (h : w.ownsRow base e size v n xs) (hb : Below w.heap.size w w') : w'.ownsRow base e size v n xs :=
  ownsRow_at h (fun g cur _ hg => row_below2 hb hg (lt_of_row hg))
theorem own_len {w : World} {base : Nat} {e : TypeId} {v : Value} {T : List Cl} (h : w.ownsRow base e 4 v T.length (clsL T)) : ∃ A cap, v = .slice A T.length cap := by
  obtain ⟨hl, h⟩ := h
  rcases h with ⟨rfl, hz⟩ | ⟨g, cap, cur, rfl, -⟩
  · exact ⟨none, 0, by rw [hz]⟩
  · exact ⟨_, cap, rfl⟩
theorem end_next (C : List Cl) (j : Nat) : endV C (j + 1) = (C.getD j cl0).off + sizeV (C.getD j cl0).ty := by
  unfold endV
  rw [if_neg (by omega)]
  rfl
set_option maxHeartbeats 8000000 in
theorem layApart_walk {w : World} {A : Option Addr} {c : Nat} {l : List Sc} (t : Ty) (n : Int) (ht : tyOk t) (hS : ScsAt w w.heap.size A l) (hlc : l.length ≤ c) (hcm : c ≤ maxLen) (hok : ∀ k, k < l.length → scOk (l.getD k sc0)) :
    Calls Try.prog 4 #[.slice A l.length c, .agg #[.int .i64 t.ba, .int .i64 t.st, .string t.sn], .int .i64 n] w fun e w' => e = .returned (.bool true) ∧ Below w.heap.size w w' := by
  have hb0 := (Below.refl w.heap.size w).alloc (Nat.le_refl _) (.cells #[.int .i64 t.ba, .int .i64 t.st, .string t.sn] 24)
  have hx := heap_alloc_new w (.cells #[.int .i64 t.ba, .int .i64 t.st, .string t.sn] 24)
  go_enter Try.func4, Try.ntmps4
  go_wp2_with fail
  refine (awake_any _).mono ?_
  rintro e w1 ⟨rfl, h1⟩
  have b1 := hb0.trans (h1.mono (by simp only [szA]; omega))
  have hx1 := row_below2 h1 hx (lt_of_row hx)
  go_wp2_with fail
  refine (right_any (hS.keep b1 (Nat.le_refl _)) b1.size hlc hcm).mono ?_
  rintro e w2 ⟨rfl, h2⟩
  have b2 := b1.trans (h2.mono b1.size)
  have hx2 := row_below2 h2 hx1 (lt_of_row hx1)
  clear h2 b1 h1 hx hx1
  cases hf : rightV l
  · go_wp2_with fail
    refine (awake_any _).mono ?_
    rintro e w3 ⟨rfl, h3⟩
    go_wp2
    go_ret
    exact ⟨rfl, b2.trans (h3.mono b2.size)⟩
  · obtain ⟨hl, hR⟩ := right_facts hf
    obtain ⟨C, ec, hcl, hcase⟩ := cells_apart (c := c) t n ht (scsOk_of hf hok) hl hR
    have HCL := Lib.hid hcl
    obtain ⟨a0, a1, a2⟩ := sc_cells3 hx2
    clear hcl hf hR
    go_wp2_with fail
    refine (HCL.out _ _ _ (hS.keep b2 (Nat.le_refl _)) b2.size).mono ?_
    rintro e w3 ⟨v3, rfl, hv3, h3⟩
    have b3 := b2.trans (h3.mono b2.size)
    have hx3 := row_below2 h3 hx2 (lt_of_row hx2)
    obtain ⟨d0, d1, d2⟩ := sc_cells3 hx3
    clear a0 a1 a2
    obtain ⟨A3, c3, rfl⟩ := own_len hv3
    rcases hcase with ⟨hec, rfl, hew⟩ | ⟨rfl, hCl, m, z, hAp⟩
    · have hec' : (ec == 0) = false := by rw [beq_eq_false_iff_ne]; exact hec
      clear d0 d1 d2 hx2 hx3
      go_wp2_with fail
      go_ret
      exact ⟨rfl, b3⟩
    · have HAP := Lib.hid hAp
      obtain ⟨rfl, hm, hz⟩ : n = m ∧ m ≤ 500 ∧ (0 ≤ z ∧ z ≤ 1073741824) := ⟨hAp.nm, hAp.mm, hAp.zz⟩
      clear hAp
      go_wp2_with fail
      refine (HAP.out.sz _ _ _ (hS.keep b3 (Nat.le_refl _)) b3.size).mono ?_
      rintro e w4 ⟨rfl, h4⟩
      have b4 := b3.trans (h4.mono b3.size)
      obtain ⟨A5, c5, e5, hc4⟩ := own_cells (own_keep hv3 h4)
      injection e5 with e5 e6 e7
      subst e5 e7
      have HC4 := Lib.hid hc4
      have hS4 := hS.keep b4 (Nat.le_refl _)
      clear hc4 hv3 d0 d1 d2 hx2 hx3 b2 b3 h3 h4 HCL e6
      obtain ⟨P, hP⟩ : ∃ P, (m : Int) * z = P := ⟨_, rfl⟩
      have hP0 : 0 ≤ P := by rw [← hP]; exact Int.mul_nonneg (by omega) hz.1
      have hP1 : P ≤ 500 * 1073741824 := by rw [← hP]; exact Int.mul_le_mul (by omega) hz.2 hz.1 (by omega)
      have hap := HAP.out.ap
      rw [hP] at hap
      have HQ := Lib.hid hap
      clear hap
      have HS4 := Lib.hid hS4
      clear hS4 hS
      go_wp2_with fail
      go_loopw [11, 46] (fun u k wr => ∃ j : Nat, j ≤ C.length ∧ k = .int .i64 j ∧ u = .int .i64 (endV C j) ∧ Below w4.heap.size w4 wr) (fun _ k _ => C.length - (intOf k).toNat)
      case atStart => exact ⟨0, Nat.zero_le _, rfl, rfl, Below.refl _ _⟩
      case round =>
        obtain ⟨j, hj, rfl, rfl, hbe⟩ := hrel
        have hzw := hbe.size
        by_cases hlt : j < C.length
        · obtain ⟨g4, rfl, -, hg4, q0, q1, q2, q3⟩ := HC4.out j hlt
          obtain ⟨r1, r2, r3, r4, -⟩ := HQ.out j hlt
          have r0 := end_le HQ.out j hlt
          have rn := end_next C j
          obtain ⟨r5, r6, r7, r8⟩ := HAP.out.all j hlt
          have HR8 := Lib.hid r8
          have HRN := Lib.hid rn
          clear r8 rn
          have dk0 : (0 : Int) ≤ (j : Int) := by omega
          have dk1 : (j : Int) < (C.length : Int) := by omega
          have x0 := (hbe.cell (p := ⟨g4, j * 4, none⟩) hg4).trans q0
          have x1 := (hbe.cell (p := ⟨g4, j * 4 + 1, none⟩) hg4).trans q1
          have x2 := (hbe.cell (p := ⟨g4, j * 4 + 2, none⟩) hg4).trans q2
          have x3 := (hbe.cell (p := ⟨g4, j * 4 + 3, none⟩) hg4).trans q3
          have hge : 0 ≤ endV C j ∧ endV C j ≤ 1000000000000 := by
            refine ⟨?_, by omega⟩
            unfold endV
            split
            · exact Int.le_refl _
            · have := HQ.out (j - 1) (by omega); omega
          obtain ⟨hge0, hge1⟩ := hge
          have hwh := whole_no r5
          clear q0 q1 q2 q3 r5
          generalize C.getD j cl0 = x at *
          obtain ⟨off, ty⟩ := x
          dsimp only at *
          generalize hszv : sizeV ty = sz at *
          obtain ⟨ba, st, sn⟩ := ty
          dsimp only at *
          generalize endV C j = en at *
          have f1 : decide (sz < 1) = false := decide_eq_false (by omega)
          have f2 : decide (off < en) = false := decide_eq_false (by omega)
          have f3 : (off % sz == 0) = true := by rw [r3]; rfl
          have f4 : decide (P < off + sz) = false := decide_eq_false (by omega)
          have f0 : (sz == 0) = false := by rw [beq_eq_false_iff_ne]; omega
          have hox : 0 ≤ off := r2
          have hsx : 0 < sz := by omega
          have hnew := heap_alloc_new wr (.cells #[.int .i64 off, .int .i64 ba, .int .i64 st, .string sn] 36)
          have s1 : (wr.alloc (.cells #[.int .i64 off, .int .i64 ba, .int .i64 st, .string sn] 36)).cell? ⟨wr.heap.size, 1, none⟩ = some (.int .i64 ba) := by rw [cell_of_row _ _ _ _ _ _ hnew]; rfl
          have s2 : (wr.alloc (.cells #[.int .i64 off, .int .i64 ba, .int .i64 st, .string sn] 36)).cell? ⟨wr.heap.size, 1 + 1, none⟩ = some (.int .i64 st) := by rw [cell_of_row _ _ _ _ _ _ hnew]; rfl
          have s3 : (wr.alloc (.cells #[.int .i64 off, .int .i64 ba, .int .i64 st, .string sn] 36)).cell? ⟨wr.heap.size, 1 + 2, none⟩ = some (.string sn) := by rw [cell_of_row _ _ _ _ _ _ hnew]; rfl
          have hbA : Below w4.heap.size w4 (wr.alloc (.cells #[.int .i64 off, .int .i64 ba, .int .i64 st, .string sn] 36)) := hbe.alloc hzw _
          go_wp2_with fail
          refine (HR8.out _ _ _ (HS4.out.keep hbA b4.size) (by have := b4.size; simp only [szA]; omega)).mono ?_
          rintro e w6 ⟨rfl, h6⟩
          have b6 := hbA.trans (h6.mono (by simp only [szA]; omega))
          have hn6 := row_below2 h6 hnew (lt_of_row hnew)
          have y0 : w6.cell? ⟨wr.heap.size, 0, none⟩ = some (.int .i64 off) := by rw [cell_of_row _ _ _ _ _ _ hn6]; rfl
          have y1 : w6.cell? ⟨wr.heap.size, 1, none⟩ = some (.int .i64 ba) := by rw [cell_of_row _ _ _ _ _ _ hn6]; rfl
          have y2 : w6.cell? ⟨wr.heap.size, 1 + 1, none⟩ = some (.int .i64 st) := by rw [cell_of_row _ _ _ _ _ _ hn6]; rfl
          clear s1 s2 s3 x0 x1 x2 x3 hnew hn6
          rcases hwh with g0 | ⟨g0, g1⟩
          all_goals
            go_wp2_with fail
            go_roundw
            case rel => exact ⟨j + 1, by omega, by go_num, by rw [HRN.out], b6⟩
            case measure => simp [intOf]; omega
        · obtain rfl : j = C.length := by omega
          have hmd := HAP.out.md
          by_cases hm0 : m = 0
          · subst hm0
            go_wp2_with fail
            go_ret
            exact ⟨rfl, b4.trans (hbe.mono b4.size)⟩
          · have hm1 : ((m : Int) == 0) = false := by rw [beq_eq_false_iff_ne]; omega
            have hm2 : ((C.length : Int) % (m : Int) == 0) = true := by rw [hmd]; rfl
            have hm3 : (0 : Int) < (m : Int) := by omega
            clear hmd
            go_wp2_with fail
            go_ret
            exact ⟨rfl, b4.trans (hbe.mono b4.size)⟩
end Go.Proofs.Ytalelgnooemooaa
