/- LayCells' walk, over any one answer of both. Conditions: each theorem's. -/
import Derived.Test.YticganpocdjcgaaLayCf
import Derived.Test.YticganpocdjcgaaLayW
import Derived.BigQuiet
namespace Go.Proofs.Yticganpocdjcgaa
open Go.RowKit Go.Maps
set_option linter.unusedVariables false
set_option linter.unusedSimpArgs false
set_option maxRecDepth 10000
open Py
theorem own_cells {w : World} {base : Nat} {e : TypeId} {v : Value} {T : List Cl} (h : w.ownsRow base e 4 v T.length (clsL T)) : ∃ A cap, v = .slice A T.length cap ∧ ∀ k, k < T.length → ∃ g, A = some ⟨g, 0, none⟩ ∧ base ≤ g ∧ g < w.heap.size ∧
    w.cell? ⟨g, k * 4, none⟩ = some (.int .i64 (T.getD k cl0).off) ∧ w.cell? ⟨g, k * 4 + 1, none⟩ = some (.int .i64 (T.getD k cl0).ty.ba) ∧ w.cell? ⟨g, k * 4 + 2, none⟩ = some (.int .i64 (T.getD k cl0).ty.st) ∧ w.cell? ⟨g, k * 4 + 3, none⟩ = some (.string (T.getD k cl0).ty.sn) := by
  obtain ⟨hl, h⟩ := h
  rcases h with ⟨rfl, hz⟩ | ⟨g, cap, cur, rfl, hb, hh, hn, hm, hsz, htk⟩
  · exact ⟨none, 0, by rw [hz], fun k hk => by omega⟩
  · refine ⟨_, cap, rfl, fun k hk => ⟨g, rfl, hb, (Array.getElem?_eq_some_iff.1 hh).1, ?_⟩⟩
    have hget : ∀ j, j < 4 → cur[k * 4 + j]? = (clL (T.getD k cl0))[j]? := fun j hj => by
      rw [← clsL_get T k hk j hj, ← htk, List.getElem?_take, if_pos (by omega)]
      simp
    refine ⟨?_, ?_, ?_, ?_⟩
    · rw [cell_of_row _ _ _ _ _ _ hh]; exact hget 0 (by omega)
    · rw [cell_of_row _ _ _ _ _ _ hh]; exact hget 1 (by omega)
    · rw [cell_of_row _ _ _ _ _ _ hh]; exact hget 2 (by omega)
    · rw [cell_of_row _ _ _ _ _ _ hh]; exact hget 3 (by omega)
set_option maxHeartbeats 8000000 in
theorem layCells_over {w : World} {A : Option Addr} {c : Nat} {l : List Sc} (t : Ty) (n : Int) (hS : ScsAt w w.heap.size A l) (hlc : l.length ≤ c) (hcm : c ≤ maxLen)
    (hboth : rightV l = true → ∃ (C : List Cl) (ec : Int), C.length ≤ 1000000 ∧ ∀ W : World, ScsAt W w.heap.size A l → w.heap.size ≤ W.heap.size →
      Calls Try.prog 8 #[.slice A l.length c, .agg #[.int .i64 t.ba, .int .i64 t.st, .string t.sn], .int .i64 n] W (fun e w' => ∃ v, e = .returned (.tuple #[v, .int .i64 ec]) ∧ ClsAt w' W.heap.size v C ∧ Below W.heap.size W w') ∧
      Calls Try.prog 9 #[.slice A l.length c, .agg #[.int .i64 t.ba, .int .i64 t.st, .string t.sn], .int .i64 n] W (fun e w' => ∃ v, e = .returned (.tuple #[v, .int .i64 ec]) ∧ RlsAt w' W.heap.size v C ∧ Below W.heap.size W w')) :
    Calls Try.prog 3 #[.slice A l.length c, .agg #[.int .i64 t.ba, .int .i64 t.st, .string t.sn], .int .i64 n] w fun e w' => e = .returned (.bool true) ∧ Below w.heap.size w w' := by
  have hb0 := (Below.refl w.heap.size w).alloc (Nat.le_refl _) (.cells #[.int .i64 t.ba, .int .i64 t.st, .string t.sn] 24)
  have hx := heap_alloc_new w (.cells #[.int .i64 t.ba, .int .i64 t.st, .string t.sn] 24)
  have HBO := Lib.hid hboth
  clear hboth
  go_enter Try.func3, Try.ntmps3
  go_wp2_with fail
  refine (awake_any _).mono ?_
  rintro e w1 ⟨rfl, h1⟩
  have b1 := hb0.trans (h1.mono (by simp only [szA]; omega))
  have hx1 := row_below2 h1 hx (lt_of_row hx)
  go_wp2_with fail
  refine (right_any (hS.keep b1 (Nat.le_refl _)) b1.size hlc hcm).mono ?_
  rintro e w2 ⟨rfl, h2⟩
  have b2 := b1.trans (h2.mono b1.size)
  have hx2 := row_below2 h2 hx1 (lt_of_row hx1)
  clear h2 b1 h1 hx hx1
  cases hf : rightV l
  · go_wp2_with fail
    refine (awake_any _).mono ?_
    rintro e w3 ⟨rfl, h3⟩
    go_wp2
    go_ret
    exact ⟨rfl, b2.trans (h3.mono b2.size)⟩
  · obtain ⟨C, ec, hCl, hB⟩ := HBO.out hf
    have HB := Lib.hid hB
    obtain ⟨a0, a1, a2⟩ := sc_cells3 hx2
    clear hB hf
    go_wp2_with fail
    refine (HB.out _ (hS.keep b2 (Nat.le_refl _)) b2.size).1.mono ?_
    rintro e w3 ⟨v3, rfl, hv3, h3⟩
    have b3 := b2.trans (h3.mono b2.size)
    have hx3 := row_below2 h3 hx2 (lt_of_row hx2)
    obtain ⟨d0, d1, d2⟩ := sc_cells3 hx3
    clear a0 a1 a2
    go_wp2_with fail
    refine (HB.out _ (hS.keep b3 (Nat.le_refl _)) b3.size).2.mono ?_
    rintro e w4 ⟨v4, rfl, hv4, h4⟩
    have b4 := b3.trans (h4.mono b3.size)
    have hv34 := own_keep hv3 h4
    obtain ⟨A3, c3, rfl, hc3⟩ := own_cells hv34
    obtain ⟨A4, c4, rfl, hc4⟩ := own_cells hv4
    have HC3 := Lib.hid hc3
    have HC4 := Lib.hid hc4
    clear hc3 hc4 hv3 hv34 hv4 d0 d1 d2 hx2 hx3 b2 b3 h3 h4
    go_wp2_with fail
    go_loopw [46] (fun k wr => ∃ j : Nat, j ≤ C.length ∧ k = .int .i64 j ∧ Below w4.heap.size w4 wr) (fun k _ => C.length - (intOf k).toNat)
    case atStart => exact ⟨0, Nat.zero_le _, rfl, Below.refl _ _⟩
    case round =>
      obtain ⟨j, hj, rfl, hbe⟩ := hrel
      by_cases hlt : j < C.length
      · obtain ⟨g3, rfl, -, hg3, p0, p1, p2, p3⟩ := HC3.out j hlt
        obtain ⟨g4, rfl, -, hg4, q0, q1, q2, q3⟩ := HC4.out j hlt
        have dk0 : (0 : Int) ≤ (j : Int) := by omega
        have dk1 : (j : Int) < (C.length : Int) := by omega
        generalize C.getD j cl0 = x at *
        obtain ⟨off, ba, st, sn⟩ := x
        dsimp only at *
        have E := fun m => below_drewN hbe m
        have x0 : ∀ m, (wr.drewN m).cell? ⟨g3, j * 4, none⟩ = some (.int .i64 off) := fun m => ((E m).cell (p := ⟨g3, j * 4, none⟩) hg3).trans p0
        have x1 : ∀ m, (wr.drewN m).cell? ⟨g3, j * 4 + 1, none⟩ = some (.int .i64 ba) := fun m => ((E m).cell (p := ⟨g3, j * 4 + 1, none⟩) hg3).trans p1
        have x2 : ∀ m, (wr.drewN m).cell? ⟨g3, j * 4 + 2, none⟩ = some (.int .i64 st) := fun m => ((E m).cell (p := ⟨g3, j * 4 + 2, none⟩) hg3).trans p2
        have x3 : ∀ m, (wr.drewN m).cell? ⟨g3, j * 4 + 3, none⟩ = some (.string sn) := fun m => ((E m).cell (p := ⟨g3, j * 4 + 3, none⟩) hg3).trans p3
        have y0 : ∀ m, (wr.drewN m).cell? ⟨g4, j * 4, none⟩ = some (.int .i64 off) := fun m => ((E m).cell (p := ⟨g4, j * 4, none⟩) hg4).trans q0
        have y1 : ∀ m, (wr.drewN m).cell? ⟨g4, j * 4 + 1, none⟩ = some (.int .i64 ba) := fun m => ((E m).cell (p := ⟨g4, j * 4 + 1, none⟩) hg4).trans q1
        have y2 : ∀ m, (wr.drewN m).cell? ⟨g4, j * 4 + 2, none⟩ = some (.int .i64 st) := fun m => ((E m).cell (p := ⟨g4, j * 4 + 2, none⟩) hg4).trans q2
        have y3 : ∀ m, (wr.drewN m).cell? ⟨g4, j * 4 + 3, none⟩ = some (.string sn) := fun m => ((E m).cell (p := ⟨g4, j * 4 + 3, none⟩) hg4).trans q3
        clear p0 p1 p2 p3 q0 q1 q2 q3 E
        go_wp2_with fail
        go_quiet (fail)
        go_wp2
        go_roundw
        case rel => exact ⟨j + 1, by omega, by go_num, below_drewN hbe _⟩
        case measure => simp [intOf]; omega
      · obtain rfl : j = C.length := by omega
        go_wp2
        go_ret
        exact ⟨rfl, b4.trans (hbe.mono b4.size)⟩
end Go.Proofs.Yticganpocdjcgaa
