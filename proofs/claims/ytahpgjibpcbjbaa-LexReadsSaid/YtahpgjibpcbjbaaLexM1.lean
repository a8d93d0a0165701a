/- LexReads answers true of any text; at most new blocks in memory. Condition: the library's variable holds a number. -/
import Derived.Test.YtahpgjibpcbjbaaLexL
namespace Go.Proofs.Ytahpgjibpcbjbaa
open Go.RowKit Go.Maps
set_option linter.unusedVariables false
set_option linter.unusedSimpArgs false
set_option maxRecDepth 100000
open Lx
theorem own_set {w : World} {base size n g o : Nat} {e : TypeId} {v x : Value} {xs : List Value} (h : w.ownsRow base e size v n xs) (hg : g < base) : (w.setCell ⟨g, o, none⟩ x).ownsRow base e size v n xs := by
  obtain ⟨hl, h⟩ := h
  refine ⟨hl, ?_⟩
  rcases h with h | ⟨g', cap, cur, h1, h2, h3, h4⟩
  · exact .inl h
  · exact .inr ⟨g', cap, cur, h1, h2, by rw [heap_setCell_other _ _ _ _ (by show g' ≠ g; omega)]; exact h3, h4⟩
theorem lexV_er (s : ByteArray) : (lexV s).tk.length ≤ 2501 := by
  unfold lexV
  split
  · simp
  · suffices ∀ f j T, T.length ≤ 2500 → (lx s f j T).tk.length ≤ 2501 from this _ _ _ (by simp)
    intro f
    induction f with
    | zero => intro j T _; simp [lx]
    | succ f ih =>
      intro j T hT
      rw [lx]
      split
      · simp
      · split
        · simp; omega
        · split
          · simp
          · split
            · simp
            · exact ih _ _ (by simp; omega)
set_option maxHeartbeats 8000000 in
theorem lexReads_walk {w : World} (s0 : ByteArray) (hM : MaxIs w) (hs0 : s0.size ≤ maxLen) :
    Calls Try.prog 3 #[.string s0] w fun e w' => e = .returned (.bool true) ∧ Below w.heap.size w w' := by
  obtain ⟨n, hn⟩ : ∃ n : Nat, n = min s0.size 8193 := ⟨_, rfl⟩
  have hmin : min (s0.size : Int) 8193 = (n : Int) := by omega
  have n0 : (0 : Int) ≤ (n : Int) := by omega
  have n1 : (n : Int) ≤ (s0.size : Int) := by omega
  have hsz : (s0.extract 0 n).size ≤ 1048576 := by rw [← sz, Lib.extract_data]; simp; omega
  have HS := Lib.hid hsz
  clear hn hsz
  unfold maxLen at hs0
  go_enter Try.func3, Try.ntmps3
  go_wp2_with fail
  refine (awake_any _ hM).mono ?_
  rintro e w1 ⟨rfl, hb1⟩
  go_wp2_with fail
  refine (lex_any _ _ HS.out (hM.keep hb1)).mono ?_
  rintro e w2 ⟨v, rfl, hv, h2⟩
  have hb2 := hb1.trans (h2.mono hb1.size)
  clear hmin n1
  have HS := HS
  generalize s0.extract 0 n = s at *
  have hlen := lexV_er s
  generalize hR : lexV s = R at *
  have HR := Lib.hid hR
  clear hR
  obtain ⟨T, pl, er⟩ := R
  dsimp only at *
  obtain ⟨vA, vc, rfl⟩ := own_slice hv
  go_wp2_with fail
  refine (rlex_any _ _ HS.out).mono ?_
  rintro e w3 ⟨u, rfl, hu, h3⟩
  rw [HR.out] at hu ⊢
  dsimp only at *
  have hb3 := hb2.trans (h3.mono hb2.size)
  have hv3 := own_keep hv h3
  have hMb := hb3.size
  go_wp2_with fail
  refine (same_any hv3 hu (by omega)).mono ?_
  rintro e w4 ⟨rfl, h4⟩
  have hb4 := hb3.trans (h4.mono hb3.size)
  have hv4 := own_keep hv3 h4
  have hu4 := own_keep hu h4
  have h23 := h2.size
  by_cases h0 : 0 < T.length
  · rcases hv4.2 with ⟨hnil, hz⟩ | ⟨g, cap, cur, hve, hgb, hgh, hcn, hcm, hcs, hct⟩
    · omega
    injection hve with hA _ hC
    subst hA hC
    have hg2 : g < w2.heap.size := by
      rcases hv.2 with ⟨hnil, hz⟩ | ⟨g', cap', cur', hve', _, hgh', _⟩
      · omega
      · injection hve' with hA' _ _
        injection hA' with hA'
        injection hA' with hA'
        subst hA'
        exact (Array.getElem?_eq_some_iff.1 hgh').1
    have hgw : w.heap.size ≤ g := by have := hb1.size; omega
    clear hv hv3 hv4 hct h3 h2
    go_wp2_with fail
    go_loopw [48] (fun k wr => ∃ (j : Nat) (cs : Array Value), j ≤ T.length ∧ k = .int .i64 j ∧ Below w.heap.size w wr ∧ wr.heap[g]? = some (.cells cs 31 (0, 0)) ∧ cs.size = vc * 3 ∧ TksAt wr w2.heap.size u T) (fun k _ => T.length - (intOf k).toNat)
    case atStart => exact ⟨0, cur, by omega, rfl, hb4, hgh, hcs, hu4⟩
    case round =>
      obtain ⟨j, cs, hj, rfl, hbe, hh, hcsz, hur⟩ := hrel
      by_cases hlt : j < T.length
      · have e0 : wr.cell? ⟨g, j * 3, none⟩ = some (cs[j * 3]'(by omega)) := by rw [cell_of_row _ _ _ _ _ _ hh]; simp
        have fz := frozen_of_row _ _ (j * 3) _ _ hh
        have dj0 : (0 : Int) ≤ (j : Int) := by omega
        have dj1 : (j : Int) < (T.length : Int) := by omega
        generalize (cs[j * 3]'(by omega)) = x at *
        go_wp2
        go_roundw
        case rel => exact ⟨j + 1, cs.setIfInBounds (j * 3) (.int .i64 (-1)), by omega, by go_num, hbe.setCell hgw _, heap_setCell_same _ _ _ _ _ _ hh, by simp [hcsz], own_set hur hg2⟩
        case measure => simp [intOf]; omega
      · obtain rfl : j = T.length := by omega
        have hMr := hM.keep hbe
        obtain ⟨uA, uc, rfl⟩ := own_slice hur
        go_wp2_with fail
        refine (lex_any _ _ HS.out hMr).mono ?_
        rintro e w6 ⟨v2, rfl, hv6, h6⟩
        rw [HR.out] at hv6 ⊢
        dsimp only at *
        have hb6 := hbe.trans (h6.mono hbe.size)
        have hu6 := own_keep hur h6
        go_wp2_with fail
        refine (same_any hv6 hu6 (by omega)).mono ?_
        rintro e w7 ⟨rfl, h7⟩
        go_wp2
        go_ret
        exact ⟨rfl, hb6.trans (h7.mono hb6.size)⟩
  · have hz : T.length = 0 := by omega
    have HZ := Lib.hid hz
    have hMr := hM.keep hb4
    rw [hz]
    clear hz
    go_wp2_with fail
    go_loop [48] (fun k => k = .int .i64 0) (fun _ => 0)
    case atStart => rfl
    case round =>
      obtain rfl := hrel
      obtain ⟨uA, uc, rfl⟩ := own_slice hu4
      go_wp2_with fail
      refine (lex_any _ _ HS.out hMr).mono ?_
      rintro e w6 ⟨v2, rfl, hv6, h6⟩
      rw [HR.out] at hv6 ⊢
      dsimp only at *
      have hb6 := hb4.trans (h6.mono hb4.size)
      have hu6 := own_keep hu4 h6
      go_wp2_with fail
      refine (same_any hv6 hu6 (by omega)).mono ?_
      rintro e w7 ⟨rfl, h7⟩
      go_wp2
      go_ret
      exact ⟨rfl, hb6.trans (h7.mono hb6.size)⟩
end Go.Proofs.Ytahpgjibpcbjbaa
