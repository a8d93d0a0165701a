/- Sizes of any type, in the program and in the document. Conditions: each theorem's. -/
import Derived.Test.YtalelgnooemooaaLayPl
namespace Go.Proofs.Ytalelgnooemooaa
open Go.RowKit Go.Maps
set_option linter.unusedVariables false
set_option linter.unusedSimpArgs false
set_option maxRecDepth 10000
open Py
set_option maxHeartbeats 1000000 in
theorem size_whole {w : World} {B i : Nat} {A : Option Addr} {c : Nat} {l : List Sc} (t : Ty) (hS : ScsAt w B A l) (hB : B ≤ w.heap.size) (hl : l.length ≤ 1099511627776) (hw : whole t = true) (hi : sIdx l t.sn = i) (hok : ScsOk l) :
    Calls Try.prog 10 #[.slice A l.length c, .agg #[.int .i64 t.ba, .int .i64 t.st, .string t.sn]] w fun e w' => e = .returned (.tuple #[.int .i64 (layV (l.getD i sc0).fs).size, .int .i64 0]) ∧ Below w.heap.size w w' := by
  have hb0 := (Below.refl w.heap.size w).alloc (Nat.le_refl _) (.cells #[.int .i64 t.ba, .int .i64 t.st, .string t.sn] 24)
  have hx := heap_alloc_new w (.cells #[.int .i64 t.ba, .int .i64 t.st, .string t.sn] 24)
  have hba : t.ba = 4 ∧ t.st = 0 := by simpa [whole] using hw
  have h0' : (t.ba == 0) = false := by rw [hba.1]; rfl
  have hk : known l t = true := by unfold known; rw [if_neg (by omega), if_pos hba.1, hi]; simp
  clear hba
  go_enter Try.func10, Try.ntmps10
  go_wp2_with fail
  refine (known_any t (hS.keep hb0 hB) (by simp only [szA]; omega) hl).mono ?_
  rintro e w2 ⟨rfl, h2⟩
  rw [hk]
  have hb2 := hb0.trans (h2.mono (by simp only [szA]; omega))
  have hx2 := row_below2 h2 hx (by simp)
  obtain ⟨c0, c1, c2⟩ := sc_cells3 hx2
  go_wp2_with fail
  refine (isWhole_any t w2).mono ?_
  rintro e w3 ⟨rfl, h3⟩
  rw [hw]
  have hb3 := hb2.trans (h3.mono hb2.size)
  have hx3 := row_below2 h3 hx2 (lt_of_row hx2)
  obtain ⟨d0, d1, d2⟩ := sc_cells3 hx3
  clear c0 c1 c2
  go_wp2_with fail
  refine (of_yes t.sn (hS.keep hb3 hB) (by have := hb3.size; omega) hl hi hok).mono ?_
  rintro e w4 ⟨ov, rfl, hov, h4⟩
  generalize hss : l.getD i sc0 = s at *
  have HSS := Lib.hid hss
  clear hss
  obtain ⟨oA, on, oc, rfl⟩ := own_slice hov
  have hb4 := hb3.trans (h4.mono hb3.size)
  have hx4 := heap_alloc_new w4 (.cells #[.int .i64 (layV s.fs).size, .int .i64 (layV s.fs).line, .slice oA on oc] 50)
  obtain ⟨e0, e1, e2⟩ := sc_cells3 hx4
  have hb5 := hb4.alloc hb4.size (.cells #[.int .i64 (layV s.fs).size, .int .i64 (layV s.fs).line, .slice oA on oc] 50)
  generalize hsz : (layV s.fs).size = sz at *
  generalize (layV s.fs).line = li at *
  go_wp2
  go_ret2
  exact ⟨by rw [HSS.out, hsz]; rfl, hb5⟩
end Go.Proofs.Ytalelgnooemooaa
