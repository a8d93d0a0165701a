/- The searches of package lay. Conditions: each theorem's. -/
import Derived.Test.YtalelgnooemooaaLayH
namespace Go.Proofs.Ytalelgnooemooaa
open Go.RowKit
set_option linter.unusedVariables false
set_option linter.unusedSimpArgs false
set_option maxRecDepth 10000
open Py
set_option maxHeartbeats 1000000 in
theorem idxS {w : World} {B : Nat} {A : Option Addr} {c b : Nat} {l : List Sc} (nm : ByteArray) (hS : ScsAt w B A l) (hB : B ≤ w.heap.size) (hl : l.length ≤ 1099511627776) (hb : w.cell? ⟨b, 0, none⟩ = some (.string nm)) :
    Calls Try.prog 27 #[.slice A l.length c, .func (.func 28) #[] #[.pointer (some ⟨b, 0, none⟩)]] w fun e w' => e = .returned (.int .i64 (sIdx l nm)) ∧ Below w.heap.size w w' := by
  have hbl : b < w.heap.size := World.block_lt_of_cell? w _ hb
  go_enter Try.func27, Try.ntmps27
  go_wp2
  go_loopw [8] (fun k wr => ∃ j : Nat, j ≤ l.length ∧ k = .int .i64 j ∧ (∀ i, i < j → ((l.getD i sc0).nm.toList == nm.toList) = false) ∧ Below w.heap.size w wr) (fun k _ => l.length - (intOf k).toNat)
  case atStart => exact ⟨0, Nat.zero_le _, rfl, fun i hi => by omega, Below.refl _ _⟩
  case round =>
    obtain ⟨j, hj, rfl, hno, hbe⟩ := hrel
    by_cases hlt : j < l.length
    · obtain ⟨g, o, rfl, hg, hrg⟩ := hS (by omega)
      obtain ⟨fA, fc, -, -, hr, -⟩ := hrg j hlt
      have hr' := range_keep hr (Nat.lt_of_lt_of_le hg hB) hbe
      have hbc : wr.cell? ⟨b, 0, none⟩ = some (.string nm) := (hbe.cell (p := ⟨b, 0, none⟩) hbl).trans hb
      have dj0 : (0 : Int) ≤ (j : Int) := by omega
      have dj1 : (j : Int) < (l.length : Int) := by omega
      clear hr hrg
      have hhit := idx_hit (fun s : Sc => s.nm.toList == nm.toList) l sc0 j hlt hno
      generalize hs : l.getD j sc0 = s at *
      go_wp2_with (refine wpList_load_mid (op := ⟨some 15, _, _, _, _, _⟩) rfl 45 (.tmp 14) rfl g (o + j * 3) rfl [.string s.nm, .slice fA s.fs.length fc, .int .i64 s.at_] _ hr' Try.underlying45 rfl sizeSc ?_)
      refine (findS1 s.nm nm _ _ b wr hbc).mono ?_
      rintro e w2 ⟨rfl, h2⟩
      have hb2 := hbe.trans (h2.mono hbe.size)
      cases hq : (s.nm.toList == nm.toList)
      · go_wp2
        go_roundw
        case rel =>
          refine ⟨j + 1, by omega, by go_num, fun i hi => ?_, hb2⟩
          rcases Nat.lt_or_ge i j with h | h
          · exact hno i h
          · obtain rfl : i = j := by omega
            rw [hs]; exact hq
        case measure => simp [intOf]; omega
      · go_wp2
        go_ret
        exact ⟨by rw [show sIdx l nm = (j : Int) from hhit hq]; rfl, hb2⟩
    · obtain rfl : j = l.length := by omega
      go_wp2
      go_ret
      exact ⟨by rw [show sIdx l nm = -1 from idx_none _ l sc0 hno]; rfl, hbe⟩
set_option maxHeartbeats 1000000 in
theorem findStruct_any {w : World} {B : Nat} {A : Option Addr} {c : Nat} {l : List Sc} (nm : ByteArray) (hS : ScsAt w B A l) (hB : B ≤ w.heap.size) (hl : l.length ≤ 1099511627776) :
    Calls Try.prog 23 #[.slice A l.length c, .string nm] w fun e w' => e = .returned (.int .i64 (sIdx l nm)) ∧ Below w.heap.size w w' := by
  go_enter Try.func23, Try.ntmps23
  go_wp2_with fail
  have hb0 := (Below.refl w.heap.size w).alloc (Nat.le_refl _) (.cells #[.string nm] 9)
  refine (idxS nm (hS.keep hb0 hB) (by simp only [szA]; omega) hl (by simp)).mono ?_
  rintro e w2 ⟨rfl, h2⟩
  go_wp2
  go_ret
  exact ⟨rfl, hb0.trans (h2.mono (by simp only [szA]; omega))⟩

set_option maxHeartbeats 1000000 in
theorem isStruct_any {w : World} {B : Nat} {A : Option Addr} {c : Nat} {l : List Sc} (nm : ByteArray) (hS : ScsAt w B A l) (hB : B ≤ w.heap.size) (hl : l.length ≤ 1099511627776) :
    Calls Try.prog 26 #[.slice A l.length c, .string nm] w fun e w' => e = .returned (.bool (decide (0 ≤ sIdx l nm))) ∧ Below w.heap.size w w' := by
  go_enter Try.func26, Try.ntmps26
  go_wp2_with fail
  refine (findStruct_any nm hS hB hl).mono ?_
  rintro e w2 ⟨rfl, h2⟩
  go_wp2
  go_ret
  exact ⟨rfl, h2⟩
namespace Py
/-- Is it a type? -/
def known (l : List Sc) (t : Ty) : Bool := if t.st < 0 ∨ 4 < t.st then false else if t.ba = 4 then decide (0 ≤ sIdx l t.sn) else (decide (0 ≤ t.ba) && decide (t.ba ≤ 3)) && t.sn.toList.isEmpty
def whole (t : Ty) : Bool := decide (t.ba = 4) && decide (t.st = 0)
def mayBe (l : List Sc) (t : Ty) : Bool := (known l t && decide (t.ba ≠ 0)) && !whole t
end Py
set_option maxHeartbeats 1000000 in
theorem isWhole_any (t : Ty) (w : World) : Calls Try.prog 20 #[.agg #[.int .i64 t.ba, .int .i64 t.st, .string t.sn]] w fun e w' => e = .returned (.bool (whole t)) ∧ Below w.heap.size w w' := by
  go_enter Try.func20, Try.ntmps20
  cases h1 : (t.ba == 4) <;> cases h2 : (t.st == 0)
  all_goals
    go_wp2
    go_ret
    simp at h1 h2
    refine ⟨?_, (Below.refl _ _).alloc (Nat.le_refl _) _⟩
    simp [whole, h1, h2]
set_option maxHeartbeats 1000000 in
theorem known_any {w : World} {B : Nat} {A : Option Addr} {c : Nat} {l : List Sc} (t : Ty) (hS : ScsAt w B A l) (hB : B ≤ w.heap.size) (hl : l.length ≤ 1099511627776) :
    Calls Try.prog 19 #[.slice A l.length c, .agg #[.int .i64 t.ba, .int .i64 t.st, .string t.sn]] w fun e w' => e = .returned (.bool (known l t)) ∧ Below w.heap.size w w' := by
  have hb0 := (Below.refl w.heap.size w).alloc (Nat.le_refl _) (.cells #[.int .i64 t.ba, .int .i64 t.st, .string t.sn] 24)
  have hS0 := hS.keep hb0 hB
  by_cases hst : t.st < 0 ∨ 4 < t.st
  · go_enter Try.func19, Try.ntmps19
    rcases hst with h | h
    · have h1 : decide (t.st < 0) = true := by simpa using h
      go_wp2
      go_ret
      exact ⟨by unfold known; rw [if_pos (.inl h)]; rfl, hb0⟩
    · have h1 : decide (t.st < 0) = false := by simp; omega
      have h2 : decide (4 < t.st) = true := by simpa using h
      go_wp2
      go_ret
      exact ⟨by unfold known; rw [if_pos (.inr h)]; rfl, hb0⟩
  · have h1 : decide (t.st < 0) = false := by simp; omega
    have h2 : decide (4 < t.st) = false := by simp; omega
    have hkn : known l t = if t.ba = 4 then decide (0 ≤ sIdx l t.sn) else (decide (0 ≤ t.ba) && decide (t.ba ≤ 3)) && t.sn.toList.isEmpty := by unfold known; rw [if_neg hst]
    rw [hkn]
    go_enter Try.func19, Try.ntmps19
    clear hkn
    by_cases h4 : t.ba = 4
    · rw [if_pos h4]
      obtain ⟨ba, st, sn⟩ := t
      dsimp only at *
      subst h4
      go_wp2_with fail
      refine (isStruct_any sn hS0 (by simp only [szA]; omega) hl).mono ?_
      rintro e w2 ⟨rfl, h2⟩
      go_wp2
      go_ret
      exact ⟨rfl, hb0.trans (h2.mono (by simp only [szA]; omega))⟩
    · rw [if_neg h4]
      have h4' : (t.ba == 4) = false := by simpa using h4
      cases ha : decide (0 ≤ t.ba) <;> cases hc : decide (t.ba ≤ 3)
      all_goals
        go_wp2
        go_ret
        exact ⟨rfl, hb0⟩
end Go.Proofs.Ytalelgnooemooaa
