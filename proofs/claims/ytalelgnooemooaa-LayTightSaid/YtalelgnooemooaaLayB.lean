/- What the document's package of layer 4 finds. Conditions: each theorem's. -/
import Derived.Test.YtalelgnooemooaaLayA
namespace Go.Proofs.Ytalelgnooemooaa
open Go.RowKit
set_option linter.unusedVariables false
set_option linter.unusedSimpArgs false
set_option maxRecDepth 10000
open Py
namespace Py
def small (t : Ty) : Int := if 0 < t.st then 8 else if t.ba = 1 then 1 else if t.ba = 2 then 4 else if t.ba = 3 then 8 else 0
def fnd (l : List Sc) (nm : ByteArray) : Sc := if 0 ≤ sIdx l nm then l.getD (sIdx l nm).toNat sc0 else sc0
def fewS (s : Sc) : Bool := decide (s.fs.length ≤ 30) && decide (s.nm.size ≤ 100)
def few (l : List Sc) : Bool := decide (l.length ≤ 40) && l.all fewS
end Py
/-- A struct as a value. -/
def ScV (w : World) (B : Nat) (v : Value) (s : Sc) : Prop := ∃ fA fc, v = .agg #[.string s.nm, .slice fA s.fs.length fc, .int .i64 s.at_] ∧ s.fs.length ≤ fc ∧ fc ≤ maxLen ∧ FdsAt w B fA s.fs
theorem ScV.zero (w : World) (B : Nat) : ScV w B (.agg #[.string ByteArray.empty, .slice none 0 0, .int .i64 0]) sc0 := ⟨none, 0, rfl, Nat.le_refl _, Nat.zero_le _, fun h => by simp [sc0] at h⟩
set_option maxHeartbeats 1000000 in
theorem small_any (t : Ty) (w : World) : Calls Try.prog 18 #[.agg #[.int .i64 t.ba, .int .i64 t.st, .string t.sn]] w fun e w' => e = .returned (.int .i64 (small t)) ∧ Below w.heap.size w w' := by
  have hb0 := (Below.refl w.heap.size w).alloc (Nat.le_refl _) (.cells #[.int .i64 t.ba, .int .i64 t.st, .string t.sn] 24)
  obtain ⟨ba, st, sn⟩ := t
  dsimp only at *
  have hv1 : 0 < st → small ⟨ba, st, sn⟩ = 8 := fun h => by unfold small; rw [if_pos h]
  have hv2 : ¬ 0 < st → small ⟨ba, st, sn⟩ = if ba = 1 then 1 else if ba = 2 then 4 else if ba = 3 then 8 else 0 := fun h => by unfold small; rw [if_neg h]
  go_enter Try.func18, Try.ntmps18
  by_cases hs : 0 < st
  · have h1 : decide (0 < st) = true := decide_eq_true hs
    rw [hv1 hs]
    clear hv1 hv2
    go_wp2
    go_ret
    exact ⟨rfl, hb0⟩
  · have h1 : decide (0 < st) = false := decide_eq_false hs
    rw [hv2 hs]
    clear hv1 hv2
    by_cases b1 : ba = 1
    · subst b1
      rw [if_pos rfl]
      go_wp2
      go_ret
      exact ⟨rfl, hb0⟩
    by_cases b2 : ba = 2
    · subst b2
      rw [if_neg (by decide), if_pos rfl]
      go_wp2
      go_ret
      exact ⟨rfl, hb0⟩
    by_cases b3 : ba = 3
    · subst b3
      rw [if_neg (by decide), if_neg (by decide), if_pos rfl]
      go_wp2
      go_ret
      exact ⟨rfl, hb0⟩
    · have e1 : (ba == 1) = false := by simpa using b1
      have e2 : (ba == 2) = false := by simpa using b2
      have e3 : (ba == 3) = false := by simpa using b3
      rw [if_neg b1, if_neg b2, if_neg b3]
      clear b1 b2 b3
      go_wp2
      go_ret
      exact ⟨rfl, hb0⟩
set_option maxHeartbeats 2000000 in
theorem find_any {w : World} {B : Nat} {A : Option Addr} {c : Nat} {l : List Sc} (nm : ByteArray) (hS : ScsAt w B A l) (hB : B ≤ w.heap.size) (hl : l.length ≤ 1099511627776) :
    Calls Try.prog 16 #[.slice A l.length c, .string nm] w fun e w' => ∃ v, e = .returned (.tuple #[v, .bool (decide (0 ≤ sIdx l nm))]) ∧ ScV w' B v (fnd l nm) ∧ Below w.heap.size w w' := by
  have hb0 := (Below.refl w.heap.size w).alloc (Nat.le_refl _) (.cells #[.string ByteArray.empty, .slice none 0 0, .int .i64 0] 45)
  go_enter Try.func16, Try.ntmps16
  go_wp2
  go_loopw [9] (fun k wr => ∃ j : Nat, j ≤ l.length ∧ k = .int .i64 j ∧ (∀ i, i < j → ((l.getD i sc0).nm.toList == nm.toList) = false) ∧ wr = w.alloc (.cells #[.string ByteArray.empty, .slice none 0 0, .int .i64 0] 45)) (fun k _ => l.length - (intOf k).toNat)
  case atStart => exact ⟨0, Nat.zero_le _, rfl, fun i hi => by omega, rfl⟩
  case round =>
    obtain ⟨j, hj, rfl, hno, rfl⟩ := hrel
    by_cases hlt : j < l.length
    · obtain ⟨g, o, rfl, hg, hrg⟩ := hS (by omega)
      obtain ⟨fA, fc, hfc, hfm, hr, hfd⟩ := hrg j hlt
      have hr' := range_keep hr (Nat.lt_of_lt_of_le hg hB) hb0
      have hn' : (w.alloc (.cells #[.string ByteArray.empty, .slice none 0 0, .int .i64 0] 45)).cell? ⟨g, o + j * 3, none⟩ = some (.string (l.getD j sc0).nm) := hr' 0 _ rfl
      have dj0 : (0 : Int) ≤ (j : Int) := by omega
      have dj1 : (j : Int) < (l.length : Int) := by omega
      clear hr hrg
      have hhit := idx_hit (fun s : Sc => s.nm.toList == nm.toList) l sc0 j hlt hno
      generalize hs : l.getD j sc0 = s at *
      cases hq : (s.nm.toList == nm.toList)
      · go_wp2
        go_roundw
        case rel =>
          refine ⟨j + 1, by omega, by go_num, fun i hi => ?_, trivial⟩
          rcases Nat.lt_or_ge i j with h | h
          · exact hno i h
          · obtain rfl : i = j := by omega
            rw [hs]; exact hq
        case measure => simp [intOf]; omega
      · have hsi : sIdx l nm = (j : Int) := hhit hq
        have HSI := Lib.hid hsi
        clear hsi hhit
        go_wp2_with (refine wpList_load_mid (op := ⟨some 22, _, _, _, _, _⟩) rfl 45 (.tmp 21) rfl g (o + j * 3) rfl [.string s.nm, .slice fA s.fs.length fc, .int .i64 s.at_] _ hr' Try.underlying45 rfl sizeSc ?_)
        refine bodyPost_ret (v := .tuple #[.agg #[.string s.nm, .slice fA s.fs.length fc, .int .i64 s.at_], .bool true]) (res_cell_tmp Try.results16 _ _ w.heap.size 45 _ (0, 0) _ _ rfl rfl (heap_alloc_new w _) Try.underlying45 rfl sizeSc) rfl ⟨_, by rw [HSI.out, decide_eq_true (show (0 : Int) ≤ (j : Int) by omega)], ⟨fA, fc, ?_, ?_⟩, (Below.refl _ _).alloc (Nat.le_refl _) _⟩
        · unfold fnd; rw [HSI.out, if_pos (by omega), Int.toNat_natCast, hs]
        · unfold fnd; rw [HSI.out, if_pos (by omega), Int.toNat_natCast, hs]
          exact ⟨hfc, hfm, hfd.keep ((Below.refl w.heap.size w).alloc (Nat.le_refl _) _) hB⟩
    · obtain rfl : j = l.length := by omega
      have hsi : sIdx l nm = -1 := idx_none _ l sc0 hno
      have HSI := Lib.hid hsi
      clear hsi
      go_wp2
      refine bodyPost_ret (v := .tuple #[.agg #[.string ByteArray.empty, .slice none 0 0, .int .i64 0], .bool false]) (res_cell_tmp Try.results16 _ _ w.heap.size 45 _ (0, 0) _ _ rfl rfl (heap_alloc_new w _) Try.underlying45 rfl sizeSc) rfl ⟨_, by rw [HSI.out]; rfl, ?_, (Below.refl _ _).alloc (Nat.le_refl _) _⟩
      rw [show fnd l nm = sc0 by unfold fnd; rw [HSI.out]; rfl]
      exact ScV.zero _ _
end Go.Proofs.Ytalelgnooemooaa
