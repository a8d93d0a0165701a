/- Few of the statements of layer 4; what the document knows of types; what package lay says of fields. Conditions: each theorem's. -/
import Derived.Test.YtalelgnooemooaaLayB
namespace Go.Proofs.Ytalelgnooemooaa
open Go.RowKit
set_option linter.unusedVariables false
set_option linter.unusedSimpArgs false
set_option maxRecDepth 10000
open Py
namespace Py
theorem fewS_eq (s : Sc) : fewS s = (!decide (30 < (s.fs.length : Int)) && !decide (100 < (s.nm.size : Int))) := by
  unfold fewS
  have e1 : (30 < (s.fs.length : Int)) ↔ ¬ s.fs.length ≤ 30 := by omega
  have e2 : (100 < (s.nm.size : Int)) ↔ ¬ s.nm.size ≤ 100 := by omega
  simp only [e1, e2]
  by_cases a : s.fs.length ≤ 30 <;> by_cases b : s.nm.size ≤ 100 <;> simp [a, b]
theorem few_no {l : List Sc} {j : Nat} (hj : j < l.length) (h : fewS (l.getD j sc0) = false) : few l = false := by
  have hm : l.getD j sc0 ∈ l := by
    have e : l.getD j sc0 = l[j] := by simp [List.getD, hj]
    rw [e]; exact List.getElem_mem hj
  unfold few
  have : l.all fewS = false := by
    rw [List.all_eq_false]; exact ⟨_, hm, by rw [h]; simp⟩
  rw [this, Bool.and_false]
theorem few_yes {l : List Sc} (h0 : l.length ≤ 40) (h : ∀ i, i < l.length → fewS (l.getD i sc0) = true) : few l = true := by
  unfold few
  rw [decide_eq_true h0, Bool.true_and, List.all_eq_true]
  intro x hx
  obtain ⟨i, hi, rfl⟩ := List.getElem_of_mem hx
  have := h i hi
  simpa [List.getD, hi] using this
/-- The first of n that is wrong. -/
def fb (p : Nat → Int × Int) : Nat → Int × Int
  | 0 => (0, 0)
  | n + 1 => if (fb p n).2 ≠ 0 then fb p n else p n
theorem fb_none (p : Nat → Int × Int) (n : Nat) (h : ∀ j, j < n → (p j).2 = 0) (h0 : ∀ j, j < n → (p j).2 = 0 → (p j).1 = 0) : fb p n = (0, 0) := by
  induction n with
  | zero => rfl
  | succ n ih =>
    rw [fb, ih (fun j hj => h j (by omega)) (fun j hj => h0 j (by omega)), if_neg (by simp)]
    exact Prod.ext (h0 n (by omega) (h n (by omega))) (h n (by omega))
theorem fb_hit (p : Nat → Int × Int) (n k : Nat) (hk : k < n) (h : ∀ j, j < k → (p j).2 = 0) (h0 : ∀ j, j < k → (p j).2 = 0 → (p j).1 = 0) (h1 : (p k).2 ≠ 0) : fb p n = p k := by
  induction n with
  | zero => omega
  | succ n ih =>
    rw [fb]
    by_cases hkn : k = n
    · subst hkn
      rw [fb_none p k h h0, if_neg (by simp)]
    · rw [ih (by omega), if_pos h1]
/-- Is a field wrong, by those ahead of it? -/
def fldB (l : List Sc) (fs : List Fe) (k : Nat) : Int × Int :=
  if 0 ≤ fIdx (fs.take k) (fs.getD k fd0).nm ∨ ((fs.getD k fd0).ty.ba = 4 ∧ sIdx l (fs.getD k fd0).ty.sn < 0) then ((fs.getD k fd0).at_, 13)
  else if mayBe l (fs.getD k fd0).ty = true then (0, 0) else ((fs.getD k fd0).at_, 14)
def chkF (l : List Sc) (fs : List Fe) : Int × Int := fb (fldB l fs) fs.length
def strB (l : List Sc) (k : Nat) : Int × Int :=
  if 0 ≤ sIdx (l.take k) (l.getD k sc0).nm then ((l.getD k sc0).at_, 13)
  else if (l.getD k sc0).fs.length = 0 ∨ 12 < (l.getD k sc0).fs.length then ((l.getD k sc0).at_, 3)
  else chkF l (l.getD k sc0).fs
def chk (l : List Sc) : Int × Int := if 20 < l.length then ((l.getD 20 sc0).at_, 3) else fb (strB l) l.length
theorem fldB_z (l : List Sc) (fs : List Fe) (k : Nat) (h : (fldB l fs k).2 = 0) : (fldB l fs k).1 = 0 := by
  unfold fldB at h ⊢
  split
  · rename_i hc; rw [if_pos hc] at h; exact absurd h (by simp)
  · rename_i hc
    rw [if_neg hc] at h
    split
    · rfl
    · rename_i hd; rw [if_neg hd] at h; exact absurd h (by simp)
theorem chkF_z (l : List Sc) (fs : List Fe) (h : (chkF l fs).2 = 0) : (chkF l fs).1 = 0 := by
  unfold chkF at h ⊢
  generalize fs.length = n at *
  induction n with
  | zero => rfl
  | succ n ih =>
    rw [fb] at h ⊢
    split
    · rename_i hc; rw [if_pos hc] at h; exact absurd h hc
    · rename_i hc; rw [if_neg hc] at h; exact fldB_z _ _ _ h
theorem strB_z (l : List Sc) (k : Nat) (h : (strB l k).2 = 0) : (strB l k).1 = 0 := by
  unfold strB at h ⊢
  split
  · rename_i hc; rw [if_pos hc] at h; exact absurd h (by simp)
  · rename_i hc
    rw [if_neg hc] at h
    split
    · rename_i hd; rw [if_pos hd] at h; exact absurd h (by simp)
    · rename_i hd; rw [if_neg hd] at h; exact chkF_z _ _ h
end Py
set_option maxHeartbeats 4000000 in
theorem few_any {w : World} {B : Nat} {A : Option Addr} {c : Nat} {l : List Sc} (hS : ScsAt w B A l) (hB : B ≤ w.heap.size) :
    Calls Try.prog 12 #[.slice A l.length c] w fun e w' => e = .returned (.bool (few l)) ∧ Below w.heap.size w w' := by
  go_enter Try.func12, Try.ntmps12
  by_cases h40 : l.length ≤ 40
  · have h1 : decide (40 < (l.length : Int)) = false := by simp; omega
    go_wp2
    go_loopw [10] (fun k wr => ∃ j : Nat, j ≤ l.length ∧ k = .int .i64 j ∧ (∀ i, i < j → fewS (l.getD i sc0) = true) ∧ Below w.heap.size w wr) (fun k _ => l.length - (intOf k).toNat)
    case atStart => exact ⟨0, Nat.zero_le _, rfl, fun i hi => by omega, Below.refl _ _⟩
    case round =>
      obtain ⟨j, hj, rfl, hno, hbe⟩ := hrel
      by_cases hlt : j < l.length
      · obtain ⟨g, o, rfl, hg, hrg⟩ := hS (by omega)
        obtain ⟨fA, fc, hfc, hfm, hr, hfd⟩ := hrg j hlt
        have hr' := range_keep hr (Nat.lt_of_lt_of_le hg hB) hbe
        have dj0 : (0 : Int) ≤ (j : Int) := by omega
        have dj1 : (j : Int) < (l.length : Int) := by omega
        clear hr hrg hfd
        have hfew := few_no hlt
        generalize hs : l.getD j sc0 = s at *
        have hb2 := hbe.alloc hbe.size (.cells #[.string s.nm, .slice fA s.fs.length fc, .int .i64 s.at_] 45)
        have hfs := fewS_eq s
        cases hA : decide (30 < (s.fs.length : Int)) <;> cases hC : decide (100 < (s.nm.size : Int))
        all_goals
          rw [hA, hC] at hfs
          go_wp2_with (refine wpList_load_mid (op := ⟨some 13, _, _, _, _, _⟩) rfl 45 (.tmp 12) rfl g (o + j * 3) rfl [.string s.nm, .slice fA s.fs.length fc, .int .i64 s.at_] _ hr' Try.underlying45 rfl sizeSc ?_)
        · refine ⟨⟨j + 1, by omega, by go_num, fun i hi => ?_, hb2⟩, by simp [intOf]; omega⟩
          rcases Nat.lt_or_ge i j with h | h
          · exact hno i h
          · obtain rfl : i = j := by omega
            rw [hs]; exact hfs
        all_goals
          go_ret
          exact ⟨by rw [hfew hfs]; rfl, hb2⟩
      · obtain rfl : j = l.length := by omega
        have hy := few_yes h40 hno
        go_wp2
        go_ret
        exact ⟨by rw [hy]; rfl, hbe⟩
  · have h1 : decide (40 < (l.length : Int)) = true := by simp; omega
    have hn : few l = false := by unfold few; rw [decide_eq_false h40]; rfl
    go_wp2
    go_ret
    exact ⟨by rw [hn]; rfl, Below.refl _ _⟩
set_option maxHeartbeats 2000000 in
theorem rknown_any {w : World} {B : Nat} {A : Option Addr} {c : Nat} {l : List Sc} (t : Ty) (hS : ScsAt w B A l) (hB : B ≤ w.heap.size) (hl : l.length ≤ 1099511627776) :
    Calls Try.prog 25 #[.slice A l.length c, .agg #[.int .i64 t.ba, .int .i64 t.st, .string t.sn]] w fun e w' => e = .returned (.bool (known l t)) ∧ Below w.heap.size w w' := by
  have hb0 := (Below.refl w.heap.size w).alloc (Nat.le_refl _) (.cells #[.int .i64 t.ba, .int .i64 t.st, .string t.sn] 24)
  have hS0 := hS.keep hb0 hB
  obtain ⟨ba, st, sn⟩ := t
  dsimp only at *
  have k1 : st < 0 ∨ 4 < st → known l ⟨ba, st, sn⟩ = false := fun h => by unfold known; rw [if_pos h]
  have k2 : ¬ (st < 0 ∨ 4 < st) → known l ⟨ba, st, sn⟩ = if ba = 4 then decide (0 ≤ sIdx l sn) else (decide (0 ≤ ba) && decide (ba ≤ 3)) && sn.toList.isEmpty := fun h => by unfold known; rw [if_neg h]
  go_enter Try.func25, Try.ntmps25
  by_cases hst : st < 0 ∨ 4 < st
  · rw [k1 hst]
    clear k1 k2
    rcases hst with h | h
    · have h1 : decide (st < 0) = true := by simpa using h
      go_wp2
      go_ret
      exact ⟨rfl, hb0⟩
    · have h1 : decide (st < 0) = false := by simp; omega
      have h2 : decide (4 < st) = true := by simpa using h
      go_wp2
      go_ret
      exact ⟨rfl, hb0⟩
  · have h1 : decide (st < 0) = false := by simp; omega
    have h2 : decide (4 < st) = false := by simp; omega
    rw [k2 hst]
    clear k1 k2
    by_cases h4 : ba = 4
    · subst h4
      rw [if_pos rfl]
      go_wp2_with fail
      refine (find_any sn hS0 (by simp only [szA]; omega) hl).mono ?_
      rintro e w2 ⟨v, rfl, ⟨fA, fc, rfl, -⟩, h2⟩
      have hb2 := hb0.trans (h2.mono (by simp only [szA]; omega))
      generalize fnd l sn = s
      go_wp2
      go_ret
      exact ⟨rfl, hb2.alloc hb2.size _⟩
    · rw [if_neg h4]
      have h4' : (ba == 4) = false := by simpa using h4
      by_cases ha : ba < 0
      · have e1 : decide (ba < 0) = true := decide_eq_true ha
        rw [show decide (0 ≤ ba) = false from decide_eq_false (by omega)]
        go_wp2
        go_ret
        exact ⟨rfl, hb0⟩
      · have e1 : decide (ba < 0) = false := decide_eq_false ha
        rw [show decide (0 ≤ ba) = true from decide_eq_true (by omega)]
        by_cases hc : 4 < ba
        · have e2 : decide (4 < ba) = true := decide_eq_true hc
          rw [show decide (ba ≤ 3) = false from decide_eq_false (by omega)]
          go_wp2
          go_ret
          exact ⟨rfl, hb0⟩
        · have e2 : decide (4 < ba) = false := decide_eq_false hc
          rw [show decide (ba ≤ 3) = true from decide_eq_true (by omega)]
          go_wp2
          go_ret
          exact ⟨rfl, hb0⟩
end Go.Proofs.Ytalelgnooemooaa
