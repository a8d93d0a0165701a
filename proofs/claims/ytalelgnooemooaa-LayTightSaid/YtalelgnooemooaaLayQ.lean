/- Package lay: Of; the fixed fact of layer 4's statements. Conditions: each theorem's. -/
import Derived.Test.YtalelgnooemooaaLayO
import Derived.Test.YtalelgnooemooaaLayA
import Derived.Deep.RegionHeld3
namespace Go.Proofs.Ytalelgnooemooaa
open Go.RowKit Go.Maps
set_option linter.unusedVariables false
set_option linter.unusedSimpArgs false
set_option maxRecDepth 10000
open Py
/-- The fields of structs are of their Go types. -/
def ScsOk (l : List Sc) : Prop := ∀ i, i < l.length → (l.getD i sc0).fs.length ≤ 1048576 ∧ ∀ k, k < (l.getD i sc0).fs.length → tyOk ((l.getD i sc0).fs.getD k fd0).ty
theorem own_lower {w : World} {base base' size n : Nat} {e : TypeId} {v : Value} {xs : List Value} (h : w.ownsRow base e size v n xs) (hb : base' ≤ base) : w.ownsRow base' e size v n xs := by
  obtain ⟨hl, h⟩ := h
  refine ⟨hl, ?_⟩
  rcases h with h | ⟨g, cap, cur, h1, h2, h3⟩
  · exact .inl h
  · exact .inr ⟨g, cap, cur, h1, Nat.le_trans hb h2, h3⟩
abbrev ZLay : Array Value := #[.int .i64 0, .int .i64 0, .slice none 0 0]
set_option maxHeartbeats 4000000 in
theorem of_no {w : World} {B : Nat} {A : Option Addr} {c : Nat} {l : List Sc} (nm : ByteArray) (hS : ScsAt w B A l) (hB : B ≤ w.heap.size) (hl : l.length ≤ 1099511627776) (hi : sIdx l nm < 0) :
    Calls Try.prog 11 #[.slice A l.length c, .string nm] w fun e w' => e = .returned (.tuple #[.agg #[.int .i64 0, .int .i64 0, .slice none 0 0], .int .i64 13]) ∧ Below w.heap.size w w' := by
  have hb0 := (Below.refl w.heap.size w).alloc (Nat.le_refl _) (.cells #[.int .i64 0, .int .i64 0, .slice none 0 0] 50)
  have h1 : decide (sIdx l nm < 0) = true := decide_eq_true hi
  go_enter Try.func11, Try.ntmps11
  go_wp2_with fail
  refine (findStruct_any nm (hS.keep hb0 hB) (by simp only [szA]; omega) hl).mono ?_
  rintro e w2 ⟨rfl, h2⟩
  have hb2 := hb0.trans (h2.mono (by simp only [szA]; omega))
  have h4 := row_below2 h2 (heap_alloc_new w (.cells #[.int .i64 0, .int .i64 0, .slice none 0 0] 50)) (by simp)
  obtain ⟨r0, r1, r2⟩ := sc_cells3 h4
  obtain ⟨s0, s1, s2⟩ := sc_frozen3 h4
  go_wp2
  have a1 := heap_setCell_same _ w.heap.size 0 _ _ (.int .i64 0) h4
  have a2 := heap_setCell_same _ w.heap.size 1 _ _ (.int .i64 0) a1
  have a3 := heap_setCell_same _ w.heap.size 2 _ _ (.slice none 0 0) a2
  exact bodyPost_ret (v := .tuple #[.agg #[.int .i64 0, .int .i64 0, .slice none 0 0], .int .i64 13]) (res_cell_tmp Try.results11 _ _ w.heap.size 50 _ (0, 0) _ _ rfl rfl a3 Try.underlying50 rfl sizeLay) rfl ⟨rfl, ((hb2.setCell (Nat.le_refl _) _).setCell (Nat.le_refl _) _).setCell (Nat.le_refl _) _⟩
set_option maxHeartbeats 4000000 in
theorem of_yes {w : World} {B i : Nat} {A : Option Addr} {c : Nat} {l : List Sc} (nm : ByteArray) (hS : ScsAt w B A l) (hB : B ≤ w.heap.size) (hl : l.length ≤ 1099511627776) (hi : sIdx l nm = i) (hok : ScsOk l) :
    Calls Try.prog 11 #[.slice A l.length c, .string nm] w fun e w' => ∃ ov, e = .returned (.tuple #[.agg #[.int .i64 (layV (l.getD i sc0).fs).size, .int .i64 (layV (l.getD i sc0).fs).line, ov], .int .i64 0]) ∧ w'.ownsRow w.heap.size 3 1 ov (l.getD i sc0).fs.length (ints (layV (l.getD i sc0).fs).offs) ∧ Below w.heap.size w w' := by
  have hb0 := (Below.refl w.heap.size w).alloc (Nat.le_refl _) (.cells #[.int .i64 0, .int .i64 0, .slice none 0 0] 50)
  have hir : i < l.length := by have := (idx_range (fun s : Sc => s.nm.toList == nm.toList) l).2; rw [show idx (fun s : Sc => s.nm.toList == nm.toList) l = (i : Int) from hi] at this; omega
  have h1 : decide ((i : Int) < 0) = false := decide_eq_false (by omega)
  obtain ⟨hf40, hty⟩ := hok i hir
  go_enter Try.func11, Try.ntmps11
  go_wp2_with fail
  refine (findStruct_any nm (hS.keep hb0 hB) (by simp only [szA]; omega) hl).mono ?_
  rintro e w2 ⟨rfl, h2⟩
  rw [hi]
  have hb2 := hb0.trans (h2.mono (by simp only [szA]; omega))
  have h4 := row_below2 h2 (heap_alloc_new w (.cells #[.int .i64 0, .int .i64 0, .slice none 0 0] 50)) (by simp)
  have hS2 := hS.keep hb2 hB
  obtain ⟨g, o, rfl, hg, hrg⟩ := hS2 (by omega)
  obtain ⟨fA, fc, hf1, hf2, hr, hfd⟩ := hrg i hir
  have hc1 : w2.cell? ⟨g, o + i * 3 + 1, none⟩ = some (.slice fA (l.getD i sc0).fs.length fc) := hr 1 _ rfl
  have dj0 : (0 : Int) ≤ (i : Int) := by omega
  have dj1 : (i : Int) < (l.length : Int) := by omega
  have hz2 := hb2.size
  have hgl : g < w2.heap.size := by omega
  have hl4 := lt_of_row h4
  have hgne : w.heap.size ≠ g := by omega
  clear hrg hr h2 hb0
  generalize hs : l.getD i sc0 = s at *
  go_wp2_with fail
  go_region_held3 (fun W => W.cell? ⟨g, o + i * 3 + 1, none⟩ = some (.slice fA s.fs.length fc)) (first | go_keep | (simp [*])) (first
    | (go_at_call 21; refine (numbers_any _).mono ?_; rintro e w3 ⟨rfl, hN3, hb3⟩; have hw3 : w3.cell? ⟨g, o + i * 3 + 1, none⟩ = some (.slice fA s.fs.length fc) := (hb3.cell (p := ⟨g, o + i * 3 + 1, none⟩) (by show g < w2.heap.size; omega)).trans hc1)
    | (go_at_call 24; refine (lay_any hN3 (hfd.keep ((Below.refl w2.heap.size w2).drew.trans hb3) (by show B ≤ w2.heap.size; omega)) (by have h9 : w2.heap.size ≤ w3.heap.size := hb3.size; omega) hf40 hty).mono ?_; rintro e w4 ⟨ov, rfl, hov, hb4⟩; obtain ⟨oA, on, oc, rfl⟩ := own_slice hov; have hw4 : w4.cell? ⟨g, o + i * 3 + 1, none⟩ = some (.slice fA s.fs.length fc) := (hb4.cell (p := ⟨g, o + i * 3 + 1, none⟩) (by show g < w3.heap.size; have h9 : w2.heap.size ≤ w3.heap.size := hb3.size; omega)).trans hw3; have h44 : w4.heap[w.heap.size]? = some (.cells #[.int .i64 0, .int .i64 0, .slice none 0 0] 50) := (hb4.block _ (by have h9 : w2.heap.size ≤ w3.heap.size := hb3.size; omega)).trans ((hb3.block _ hl4).trans h4); obtain ⟨z0, z1, z2⟩ := sc_cells3 h44; obtain ⟨y0, y1, y2⟩ := sc_frozen3 h44; have h44' := Lib.hid h44; clear h44))
  have h45 := h44'.out
  go_wp2
  have a1 := heap_setCell_same _ w.heap.size 0 _ _ (.int .i64 (layV s.fs).size) h45
  have a2 := heap_setCell_same _ w.heap.size 1 _ _ (.int .i64 (layV s.fs).line) a1
  have a3 := heap_setCell_same _ w.heap.size 2 _ _ (.slice oA on oc) a2
  have h9 : w2.heap.size ≤ w3.heap.size := hb3.size
  have hb23 : Below w2.heap.size w2 w3 := (Below.refl w2.heap.size w2).drew.trans hb3
  have hbA : Below w.heap.size w w4 := (hb2.trans (hb23.mono hb2.size)).trans (hb4.mono (by omega))
  refine bodyPost_ret (v := .tuple #[.agg #[.int .i64 (layV s.fs).size, .int .i64 (layV s.fs).line, .slice oA on oc], .int .i64 0]) (res_cell_tmp Try.results11 _ _ w.heap.size 50 _ (0, 0) _ _ rfl rfl a3 Try.underlying50 rfl sizeLay) rfl ⟨.slice oA on oc, by rw [hs], ?_, ((hbA.setCell (Nat.le_refl _) _).setCell (Nat.le_refl _) _).setCell (Nat.le_refl _) _⟩
  rw [hs]
  have hov' := own_lower (base' := w.heap.size) hov (by omega)
  refine ownsRow_at hov' fun g' cur _ hg' => ?_
  have n4 : g' ≠ w.heap.size := fun e => by subst e; rw [h45] at hg'; injection hg' with hg'; injection hg' with _ hg'; exact absurd hg' (by decide)
  rw [heap_setCell_other _ _ _ _ (by simpa using n4), heap_setCell_other _ _ _ _ (by simpa using n4), heap_setCell_other _ _ _ _ (by simpa using n4)]
  exact hg'
namespace Py
def awF : List Fe := [⟨⟨#[99]⟩, ⟨1, 0, ⟨#[]⟩⟩, 0⟩, ⟨⟨#[108]⟩, ⟨3, 0, ⟨#[]⟩⟩, 0⟩, ⟨⟨#[105]⟩, ⟨2, 0, ⟨#[]⟩⟩, 0⟩]
def awL : List Sc := [⟨⟨#[115]⟩, awF, 0⟩]
theorem aw_lay : (layV awF).size = 24 ∧ (layV awF).line = 8 ∧ (layV awF).offs = [0, 8, 16] := by decide +kernel
theorem aw_idx : sIdx awL ⟨#[115]⟩ = (0 : Nat) := by decide +kernel
end Py
theorem aw_ok : ScsOk awL := by
  intro i hi
  have h0 : i = 0 := by simp [awL] at hi; omega
  subst h0
  refine ⟨by decide, fun k hk => ?_⟩
  have hk3 : k = 0 ∨ k = 1 ∨ k = 2 := by simp [awL, awF] at hk; omega
  rcases hk3 with rfl | rfl | rfl
  · exact ⟨by decide, by decide, Nat.zero_le _⟩
  · exact ⟨by decide, by decide, Nat.zero_le _⟩
  · exact ⟨by decide, by decide, Nat.zero_le _⟩
theorem aw_at (w : World) : ScsAt ((w.alloc (.cells #[.string ⟨#[99]⟩, .int .i64 1, .int .i64 0, .string ⟨#[]⟩, .int .i64 0, .string ⟨#[108]⟩, .int .i64 3, .int .i64 0, .string ⟨#[]⟩, .int .i64 0, .string ⟨#[105]⟩, .int .i64 2, .int .i64 0, .string ⟨#[]⟩, .int .i64 0] 47)).alloc (.cells #[.string ⟨#[115]⟩, .slice (some ⟨w.heap.size, 0, none⟩) 3 3, .int .i64 0] 45)) (w.heap.size + 2) (some ⟨w.heap.size + 1, 0, none⟩) awL := by
  intro _
  refine ⟨w.heap.size + 1, 0, rfl, by omega, fun k hk => ?_⟩
  have h0 : k = 0 := by simp [awL] at hk; omega
  subst h0
  have e1 : ((w.alloc (.cells #[.string ⟨#[99]⟩, .int .i64 1, .int .i64 0, .string ⟨#[]⟩, .int .i64 0, .string ⟨#[108]⟩, .int .i64 3, .int .i64 0, .string ⟨#[]⟩, .int .i64 0, .string ⟨#[105]⟩, .int .i64 2, .int .i64 0, .string ⟨#[]⟩, .int .i64 0] 47)).alloc (.cells #[.string ⟨#[115]⟩, .slice (some ⟨w.heap.size, 0, none⟩) 3 3, .int .i64 0] 45)).heap[w.heap.size + 1]? = some (.cells #[.string ⟨#[115]⟩, .slice (some ⟨w.heap.size, 0, none⟩) 3 3, .int .i64 0] 45) := by rw [← szA w _]; exact heap_alloc_new _ _
  have e2 : ((w.alloc (.cells #[.string ⟨#[99]⟩, .int .i64 1, .int .i64 0, .string ⟨#[]⟩, .int .i64 0, .string ⟨#[108]⟩, .int .i64 3, .int .i64 0, .string ⟨#[]⟩, .int .i64 0, .string ⟨#[105]⟩, .int .i64 2, .int .i64 0, .string ⟨#[]⟩, .int .i64 0] 47)).alloc (.cells #[.string ⟨#[115]⟩, .slice (some ⟨w.heap.size, 0, none⟩) 3 3, .int .i64 0] 45)).heap[w.heap.size]? = some (.cells #[.string ⟨#[99]⟩, .int .i64 1, .int .i64 0, .string ⟨#[]⟩, .int .i64 0, .string ⟨#[108]⟩, .int .i64 3, .int .i64 0, .string ⟨#[]⟩, .int .i64 0, .string ⟨#[105]⟩, .int .i64 2, .int .i64 0, .string ⟨#[]⟩, .int .i64 0] 47) := by
    rw [Below.heap_alloc _ _ _ (by simp)]; exact heap_alloc_new _ _
  refine ⟨some ⟨w.heap.size, 0, none⟩, 3, Nat.le_refl _, by decide, fun j v hj => ?_, fun _ => ⟨w.heap.size, 0, rfl, by omega, fun k hk => ?_⟩⟩
  · rw [cell_of_row _ _ _ _ _ _ e1]
    have : j < 3 := by
      rcases Nat.lt_or_ge j 3 with h | h
      · exact h
      · rw [List.getElem?_eq_none (by simpa using h)] at hj; cases hj
    have hj3 : j = 0 ∨ j = 1 ∨ j = 2 := by omega
    rcases hj3 with rfl | rfl | rfl <;> exact hj
  · have hk3 : k = 0 ∨ k = 1 ∨ k = 2 := by simp [awL, awF] at hk; omega
    intro j v hj
    rw [cell_of_row _ _ _ _ _ _ e2]
    have : j < 5 := by
      rcases Nat.lt_or_ge j 5 with h | h
      · exact h
      · rw [List.getElem?_eq_none (by simpa using h)] at hj; cases hj
    have hj5 : j = 0 ∨ j = 1 ∨ j = 2 ∨ j = 3 ∨ j = 4 := by omega
    rcases hk3 with rfl | rfl | rfl <;> rcases hj5 with rfl | rfl | rfl | rfl | rfl <;> exact hj
set_option maxHeartbeats 2000000 in
theorem awake_any (w : World) : Calls Try.prog 6 #[] w fun e w' => e = .returned (.bool true) ∧ Below w.heap.size w w' := by
  go_enter Try.func6, Try.ntmps6
  go_wp2_with fail
  refine (of_yes (B := w.heap.size + 2) (i := 0) (l := awL) ⟨#[115]⟩ (aw_at w) (by simp) (by decide) aw_idx aw_ok).mono ?_
  rintro e w2 ⟨ov, rfl, hov, hb⟩
  have e : (awL.getD 0 sc0).fs = awF := rfl
  rw [e, aw_lay.2.2] at hov
  rw [e, aw_lay.1, aw_lay.2.1]
  have hb2 : Below w.heap.size w w2 := (((Below.refl _ _).alloc (Nat.le_refl _) _).alloc (by simp) _).trans (hb.mono (by simp only [szA]; omega))
  clear hb e
  have hon : ∃ g cap, ov = .slice (some ⟨g, 0, none⟩) 3 cap ∧ (w2.alloc (.cells #[.int .i64 24, .int .i64 8, ov] 50)).cell? ⟨g, 1, none⟩ = some (.int .i64 8) ∧ (w2.alloc (.cells #[.int .i64 24, .int .i64 8, ov] 50)).cell? ⟨g, 2, none⟩ = some (.int .i64 16) := by
    rcases hov.2 with ⟨rfl, hn⟩ | ⟨g, cap, cur, rfl, hg, hh, hnc, _, hsz, htk⟩
    · cases hn
    · have hlt := lt_of_row hh
      refine ⟨g, cap, rfl, ?_, ?_⟩
      · rw [World.cell?_alloc_lt _ _ _ (by show g < w2.heap.size; exact hlt), cell_of_row w2 g 1 _ _ _ hh]
        have h1 : (ints [0, 8, 16])[1]? = some (.int .i64 8) := rfl
        rw [← htk, List.getElem?_take] at h1
        split at h1
        · simpa using h1
        · cases h1
      · rw [World.cell?_alloc_lt _ _ _ (by show g < w2.heap.size; exact hlt), cell_of_row w2 g 2 _ _ _ hh]
        have h1 : (ints [0, 8, 16])[2]? = some (.int .i64 16) := rfl
        rw [← htk, List.getElem?_take] at h1
        split at h1
        · simpa using h1
        · cases h1
  obtain ⟨g, cap, rfl, c1, c2⟩ := hon
  clear hov
  go_wp2
  go_ret
  exact ⟨rfl, hb2.alloc hb2.size _⟩
end Go.Proofs.Ytalelgnooemooaa
