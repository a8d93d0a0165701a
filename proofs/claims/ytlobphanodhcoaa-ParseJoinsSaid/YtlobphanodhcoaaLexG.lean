/- The signs and tokens of package lex. Conditions: each theorem's. -/
import Derived.Test.YtlobphanodhcoaaLexF
import Derived.Test.YtlobphanodhcoaaLexN
import Derived.Laws.IdiomCopy
namespace Go.Proofs.Ytlobphanodhcoaa
open Go.RowKit Go.Maps
set_option linter.unusedVariables false
set_option linter.unusedSimpArgs false
set_option maxRecDepth 10000
open Lx
namespace Lx
def sgW (l : List UInt8) : Nat := if 0 < sgV (bt (l.getD 0 0)) (bt (l.getD 1 0)) then (sgV (bt (l.getD 0 0)) (bt (l.getD 1 0))).toNat else (sgV (bt (l.getD 0 0)) 0).toNat
def tokV (l : List UInt8) : Int × Nat := if dg (bt (l.getD 0 0)) = true ∨ bt (l.getD 0 0) = 39 then (2, nbV l) else if nm (bt (l.getD 0 0)) then nwV l else (3, sgW l)
end Lx
/-- copy into a new block from a string. -/
theorem run_copy_str {P : Program} (w : World) (dT sT ty elem : TypeId) (b o dLen dCap : Nat) (s : ByteArray) (cs : List Value)
    (hu : P.underlying dT = some (.slice elem)) (hs : (P.info? elem).map (·.size) = some 1) (hcs : (s.data.toList.map fun b => Value.int .u8 b.toNat).take (Nat.min s.size dLen) = cs)
    (hc : ∀ j, j < cs.length → (w.cell? ⟨b, o + j, none⟩).isSome = true) (hf : ∀ j, j < cs.length → w.frozen? ⟨b, o + j, none⟩ = false) (h1 : ∀ v ∈ cs, v.oneCell' = true) :
    (Builtin.copy_ #[dT, sT] ty #[.slice (some ⟨b, o, none⟩) dLen dCap, .string s]).run P w = .ok (goInt (Nat.min s.size dLen)) (w.setCells b o cs) := by
  have hst := run_storeCells_cells (P := P) b o cs 0 w (by simpa using hc) (by simpa using hf) h1
  rw [← hcs] at hst
  cases hq : P.info? elem with
  | none => simp [hq] at hs
  | some i =>
    have hi : i.size = 1 := by simpa [hq] using hs
    subst hcs
    simp only [Nat.add_zero] at hst
    simp [Builtin.copy_, run_underlying hu, Builtin.lenOf, Builtin.firstCells, sizeOf, typeInfo, hq, hi, hst]
theorem infoB : (Try.prog.info? 5).map (·.size) = some 1 := by kernel_rfl
theorem copy_pair (s : ByteArray) (w : World) (h0 : 0 < s.size) :
    (Builtin.copy_ #[87, 9] 3 #[.slice (some ⟨w.heap.size, 0, none⟩) 2 2, .string s]).run Try.prog (w.alloc (.cells #[.int .u8 0, .int .u8 0] 77)) = .ok (goInt (Nat.min s.size 2)) (w.alloc (.cells #[.int .u8 (bt (s.data.toList.getD 0 0)), .int .u8 (bt (s.data.toList.getD 1 0))] 77)) := by
  have hsz := sz s
  have hnew := heap_alloc_new w (.cells #[.int .u8 0, .int .u8 0] 77)
  have c0 : (w.alloc (.cells #[.int .u8 0, .int .u8 0] 77)).cell? ⟨w.heap.size, 0, none⟩ = some (.int .u8 0) := by rw [cell_of_row _ _ _ _ _ _ hnew]; rfl
  have c1 : (w.alloc (.cells #[.int .u8 0, .int .u8 0] 77)).cell? ⟨w.heap.size, 1, none⟩ = some (.int .u8 0) := by rw [cell_of_row _ _ _ _ _ _ hnew]; rfl
  have f := fun j => frozen_of_row (w.alloc (.cells #[.int .u8 0, .int .u8 0] 77)) w.heap.size j _ _ hnew
  cases hl : s.data.toList with
  | nil => rw [hl] at hsz; simp at hsz; omega
  | cons x r =>
    cases r with
    | nil =>
      have h1 : s.size = 1 := by rw [hl] at hsz; simpa using hsz.symm
      rw [run_copy_str _ _ _ _ 5 w.heap.size 0 2 2 s [.int .u8 (bt x)] Try.underlying87 infoB (by rw [hl, h1]; rfl) (fun j hj => by simp at hj; subst hj; rw [Nat.zero_add, c0]; rfl) (fun j hj => by rw [Nat.zero_add]; exact f j) (by simp [Value.oneCell'])]
      rw [World.setCells, World.setCells, World.setCell_alloc_new]
      rfl
    | cons y r =>
      have h2 : Nat.min s.size 2 = 2 := by rw [hl] at hsz; simp at hsz; exact Nat.min_eq_right (by omega)
      rw [run_copy_str _ _ _ _ 5 w.heap.size 0 2 2 s [.int .u8 (bt x), .int .u8 (bt y)] Try.underlying87 infoB (by rw [hl, h2]; rfl) (fun j hj => by
        have : j = 0 ∨ j = 1 := by simp at hj; omega
        rcases this with rfl | rfl
        · rw [Nat.zero_add, c0]; rfl
        · rw [Nat.zero_add, c1]; rfl) (fun j hj => by rw [Nat.zero_add]; exact f j) (by simp [Value.oneCell'])]
      rw [World.setCells, World.setCells, World.setCells, World.setCell_alloc_new, World.setCell_alloc_new]
      rfl
theorem zeroI (w : World) : (zeroValue 3).run Try.prog w = .ok (.int .i64 0) w := by kernel_rfl
theorem sg_find {w : World} {b : Nat} {x y : Int} (h : SgAt w b) (x0 : 0 ≤ x) (x1 : x ≤ 255) (y0 : 0 ≤ y) (y1 : y ≤ 255) : (Instr.lookup 67 (.map (some b)) (.agg #[.int .u8 x, .int .u8 y]) false).run Try.prog w = .ok (.int .i64 (sgV x y)) w := by
  obtain ⟨D, n, hown, hat⟩ := h
  obtain ⟨c, hrun, hc, _⟩ := hown.lookup_int lawPair Try.underlying67 Try.underlying3 (zeroI w) (key_pair x0 x1 y0 y1)
  rw [hat x y x0 x1 y0 y1] at hc
  injection hc with hc
  injection hc with _ hc
  rw [hc]
  exact hrun
theorem sgV_range (x y : Int) : 0 ≤ sgV x y ∧ sgV x y ≤ 2 := by
  by_cases h : ∃ k, k < 31 ∧ sgA k = x ∧ sgB k = y
  · obtain ⟨k, hk, rfl, rfl⟩ := h
    obtain ⟨_, _, _, _, r5, r6⟩ := sg_range k hk
    rw [r6]; omega
  · rw [sg_none (fun k hk e => h ⟨k, hk, e.1, e.2⟩)]; omega
set_option maxHeartbeats 1000000 in
theorem sign_any (s : ByteArray) (b : Nat) (w : World) (hs : s.size ≤ 1048576) (h0 : 0 < s.size) (hS : SgAt w b) :
    Calls Try.prog 25 #[.map (some b), .string s] w fun e w' => e = .returned (.int .i64 (sgW s.data.toList)) ∧ Below w.heap.size w w' := by
  have hsz := sz s
  have hcp := copy_pair s w h0
  have hr0 := bt_range (s.data.toList.getD 0 0)
  have hr1 := bt_range (s.data.toList.getD 1 0)
  have b0 := byte_at s 0 h0
  have hW := sgW.eq_1 s.data.toList
  have hx : bt (s.data.toList.getD 0 0) = (s[0].toNat : Int) := by rw [← b0]; rfl
  rw [hx] at hcp hr0 hW
  generalize bt (s.data.toList.getD 1 0) = y at *
  have HW := Lib.hid hW
  have l0 : (0 : Int) < (s.size : Int) := by omega
  clear hW hx b0
  have hB : Below w.heap.size w (w.alloc (.cells #[.int .u8 (s[0].toNat : Int), .int .u8 y] 77)) := (Below.refl _ _).alloc (Nat.le_refl _) _
  have hS2 := hS.keep hB hS.lt
  have hf1 := sg_find hS2 hr0.1 hr0.2 hr1.1 hr1.2
  have hf2 := sg_find (y := 0) hS2 hr0.1 hr0.2 (by omega) (by omega)
  have hv1 := sgV_range (s[0].toNat : Int) y
  have hv2 := sgV_range (s[0].toNat : Int) 0
  generalize sgV (s[0].toNat : Int) y = v1 at *
  generalize sgV (s[0].toNat : Int) 0 = v2 at *
  by_cases hp : 0 < v1
  · go_enter Try.func25, Try.ntmps25
    go_wp2
    go_ret
    refine ⟨retI ?_, hB⟩
    rw [HW.out, if_pos hp]
    show v1 = _
    omega
  · go_enter Try.func25, Try.ntmps25
    go_wp2
    go_ret
    refine ⟨retI ?_, hB⟩
    rw [HW.out, if_neg (by omega)]
    show v2 = _
    omega
set_option maxHeartbeats 1000000 in
theorem token_any (s : ByteArray) (b : Nat) (w : World) (hs : s.size ≤ 1048576) (h0 : 0 < s.size) (hS : SgAt w b) :
    Calls Try.prog 16 #[.map (some b), .string s] w fun e w' => e = .returned (.tuple #[.int .i64 (tokV s.data.toList).1, .int .i64 (tokV s.data.toList).2]) ∧ Below w.heap.size w w' := by
  have hsz := sz s
  have b0 := byte_at s 0 h0
  have l0 : (0 : Int) < (s.size : Int) := by omega
  have hr := bt_range s[0]
  have hT := tokV.eq_1 s.data.toList
  rw [← b0] at hT
  have HT := Lib.hid hT
  clear hT b0
  go_enter Try.func16, Try.ntmps16
  go_wp2_with fail
  refine (isDigit_any (bt s[0]) _ hr.1 hr.2).mono ?_
  rintro e w' ⟨rfl, rfl⟩
  cases hd : dg (bt s[0])
  · cases hq : ((s[0].toNat : Int) == 39)
    · have hor : ¬ (dg (bt s[0]) = true ∨ bt s[0] = 39) := by rw [hd]; simpa [bt] using hq
      go_wp2_with fail
      refine (nm_any (bt s[0]) _ hr.1 hr.2).mono ?_
      rintro e w' ⟨rfl, rfl⟩
      cases hn : nm (bt s[0])
      · have ht := HT.out
        rw [if_neg hor, hn, if_neg (by simp)] at ht
        have HT2 := Lib.hid ht
        clear ht HT hor hn hd
        go_wp2_with fail
        refine (sign_any s b _ hs h0 hS).mono ?_
        rintro e w' ⟨rfl, hb⟩
        go_wp2
        go_ret2
        exact ⟨by rw [HT2.out]; rfl, hb⟩
      · have ht := HT.out
        rw [if_neg hor, hn, if_pos rfl] at ht
        have HT2 := Lib.hid ht
        clear ht HT hor hn hd
        go_wp2_with fail
        refine (nameOrWord_any s _ hs).mono ?_
        rintro e w' ⟨rfl, rfl⟩
        go_wp2
        go_ret2
        exact ⟨by rw [HT2.out]; rfl, Below.refl _ _⟩
    · have ht := HT.out
      rw [if_pos (.inr (by simpa [bt] using hq))] at ht
      have HT2 := Lib.hid ht
      clear ht HT hd
      go_wp2_with fail
      refine (number_any s _ hs h0).mono ?_
      rintro e w' ⟨rfl, rfl⟩
      go_wp2
      go_ret2
      exact ⟨by rw [HT2.out]; rfl, Below.refl _ _⟩
  · have ht := HT.out
    rw [if_pos (.inl hd)] at ht
    have HT2 := Lib.hid ht
    clear ht HT hd
    go_wp2_with fail
    refine (number_any s _ hs h0).mono ?_
    rintro e w' ⟨rfl, rfl⟩
    go_wp2
    go_ret2
    exact ⟨by rw [HT2.out]; rfl, Below.refl _ _⟩
end Go.Proofs.Ytlobphanodhcoaa
