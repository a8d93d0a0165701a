/- What holds of all tokens of a text. No condition. -/
import Derived.Test.YtfjobnljdkiihaaGreatDoorQtLexF
import Derived.Test.YtfjobnljdkiihaaGreatDoorQtLexN
import Derived.Laws.IdiomCopy
import Derived.WalkSmall
import Derived.Deep.AppendLies
import Derived.Laws.OwnMore
import Derived.OwnWalk
import Derived.Deep.MidRow
import Derived.Laws.Rows
namespace Go.Proofs.YtfjobnljdkiihaaGreatDoor
open Go.RowKit Go.Maps
set_option linter.unusedVariables false
set_option linter.unusedSimpArgs false
set_option maxRecDepth 10000
open Lx
namespace Lx
def sgW (l : List UInt8) : Nat := if 0 < sgV (bt (l.getD 0 0)) (bt (l.getD 1 0)) then (sgV (bt (l.getD 0 0)) (bt (l.getD 1 0))).toNat else (sgV (bt (l.getD 0 0)) 0).toNat
def tokV (l : List UInt8) : Int × Nat := if dg (bt (l.getD 0 0)) = true ∨ bt (l.getD 0 0) = 39 then (2, nbV l) else if nm (bt (l.getD 0 0)) then nwV l else (3, sgW l)
end Lx
theorem run_copy_str {P : Program} (w : World) (dT sT ty elem : TypeId) (b o dLen dCap : Nat) (s : ByteArray) (cs : List Value)
  (hu : P.underlying dT = some (.slice elem)) (hs : (P.info? elem).map (·.size) = some 1) (hcs : (s.data.toList.map fun b => Value.int .u8 b.toNat).take (Nat.min s.size dLen) = cs)
  (hc : ∀ j, j < cs.length → (w.cell? ⟨b, o + j, none⟩).isSome = true) (hf : ∀ j, j < cs.length → w.frozen? ⟨b, o + j, none⟩ = false) (h1 : ∀ v ∈ cs, v.oneCell' = true) :
  (Builtin.copy_ #[dT, sT] ty #[.slice (some ⟨b, o, none⟩) dLen dCap, .string s]).run P w = .ok (goInt (Nat.min s.size dLen)) (w.setCells b o cs) := by
 have hst := run_storeCells_cells (P := P) b o cs 0 w (by simpa using hc) (by simpa using hf) h1
 rw [← hcs] at hst
 cases hq : P.info? elem with
 | none => simp [hq] at hs
 | some i =>
  have hi : i.size = 1 := by simpa [hq] using hs
  subst hcs
  simp only [Nat.add_zero] at hst
  simp [Builtin.copy_, run_underlying hu, Builtin.lenOf, Builtin.firstCells, sizeOf, typeInfo, hq, hi, hst]
theorem infoB : (Tryz.prog.info? 5).map (·.size) = some 1 := by kernel_rfl
theorem copy_pair (s : ByteArray) (w : World) (h0 : 0 < s.size) :
  (Builtin.copy_ #[51, 9] 3 #[.slice (some ⟨w.heap.size, 0, none⟩) 2 2, .string s]).run Tryz.prog (w.alloc (.cells #[.int .u8 0, .int .u8 0] 101)) = .ok (goInt (Nat.min s.size 2)) (w.alloc (.cells #[.int .u8 (bt (s.data.toList.getD 0 0)), .int .u8 (bt (s.data.toList.getD 1 0))] 101)) := by
 have hsz := sz s
 have hnew := heap_alloc_new w (.cells #[.int .u8 0, .int .u8 0] 101)
 have c0 : (w.alloc (.cells #[.int .u8 0, .int .u8 0] 101)).cell? ⟨w.heap.size, 0, none⟩ = some (.int .u8 0) := by rw [cell_of_row _ _ _ _ _ _ hnew]; rfl
 have c1 : (w.alloc (.cells #[.int .u8 0, .int .u8 0] 101)).cell? ⟨w.heap.size, 1, none⟩ = some (.int .u8 0) := by rw [cell_of_row _ _ _ _ _ _ hnew]; rfl
 have f := fun j => frozen_of_row (w.alloc (.cells #[.int .u8 0, .int .u8 0] 101)) w.heap.size j _ _ hnew
 cases hl : s.data.toList with
 | nil => rw [hl] at hsz; simp at hsz; omega
 | cons x r =>
  cases r with
  | nil =>
   have h1 : s.size = 1 := by rw [hl] at hsz; simpa using hsz.symm
   rw [run_copy_str _ _ _ _ 5 w.heap.size 0 2 2 s [.int .u8 (bt x)] Tryz.underlying51 infoB (by rw [hl, h1]; rfl) (fun j hj => by simp at hj; subst hj; rw [Nat.zero_add, c0]; rfl) (fun j hj => by rw [Nat.zero_add]; exact f j) (by simp [Value.oneCell'])]
   rw [World.setCells, World.setCells, World.setCell_alloc_new]
   rfl
  | cons y r =>
   have h2 : Nat.min s.size 2 = 2 := by rw [hl] at hsz; simp at hsz; exact Nat.min_eq_right (by omega)
   rw [run_copy_str _ _ _ _ 5 w.heap.size 0 2 2 s [.int .u8 (bt x), .int .u8 (bt y)] Tryz.underlying51 infoB (by rw [hl, h2]; rfl) (fun j hj => by
    have : j = 0 ∨ j = 1 := by simp at hj; omega
    rcases this with rfl | rfl
    ·rw [Nat.zero_add, c0]; rfl
    ·rw [Nat.zero_add, c1]; rfl) (fun j hj => by rw [Nat.zero_add]; exact f j) (by simp [Value.oneCell'])]
   rw [World.setCells, World.setCells, World.setCells, World.setCell_alloc_new, World.setCell_alloc_new]
   rfl
theorem zeroI (w : World) : (zeroValue 3).run Tryz.prog w = .ok (.int .i64 0) w := by kernel_rfl
theorem sg_find {w : World} {b : Nat} {x y : Int} (h : SgAt w b) (x0 : 0 ≤ x) (x1 : x ≤ 255) (y0 : 0 ≤ y) (y1 : y ≤ 255) : (Instr.lookup 81 (.map (some b)) (.agg #[.int .u8 x, .int .u8 y]) false).run Tryz.prog w = .ok (.int .i64 (sgV x y)) w := by
 obtain ⟨D, n, hown, hat⟩ := h
 obtain ⟨c, hrun, hc, _⟩ := hown.lookup_int lawPair Tryz.underlying81 Tryz.underlying3 (zeroI w) (key_pair x0 x1 y0 y1)
 rw [hat x y x0 x1 y0 y1] at hc
 injection hc with hc
 injection hc with _ hc
 rw [hc]
 exact hrun
theorem sgV_range (x y : Int) : 0 ≤ sgV x y ∧ sgV x y ≤ 2 := by
 by_cases h : ∃ k, k < 31 ∧ sgA k = x ∧ sgB k = y
 ·obtain ⟨k, hk, rfl, rfl⟩ := h
  obtain ⟨_, _, _, _, r5, r6⟩ := sg_range k hk
  rw [r6]; omega
 ·rw [sg_none (fun k hk e => h ⟨k, hk, e.1, e.2⟩)]; omega
set_option maxHeartbeats 1000000 in
theorem sign_any (s : ByteArray) (b : Nat) (w : World) (hs : s.size ≤ 1048576) (h0 : 0 < s.size) (hS : SgAt w b) :
  Calls Tryz.prog 40 #[.map (some b), .string s] w fun e w' => e = .returned (.int .i64 (sgW s.data.toList)) ∧ Below w.heap.size w w' := by
 have hsz := sz s
 have hcp := copy_pair s w h0
 have hr0 := bt_range (s.data.toList.getD 0 0)
 have hr1 := bt_range (s.data.toList.getD 1 0)
 have b0 := byte_at s 0 h0
 have hW := sgW.eq_1 s.data.toList
 have hx : bt (s.data.toList.getD 0 0) = (s[0].toNat : Int) := by rw [← b0]; rfl
 rw [hx] at hcp hr0 hW
 generalize bt (s.data.toList.getD 1 0) = y at *
 have HW := Lib.hid hW
 have l0 : (0 : Int) < (s.size : Int) := by omega
 clear hW hx b0
 have hB : Below w.heap.size w (w.alloc (.cells #[.int .u8 (s[0].toNat : Int), .int .u8 y] 101)) := (Below.refl _ _).alloc (Nat.le_refl _) _
 have hS2 := hS.keep hB hS.lt
 have hf1 := sg_find hS2 hr0.1 hr0.2 hr1.1 hr1.2
 have hf2 := sg_find (y := 0) hS2 hr0.1 hr0.2 (by omega) (by omega)
 have hv1 := sgV_range (s[0].toNat : Int) y
 have hv2 := sgV_range (s[0].toNat : Int) 0
 generalize sgV (s[0].toNat : Int) y = v1 at *
 generalize sgV (s[0].toNat : Int) 0 = v2 at *
 by_cases hp : 0 < v1
 ·go_enter Tryz.func40, Tryz.ntmps40
  go_wp2
  go_ret
  refine ⟨retI ?_, hB⟩
  rw [HW.out, if_pos hp]
  show v1 = _
  omega
 ·go_enter Tryz.func40, Tryz.ntmps40
  go_wp2
  go_ret
  refine ⟨retI ?_, hB⟩
  rw [HW.out, if_neg (by omega)]
  show v2 = _
  omega
set_option maxHeartbeats 1000000 in
theorem token_any (s : ByteArray) (b : Nat) (w : World) (hs : s.size ≤ 1048576) (h0 : 0 < s.size) (hS : SgAt w b) :
  Calls Tryz.prog 23 #[.map (some b), .string s] w fun e w' => e = .returned (.tuple #[.int .i64 (tokV s.data.toList).1, .int .i64 (tokV s.data.toList).2]) ∧ Below w.heap.size w w' := by
 have hsz := sz s
 have b0 := byte_at s 0 h0
 have l0 : (0 : Int) < (s.size : Int) := by omega
 have hr := bt_range s[0]
 have hT := tokV.eq_1 s.data.toList
 rw [← b0] at hT
 have HT := Lib.hid hT
 clear hT b0
 go_enter Tryz.func23, Tryz.ntmps23
 go_wp2_with fail
 refine (isDigit_any (bt s[0]) _ hr.1 hr.2).mono ?_
 rintro e w' ⟨rfl, rfl⟩
 cases hd : dg (bt s[0])
 ·cases hq : ((s[0].toNat : Int) == 39)
  ·have hor : ¬ (dg (bt s[0]) = true ∨ bt s[0] = 39) := by rw [hd]; simpa [bt] using hq
   go_wp2_with fail
   refine (nm_any (bt s[0]) _ hr.1 hr.2).mono ?_
   rintro e w' ⟨rfl, rfl⟩
   cases hn : nm (bt s[0])
   ·have ht := HT.out
    rw [if_neg hor, hn, if_neg (by simp)] at ht
    have HT2 := Lib.hid ht
    clear ht HT hor hn hd
    go_wp2_with fail
    refine (sign_any s b _ hs h0 hS).mono ?_
    rintro e w' ⟨rfl, hb⟩
    go_wp2
    go_ret2
    exact ⟨by rw [HT2.out]; rfl, hb⟩
   ·have ht := HT.out
    rw [if_neg hor, hn, if_pos rfl] at ht
    have HT2 := Lib.hid ht
    clear ht HT hor hn hd
    go_wp2_with fail
    refine (nameOrWord_any s _ hs).mono ?_
    rintro e w' ⟨rfl, rfl⟩
    go_wp2
    go_ret2
    exact ⟨by rw [HT2.out]; rfl, Below.refl _ _⟩
  ·have ht := HT.out
   rw [if_pos (.inr (by simpa [bt] using hq))] at ht
   have HT2 := Lib.hid ht
   clear ht HT hd
   go_wp2_with fail
   refine (number_any s _ hs h0).mono ?_
   rintro e w' ⟨rfl, rfl⟩
   go_wp2
   go_ret2
   exact ⟨by rw [HT2.out]; rfl, Below.refl _ _⟩
 ·have ht := HT.out
  rw [if_pos (.inl hd)] at ht
  have HT2 := Lib.hid ht
  clear ht HT hd
  go_wp2_with fail
  refine (number_any s _ hs h0).mono ?_
  rintro e w' ⟨rfl, rfl⟩
  go_wp2
  go_ret2
  exact ⟨by rw [HT2.out]; rfl, Below.refl _ _⟩
namespace Lx
def twoT : List (Int × Int) := [(45, 62), (60, 60), (62, 62), (60, 61), (62, 61), (61, 61), (33, 61), (38, 38), (124, 124)]
def oneT : List Int := [43, 45, 42, 47, 37, 38, 124, 94, 126, 33, 60, 62, 61, 40, 41, 123, 125, 91, 93, 59, 44, 46]
theorem sg_tab : ∀ k, k < 31 → sgN k = if (sgA k, sgB k) ∈ twoT then 2 else if sgB k = 0 ∧ sgA k ∈ oneT then 1 else 0 := by decide
theorem two_in : ∀ p ∈ twoT, (List.range 31).any (fun k => decide (sgA k = p.1 ∧ sgB k = p.2)) = true := by decide
theorem one_in : ∀ p ∈ oneT, (List.range 31).any (fun k => decide (sgA k = p ∧ sgB k = 0)) = true := by decide
theorem sgV_eq (x y : Int) : sgV x y = if (x, y) ∈ twoT then 2 else if y = 0 ∧ x ∈ oneT then 1 else 0 := by
 by_cases h : ∃ k, k < 31 ∧ sgA k = x ∧ sgB k = y
 ·obtain ⟨k, hk, rfl, rfl⟩ := h
  obtain ⟨_, _, _, _, _, r6⟩ := sg_range k hk
  rw [r6]
  exact sg_tab k hk
 ·rw [sg_none (fun k hk e => h ⟨k, hk, e.1, e.2⟩), if_neg, if_neg]
  ·rintro ⟨rfl, hx⟩
   have := one_in x hx
   rw [List.any_eq_true] at this
   obtain ⟨k, hk, e⟩ := this
   exact h ⟨k, List.mem_range.1 hk, by simpa using e⟩
  ·intro hx
   have := two_in _ hx
   rw [List.any_eq_true] at this
   obtain ⟨k, hk, e⟩ := this
   exact h ⟨k, List.mem_range.1 hk, by simpa using e⟩
theorem two_not0 {x y : Int} (h : (x, y) ∈ twoT) : y ≠ 0 := by
 have : ∀ p ∈ twoT, p.2 ≠ 0 := by decide
 exact this _ h
theorem sgW_eq (l : List UInt8) : sgW l = if (bt (l.getD 0 0), bt (l.getD 1 0)) ∈ twoT then 2 else if bt (l.getD 0 0) ∈ oneT then 1 else 0 := by
 unfold sgW
 rw [sgV_eq, sgV_eq]
 generalize bt (l.getD 0 0) = x
 generalize bt (l.getD 1 0) = y
 by_cases h : (x, y) ∈ twoT
 ·rw [if_pos h, if_pos h, if_pos (by omega)]; rfl
 ·have h0 : ¬ (x, (0 : Int)) ∈ twoT := fun e => two_not0 e rfl
  rw [if_neg h, if_neg h, if_neg h0]
  by_cases h1 : x ∈ oneT
  ·rw [if_pos h1, if_pos (show (0 : Int) = 0 ∧ x ∈ oneT from ⟨rfl, h1⟩)]
   split <;> first | rfl | (split <;> first | rfl | (exfalso; omega))
  ·rw [if_neg h1, if_neg (fun e : y = 0 ∧ x ∈ oneT => h1 e.2), if_neg (by simp), if_neg (fun e : (0 : Int) = 0 ∧ x ∈ oneT => h1 e.2)]; rfl
end Lx
set_option maxRecDepth 100000
namespace Lx
structure Tk where
 kd : Int
 tx : ByteArray
 at_ : Nat
def tkL (t : Tk) : List Value := [.int .i64 t.kd, .string t.tx, .int .i64 t.at_]
def tksL (l : List Tk) : List Value := l.flatMap tkL
theorem tksL_snoc (l : List Tk) (t : Tk) : tksL (l ++ [t]) = tksL l ++ tkL t := by simp [tksL]
structure Rs where
 tk : List Tk
 pl : Int
 er : Int
def lx (s : ByteArray) : Nat → Nat → List Tk → Rs
 | 0, _, _ => ⟨[], 0, 0⟩
 | f + 1, j, T =>
  if (gapV (s.data.toList.drop j)).2 = false then ⟨[], (j + (gapV (s.data.toList.drop j)).1 : Nat), 10⟩
  else if j + (gapV (s.data.toList.drop j)).1 = s.size then ⟨T ++ [⟨0, ⟨#[]⟩, j + (gapV (s.data.toList.drop j)).1⟩], 0, 0⟩
  else if (tokV (s.data.toList.drop (j + (gapV (s.data.toList.drop j)).1))).2 = 0 then ⟨[], (j + (gapV (s.data.toList.drop j)).1 : Nat), 10⟩
  else if 2500 ≤ T.length then ⟨[], (j + (gapV (s.data.toList.drop j)).1 : Nat), 3⟩
  else lx s f (j + (gapV (s.data.toList.drop j)).1 + (tokV (s.data.toList.drop (j + (gapV (s.data.toList.drop j)).1))).2) (T ++ [⟨(tokV (s.data.toList.drop (j + (gapV (s.data.toList.drop j)).1))).1, s.extract (j + (gapV (s.data.toList.drop j)).1) (j + (gapV (s.data.toList.drop j)).1 + (tokV (s.data.toList.drop (j + (gapV (s.data.toList.drop j)).1))).2), j + (gapV (s.data.toList.drop j)).1⟩])
def lexV (s : ByteArray) : Rs := if 8192 < s.size then ⟨[], 8192, 3⟩ else lx s (s.size + 1) 0 []
theorem sgW_le {l : List UInt8} (h : 0 < l.length) : sgW l ≤ l.length := by
 rw [sgW_eq]
 split
 ·rename_i hm
  have := two_not0 hm
  cases l with
  | nil => simp at h
  | cons x l =>
   cases l with
   | nil => exact absurd rfl this
   | cons y l => simp
 ·split
  ·omega
  ·omega
theorem tokV_le {l : List UInt8} (h : 0 < l.length) : (tokV l).2 ≤ l.length := by
 unfold tokV
 split
 ·exact nbV_le l
 ·split
  ·unfold nwV; split
   ·exact Nat.zero_le _
   ·exact tw_le _ _
  ·exact sgW_le h
end Lx
theorem szA (w : World) (o : Obj) : (w.alloc o).heap.size = w.heap.size + 1 := by simp
theorem infoTk : (Tryz.prog.info? 63).map (fun i => (i.zero, i.size, i.bytes)) = some (some (.agg #[.int .i64 0, .string ⟨#[]⟩, .int .i64 0]), 3, 32) := by kernel_rfl
theorem info_parts {e : TypeId} {z : Value} {s b : Nat} (h : (Tryz.prog.info? e).map (fun i => (i.zero, i.size, i.bytes)) = some (some z, s, b)) : ∃ i, Tryz.prog.info? e = some i ∧ i.zero = some z ∧ i.size = s ∧ i.bytes = b := by
 cases hi : Tryz.prog.info? e with
 | none => rw [hi] at h; cases h
 | some i =>
  rw [hi] at h
  simp at h
  exact ⟨i, rfl, h.1, h.2.1, h.2.2⟩
theorem own_base {w : World} {base size n g : Nat} {e : TypeId} {v : Value} {xs : List Value} (h : w.ownsRow base e size v n xs) (hg : g < base) : v.ownBlock ≠ some g := by
 rcases h.2 with ⟨rfl, _⟩ | ⟨g', cap, cur, rfl, hb, hh, _⟩
 ·simp [Value.ownBlock]
 ·intro he
  have : g' = g := by simpa [Value.ownBlock] using he
  omega
theorem own_slice {w : World} {base size n : Nat} {e : TypeId} {v : Value} {xs : List Value} (h : w.ownsRow base e size v n xs) : ∃ A c, v = .slice A n c := by
 rcases h.2 with ⟨rfl, rfl⟩ | ⟨g', cap, cur, rfl, _⟩
 ·exact ⟨_, _, rfl⟩
 ·exact ⟨_, _, rfl⟩
theorem own_keep {w w' : World} {base size n : Nat} {e : TypeId} {v : Value} {xs : List Value} (h : w.ownsRow base e size v n xs) (hb : Below w.heap.size w w') : w'.ownsRow base e size v n xs := by
 obtain ⟨hl, h⟩ := h
 refine ⟨hl, ?_⟩
 rcases h with h | ⟨g, cap, cur, h1, h2, h3, h4⟩
 ·exact .inl h
 ·exact .inr ⟨g, cap, cur, h1, h2, (hb.block g (Array.getElem?_eq_some_iff.1 h3).1).trans h3, h4⟩
theorem own_lower {w : World} {base b2 size n : Nat} {e : TypeId} {v : Value} {xs : List Value} (h : w.ownsRow base e size v n xs) (hb : b2 ≤ base) : w.ownsRow b2 e size v n xs := by
 obtain ⟨hl, h⟩ := h
 refine ⟨hl, ?_⟩
 rcases h with h | ⟨g, cap, cur, h1, h2, h3, h4⟩
 ·exact .inl h
 ·exact .inr ⟨g, cap, cur, h1, Nat.le_trans hb h2, h3, h4⟩
theorem own_below {w w' : World} {B base size n : Nat} {e : TypeId} {v : Value} {xs : List Value} (hv : w.ownsRow base e size v n xs) (hBb : B ≤ base) (hgr : w.grownBy w' v.ownBlock) (hsz : base ≤ w.heap.size) {w0 : World} (h : Below B w0 w) : Below B w0 w' :=
 h.grown hgr (by omega) (fun k hk => by
  rcases Nat.lt_or_ge k base with hlt | hge
  ·exact absurd hk (own_base hv hlt)
  ·omega)
def TksAt (w : World) (base : Nat) (v : Value) (T : List Tk) : Prop := w.ownsRow base 63 3 v T.length (tksL T)
theorem tks_nil (w : World) (base : Nat) : TksAt w base (.slice none 0 0) [] := ⟨rfl, .inl ⟨rfl, rfl⟩⟩
set_option maxHeartbeats 1000000 in
theorem clone_any (s : ByteArray) (w : World) (hs : s.size ≤ 1048576) :
  Calls Tryz.prog 20 #[.string s] w fun e w' => e = .returned (.string s) ∧ Below w.heap.size w w' := by
 go_enter Tryz.func20, Tryz.ntmps20
 go_wp2_with fail
 refine (Tryz.stringslite_Clone s _ (by omega)).mono ?_
 rintro e w' ⟨rfl, hb⟩
 go_wp2
 go_ret
 exact ⟨rfl, hb⟩
set_option maxHeartbeats 8000000 in
theorem lex_any (s : ByteArray) (w : World) (hs : s.size ≤ 1048576) (hM : MaxIs w) :
  Calls Tryz.prog 12 #[.string s] w fun e w' => ∃ v, e = .returned (.tuple #[v, .int .i64 (lexV s).pl, .int .i64 (lexV s).er]) ∧ TksAt w' w.heap.size v (lexV s).tk ∧ Below w.heap.size w w' := by
 have hsz := sz s
 obtain ⟨i0, hi0, hz0, hz1, hz2⟩ := info_parts infoTk
 by_cases hbig : 8192 < s.size
 ·have hb' : (8192 : Int) < (s.size : Int) := by omega
  have hL : lexV s = ⟨[], 8192, 3⟩ := by unfold lexV; rw [if_pos hbig]
  have HL := Lib.hid hL
  clear hL
  go_enter Tryz.func12, Tryz.ntmps12
  go_wp2
  go_ret3
  exact ⟨_, by rw [HL.out]; rfl, by rw [HL.out]; exact tks_nil _ _, Below.refl _ _⟩
 have hb' : ¬ (8192 : Int) < (s.size : Int) := by omega
 have hL : lexV s = lx s (s.size + 1) 0 [] := by unfold lexV; rw [if_neg hbig]
 have HL := Lib.hid hL
 clear hL
 go_enter Tryz.func12, Tryz.ntmps12
 go_wp2_with fail
 refine (clone_any s _ hs).mono ?_
 rintro e w1 ⟨rfl, hb1⟩
 go_wp2_with fail
 refine (allSigns_any _).mono ?_
 rintro e w2 ⟨rfl, hS, hb2⟩
 have hb2' := hb1.trans (hb2.mono hb1.size)
 have hM2 := hM.keep hb2'
 have hSl := hS.lt
 go_wp2_with fail
 have hsz2 : w1.heap.size < w2.heap.size := hSl
 have hbL : Below w2.heap.size w2 (w2.alloc (.cells #[] 63)) := (Below.refl _ _).alloc (Nat.le_refl _) _
 have hown0 : TksAt (w2.alloc (.cells #[] 63)) w2.heap.size (.slice (some ⟨w2.heap.size, 0, none⟩) 0 0) [] := ⟨rfl, .inr ⟨w2.heap.size, 0, #[], rfl, Nat.le_refl _, heap_alloc_new w2 _, by simp, by unfold maxLen; omega, rfl, rfl⟩⟩
 go_loopw [6, 7] (fun v a wr => ∃ (f j : Nat) (T : List Tk), j ≤ s.size ∧ s.size - j < f ∧ T.length ≤ 2500 ∧ a = .int .i64 j ∧ Hid (lexV s = lx s f j T) ∧ TksAt wr w2.heap.size v T ∧ Below w2.heap.size w2 wr) (fun _ a _ => s.size - (intOf a).toNat)
 case atStart => exact ⟨s.size + 1, 0, [], by omega, by omega, by simp, rfl, HL, hown0, hbL⟩
 case round =>
  obtain ⟨f, j, T, hj, hf, hT, rfl, HG, hov, hbe⟩ := hrel
  clear HL hbL hown0
  obtain ⟨f, rfl⟩ : ∃ f', f = f' + 1 := ⟨f - 1, by omega⟩
  have hg := HG.out
  rw [lx] at hg
  have hgl := gap_le (s.data.toList.drop j)
  rw [List.length_drop, hsz] at hgl
  obtain ⟨p, hp⟩ : ∃ p, j + (gapV (s.data.toList.drop j)).1 = p := ⟨_, rfl⟩
  rw [hp] at hg
  have HG2 := Lib.hid hg
  have hMr := hM2.keep hbe
  have hxs : (s.extract j s.size).size ≤ 1048576 := by rw [← sz, ext_end]; simp; omega
  have hcall := gap_any (s.extract j s.size) wr hxs hMr
  rw [ext_end] at hcall
  have hpi : (j : Int) + ((gapV (s.data.toList.drop j)).1 : Int) = (p : Int) := by omega
  clear hg HG hxs
  have hpj : j ≤ p ∧ p ≤ s.size := by omega
  have j0 : (0 : Int) ≤ (j : Int) := by omega
  have j1 : (j : Int) ≤ (s.size : Int) := by omega
  have p0 : (0 : Int) ≤ (p : Int) := by omega
  have p1 : (p : Int) ≤ (s.size : Int) := by omega
  generalize (gapV (s.data.toList.drop j)).1 = g1 at *
  generalize (gapV (s.data.toList.drop j)).2 = g2 at *
  obtain ⟨vA, vc, rfl⟩ := own_slice hov
  clear hp hgl
  go_wp2_with fail
  refine hcall.mono ?_
  rintro e w' ⟨rfl, rfl⟩
  clear hcall
  cases g2
  ·have hg := HG2.out
   rw [if_pos rfl] at hg
   have HG3 := Lib.hid hg
   clear hg HG2
   go_wp2
   go_ret3
   exact ⟨_, by rw [HG3.out]; rfl, by rw [HG3.out]; exact tks_nil _ _, hb2'.trans (hbe.mono hb2'.size)⟩
  have hg := HG2.out
  rw [if_neg (by simp)] at hg
  have HG3 := Lib.hid hg
  clear hg HG2
  by_cases hend : p = s.size
  ·subst hend
   have hg := HG3.out
   rw [if_pos rfl] at hg
   have HG4 := Lib.hid hg
   have hpe : ((s.size : Int) == (s.size : Int)) = true := by rw [beq_iff_eq]
   clear hg HG3
   go_wp2_with (at_builtin; refine wpList_append_lies (o := ⟨some 40, _, _, _, _, _⟩) _ rfl (.tmp 36) (.tmp 39) 53 rfl w2.heap.size 63 i0 (.agg #[.int .i64 0, .string ⟨#[]⟩, .int .i64 0]) 3 32 Tryz.underlying53 hi0 hz0 hz1 hz2 rfl (by decide) _ _ _ rfl (hov.alloc _) ⟨wr.heap.size, 0, none⟩ 1 1 [.int .i64 0, .string ⟨#[]⟩, .int .i64 s.size] rfl rfl (World.news_of_block (cs := ([.int .i64 0, .string ⟨#[]⟩, .int .i64 s.size]).toArray) (t := 63) (fr := (0, 0)) (heap_alloc_new wr _)) (by simp [Value.oneCell']) (by omega) (by unfold maxLen; omega) (by omega) (by have := hbe.size; simp only [szA]; omega) (wr.heap.size + 1) (szA _ _) ?_; intro ga cap w5 hown5 hgrow5 hat5 hlt5)
   have hfin := own_below (hov.alloc _) (Nat.le_refl _) hgrow5 (by simp only [szA]; have := hbe.size; omega) (hbe.alloc hbe.size (.cells #[.int .i64 0, .string ⟨#[]⟩, .int .i64 s.size] 63))
   go_ret3
   refine ⟨_, by rw [HG4.out]; rfl, ?_, hb2'.trans (hfin.mono hb2'.size)⟩
   rw [HG4.out]
   unfold TksAt
   rw [tksL_snoc, List.length_append]
   exact own_lower hown5 hb2'.size
  have hpl : p < s.size := by omega
  have hg := HG3.out
  rw [if_neg hend] at hg
  have HG4 := Lib.hid hg
  have hpe : ((p : Int) == (s.size : Int)) = false := beq_eq_false_iff_ne.mpr (by omega)
  have htl := tokV_le (l := s.data.toList.drop p) (by rw [List.length_drop, hsz]; omega)
  rw [List.length_drop, hsz] at htl
  have hxs : (s.extract p s.size).size ≤ 1048576 := by rw [← sz, ext_end]; simp; omega
  have hx0 : 0 < (s.extract p s.size).size := by rw [← sz, ext_end]; simp; omega
  have hcall := token_any (s.extract p s.size) w1.heap.size wr hxs hx0 (hS.keep hbe hSl)
  rw [ext_end] at hcall
  clear hg HG3 hxs hx0
  generalize (tokV (s.data.toList.drop p)).1 = kd at *
  generalize (tokV (s.data.toList.drop p)).2 = n at *
  go_wp2_with fail
  refine hcall.mono ?_
  rintro e w4 ⟨rfl, hb4⟩
  clear hcall hpi
  have hbe2 := hbe.trans (hb4.mono hbe.size)
  have hov2 := own_keep hov hb4
  by_cases hn : n = 0
  ·have hg := HG4.out
   rw [if_pos hn] at hg
   have HG5 := Lib.hid hg
   have hn' : ((n : Int) == 0) = true := by rw [beq_iff_eq]; omega
   clear hg HG4
   go_wp2
   go_ret3
   exact ⟨_, by rw [HG5.out]; rfl, by rw [HG5.out]; exact tks_nil _ _, hb2'.trans (hbe2.mono hb2'.size)⟩
  have hg := HG4.out
  rw [if_neg hn] at hg
  have hq0 : ((n : Int) == 0) = false := beq_eq_false_iff_ne.mpr (by omega)
  by_cases hful : 2500 ≤ T.length
  ·rw [if_pos hful] at hg
   have HG5 := Lib.hid hg
   have hf' : ((T.length : Int) == 2500) = true := by rw [beq_iff_eq]; omega
   clear hg HG4
   go_wp2
   go_ret3
   exact ⟨_, by rw [HG5.out]; rfl, by rw [HG5.out]; exact tks_nil _ _, hb2'.trans (hbe2.mono hb2'.size)⟩
  rw [if_neg hful] at hg
  have HG5 := Lib.hid hg
  have hf' : ((T.length : Int) == 2500) = false := beq_eq_false_iff_ne.mpr (by omega)
  have hq1 : (p : Int) + (n : Int) ≤ (s.size : Int) := by omega
  have hq2 : (p : Int) ≤ (p : Int) + (n : Int) := by omega
  clear hg HG4
  have hTl : T.length < 2500 := by omega
  go_wp2_with (at_builtin; refine wpList_append_lies (o := ⟨some 69, _, _, _, _, _⟩) _ rfl (.tmp 58) (.tmp 68) 53 rfl w2.heap.size 63 i0 (.agg #[.int .i64 0, .string ⟨#[]⟩, .int .i64 0]) 3 32 Tryz.underlying53 hi0 hz0 hz1 hz2 rfl (by decide) _ _ _ rfl (hov2.alloc _) ⟨w4.heap.size, 0, none⟩ 1 1 [.int .i64 kd, .string (s.extract p (p + n)), .int .i64 p] rfl rfl (World.news_of_block (cs := ([.int .i64 kd, .string (s.extract p (p + n)), .int .i64 p]).toArray) (t := 63) (fr := (0, 0)) (heap_alloc_new w4 _)) (by simp [Value.oneCell']) (by omega) (by unfold maxLen; omega) (by omega) (by have := hbe2.size; simp only [szA]; omega) (w4.heap.size + 1) (szA _ _) ?_; intro ga cap w5 hown5 hgrow5 hat5 hlt5)
  have hfin := own_below (hov2.alloc _) (Nat.le_refl _) hgrow5 (by simp only [szA]; have := hbe2.size; omega) (hbe2.alloc hbe2.size (.cells #[.int .i64 kd, .string (s.extract p (p + n)), .int .i64 p] 63))
  go_roundw
  case rel =>
   refine ⟨f, p + n, T ++ [⟨kd, s.extract p (p + n), p⟩], by omega, by omega, by simp; omega, by go_num, HG5, ?_, hfin⟩
   unfold TksAt
   rw [tksL_snoc, List.length_append]
   exact hown5
  case measure => simp [intOf]; omega
namespace Lx
end Lx
namespace Lx
theorem lx_all (P : Tk → Prop) (s : ByteArray) (hend : ∀ p, p ≤ s.size → P ⟨0, ⟨#[]⟩, p⟩) (hnew : ∀ p, p < s.size → (tokV (s.data.toList.drop p)).2 ≠ 0 → P ⟨(tokV (s.data.toList.drop p)).1, s.extract p (p + (tokV (s.data.toList.drop p)).2), p⟩) :
  ∀ f j T, j ≤ s.size → (∀ t ∈ T, P t) → ∀ t ∈ (lx s f j T).tk, P t := by
 intro f
 induction f with
 | zero => intro j T _ _ t ht; simp [lx] at ht
 | succ f ih =>
  intro j T hj hT
  have hg := gap_le (s.data.toList.drop j)
  rw [List.length_drop, sz] at hg
  rw [lx]
  generalize (gapV (s.data.toList.drop j)).1 = g at *
  split
  ·intro t ht; cases ht
  ·split
   ·intro t ht
    rcases List.mem_append.1 ht with h | h
    ·exact hT t h
    ·rw [List.mem_singleton.1 h]; exact hend _ (by omega)
   ·split
    ·intro t ht; cases ht
    ·split
     ·intro t ht; cases ht
     ·rename_i h1 h2 h3 h4
      have hn := tokV_le (l := s.data.toList.drop (j + g)) (by rw [List.length_drop, sz]; omega)
      rw [List.length_drop, sz] at hn
      refine ih _ _ (by omega) fun t ht => ?_
      rcases List.mem_append.1 ht with h | h
      ·exact hT t h
      ·rw [List.mem_singleton.1 h]; exact hnew _ (by omega) h3
theorem lexV_all (P : Tk → Prop) (s : ByteArray) (hend : ∀ p, p ≤ s.size → P ⟨0, ⟨#[]⟩, p⟩) (hnew : ∀ p, p < s.size → (tokV (s.data.toList.drop p)).2 ≠ 0 → P ⟨(tokV (s.data.toList.drop p)).1, s.extract p (p + (tokV (s.data.toList.drop p)).2), p⟩) : ∀ t ∈ (lexV s).tk, P t := by
 unfold lexV
 split
 ·intro t ht; cases ht
 ·exact lx_all P s hend hnew _ _ _ (Nat.zero_le _) (by simp)
theorem lexV_len (s : ByteArray) : (lexV s).tk.length ≤ 2501 := by
 unfold lexV
 split
 ·simp
 ·suffices ∀ f j T, T.length ≤ 2500 → (lx s f j T).tk.length ≤ 2501 from this _ _ _ (by simp)
  intro f
  induction f with
  | zero => intro j T _; simp [lx]
  | succ f ih =>
   intro j T hT
   rw [lx]
   split
   ·simp
   ·split
    ·simp; omega
    ·split
     ·simp
     ·split
      ·simp
      ·exact ih _ _ (by simp; omega)
end Lx
theorem ext_tok (s : ByteArray) (p n : Nat) : (s.extract p (p + n)).data.toList = (s.data.toList.drop p).take n := by rw [Lib.extract_data, show p + n - p = n by omega]
end Go.Proofs.YtfjobnljdkiihaaGreatDoor
