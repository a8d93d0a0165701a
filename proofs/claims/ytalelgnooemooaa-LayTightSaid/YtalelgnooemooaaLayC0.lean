/- Cells: their pure list, and a row of them in memory. Conditions: each theorem's. -/
import Derived.Test.YtalelgnooemooaaLayPl
import Derived.Deep.AppendLies
import Derived.Laws.MakeOwn
namespace Go.Proofs.Ytalelgnooemooaa
open Go.RowKit Go.Maps
set_option linter.unusedVariables false
set_option linter.unusedSimpArgs false
set_option maxRecDepth 10000
open Py
namespace Py
structure Cl where
  off : Int
  ty : Ty
def clL (c : Cl) : List Value := [.int .i64 c.off, .int .i64 c.ty.ba, .int .i64 c.ty.st, .string c.ty.sn]
def clsL (C : List Cl) : List Value := C.flatMap clL
theorem clsL_len (C : List Cl) : (clsL C).length = C.length * 4 := by
  induction C with
  | nil => rfl
  | cons c C ih => simp only [clsL, List.flatMap_cons, List.length_append, List.length_cons] at ih ⊢; rw [ih]; simp [clL]; omega
theorem clsL_app (S T : List Cl) : clsL (S ++ T) = clsL S ++ clsL T := by simp [clsL]
/-- The cells of the first k fields. -/
def fldN (fs : List Fe) (k : Nat) : List Cl := (List.range k).map fun j => ⟨(layV fs).offs.getD j 0, (fs.getD j fd0).ty⟩
theorem fldN_len (fs : List Fe) (k : Nat) : (fldN fs k).length = k := by simp [fldN]
theorem fldN_succ (fs : List Fe) (k : Nat) : fldN fs (k + 1) = fldN fs k ++ [⟨(layV fs).offs.getD k 0, (fs.getD k fd0).ty⟩] := by simp [fldN, List.range_succ]
end Py
theorem sizeCl : (Try.prog.info? 36).map (·.size) = some 4 := by kernel_rfl
theorem infoCl : (Try.prog.info? 36).map (fun i => (i.zero, i.size, i.bytes)) = some (some (.agg #[.int .i64 0, .int .i64 0, .int .i64 0, .string ⟨#[]⟩]), 4, 40) := by kernel_rfl
/-- A row of cells. -/
def ClsAt (w : World) (base : Nat) (v : Value) (C : List Cl) : Prop := w.ownsRow base 36 4 v C.length (clsL C)
theorem cls_snoc {w : World} {base j : Nat} {v : Value} {fs : List Fe} {off : Int} {t : Ty} (h : w.ownsRow base 36 4 v (j + 1) (clsL (fldN fs j) ++ [.int .i64 off, .int .i64 t.ba, .int .i64 t.st, .string t.sn])) (h1 : off = (layV fs).offs.getD j 0) (h2 : t = (fs.getD j fd0).ty) : ClsAt w base v (fldN fs (j + 1)) := by
  subst h1 h2
  unfold ClsAt
  rw [fldN_len, fldN_succ, clsL_app]
  exact h
theorem cls_alloc {w : World} {base : Nat} {v : Value} {C : List Cl} (h : ClsAt w base v C) (o : Obj) : ClsAt (w.alloc o) base v C := h.alloc _
namespace Py
def cl0 : Cl := ⟨0, ty0⟩
end Py
theorem clsL_get (T : List Cl) (k : Nat) (hk : k < T.length) (j : Nat) (hj : j < 4) : (clsL T)[k * 4 + j]? = (clL (T.getD k cl0))[j]? := by
  induction T generalizing k with
  | nil => simp at hk
  | cons t T ih =>
    cases k with
    | zero =>
      simp only [clsL, List.flatMap_cons, List.getD_cons_zero, Nat.zero_mul, Nat.zero_add]
      rw [List.getElem?_append_left (by simp [clL]; omega)]
    | succ k =>
      simp only [clsL, List.flatMap_cons, List.getD_cons_succ]
      rw [List.getElem?_append_right (by simp [clL]; omega)]
      have := ih k (by simpa using hk)
      rw [← this]
      unfold clsL
      congr 1
      simp [clL]; omega
theorem cls_at {w : World} {base : Nat} {v : Value} {T : List Cl} (h : ClsAt w base v T) (h0 : 0 < T.length) : ∃ g cap, v = .slice (some ⟨g, 0, none⟩) T.length cap ∧ base ≤ g ∧ g < w.heap.size ∧ ∀ k, k < T.length →
    w.cell? ⟨g, k * 4, none⟩ = some (.int .i64 (T.getD k cl0).off) ∧ w.cell? ⟨g, k * 4 + 1, none⟩ = some (.int .i64 (T.getD k cl0).ty.ba) ∧ w.cell? ⟨g, k * 4 + 2, none⟩ = some (.int .i64 (T.getD k cl0).ty.st) ∧ w.cell? ⟨g, k * 4 + 3, none⟩ = some (.string (T.getD k cl0).ty.sn) := by
  obtain ⟨hl, h⟩ := h
  rcases h with ⟨_, hz⟩ | ⟨g, cap, cur, rfl, hb, hh, hn, hm, hsz, htk⟩
  · omega
  · refine ⟨g, cap, rfl, hb, (Array.getElem?_eq_some_iff.1 hh).1, fun k hk => ?_⟩
    have hget : ∀ j, j < 4 → cur[k * 4 + j]? = (clL (T.getD k cl0))[j]? := fun j hj => by
      rw [← clsL_get T k hk j hj, ← htk, List.getElem?_take, if_pos (by omega)]
      simp
    refine ⟨?_, ?_, ?_, ?_⟩
    · rw [cell_of_row _ _ _ _ _ _ hh]; exact hget 0 (by omega)
    · rw [cell_of_row _ _ _ _ _ _ hh]; exact hget 1 (by omega)
    · rw [cell_of_row _ _ _ _ _ _ hh]; exact hget 2 (by omega)
    · rw [cell_of_row _ _ _ _ _ _ hh]; exact hget 3 (by omega)
namespace Py
def shiftC (z : Int) (i : Nat) (C : List Cl) : List Cl := C.map fun c => ⟨i * z + c.off, c.ty⟩
/-- The cells of n of a type: of one are C, its size is z. -/
def allC (z : Int) (C : List Cl) (n : Nat) : List Cl := (List.range n).flatMap fun i => shiftC z i C
theorem shiftC_len (z : Int) (i : Nat) (C : List Cl) : (shiftC z i C).length = C.length := by simp [shiftC]
theorem allC_succ (z : Int) (C : List Cl) (n : Nat) : allC z C (n + 1) = allC z C n ++ shiftC z n C := by simp [allC, List.range_succ]
theorem allC_len (z : Int) (C : List Cl) (n : Nat) : (allC z C n).length = n * C.length := by
  induction n with
  | zero => simp [allC]
  | succ n ih => rw [allC_succ, List.length_append, ih, shiftC_len, Nat.succ_mul]
theorem shiftC_take (z : Int) (i j : Nat) (C : List Cl) (h : j < C.length) : (shiftC z i C).take (j + 1) = (shiftC z i C).take j ++ [⟨i * z + (C.getD j cl0).off, (C.getD j cl0).ty⟩] := by
  rw [List.take_succ_eq_append_getElem (by rw [shiftC_len]; exact h)]
  simp [shiftC, List.getD, h]
end Py
end Go.Proofs.Ytalelgnooemooaa
