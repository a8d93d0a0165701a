/- Words for package lay: structs as lists, as they lie in memory. No condition. -/
import Derived.Test.YtalelgnooemooaaRows
import Derived.WalkKit
import Derived.ProofKit
import Derived.OpenShut
import Derived.WalkSpells
import Derived.Lib.Hide
import Derived.Handy
import Derived.Deep.QuietTactic
import Derived.BigQuiet
import Derived.Deep.MidRow
import Derived.Below
import Derived.Laws.OwnMore
import Derived.Deep.AppendLies
import Derived.Deep.Draws
import Derived.Laws.Rows
import Derived.OwnWalk
import Derived.RegionTactic
import Derived.BigRegion
namespace Go.Proofs.Ytalelgnooemooaa
open Go.RowKit
set_option linter.unusedVariables false
set_option linter.unusedSimpArgs false
set_option maxRecDepth 10000
namespace Py
/-- A type: its base, its stars, its struct's name. -/
structure Ty where
  ba : Int
  st : Int
  sn : ByteArray
deriving DecidableEq
structure Fe where
  nm : ByteArray
  ty : Ty
  at_ : Int
structure Sc where
  nm : ByteArray
  fs : List Fe
  at_ : Int
def ty0 : Ty := ⟨0, 0, ByteArray.empty⟩
def fd0 : Fe := ⟨ByteArray.empty, ty0, 0⟩
def sc0 : Sc := ⟨ByteArray.empty, [], 0⟩
abbrev tyL (t : Ty) : List Value := [.int .i64 t.ba, .int .i64 t.st, .string t.sn]
abbrev tyV (t : Ty) : Value := .agg #[.int .i64 t.ba, .int .i64 t.st, .string t.sn]
abbrev fdL (f : Fe) : List Value := [.string f.nm, .int .i64 f.ty.ba, .int .i64 f.ty.st, .string f.ty.sn, .int .i64 f.at_]
abbrev fdV (f : Fe) : Value := .agg #[.string f.nm, .int .i64 f.ty.ba, .int .i64 f.ty.st, .string f.ty.sn, .int .i64 f.at_]
/-- The index of the first that is so; -1, if none is. -/
def idx {α : Type} (p : α → Bool) : List α → Int
  | [] => -1
  | x :: l => if p x then 0 else if idx p l < 0 then -1 else idx p l + 1
theorem idx_range {α : Type} (p : α → Bool) (l : List α) : -1 ≤ idx p l ∧ idx p l < l.length := by
  induction l with
  | nil => simp [idx]
  | cons x l ih =>
    simp only [idx]
    have hc : ((x :: l).length : Int) = l.length + 1 := by simp
    rw [hc]
    split
    · omega
    · split <;> omega
/-- None of the first k is so. -/
theorem idx_hit {α : Type} (p : α → Bool) (l : List α) (d : α) (k : Nat) (hk : k < l.length) (h0 : ∀ j, j < k → p (l.getD j d) = false) (h1 : p (l.getD k d) = true) : idx p l = k := by
  induction l generalizing k with
  | nil => simp at hk
  | cons x l ih =>
    cases k with
    | zero =>
      rw [List.getD_cons_zero] at h1
      simp [idx, h1]
    | succ k =>
      have hx := h0 0 (by omega)
      rw [List.getD_cons_zero] at hx
      rw [List.getD_cons_succ] at h1
      have := ih k (by simpa using hk) (fun j hj => by have := h0 (j + 1) (by omega); rwa [List.getD_cons_succ] at this) h1
      simp only [idx, hx, this]
      rw [if_neg (by simp), if_neg (by omega)]
      omega
theorem idx_none {α : Type} (p : α → Bool) (l : List α) (d : α) (h0 : ∀ j, j < l.length → p (l.getD j d) = false) : idx p l = -1 := by
  induction l with
  | nil => rfl
  | cons x l ih =>
    have hx := h0 0 (by simp)
    rw [List.getD_cons_zero] at hx
    have := ih fun j hj => by have := h0 (j + 1) (by simpa using hj); rwa [List.getD_cons_succ] at this
    simp [idx, hx, this]
theorem idx_at {α : Type} (p : α → Bool) (l : List α) (d : α) (h : 0 ≤ idx p l) : p (l.getD (idx p l).toNat d) = true := by
  induction l with
  | nil => simp [idx] at h
  | cons x l ih =>
    simp only [idx] at h ⊢
    split at h
    · rename_i hx; rw [if_pos hx]; simpa using hx
    · rename_i hx
      rw [if_neg hx]
      split at h
      · omega
      · rename_i hn
        rw [if_neg hn, show (idx p l + 1).toNat = (idx p l).toNat + 1 by omega, List.getD_cons_succ]
        exact ih (by omega)
def sIdx (l : List Sc) (nm : ByteArray) : Int := idx (fun s => s.nm.toList == nm.toList) l
def fIdx (l : List Fe) (nm : ByteArray) : Int := idx (fun f => f.nm.toList == nm.toList) l
end Py
open Py
/-- Fields in memory. -/
def FdsAt (w : World) (B : Nat) (A : Option Addr) (fs : List Fe) : Prop :=
  0 < fs.length → ∃ g o, A = some ⟨g, o, none⟩ ∧ g < B ∧ ∀ k, k < fs.length → w.rangeAt g (o + k * 5) (fdL (fs.getD k fd0))
/-- Structs in memory. -/
def ScsAt (w : World) (B : Nat) (A : Option Addr) (l : List Sc) : Prop :=
  0 < l.length → ∃ g o, A = some ⟨g, o, none⟩ ∧ g < B ∧ ∀ k, k < l.length → ∃ fA fc, (l.getD k sc0).fs.length ≤ fc ∧ fc ≤ maxLen ∧ w.rangeAt g (o + k * 3) [.string (l.getD k sc0).nm, .slice fA (l.getD k sc0).fs.length fc, .int .i64 (l.getD k sc0).at_] ∧ FdsAt w B fA (l.getD k sc0).fs
theorem range_keep {w w' : World} {B g o : Nat} {cs : List Value} (h : w.rangeAt g o cs) (hg : g < B) (hb : Below B w w') : w'.rangeAt g o cs := fun j v hv => (hb.cell (p := ⟨g, o + j, none⟩) hg).trans (h j v hv)
theorem FdsAt.keep {w w' : World} {B C : Nat} {A : Option Addr} {fs : List Fe} (h : FdsAt w B A fs) (hb : Below C w w') (hC : B ≤ C) : FdsAt w' B A fs := fun h0 => by
  obtain ⟨g, o, rfl, hg, hr⟩ := h h0
  exact ⟨g, o, rfl, hg, fun k hk => range_keep (hr k hk) (Nat.lt_of_lt_of_le hg hC) hb⟩
theorem ScsAt.keep {w w' : World} {B C : Nat} {A : Option Addr} {l : List Sc} (h : ScsAt w B A l) (hb : Below C w w') (hC : B ≤ C) : ScsAt w' B A l := fun h0 => by
  obtain ⟨g, o, rfl, hg, hr⟩ := h h0
  exact ⟨g, o, rfl, hg, fun k hk => by
    obtain ⟨fA, fc, h1, h2, h3, h4⟩ := hr k hk
    exact ⟨fA, fc, h1, h2, range_keep h3 (Nat.lt_of_lt_of_le hg hC) hb, h4.keep hb hC⟩⟩
theorem FdsAt.take {w : World} {B : Nat} {A : Option Addr} {fs : List Fe} (h : FdsAt w B A fs) (n : Nat) : FdsAt w B A (fs.take n) := fun h0 => by
  have hl : 0 < fs.length := by simp at h0; omega
  obtain ⟨g, o, rfl, hg, hr⟩ := h hl
  refine ⟨g, o, rfl, hg, fun k hk => ?_⟩
  have hk' : k < n ∧ k < fs.length := by simp at hk; omega
  have e : (fs.take n).getD k fd0 = fs.getD k fd0 := by simp [List.getD, hk'.1]
  rw [e]; exact hr k hk'.2
theorem ScsAt.take {w : World} {B : Nat} {A : Option Addr} {l : List Sc} (h : ScsAt w B A l) (n : Nat) : ScsAt w B A (l.take n) := fun h0 => by
  have hl : 0 < l.length := by simp at h0; omega
  obtain ⟨g, o, rfl, hg, hr⟩ := h hl
  refine ⟨g, o, rfl, hg, fun k hk => ?_⟩
  have hk' : k < n ∧ k < l.length := by simp at hk; omega
  have e : (l.take n).getD k sc0 = l.getD k sc0 := by simp [List.getD, hk'.1]
  rw [e]; exact hr k hk'.2
theorem szA (w : World) (o : Obj) : (w.alloc o).heap.size = w.heap.size + 1 := by simp
theorem sizeFd : (Try.prog.info? 47).map (·.size) = some 5 := by kernel_rfl
theorem sizeSc : (Try.prog.info? 45).map (·.size) = some 3 := by kernel_rfl
theorem sizeTy : (Try.prog.info? 24).map (·.size) = some 3 := by kernel_rfl
theorem res_cell_tmp {P : Program} {fn : Func} {p u : Tmp} {ty : TypeId} (h : fn.results = #[.cell p ty, .tmp u]) (tmps : Array Value) (w : World) (g : Nat) (t : TypeId) (cs : Array Value) (fr : Nat × Nat) (d : TypeDesc) (v : Value)
    (hp : tmps.getD p undef = .pointer (some ⟨g, 0, none⟩)) (hv : tmps.getD u undef = v) (hg : w.heap[g]? = some (.cells cs t fr))
    (hu : P.underlying ty = some d) (hd : (match d with | .struct _ | .array _ _ => true | _ => false) = true) (hi : (P.info? ty).map (·.size) = some cs.size) :
    (results fn tmps).run P w = .ok (.tuple #[.agg cs, v]) w := by
  rw [results_cell_tmp h]
  simp [hp, hv, asAddr, run_loadVar_row w g t ty cs fr d hg hu hd hi, Result.andThen]
set_option maxHeartbeats 1000000 in
theorem findS1 (s nm : ByteArray) (v a : Value) (b : Nat) (w : World) (hb : w.cell? ⟨b, 0, none⟩ = some (.string nm)) :
    Calls Try.prog 28 #[.agg #[.string s, v, a], .pointer (some ⟨b, 0, none⟩)] w fun e w' => e = .returned (.bool (s.toList == nm.toList)) ∧ Below w.heap.size w w' := by
  have hlt : b < w.heap.size := World.block_lt_of_cell? w _ hb
  go_enter Try.func28, Try.ntmps28
  go_wp2

  go_ret
  exact ⟨rfl, (Below.refl _ _).alloc (Nat.le_refl _) _⟩
end Go.Proofs.Ytalelgnooemooaa
