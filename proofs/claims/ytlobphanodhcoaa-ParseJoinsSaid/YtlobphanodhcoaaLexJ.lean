/- The tokens of a text, in package lex and in the document. Conditions: each theorem's. -/
import Derived.Test.YtlobphanodhcoaaLexI
import Derived.Deep.AppendLies
import Derived.Laws.OwnMore
import Derived.OwnWalk
namespace Go.Proofs.Ytlobphanodhcoaa
open Go.RowKit Go.Maps
set_option linter.unusedVariables false
set_option linter.unusedSimpArgs false
set_option maxRecDepth 100000
open Lx
namespace Lx
structure Tk where
  kd : Int
  tx : ByteArray
  at_ : Nat
def tkL (t : Tk) : List Value := [.int .i64 t.kd, .string t.tx, .int .i64 t.at_]
def tksL (l : List Tk) : List Value := l.flatMap tkL
theorem tksL_len (l : List Tk) : (tksL l).length = l.length * 3 := by
  induction l with
  | nil => rfl
  | cons t l ih => simp only [tksL, List.flatMap_cons, List.length_append, List.length_cons] at ih ⊢; rw [ih]; simp [tkL]; omega
theorem tksL_snoc (l : List Tk) (t : Tk) : tksL (l ++ [t]) = tksL l ++ tkL t := by simp [tksL]
structure Rs where
  tk : List Tk
  pl : Int
  er : Int
/-- The tokens from a place on, behind those that were found; or the place of what is wrong, and the error. -/
def lx (s : ByteArray) : Nat → Nat → List Tk → Rs
  | 0, _, _ => ⟨[], 0, 0⟩
  | f + 1, j, T =>
    if (gapV (s.data.toList.drop j)).2 = false then ⟨[], (j + (gapV (s.data.toList.drop j)).1 : Nat), 10⟩
    else if j + (gapV (s.data.toList.drop j)).1 = s.size then ⟨T ++ [⟨0, ⟨#[]⟩, j + (gapV (s.data.toList.drop j)).1⟩], 0, 0⟩
    else if (tokV (s.data.toList.drop (j + (gapV (s.data.toList.drop j)).1))).2 = 0 then ⟨[], (j + (gapV (s.data.toList.drop j)).1 : Nat), 10⟩
    else if 2500 ≤ T.length then ⟨[], (j + (gapV (s.data.toList.drop j)).1 : Nat), 3⟩
    else lx s f (j + (gapV (s.data.toList.drop j)).1 + (tokV (s.data.toList.drop (j + (gapV (s.data.toList.drop j)).1))).2) (T ++ [⟨(tokV (s.data.toList.drop (j + (gapV (s.data.toList.drop j)).1))).1, s.extract (j + (gapV (s.data.toList.drop j)).1) (j + (gapV (s.data.toList.drop j)).1 + (tokV (s.data.toList.drop (j + (gapV (s.data.toList.drop j)).1))).2), j + (gapV (s.data.toList.drop j)).1⟩])
def lexV (s : ByteArray) : Rs := if 8192 < s.size then ⟨[], 8192, 3⟩ else lx s (s.size + 1) 0 []
theorem sgW_le {l : List UInt8} (h : 0 < l.length) : sgW l ≤ l.length := by
  rw [sgW_eq]
  split
  · rename_i hm
    have := two_not0 hm
    cases l with
    | nil => simp at h
    | cons x l =>
      cases l with
      | nil => exact absurd rfl this
      | cons y l => simp
  · split
    · omega
    · omega
theorem tokV_le {l : List UInt8} (h : 0 < l.length) : (tokV l).2 ≤ l.length := by
  unfold tokV
  split
  · exact nbV_le l
  · split
    · unfold nwV; split
      · exact Nat.zero_le _
      · exact tw_le _ _
    · exact sgW_le h
end Lx
theorem szA (w : World) (o : Obj) : (w.alloc o).heap.size = w.heap.size + 1 := by simp
theorem infoTk : (Try.prog.info? 56).map (fun i => (i.zero, i.size, i.bytes)) = some (some (.agg #[.int .i64 0, .string ⟨#[]⟩, .int .i64 0]), 3, 32) := by kernel_rfl
theorem info_parts {e : TypeId} {z : Value} {s b : Nat} (h : (Try.prog.info? e).map (fun i => (i.zero, i.size, i.bytes)) = some (some z, s, b)) : ∃ i, Try.prog.info? e = some i ∧ i.zero = some z ∧ i.size = s ∧ i.bytes = b := by
  cases hi : Try.prog.info? e with
  | none => rw [hi] at h; cases h
  | some i =>
    rw [hi] at h
    simp at h
    exact ⟨i, rfl, h.1, h.2.1, h.2.2⟩
theorem own_base {w : World} {base size n g : Nat} {e : TypeId} {v : Value} {xs : List Value} (h : w.ownsRow base e size v n xs) (hg : g < base) : v.ownBlock ≠ some g := by
  rcases h.2 with ⟨rfl, _⟩ | ⟨g', cap, cur, rfl, hb, hh, _⟩
  · simp [Value.ownBlock]
  · intro he
    have : g' = g := by simpa [Value.ownBlock] using he
    omega
theorem own_slice {w : World} {base size n : Nat} {e : TypeId} {v : Value} {xs : List Value} (h : w.ownsRow base e size v n xs) : ∃ A c, v = .slice A n c := by
  rcases h.2 with ⟨rfl, rfl⟩ | ⟨g', cap, cur, rfl, _⟩
  · exact ⟨_, _, rfl⟩
  · exact ⟨_, _, rfl⟩
theorem own_keep {w w' : World} {base size n : Nat} {e : TypeId} {v : Value} {xs : List Value} (h : w.ownsRow base e size v n xs) (hb : Below w.heap.size w w') : w'.ownsRow base e size v n xs := by
  obtain ⟨hl, h⟩ := h
  refine ⟨hl, ?_⟩
  rcases h with h | ⟨g, cap, cur, h1, h2, h3, h4⟩
  · exact .inl h
  · exact .inr ⟨g, cap, cur, h1, h2, (hb.block g (Array.getElem?_eq_some_iff.1 h3).1).trans h3, h4⟩
theorem own_lower {w : World} {base b2 size n : Nat} {e : TypeId} {v : Value} {xs : List Value} (h : w.ownsRow base e size v n xs) (hb : b2 ≤ base) : w.ownsRow b2 e size v n xs := by
  obtain ⟨hl, h⟩ := h
  refine ⟨hl, ?_⟩
  rcases h with h | ⟨g, cap, cur, h1, h2, h3, h4⟩
  · exact .inl h
  · exact .inr ⟨g, cap, cur, h1, Nat.le_trans hb h2, h3, h4⟩
theorem own_below {w w' : World} {B base size n : Nat} {e : TypeId} {v : Value} {xs : List Value} (hv : w.ownsRow base e size v n xs) (hBb : B ≤ base) (hgr : w.grownBy w' v.ownBlock) (hsz : base ≤ w.heap.size) {w0 : World} (h : Below B w0 w) : Below B w0 w' :=
  h.grown hgr (by omega) (fun k hk => by
    rcases Nat.lt_or_ge k base with hlt | hge
    · exact absurd hk (own_base hv hlt)
    · omega)
/-- Tokens in memory. -/
def TksAt (w : World) (base : Nat) (v : Value) (T : List Tk) : Prop := w.ownsRow base 56 3 v T.length (tksL T)
theorem tks_nil (w : World) (base : Nat) : TksAt w base (.slice none 0 0) [] := ⟨rfl, .inl ⟨rfl, rfl⟩⟩
end Go.Proofs.Ytlobphanodhcoaa
