/- Trees in memory. Conditions: each theorem's. -/
import Derived.Test.YtlobphanodhcoaaParE
import Derived.Test.YtlobphanodhcoaaParF
namespace Go.Proofs.Ytlobphanodhcoaa
open Go.RowKit Go.Maps
set_option linter.unusedVariables false
set_option linter.unusedSimpArgs false
set_option maxRecDepth 100000
open Lx Pa
/-- A slice of n elements, whose cells stand in a block of which S holds. -/
def RowAt (w : World) (S : Nat → Prop) (v : Value) (n : Nat) (xs : List Value) : Prop :=
  ∃ A cap, v = .slice A n cap ∧ n ≤ cap ∧ cap ≤ maxLen ∧ (0 < n → ∃ g o, A = some ⟨g, o, none⟩ ∧ S g ∧ g < w.heap.size ∧ w.rangeAt g o xs)
theorem RowAt.keep {w w' : World} {S S' : Nat → Prop} {v : Value} {n : Nat} {xs : List Value} (h : RowAt w S v n xs) (hk : ∀ g, S g → g < w.heap.size → S' g ∧ w'.heap[g]? = w.heap[g]?) (hz : w.heap.size ≤ w'.heap.size) : RowAt w' S' v n xs := by
  obtain ⟨A, cap, e, h1, h2, h3⟩ := h
  refine ⟨A, cap, e, h1, h2, fun hn => ?_⟩
  obtain ⟨g, o, e2, hs, hg, hr⟩ := h3 hn
  obtain ⟨k1, k2⟩ := hk g hs hg
  exact ⟨g, o, e2, k1, Nat.lt_of_lt_of_le hg hz, fun j u hu => (World.cell?_of_block (w := w) k2).trans (hr j u hu)⟩
theorem RowAt.nil (w : World) (S : Nat → Prop) : RowAt w S (.slice none 0 0) 0 [] := ⟨none, 0, rfl, Nat.le_refl _, by unfold maxLen; omega, fun h => by omega⟩
abbrev exL (kd : Int) (op nm : ByteArray) (num : Int) (v : Value) (ty : PTy) (at_ : Nat) : List Value := [.int .i64 kd, .string op, .string nm, .int .u64 num, v, .int .i64 ty.ba, .int .i64 ty.st, .string ty.rc, .int .i64 at_]
/-- An expression in memory: its nine cells; its kids' stand in blocks of which S holds. -/
inductive ExAt (w : World) (S : Nat → Prop) : PEx → List Value → Prop
  | mk {kd : Int} {op nm : ByteArray} {num : Int} {kids : List PEx} {ty : PTy} {at_ : Nat} {v : Value} {rows : List (List Value)} (hl : rows.length = kids.length) (hr : RowAt w S v kids.length rows.flatten)
      (hk : ∀ i, i < kids.length → ExAt w S (kids.getD i ex0) (rows.getD i [])) : ExAt w S (.mk kd op nm num kids ty at_) (exL kd op nm num v ty at_)
theorem ExAt.keep {w w' : World} {S S' : Nat → Prop} (hk : ∀ g, S g → g < w.heap.size → S' g ∧ w'.heap[g]? = w.heap[g]?) (hz : w.heap.size ≤ w'.heap.size) {x : PEx} {c : List Value} (h : ExAt w S x c) : ExAt w' S' x c := by
  induction h with
  | mk hl hr _ ih => exact .mk hl (hr.keep hk hz) ih
/-- Expressions in memory: what the slice of them is. -/
def ExsAt (w : World) (S : Nat → Prop) (l : List PEx) (v : Value) : Prop := ∃ rows : List (List Value), rows.length = l.length ∧ RowAt w S v l.length rows.flatten ∧ ∀ i, i < l.length → ExAt w S (l.getD i ex0) (rows.getD i [])
theorem ExsAt.keep {w w' : World} {S S' : Nat → Prop} (hk : ∀ g, S g → g < w.heap.size → S' g ∧ w'.heap[g]? = w.heap[g]?) (hz : w.heap.size ≤ w'.heap.size) {l : List PEx} {v : Value} (h : ExsAt w S l v) : ExsAt w' S' l v := by
  obtain ⟨rows, h1, h2, h3⟩ := h
  exact ⟨rows, h1, h2.keep hk hz, fun i hi => (h3 i hi).keep hk hz⟩
theorem ExsAt.nil (w : World) (S : Nat → Prop) : ExsAt w S [] (.slice none 0 0) := ⟨[], rfl, RowAt.nil w S, fun i hi => by simp at hi⟩
theorem ExsAt.slice {w : World} {S : Nat → Prop} {l : List PEx} {v : Value} (h : ExsAt w S l v) : ∃ A cap, v = .slice A l.length cap := by obtain ⟨_, _, ⟨A, cap, e, _⟩, _⟩ := h; exact ⟨A, cap, e⟩
theorem ExAt.of {w : World} {S : Nat → Prop} {kd : Int} {op nm : ByteArray} {num : Int} {kids : List PEx} {ty : PTy} {at_ : Nat} {v : Value} (h : ExsAt w S kids v) : ExAt w S (.mk kd op nm num kids ty at_) (exL kd op nm num v ty at_) := by
  obtain ⟨rows, h1, h2, h3⟩ := h
  exact .mk h1 h2 h3
theorem ExAt.inv {w : World} {S : Nat → Prop} {x : PEx} {c : List Value} (h : ExAt w S x c) : ∃ kd op nm num kids ty A cap, x = .mk kd op nm num kids ty x.at_ ∧ c = exL kd op nm num (.slice A kids.length cap) ty x.at_ ∧ ExsAt w S kids (.slice A kids.length cap) := by
  cases h with
  | @mk kd op nm num kids ty at_ v rows hl hr hk =>
    have h : ExsAt w S kids v := ⟨rows, hl, hr, hk⟩
    obtain ⟨A, cap, rfl⟩ := h.slice
    exact ⟨kd, op, nm, num, kids, ty, A, cap, rfl, rfl, h⟩
theorem ExAt.len {w : World} {S : Nat → Prop} {x : PEx} {c : List Value} (h : ExAt w S x c) : c.length = 9 := by cases h; rfl
theorem ExAt.one {w : World} {S : Nat → Prop} {x : PEx} {c : List Value} (h : ExAt w S x c) : ∀ u ∈ c, u.oneCell' = true := by
  obtain ⟨kd, op, nm, num, kids, ty, A, cap, _, rfl, _⟩ := h.inv
  simp [Value.oneCell']
theorem ExAt.at8 {w : World} {S : Nat → Prop} {x : PEx} {c : List Value} (h : ExAt w S x c) : c[8]? = some (.int .i64 x.at_) := by
  obtain ⟨kd, op, nm, num, kids, ty, A, cap, _, rfl, _⟩ := h.inv
  rfl
theorem ExAt.ex0 (w : World) (S : Nat → Prop) : ExAt w S ex0 (exL 0 ⟨#[]⟩ ⟨#[]⟩ 0 (.slice none 0 0) ty0 0) := ExAt.of (ExsAt.nil w S)
/-- One, or two, expressions laid in a new block. -/
theorem ExsAt.one' {w : World} {S : Nat → Prop} {x : PEx} {c : List Value} {g : Nat} (h : ExAt w S x c) (hg : w.rangeAt g 0 c) (hl : g < w.heap.size) (hS : S g) : ExsAt w S [x] (.slice (some ⟨g, 0, none⟩) 1 1) :=
  ⟨[c], rfl, ⟨_, 1, rfl, Nat.le_refl _, by unfold maxLen; omega, fun _ => ⟨g, 0, rfl, hS, hl, by simpa using hg⟩⟩, fun i hi => by
    have : i = 0 := by simpa using hi
    subst this
    exact h⟩
theorem ExsAt.two {w : World} {S : Nat → Prop} {x y : PEx} {c d : List Value} {g : Nat} (h : ExAt w S x c) (k : ExAt w S y d) (hg : w.rangeAt g 0 (c ++ d)) (hl : g < w.heap.size) (hS : S g) : ExsAt w S [x, y] (.slice (some ⟨g, 0, none⟩) 2 2) :=
  ⟨[c, d], rfl, ⟨_, 2, rfl, Nat.le_refl _, by unfold maxLen; omega, fun _ => ⟨g, 0, rfl, hS, hl, by simpa using hg⟩⟩, fun i hi => by
    have : i = 0 ∨ i = 1 := by have : i < 2 := hi; omega
    rcases this with rfl | rfl
    · exact h
    · exact k⟩
end Go.Proofs.Ytlobphanodhcoaa
