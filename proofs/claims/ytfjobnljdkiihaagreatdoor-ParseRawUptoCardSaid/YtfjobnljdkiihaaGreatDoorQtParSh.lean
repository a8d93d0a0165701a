/- The document's comparison of programs. Conditions: each theorem's. -/
import Derived.Test.YtfjobnljdkiihaaGreatDoorQtParSs
namespace Go.Proofs.YtfjobnljdkiihaaGreatDoor
open Go.RowKit Go.Maps
set_option linter.unusedVariables false
set_option linter.unusedSimpArgs false
set_option maxRecDepth 100000
open Lx Pa
namespace Pa
def fd0 : PFd := ⟨⟨#[]⟩, ty0, 0⟩
def sr0 : PSr := ⟨⟨#[]⟩, [], 0⟩
def fn0 : PFn := ⟨⟨#[]⟩, ty0, [], st0, 0⟩
structure EqFd (pl : Bool) (x y : PFd) : Prop where
 nm : x.nm = y.nm
 ty : x.ty = y.ty
 pa : pl = true → x.at_ = y.at_
theorem eqFd_iff {pl : Bool} {a a' b b' : ByteArray} {n n' m m' : Int} {p p' : Nat} : EqFd pl ⟨a, ⟨n, m, b⟩, p⟩ ⟨a', ⟨n', m', b'⟩, p'⟩ ↔ a = a' ∧ n = n' ∧ m = m' ∧ b = b' ∧ (pl = true → p = p') := by
 constructor
 ·rintro ⟨h1, h2, h4⟩
  injection h2 with h5 h6 h7
  exact ⟨h1, h5, h6, h7, h4⟩
 ·rintro ⟨rfl, rfl, rfl, rfl, h⟩
  exact ⟨rfl, rfl, h⟩
def EqL {α : Type} (R : α → α → Prop) (d : α) (l1 l2 : List α) : Prop := l1.length = l2.length ∧ ∀ i, i < l1.length → R (l1.getD i d) (l2.getD i d)
theorem EqL.no {α : Type} {R : α → α → Prop} {d : α} {l1 l2 : List α} {j : Nat} {x y : α} (hx : l1[j]? = some x) (hy : l2[j]? = some y) (h : ¬ R x y) : ¬ EqL R d l1 l2 := fun hh => h (by
 have := hh.2 j (List.getElem?_eq_some_iff.1 hx).1
 rwa [getD_of hx, getD_of hy] at this)
structure EqSr (pl : Bool) (x y : PSr) : Prop where
 nm : x.nm = y.nm
 pa : pl = true → x.at_ = y.at_
 fds : EqL (EqFd pl) fd0 x.fds y.fds
structure EqFn (pl : Bool) (x y : PFn) : Prop where
 nm : x.nm = y.nm
 ty : x.ty = y.ty
 pa : pl = true → x.at_ = y.at_
 params : EqVas pl x.params y.params
 body : EqS pl x.body y.body
structure EqP (pl : Bool) (p q : PPr) : Prop where
 ss : EqL (EqSr pl) sr0 p.ss q.ss
 vs : EqVas pl p.vs q.vs
 fs : EqL (EqFn pl) fn0 p.fs q.fs
theorem eqS_one {pl : Bool} {u v : PSt} : EqSs pl [u] [v] ↔ EqS pl u v := by
 constructor
 ·intro h
  exact h.2 0 (by simp)
 ·intro h
  refine ⟨rfl, fun i hi => ?_⟩
  have : i = 0 := by simp at hi; omega
  subst this
  exact h
theorem elem_one {α : Type} {E : Elem α} {w : World} {S : Nat → Prop} {x : α} {c : List Value} (h : E.At w S x c) : c.toArray.all (·.oneCell') = true := Array.all_eq_true_iff_forall_mem.2 (fun v hv => E.one h v (by simpa using hv))
end Pa
end Go.Proofs.YtfjobnljdkiihaaGreatDoor
