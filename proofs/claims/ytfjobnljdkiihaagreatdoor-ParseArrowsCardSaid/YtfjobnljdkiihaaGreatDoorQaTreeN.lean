/- How great a tree is that was read of so many tokens; pure. Conditions: each theorem's. -/
import Derived.Test.YtfjobnljdkiihaaGreatDoorQaParAk
import Derived.Deep.MidRow
import Derived.Lib.QuoteLoop
import Derived.Lib.MapLaws
import Derived.Lib.ItoaNum
import Derived.Test.YtfjobnljdkiihaaGreatDoorQaParW
namespace Go.Proofs.YtfjobnljdkiihaaGreatDoor
open Go.RowKit Go.Maps
set_option linter.unusedVariables false
set_option linter.unusedSimpArgs false
set_option maxRecDepth 100000
open Lx Pa
namespace Pa
/-- Two expressions are the same (pl: with their places). -/
inductive EqE (pl : Bool) : PEx → PEx → Prop
  | mk {k : Int} {o n : ByteArray} {m : Int} {xs ys : List PEx} {ty : PTy} {a b : Nat} (ha : pl = true → a = b) (hl : xs.length = ys.length) (hk : ∀ i, i < xs.length → EqE pl (xs.getD i ex0) (ys.getD i ex0)) : EqE pl (.mk k o n m xs ty a) (.mk k o n m ys ty b)
def EqEs (pl : Bool) (l1 l2 : List PEx) : Prop := l1.length = l2.length ∧ ∀ i, i < l1.length → EqE pl (l1.getD i ex0) (l2.getD i ex0)
theorem eqE_iff {pl : Bool} {k k' : Int} {o o' n n' : ByteArray} {m m' : Int} {xs ys : List PEx} {ty ty' : PTy} {a b : Nat} : EqE pl (.mk k o n m xs ty a) (.mk k' o' n' m' ys ty' b) ↔ k = k' ∧ o = o' ∧ n = n' ∧ m = m' ∧ ty = ty' ∧ (pl = true → a = b) ∧ EqEs pl xs ys := by
  constructor
  · intro h
    cases h with
    | mk ha hl hk => exact ⟨rfl, rfl, rfl, rfl, rfl, ha, hl, hk⟩
  · rintro ⟨rfl, rfl, rfl, rfl, rfl, ha, hl, hk⟩
    exact .mk ha hl hk
theorem getD_of {α : Type} {l : List α} {i : Nat} {x d : α} (h : l[i]? = some x) : l.getD i d = x := by rw [List.getD_eq_getElem?_getD, h]; rfl
end Pa
end Go.Proofs.YtfjobnljdkiihaaGreatDoor
namespace Go.Proofs.YtfjobnljdkiihaaGreatDoor
open Go.RowKit Go.Maps
set_option linter.unusedVariables false
set_option linter.unusedSimpArgs false
set_option maxRecDepth 100000
open Lx Pa
namespace Pa
/-- Two variables are the same (pl: with their places). -/
structure EqVa (pl : Bool) (x y : PVa) : Prop where
  nm : x.nm = y.nm
  ty : x.ty = y.ty
  ln : x.ln = y.ln
  pa : pl = true → x.at_ = y.at_
def EqVas (pl : Bool) (l1 l2 : List PVa) : Prop := l1.length = l2.length ∧ ∀ i, i < l1.length → EqVa pl (l1.getD i va0) (l2.getD i va0)
end Pa
end Go.Proofs.YtfjobnljdkiihaaGreatDoor
namespace Go.Proofs.YtfjobnljdkiihaaGreatDoor
open Go.RowKit Go.Maps
set_option linter.unusedVariables false
set_option linter.unusedSimpArgs false
set_option maxRecDepth 100000
open Lx Pa
namespace Pa
/-- Two statements are the same (pl: with their places). -/
inductive EqS (pl : Bool) : PSt → PSt → Prop
  | mk {k : Int} {xs ys : List PEx} {ks ls : List PSt} {u v : PVa} {a b : Nat} (ha : pl = true → a = b) (hv : EqVa pl u v) (he : EqEs pl xs ys) (hl : ks.length = ls.length) (hk : ∀ i, i < ks.length → EqS pl (ks.getD i st0) (ls.getD i st0)) : EqS pl (.mk k xs ks u a) (.mk k ys ls v b)
def EqSs (pl : Bool) (l1 l2 : List PSt) : Prop := l1.length = l2.length ∧ ∀ i, i < l1.length → EqS pl (l1.getD i st0) (l2.getD i st0)
theorem eqS_iff {pl : Bool} {k k' : Int} {xs ys : List PEx} {ks ls : List PSt} {u v : PVa} {a b : Nat} : EqS pl (.mk k xs ks u a) (.mk k' ys ls v b) ↔ k = k' ∧ (pl = true → a = b) ∧ EqVa pl u v ∧ EqEs pl xs ys ∧ EqSs pl ks ls := by
  constructor
  · intro h
    cases h with
    | mk ha hv he hl hk => exact ⟨rfl, ha, hv, he, hl, hk⟩
  · rintro ⟨rfl, ha, hv, he, hl, hk⟩
    exact .mk ha hv he hl hk
theorem eqVa_one {pl : Bool} {u v : PVa} : EqVas pl [u] [v] ↔ EqVa pl u v := by
  constructor
  · intro h
    exact h.2 0 (by simp)
  · intro h
    refine ⟨rfl, fun i hi => ?_⟩
    have : i = 0 := by simp at hi; omega
    subst this
    exact h
end Pa
end Go.Proofs.YtfjobnljdkiihaaGreatDoor
namespace Go.Proofs.YtfjobnljdkiihaaGreatDoor
open Go.RowKit Go.Maps
set_option linter.unusedVariables false
set_option linter.unusedSimpArgs false
set_option maxRecDepth 100000
open Lx Pa
namespace Pa
def fd0 : PFd := ⟨⟨#[]⟩, ty0, 0⟩
def sr0 : PSr := ⟨⟨#[]⟩, [], 0⟩
def fn0 : PFn := ⟨⟨#[]⟩, ty0, [], st0, 0⟩
structure EqFd (pl : Bool) (x y : PFd) : Prop where
  nm : x.nm = y.nm
  ty : x.ty = y.ty
  pa : pl = true → x.at_ = y.at_
def EqL {α : Type} (R : α → α → Prop) (d : α) (l1 l2 : List α) : Prop := l1.length = l2.length ∧ ∀ i, i < l1.length → R (l1.getD i d) (l2.getD i d)
theorem EqL.no {α : Type} {R : α → α → Prop} {d : α} {l1 l2 : List α} {j : Nat} {x y : α} (hx : l1[j]? = some x) (hy : l2[j]? = some y) (h : ¬ R x y) : ¬ EqL R d l1 l2 := fun hh => h (by
  have := hh.2 j (List.getElem?_eq_some_iff.1 hx).1
  rwa [getD_of hx, getD_of hy] at this)
structure EqSr (pl : Bool) (x y : PSr) : Prop where
  nm : x.nm = y.nm
  pa : pl = true → x.at_ = y.at_
  fds : EqL (EqFd pl) fd0 x.fds y.fds
structure EqFn (pl : Bool) (x y : PFn) : Prop where
  nm : x.nm = y.nm
  ty : x.ty = y.ty
  pa : pl = true → x.at_ = y.at_
  params : EqVas pl x.params y.params
  body : EqS pl x.body y.body
/-- Two programs are the same (pl: with their places). -/
structure EqP (pl : Bool) (p q : PPr) : Prop where
  ss : EqL (EqSr pl) sr0 p.ss q.ss
  vs : EqVas pl p.vs q.vs
  fs : EqL (EqFn pl) fn0 p.fs q.fs
end Pa
end Go.Proofs.YtfjobnljdkiihaaGreatDoor
namespace Go.Proofs.YtfjobnljdkiihaaGreatDoor
open Go.Lib
set_option linter.unusedVariables false
set_option linter.unusedSimpArgs false
namespace Qi
/-- What a piece of a quoted text stands for: a byte that is no rune's, or a rune. -/
inductive Tok
  | bad (b : Int)
  | rune (r : Int)
def unhex (c : Int) : Int := if c < 58 then c - 48 else c - 87
def D : List Int → Option (Tok × List Int)
  | [] => none
  | c :: l =>
    if c = 34 then none
    else if c = 92 then
      match l with
      | [] => none
      | e :: l =>
        if e = 34 ∨ e = 92 then some (.rune e, l)
        else if e = 97 then some (.rune 7, l)
        else if e = 98 then some (.rune 8, l)
        else if e = 102 then some (.rune 12, l)
        else if e = 110 then some (.rune 10, l)
        else if e = 114 then some (.rune 13, l)
        else if e = 116 then some (.rune 9, l)
        else if e = 118 then some (.rune 11, l)
        else if e = 120 then
          match l with
          | a :: b :: l => if unhex a * 16 + unhex b < 128 then some (.rune (unhex a * 16 + unhex b), l) else some (.bad (unhex a * 16 + unhex b), l)
          | _ => none
        else if e = 117 then
          match l with
          | a :: b :: c :: d :: l => some (.rune (((unhex a * 16 + unhex b) * 16 + unhex c) * 16 + unhex d), l)
          | _ => none
        else
          match l with
          | a :: b :: c :: d :: a' :: b' :: c' :: d' :: l => some (.rune (((((((unhex a * 16 + unhex b) * 16 + unhex c) * 16 + unhex d) * 16 + unhex a') * 16 + unhex b') * 16 + unhex c') * 16 + unhex d'), l)
          | _ => none
    else if c < 128 then some (.rune c, l)
    else if c < 224 then
      match l with
      | a :: l => some (.rune ((c - 192) * 64 + (a - 128)), l)
      | _ => none
    else if c < 240 then
      match l with
      | a :: b :: l => some (.rune (((c - 224) * 64 + (a - 128)) * 64 + (b - 128)), l)
      | _ => none
    else
      match l with
      | a :: b :: d :: l => some (.rune ((((c - 240) * 64 + (a - 128)) * 64 + (b - 128)) * 64 + (d - 128)), l)
      | _ => none
/-- What one round of Quote takes. -/
def tok (s : ByteArray) : Tok := if (Utf8.decode s 0).2 = 1 ∧ (Utf8.decode s 0).1 = 65533 then .bad (s.get! 0).toNat else .rune ((Utf8.decode s 0).1 : Int)
end Qi
end Go.Proofs.YtfjobnljdkiihaaGreatDoor
namespace Go.Proofs.YtfjobnljdkiihaaGreatDoor
open Go.RowKit Go.Maps
set_option linter.unusedVariables false
set_option linter.unusedSimpArgs false
set_option maxRecDepth 100000
open Lx Pa Go.Lib
namespace Qi
def qt (T : PrintTabs) (s : ByteArray) : List UInt8 := (quoteZ T s).map fun x => x.toNat.toUInt8
end Qi
end Go.Proofs.YtfjobnljdkiihaaGreatDoor
namespace Go.Proofs.YtfjobnljdkiihaaGreatDoor
open Go.RowKit Go.Maps
set_option linter.unusedVariables false
set_option linter.unusedSimpArgs false
set_option maxRecDepth 100000
open Lx Pa Go.Lib Qi
namespace Pa
section
variable (T : PrintTabs)
def typT (t : PTy) : List UInt8 := itoa t.ba ++ 32 :: (itoa t.st ++ 32 :: qt T t.rc)
def varT (v : PVa) : List UInt8 := qt T v.nm ++ 32 :: (typT T v.ty ++ 32 :: itoa v.ln)
def exLine (kd : Int) (op nm : ByteArray) (num : Int) (ty : PTy) (n : Nat) : List UInt8 := [101, 120, 112, 114] ++ 32 :: (itoa kd ++ 32 :: (qt T op ++ 32 :: (qt T nm ++ 32 :: (itoa num ++ 32 :: (typT T ty ++ 32 :: (itoa n ++ [10]))))))
mutual
def exT : PEx → List UInt8
  | .mk kd op nm num kids ty _ => exLine T kd op nm num ty kids.length ++ exsT kids
def exsT : List PEx → List UInt8
  | [] => []
  | x :: l => exT x ++ exsT l
end
def stLine (kd : Int) (v : PVa) (n m : Nat) : List UInt8 := [115, 116, 109, 116] ++ 32 :: (itoa kd ++ 32 :: (varT T v ++ 32 :: (itoa n ++ 32 :: (itoa m ++ [10]))))
mutual
def stT : PSt → List UInt8
  | .mk kd exprs kids v _ => stLine T kd v exprs.length kids.length ++ (exsT T exprs ++ stsT kids)
def stsT : List PSt → List UInt8
  | [] => []
  | x :: l => stT x ++ stsT l
end
def fdT (f : PFd) : List UInt8 := [102, 105, 101, 108, 100] ++ 32 :: (qt T f.nm ++ 32 :: (typT T f.ty ++ [10]))
def srT (s : PSr) : List UInt8 := [115, 116, 114, 117, 99, 116] ++ 32 :: (qt T s.nm ++ 32 :: (itoa s.fds.length ++ 10 :: s.fds.flatMap (fdT T)))
def paT (v : PVa) : List UInt8 := [112, 97, 114, 97, 109] ++ 32 :: (varT T v ++ [10])
def vaT (v : PVa) : List UInt8 := [118, 97, 114] ++ 32 :: (varT T v ++ [10])
def fnT (f : PFn) : List UInt8 := [102, 117, 110, 99] ++ 32 :: (qt T f.nm ++ 32 :: (typT T f.ty ++ 32 :: (itoa f.params.length ++ 10 :: (f.params.flatMap (paT T) ++ stT T f.body))))
/-- The text of a program's tree. -/
def treeT (p : PPr) : List UInt8 := [112, 114, 111, 103, 114, 97, 109] ++ 32 :: (itoa p.ss.length ++ 32 :: (itoa p.vs.length ++ 32 :: (itoa p.fs.length ++ 10 :: (p.ss.flatMap (srT T) ++ (p.vs.flatMap (vaT T) ++ p.fs.flatMap (fnT T))))))
end
variable {T : PrintTabs}
theorem EqEs.cons {x y : PEx} {l m : List PEx} (h : EqE false x y) (g : EqEs false l m) : EqEs false (x :: l) (y :: m) := ⟨by simp [g.1], fun i hi => by
  cases i with
  | zero => exact h
  | succ i => exact g.2 i (by simpa using hi)⟩
theorem EqSs.cons {x y : PSt} {l m : List PSt} (h : EqS false x y) (g : EqSs false l m) : EqSs false (x :: l) (y :: m) := ⟨by simp [g.1], fun i hi => by
  cases i with
  | zero => exact h
  | succ i => exact g.2 i (by simpa using hi)⟩
theorem exs_flat (l : List PEx) : exsT T l = l.flatMap (exT T) := by
  induction l with
  | nil => simp [exsT]
  | cons x l ih => simp [exsT, ih]
theorem sts_flat (l : List PSt) : stsT T l = l.flatMap (stT T) := by
  induction l with
  | nil => simp [stsT]
  | cons x l ih => simp [stsT, ih]
theorem flat_eq {α : Type} {f : α → List UInt8} {d : α} : ∀ (l m : List α), l.length = m.length → (∀ i, i < l.length → f (l.getD i d) = f (m.getD i d)) → l.flatMap f = m.flatMap f := by
  intro l
  induction l with
  | nil => intro m hl _; cases m with | nil => rfl | cons y m => simp at hl
  | cons x l ih =>
    intro m hl h
    cases m with
    | nil => simp at hl
    | cons y m =>
      rw [List.flatMap_cons, List.flatMap_cons, ih m (by simpa using hl) (fun i hi => h (i + 1) (by simpa using hi))]
      have := h 0 (by simp)
      simp only [List.getD_cons_zero] at this
      rw [this]
theorem exT_eq {x y : PEx} (h : EqE false x y) : exT T x = exT T y := by
  induction h with
  | mk ha hl hk ih => simp only [exT, exs_flat]; rw [hl, flat_eq _ _ hl ih]
theorem exs_eq {l m : List PEx} (h : EqEs false l m) : exsT T l = exsT T m := by
  rw [exs_flat, exs_flat]
  exact flat_eq _ _ h.1 fun i hi => exT_eq (h.2 i hi)
theorem va_eq {x y : PVa} (h : EqVa false x y) : varT T x = varT T y := by unfold varT; rw [h.nm, h.ty, h.ln]
theorem stT_eq {x y : PSt} (h : EqS false x y) : stT T x = stT T y := by
  induction h with
  | mk ha hv he hl hk ih =>
    simp only [stT, sts_flat, stLine]
    rw [exs_eq he, va_eq hv, he.1, hl, flat_eq _ _ hl ih]
theorem sr_eq {x y : PSr} (h : EqSr false x y) : srT T x = srT T y := by
  unfold srT
  rw [h.nm, h.fds.1, flat_eq _ _ h.fds.1 fun i hi => by have := h.fds.2 i hi; unfold fdT; rw [this.nm, this.ty]]
theorem fn_eq {x y : PFn} (h : EqFn false x y) : fnT T x = fnT T y := by
  unfold fnT
  rw [h.nm, h.ty, h.params.1, stT_eq h.body, flat_eq _ _ h.params.1 fun i hi => by have := h.params.2 i hi; unfold paT; rw [va_eq this]]
/-- .. and the same trees are told the same. -/
theorem tree_eq {p q : PPr} (h : EqP false p q) : treeT T p = treeT T q := by
  unfold treeT
  rw [h.ss.1, h.vs.1, h.fs.1, flat_eq _ _ h.ss.1 fun i hi => sr_eq (h.ss.2 i hi), flat_eq _ _ h.vs.1 fun i hi => (by have := h.vs.2 i hi; unfold vaT; rw [va_eq this]), flat_eq _ _ h.fs.1 fun i hi => fn_eq (h.fs.2 i hi)]
end Pa
end Go.Proofs.YtfjobnljdkiihaaGreatDoor
namespace Go.Proofs.YtfjobnljdkiihaaGreatDoor
open Go.RowKit Go.Maps
set_option linter.unusedVariables false
set_option linter.unusedSimpArgs false
set_option maxRecDepth 100000
open Lx
namespace Pa
def fitI (n : Int) : Prop := -9223372036854775808 ≤ n ∧ n ≤ 9223372036854775807
def fitU (n : Int) : Prop := 0 ≤ n ∧ n ≤ 18446744073709551615
instance (n : Int) : Decidable (fitI n) := by unfold fitI; infer_instance
instance (n : Int) : Decidable (fitU n) := by unfold fitU; infer_instance
def shT (t : PTy) : Prop := t.rc.size ≤ 8192 ∧ fitI t.ba ∧ fitI t.st
theorem mnD_rg {base : Int} (hb : 0 < base) : ∀ (l : List UInt8) (n m : Int), 0 ≤ n → n ≤ 9223372036854775807 → mnD base n l = some m → 0 ≤ m ∧ m ≤ 9223372036854775807
  | [], n, m, h0, h1, h => by simp only [mnD, Option.some.injEq] at h; omega
  | c :: l, n, m, h0, h1, h => by
    simp only [mnD] at h
    split at h
    · cases h
    · rename_i hd
      simp only [badD, Bool.or_eq_true, decide_eq_true_eq, not_or, Int.not_le, Int.not_lt] at hd
      have hdv : 0 ≤ dv (bt c) := by unfold dv; split <;> (try split) <;> omega
      have h2 := (Int.le_ediv_iff_mul_le hb).1 hd.2
      have h3 := Int.mul_nonneg h0 (Int.le_of_lt hb)
      exact mnD_rg hb l _ m (by omega) (by omega) h
theorem mean_rg (l : List UInt8) : fitU ((meanV l).getD 0) := by
  have hin : ∀ (base : Int) (l : List UInt8), 0 < base → fitU ((meanIn base l).getD 0) := fun base l hb => by
    unfold meanIn
    split
    · decide
    · cases h : mnD base 0 l with
      | none => decide
      | some m =>
        have := mnD_rg hb l 0 m (by omega) (by omega) h
        exact ⟨this.1, by show m ≤ _; omega⟩
  unfold meanV
  split
  · have := bt_range (l.getD 1 0)
    exact ⟨this.1, by show bt _ ≤ _; omega⟩
  split
  · decide
  split
  · exact hin _ _ (by decide)
  · exact hin _ _ (by decide)
mutual
/-- How many expressions a tree has. -/
def nE : PEx → Nat
  | .mk _ _ _ _ kids _ _ => nEs kids + 1
def nEs : List PEx → Nat
  | [] => 0
  | x :: l => nE x + nEs l
end
mutual
/-- The texts in a tree are short. -/
def shE : PEx → Prop
  | .mk kd op nm num kids ty _ => (op.size ≤ 8192 ∧ nm.size ≤ 8192 ∧ shT ty ∧ fitI kd ∧ fitU num) ∧ shEs kids
def shEs : List PEx → Prop
  | [] => True
  | x :: l => shE x ∧ shEs l
end
theorem shEs_app : ∀ {l m : List PEx}, shEs l → shEs m → shEs (l ++ m)
  | [], m, _, h => h
  | x :: l, m, h, g => ⟨h.1, shEs_app h.2 g⟩
theorem nEs_app : ∀ (l m : List PEx), nEs (l ++ m) = nEs l + nEs m
  | [], m => by simp [nEs]
  | x :: l, m => by simp only [List.cons_append, nEs, nEs_app l m]; omega
theorem sz0 : (⟨#[]⟩ : ByteArray).size ≤ 8192 := by show (0 : Nat) ≤ 8192; omega
theorem szB : eB.size ≤ 8192 := sz0
theorem szS : (⟨#[42]⟩ : ByteArray).size ≤ 8192 := by show (1 : Nat) ≤ 8192; omega
theorem szT : shT ty0 := ⟨sz0, by decide, by decide⟩
theorem sh0 : shE ex0 := ⟨⟨sz0, sz0, szT, by decide, by decide⟩, trivial⟩
theorem sh1 {kd : Int} {op nm : ByteArray} {num : Int} {kids : List PEx} {ty : PTy} {a : Nat} (h1 : op.size ≤ 8192) (h2 : nm.size ≤ 8192) (h3 : shT ty) (h : shEs kids) (hk : fitI kd := by decide) (hn : fitU num := by decide) : shE (.mk kd op nm num kids ty a) := ⟨⟨h1, h2, h3, hk, hn⟩, h⟩
theorem hd1_sh {r : List PEx × S} (h : shEs r.1) : shE (hd1 r) := by
  unfold hd1
  cases hr : r.1 with
  | nil => exact sh0
  | cons x l => rw [hr] at h; exact h.1
theorem oneT_sz {s : S} (h : Ok s) (k : Int) : (s.oneT k).size ≤ 8192 := by
  unfold S.oneT; split
  · exact h.hd.1
  · exact sz0
theorem stars_rg : ∀ n k (s : S) (m : Int) (s' : S), starsV n k s = (some m, s') → k ≤ m ∧ m ≤ k + n := by
  intro n
  induction n with
  | zero => intro k s m s' h; unfold starsV at h; split at h <;> simp at h; omega
  | succ n ih =>
    intro k s m s' h
    unfold starsV at h
    split at h
    · have := ih _ _ _ _ h; omega
    · simp at h; omega
theorem typeV_sz {s : S} (h : Ok s) : shT (typeV s).1 := by
  unfold typeV
  split
  · exact szT
  · rename_i b hb
    split
    · exact szT
    · rename_i k s' hk
      have h1 := stars_rg _ _ _ _ _ hk
      have h2 := base_rg hb
      refine ⟨?_, ⟨by show _ ≤ b; omega, by show b ≤ _; omega⟩, ⟨by show _ ≤ k; omega, by show k ≤ _; omega⟩⟩
      show ByteArray.size (if b = 4 then s.tl.oneT 1 else ⟨#[]⟩) ≤ 8192
      split
      · exact oneT_sz (tl_lt h (.inl (base_ne hb))).le.ok 1
      · exact sz0
def inW : Qe → Nat
  | .binL _ _ x => nE x | .posL _ x => nE x | .betL _ l => nEs l | .use _ _ _ => 1 | _ => 0
def inSh : Qe → Prop
  | .binL _ _ x => shE x | .posL _ x => shE x | .betL _ l => shEs l | .use nm _ _ => nm.size ≤ 8192 | _ => True
def outW : Qe → List PEx × S → Nat
  | .betE _, r => nEs r.1 | .betL _ _, r => nEs r.1 | _, r => nE (hd1 r)
theorem hd1_one (x : PEx) (s : S) : hd1 ([x], s) = x := rfl
def Cn (q : Qe) (s : S) (r : List PEx × S) : Prop := (inSh q → shEs r.1) ∧ (r.2.er = 0 → outW q r + r.2.tk.length ≤ inW q + s.tk.length)
theorem runE_n : ∀ f q s, En q s f → Cn q s (runE f q s) := by
  intro f
  induction f with
  | zero => intro q s ⟨h, h1, _⟩; cases q <;> (simp only [rank] at h1; omega)
  | succ f ih =>
    intro q s ⟨h, h1, hl⟩
    have hp := h.pos
    cases q with
    | expr d =>
      simp only [rank] at h1
      have e1 : En (.bin d 1) s f := ⟨h, by simp only [rank]; omega, Int.le_refl _⟩
      obtain ⟨s1, n1⟩ := ih _ _ e1
      have ha := (runE_le f _ _ e1).2 rfl
      simp only [runE]
      split
      · rename_i h2
        have ht := tl_lt ha.le.ok (is_ne h2 (by decide))
        have hz := (tl_ok ha.le.ok (is_ne h2 (by decide))).2
        have e2 : En (.expr (d + 1)) (runE f (.bin d 1) s).2.tl f := ⟨ht.le.ok, by simp only [rank]; have := ha.le.len; omega, trivial⟩
        obtain ⟨s2, n2⟩ := ih _ _ e2
        have hb := (runE_le f _ _ e2).1
        refine ⟨fun _ => ⟨sh1 szB szB szT ⟨hd1_sh (s1 trivial), hd1_sh (s2 trivial), trivial⟩, trivial⟩, fun he => ?_⟩
        have g2 := n2 he
        have g1 := n1 (ht.le.er (hb.er he))
        simp only [outW, inW, hd1_one, nE, nEs] at g1 g2 ⊢
        omega
      · refine ⟨fun _ => ⟨hd1_sh (s1 trivial), trivial⟩, fun he => ?_⟩
        have g1 := n1 he
        simp only [outW, inW, hd1_one] at g1 ⊢
        omega
    | bin d l =>
      simp only [rank] at h1
      have e1 : En (.un (d + 1)) s f := ⟨h, by simp only [rank]; omega, trivial⟩
      obtain ⟨s1, n1⟩ := ih _ _ e1
      have ha := (runE_le f _ _ e1).2 rfl
      simp only [runE]
      have e2 : En (.binL d l (hd1 (runE f (.un (d + 1)) s))) (runE f (.un (d + 1)) s).2 f := ⟨ha.le.ok, by simp only [rank]; have := ha.le.len; omega, hl⟩
      obtain ⟨s2, n2⟩ := ih _ _ e2
      have hb := (runE_le f _ _ e2).1
      refine ⟨fun _ => s2 (hd1_sh (s1 trivial)), fun he => ?_⟩
      have g2 := n2 he
      have g1 := n1 (hb.er he)
      simp only [outW, inW] at g1 g2 ⊢
      omega
    | binL d l x =>
      simp only [rank] at h1
      simp only [lOk] at hl
      simp only [runE]
      split
      · refine ⟨fun hs => ⟨hs, trivial⟩, fun he => ?_⟩
        simp only [outW, inW, hd1_one]
        omega
      · rename_i h2
        have hne := Or.inl (b := s.hd.kd ≠ 0) (str_ne h2 hl)
        have ht := tl_lt h hne
        have hz := (tl_ok h hne).2
        have hsr := str_rg s.hd.tx
        have e1 : En (.bin d (strV s.hd.tx + 1)) s.tl f := ⟨ht.le.ok, by simp only [rank]; omega, by simp only [lOk]; omega⟩
        obtain ⟨s1, n1⟩ := ih _ _ e1
        have ha := (runE_le f _ _ e1).1
        have e2 : En (.binL d l (.mk 4 s.hd.tx eB 0 [x, hd1 (runE f (.bin d (strV s.hd.tx + 1)) s.tl)] ty0 x.at_)) (runE f (.bin d (strV s.hd.tx + 1)) s.tl).2 f := ⟨ha.ok, by simp only [rank]; have := ha.len; omega, hl⟩
        obtain ⟨s2, n2⟩ := ih _ _ e2
        have hb := (runE_le f _ _ e2).1
        refine ⟨fun hs => s2 (by show shE _; exact sh1 h.hd.1 szB szT ⟨hs, hd1_sh (s1 trivial), trivial⟩), fun he => ?_⟩
        have g2 := n2 he
        have g1 := n1 (hb.er he)
        simp only [outW, inW, nE, nEs] at g1 g2 ⊢
        omega
    | un d =>
      simp only [rank] at h1
      have hd := deep_le h d
      simp only [runE]
      have hs0 : s.tk.length = s.tk.length := rfl
      generalize hsd : deepS d s = s' at *
      have h := hd.ok
      have hlen := hd.len
      split
      · rename_i h2
        have hne := Or.inl (b := s'.hd.kd ≠ 0) (un_ne h2)
        have ht := tl_lt h hne
        have hz := (tl_ok h hne).2
        have e1 : En (.un (d + 1)) s'.tl f := ⟨ht.le.ok, by simp only [rank]; omega, trivial⟩
        obtain ⟨s1, n1⟩ := ih _ _ e1
        refine ⟨fun _ => ⟨sh1 h.hd.1 szB szT ⟨hd1_sh (s1 trivial), trivial⟩, trivial⟩, fun he => ?_⟩
        have g1 := n1 he
        simp only [outW, inW, hd1_one, nE, nEs] at g1 ⊢
        omega
      · split
        · rename_i _ h2
          have ht := tl_lt h (.inl (by rw [h2]; decide))
          have hz := (tl_ok h (.inl (by rw [h2]; decide))).2
          have h3 := (want_lt ht.le.ok (x := ⟨#[40]⟩) (by decide)).le
          have h4 := (type_lt h3.ok).le
          have h5 := (want_lt h4.ok (x := ⟨#[41]⟩) (by decide)).le
          refine ⟨fun _ => ⟨sh1 szB szB (typeV_sz h3.ok) trivial, trivial⟩, fun he => ?_⟩
          have k3 := h3.len
          have k4 := h4.len
          have k5 := h5.len
          simp only [outW, inW, hd1_one, nE, nEs] at *
          omega
        · split
          · rename_i _ _ h2
            have hne := Or.inl (a := s'.hd.tx ≠ ⟨#[]⟩) (b := s'.hd.kd ≠ 0) (by rw [h2.1]; decide)
            have ht := tl_lt h hne
            have hz := (tl_ok h hne).2
            have e1 : En (.cast s'.hd.at_ d) s'.tl f := ⟨ht.le.ok, by simp only [rank]; omega, trivial⟩
            obtain ⟨s1, n1⟩ := ih _ _ e1
            refine ⟨fun _ => s1 trivial, fun he => ?_⟩
            have g1 := n1 he
            simp only [outW, inW] at g1 ⊢
            omega
          · have e1 : En (.post d) s' f := ⟨h, by simp only [rank]; omega, trivial⟩
            obtain ⟨s1, n1⟩ := ih _ _ e1
            refine ⟨fun _ => s1 trivial, fun he => ?_⟩
            have g1 := n1 he
            simp only [outW, inW] at g1 ⊢
            omega
    | cast a d =>
      simp only [rank] at h1
      simp only [runE]
      have h0 := type_lt h
      have h2 := (type_lt h).trans (want_lt (type_lt h).le.ok (x := ⟨#[41]⟩) (by decide)).le
      have hlen := h2.le.len
      have hty := typeV_sz h
      generalize (typeV s).2.want ⟨#[41]⟩ = s2 at *
      split
      · rename_i h3
        have ht := tl_lt h2.le.ok (is_ne h3 (by decide))
        have hz := (tl_ok h2.le.ok (is_ne h3 (by decide))).2
        have hw := want_lt ht.le.ok (x := ⟨#[40]⟩) (by decide)
        have e1 : En (.inside d) (s2.tl.want ⟨#[40]⟩) f := ⟨hw.le.ok, by simp only [rank]; have := hw.le.len; omega, trivial⟩
        obtain ⟨s1, n1⟩ := ih _ _ e1
        refine ⟨fun _ => ⟨sh1 szB szB hty ⟨hd1_sh (s1 trivial), trivial⟩, trivial⟩, fun he => ?_⟩
        have g1 := n1 he
        have := hw.le.len
        simp only [outW, inW, hd1_one, nE, nEs] at g1 ⊢
        omega
      · have e1 : En (.un (d + 1)) s2 f := ⟨h2.le.ok, by simp only [rank]; omega, trivial⟩
        obtain ⟨s1, n1⟩ := ih _ _ e1
        have ha := (runE_le f _ _ e1).1
        refine ⟨fun _ => ⟨sh1 szB szB hty ⟨hd1_sh (s1 trivial), trivial⟩, trivial⟩, fun he => ?_⟩
        have g1 := n1 he
        have := h2.lt (ha.er he)
        simp only [outW, inW, hd1_one, nE, nEs] at g1 ⊢
        omega
    | inside d =>
      simp only [rank] at h1
      simp only [runE]
      have e1 : En (.expr (d + 1)) s f := ⟨h, by simp only [rank]; omega, trivial⟩
      obtain ⟨s1, n1⟩ := ih _ _ e1
      have ha := (runE_le f _ _ e1).2 rfl
      have hw := (want_lt ha.le.ok (x := ⟨#[41]⟩) (by decide)).le
      refine ⟨fun _ => ⟨hd1_sh (s1 trivial), trivial⟩, fun he => ?_⟩
      have g1 := n1 (hw.er he)
      have := hw.len
      simp only [outW, inW, hd1_one] at g1 ⊢
      omega
    | post d =>
      simp only [rank] at h1
      simp only [runE]
      have e1 : En (.atom d) s f := ⟨h, by simp only [rank]; omega, trivial⟩
      obtain ⟨s1, n1⟩ := ih _ _ e1
      have ha := (runE_le f _ _ e1).2 rfl
      have e2 : En (.posL d (hd1 (runE f (.atom d) s))) (runE f (.atom d) s).2 f := ⟨ha.le.ok, by simp only [rank]; have := ha.le.len; omega, trivial⟩
      obtain ⟨s2, n2⟩ := ih _ _ e2
      have hb := (runE_le f _ _ e2).1
      refine ⟨fun _ => s2 (hd1_sh (s1 trivial)), fun he => ?_⟩
      have g2 := n2 he
      have g1 := n1 (hb.er he)
      simp only [outW, inW] at g1 g2 ⊢
      omega
    | posL d x =>
      simp only [rank] at h1
      simp only [runE]
      split
      · rename_i h2
        have ht := tl_lt h (is_ne h2 (by decide))
        have hz := (tl_ok h (is_ne h2 (by decide))).2
        have e1 : En (.expr (d + 1)) s.tl f := ⟨ht.le.ok, by simp only [rank]; omega, trivial⟩
        obtain ⟨s1, n1⟩ := ih _ _ e1
        have ha := (runE_le f _ _ e1).1
        have hw := (want_lt ha.ok (x := ⟨#[93]⟩) (by decide)).le
        have e2 : En (.posL d (.mk 7 eB eB 0 [x, hd1 (runE f (.expr (d + 1)) s.tl)] ty0 x.at_)) ((runE f (.expr (d + 1)) s.tl).2.want ⟨#[93]⟩) f := ⟨hw.ok, by simp only [rank]; have := ha.len; have := hw.len; omega, trivial⟩
        obtain ⟨s2, n2⟩ := ih _ _ e2
        have hb := (runE_le f _ _ e2).1
        refine ⟨fun hs => s2 (by show shE _; exact sh1 szB szB szT ⟨hs, hd1_sh (s1 trivial), trivial⟩), fun he => ?_⟩
        have g2 := n2 he
        have g1 := n1 (hw.er (hb.er he))
        have := hw.len
        simp only [outW, inW, nE, nEs] at g1 g2 ⊢
        omega
      · split
        · rename_i _ h2
          have ht := tl_lt h (is_ne h2 (by decide))
          have hz := (tl_ok h (is_ne h2 (by decide))).2
          have ho := (one_lt ht.le.ok (k := 1) (by decide)).le
          have e2 : En (.posL d (.mk 8 eB (s.tl.oneT 1) 0 [x] ty0 x.at_)) (s.tl.one 1) f := ⟨ho.ok, by simp only [rank]; have := ho.len; omega, trivial⟩
          obtain ⟨s2, n2⟩ := ih _ _ e2
          refine ⟨fun hs => s2 (by show shE _; exact sh1 szB (oneT_sz ht.le.ok 1) szT ⟨hs, trivial⟩), fun he => ?_⟩
          have g2 := n2 he
          have := ho.len
          simp only [outW, inW, nE, nEs] at g2 ⊢
          omega
        · split
          · rename_i _ _ h2
            have ht := tl_lt h (is_ne h2 (by decide))
            have hz := (tl_ok h (is_ne h2 (by decide))).2
            have ho := one_lt ht.le.ok (k := 1) (by decide)
            have e2 : En (.posL d (.mk 8 eB (s.tl.oneT 1) 0 [.mk 3 ⟨#[42]⟩ eB 0 [x] ty0 x.at_] ty0 x.at_)) (s.tl.one 1) f := ⟨ho.le.ok, by simp only [rank]; have := ho.le.len; omega, trivial⟩
            obtain ⟨s2, n2⟩ := ih _ _ e2
            have hb := (runE_le f _ _ e2).1
            refine ⟨fun hs => s2 (by show shE _; exact sh1 szB (oneT_sz ht.le.ok 1) szT ⟨sh1 szS szB szT ⟨hs, trivial⟩, trivial⟩), fun he => ?_⟩
            have g2 := n2 he
            have := ho.lt (hb.er he)
            simp only [outW, inW, nE, nEs] at g2 ⊢
            omega
          · refine ⟨fun hs => ⟨hs, trivial⟩, fun he => ?_⟩
            simp only [outW, inW, hd1_one]
            omega
    | atom d =>
      simp only [rank] at h1
      simp only [runE]
      split
      · rename_i h2
        have hz := (tl_ok h (.inr (by rw [h2]; decide))).2
        refine ⟨fun _ => ⟨by show shE _; exact sh1 szB szB szT trivial (by decide) (mean_rg _), trivial⟩, fun he => ?_⟩
        simp only [outW, inW, hd1_one, nE, nEs]
        omega
      · split
        · rename_i _ h2
          have hne := Or.inr (a := s.hd.tx ≠ ⟨#[]⟩) (b := s.hd.kd ≠ 0) (by rw [h2]; decide)
          have ht := tl_lt h hne
          have hz := (tl_ok h hne).2
          have e1 : En (.use s.hd.tx s.hd.at_ d) s.tl f := ⟨ht.le.ok, by simp only [rank]; omega, trivial⟩
          obtain ⟨s1, n1⟩ := ih _ _ e1
          refine ⟨fun _ => s1 h.hd.1, fun he => ?_⟩
          have g1 := n1 he
          simp only [outW, inW] at g1 ⊢
          omega
        · split
          · rename_i _ _ h2
            have ht := tl_lt h (is_ne h2 (by decide))
            have hz := (tl_ok h (is_ne h2 (by decide))).2
            have e1 : En (.inside d) s.tl f := ⟨ht.le.ok, by simp only [rank]; omega, trivial⟩
            obtain ⟨s1, n1⟩ := ih _ _ e1
            refine ⟨fun _ => s1 trivial, fun he => ?_⟩
            have g1 := n1 he
            simp only [outW, inW] at g1 ⊢
            omega
          · exact ⟨fun _ => ⟨sh0, trivial⟩, fun he => absurd he (fail_er (by decide))⟩
    | use nm a d =>
      simp only [rank] at h1
      simp only [runE]
      split
      · rename_i h2
        have ht := tl_lt h (is_ne h2 (by decide))
        have hz := (tl_ok h (is_ne h2 (by decide))).2
        have e1 : En (.betE (d + 1)) s.tl f := ⟨ht.le.ok, by simp only [rank]; omega, trivial⟩
        obtain ⟨s1, n1⟩ := ih _ _ e1
        refine ⟨fun hs => ⟨sh1 szB hs szT (s1 trivial), trivial⟩, fun he => ?_⟩
        have g1 := n1 he
        simp only [outW, inW, hd1_one, nE] at g1 ⊢
        omega
      · refine ⟨fun hs => ⟨sh1 szB hs szT trivial, trivial⟩, fun he => ?_⟩
        simp only [outW, inW, hd1_one, nE, nEs]
        omega
    | betE d =>
      simp only [rank] at h1
      simp only [runE]
      split
      · rename_i h2
        have hz := (tl_ok h (is_ne h2 (by decide))).2
        refine ⟨fun _ => trivial, fun he => ?_⟩
        simp only [outW, inW, nEs]
        omega
      · have e1 : En (.expr d) s f := ⟨h, by simp only [rank]; omega, trivial⟩
        obtain ⟨s1, n1⟩ := ih _ _ e1
        have ha := (runE_le f _ _ e1).2 rfl
        have e2 : En (.betL d [hd1 (runE f (.expr d) s)]) (runE f (.expr d) s).2 f := ⟨ha.le.ok, by simp only [rank]; have := ha.le.len; omega, trivial⟩
        obtain ⟨s2, n2⟩ := ih _ _ e2
        have hb := (runE_le f _ _ e2).1
        refine ⟨fun _ => s2 ⟨hd1_sh (s1 trivial), trivial⟩, fun he => ?_⟩
        have g2 := n2 he
        have g1 := n1 (hb.er he)
        simp only [outW, inW, nEs] at g1 g2 ⊢
        omega
    | betL d l =>
      simp only [rank] at h1
      simp only [runE]
      split
      · rename_i h2
        have ht := tl_lt h (is_ne h2 (by decide))
        have hz := (tl_ok h (is_ne h2 (by decide))).2
        split
        · exact ⟨fun _ => trivial, fun he => absurd he (fail_er (by decide))⟩
        · have e1 : En (.expr d) s.tl f := ⟨ht.le.ok, by simp only [rank]; omega, trivial⟩
          obtain ⟨s1, n1⟩ := ih _ _ e1
          have ha := (runE_le f _ _ e1).1
          have e2 : En (.betL d (l ++ [hd1 (runE f (.expr d) s.tl)])) (runE f (.expr d) s.tl).2 f := ⟨ha.ok, by simp only [rank]; have := ha.len; omega, trivial⟩
          obtain ⟨s2, n2⟩ := ih _ _ e2
          have hb := (runE_le f _ _ e2).1
          refine ⟨fun hs => s2 (shEs_app hs ⟨hd1_sh (s1 trivial), trivial⟩), fun he => ?_⟩
          have g2 := n2 he
          have g1 := n1 (hb.er he)
          simp only [outW, inW, nEs, nEs_app] at g1 g2 ⊢
          omega
      · have hw := (want_lt h (x := ⟨#[41]⟩) (by decide)).le
        refine ⟨fun hs => hs, fun he => ?_⟩
        have := hw.len
        simp only [outW, inW]
        omega
end Pa
end Go.Proofs.YtfjobnljdkiihaaGreatDoor
