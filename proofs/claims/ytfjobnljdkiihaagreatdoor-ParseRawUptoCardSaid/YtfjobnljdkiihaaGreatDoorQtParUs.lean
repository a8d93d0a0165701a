/- Calls of functions: their arguments. Conditions: each theorem's. -/
import Derived.Test.YtfjobnljdkiihaaGreatDoorQtParY
import Derived.Laws.AppendOwn
import Derived.Deep.AppendLies
import Derived.Test.YtfjobnljdkiihaaGreatDoorQtParPo
namespace Go.Proofs.YtfjobnljdkiihaaGreatDoor
open Go.RowKit Go.Maps
set_option linter.unusedVariables false
set_option linter.unusedSimpArgs false
set_option maxRecDepth 100000
open Lx Pa
structure Elem (α : Type) where
 z : Nat
 At : World → (Nat → Prop) → α → List Value → Prop
 keep : ∀ {w w' : World} {S S' : Nat → Prop} {x : α} {c : List Value}, At w S x c → (∀ g, S g → g < w.heap.size → S' g ∧ w'.heap[g]? = w.heap[g]?) → w.heap.size ≤ w'.heap.size → At w' S' x c
 len : ∀ {w : World} {S : Nat → Prop} {x : α} {c : List Value}, At w S x c → c.length = z
 one : ∀ {w : World} {S : Nat → Prop} {x : α} {c : List Value}, At w S x c → ∀ u ∈ c, u.oneCell' = true
def LAt {α : Type} (E : Elem α) (w : World) (S : Nat → Prop) (l : List α) (v : Value) : Prop :=
 ∃ rows : List (List Value), rows.length = l.length ∧ RowAt w S v l.length rows.flatten ∧ ∀ (i : Nat) (x : α) (c : List Value), l[i]? = some x → rows[i]? = some c → E.At w S x c
theorem LAt.keep {α : Type} {E : Elem α} {w w' : World} {S S' : Nat → Prop} {l : List α} {v : Value} (h : LAt E w S l v) (hk : ∀ g, S g → g < w.heap.size → S' g ∧ w'.heap[g]? = w.heap[g]?) (hz : w.heap.size ≤ w'.heap.size) : LAt E w' S' l v := by
 obtain ⟨rows, h1, h2, h3⟩ := h
 exact ⟨rows, h1, h2.keep hk hz, fun i x c hx hc => E.keep (h3 i x c hx hc) hk hz⟩
theorem LAt.nil {α : Type} (E : Elem α) (w : World) (S : Nat → Prop) : LAt E w S [] (.slice none 0 0) := ⟨[], rfl, RowAt.nil w S, fun i x c hx _ => by simp at hx⟩
theorem LAt.slice {α : Type} {E : Elem α} {w : World} {S : Nat → Prop} {l : List α} {v : Value} (h : LAt E w S l v) : ∃ A cap, v = .slice A l.length cap := by obtain ⟨_, _, ⟨A, cap, e, _⟩, _⟩ := h; exact ⟨A, cap, e⟩
theorem LAt.one' {α : Type} {E : Elem α} {w : World} {S : Nat → Prop} {x : α} {c : List Value} {g : Nat} (h : E.At w S x c) (hg : w.rangeAt g 0 c) (hl : g < w.heap.size) (hS : S g) : LAt E w S [x] (.slice (some ⟨g, 0, none⟩) 1 1) :=
 ⟨[c], rfl, ⟨_, 1, rfl, Nat.le_refl _, by unfold maxLen; omega, fun _ => ⟨g, 0, rfl, hS, hl, by simpa using hg⟩⟩, fun i y d hy hd => by
  match i, hy, hd with
  | 0, hy, hd => simp at hy hd; subst hy; subst hd; exact h⟩
def Own {α : Type} (E : Elem α) (e : TypeId) (w : World) (base : Nat) (l : List α) (v : Value) : Prop :=
 ∃ rows : List (List Value), rows.length = l.length ∧ w.ownsRow base e E.z v l.length rows.flatten ∧ ∀ (i : Nat) (x : α) (c : List Value), l[i]? = some x → rows[i]? = some c → E.At w (fun k => base ≤ k ∧ v.ownBlock ≠ some k) x c
theorem Own.nil {α : Type} (E : Elem α) (e : TypeId) (w : World) (base : Nat) : Own E e w base [] (.slice none 0 0) := ⟨[], rfl, World.ownsRow_nil w base e E.z, fun i x c hx _ => by simp at hx⟩
theorem ownsRow_keep {w w' : World} {base : Nat} {e : TypeId} {z : Nat} {v : Value} {n : Nat} {xs : List Value} (h : w.ownsRow base e z v n xs) (hk : ∀ k, base ≤ k → k < w.heap.size → w'.heap[k]? = w.heap[k]?) : w'.ownsRow base e z v n xs := by
 obtain ⟨h1, h2⟩ := h
 refine ⟨h1, ?_⟩
 rcases h2 with h2 | ⟨g, cap, cur, rfl, hb, hh, r⟩
 ·exact .inl h2
 ·exact .inr ⟨g, cap, cur, rfl, hb, (hk g hb (lt_of_at hh)).trans hh, r⟩
theorem Own.keep {α : Type} {E : Elem α} {e : TypeId} {w w' : World} {base : Nat} {l : List α} {v : Value} (h : Own E e w base l v) (hk : ∀ k, base ≤ k → k < w.heap.size → w'.heap[k]? = w.heap[k]?) (hz : w.heap.size ≤ w'.heap.size) : Own E e w' base l v := by
 obtain ⟨rows, h1, h2, h3⟩ := h
 exact ⟨rows, h1, ownsRow_keep h2 hk, fun i x c hx hc => E.keep (h3 i x c hx hc) (fun g hg hl => ⟨hg, hk g hg.1 hl⟩) hz⟩
theorem Own.fr {α : Type} {E : Elem α} {e : TypeId} {w w' : World} {base : Nat} {l : List α} {v : Value} {T : List Nat} (h : Own E e w base l v) (f : Fr T w w') (hT : ∀ t ∈ T, t < base) : Own E e w' base l v :=
 h.keep (fun k hk hl => f.block k hl fun hh => by have := hT k hh; omega) f.size
theorem Own.alloc {α : Type} {E : Elem α} {e : TypeId} {w : World} {base : Nat} {l : List α} {v : Value} (h : Own E e w base l v) (o : Obj) : Own E e (w.alloc o) base l v :=
 h.keep (fun k hk hl => Below.heap_alloc _ _ _ hl) (by simp)
theorem Own.slice {α : Type} {E : Elem α} {e : TypeId} {w : World} {base : Nat} {l : List α} {v : Value} (h : Own E e w base l v) : ∃ A cap, v = .slice A l.length cap := by
 obtain ⟨rows, h1, ⟨_, h2⟩, h3⟩ := h
 rcases h2 with ⟨h2, h4⟩ | ⟨g, cap, cur, rfl, _⟩
 ·exact ⟨none, 0, by rw [h2, h4]⟩
 ·exact ⟨_, cap, rfl⟩
theorem Own.made {α : Type} {E : Elem α} {e : TypeId} {w : World} {base : Nat} {x : α} {c : List Value} {g : Nat} (hb : base ≤ g) (hg : w.heap[g]? = some (.cells c.toArray e)) (h : E.At w (fun k => base ≤ k ∧ k ≠ g) x c) : Own E e w base [x] (.slice (some ⟨g, 0, none⟩) 1 1) := by
 have hl := E.len h
 refine ⟨[c], rfl, ⟨by simp [hl], .inr ⟨g, 1, c.toArray, rfl, hb, hg, Nat.le_refl _, by unfold maxLen; omega, by simp [hl], ?_⟩⟩, fun i y d hy hd => ?_⟩
 ·simp only [List.length_singleton, Nat.one_mul, List.flatten_cons, List.flatten_nil, List.append_nil]
  rw [List.take_of_length_le (by rw [hl]; exact Nat.le_refl _)]
 ·match i, hy, hd with
  | 0, hy, hd =>
   simp at hy hd
   subst hy
   subst hd
   exact E.keep h (fun k hk _ => ⟨⟨hk.1, fun he => by injection he with he; exact hk.2 he.symm⟩, rfl⟩) (Nat.le_refl _)
theorem Own.push {α : Type} {E : Elem α} {e : TypeId} {w w' : World} {base g cap H : Nat} {l : List α} {v : Value} {x : α} {c : List Value} {rows : List (List Value)} (hlen : rows.length = l.length)
  (hel : ∀ (i : Nat) (x : α) (c : List Value), l[i]? = some x → rows[i]? = some c → E.At w (fun k => base ≤ k ∧ v.ownBlock ≠ some k) x c) (hx : E.At w (fun k => base ≤ k ∧ v.ownBlock ≠ some k) x c) (hH : w.heap.size = H)
  (hown : w'.ownsRow base e E.z (.slice (some ⟨g, 0, none⟩) (l.length + 1) cap) (l.length + 1) (rows.flatten ++ c)) (hgrow : w.grownBy w' v.ownBlock) (hat : v.ownBlock = some g ∨ g = H) : Own E e w' base (l ++ [x]) (.slice (some ⟨g, 0, none⟩) (l.length + 1) cap) := by
 have key : ∀ (y : α) (d : List Value), E.At w (fun k => base ≤ k ∧ v.ownBlock ≠ some k) y d → E.At w' (fun k => base ≤ k ∧ (Value.slice (some ⟨g, 0, none⟩) (l.length + 1) cap).ownBlock ≠ some k) y d := fun y d h =>
  E.keep h (fun k hk hl => ⟨⟨hk.1, fun he => by
   have he : g = k := by injection he
   rcases hat with hat | hat
   ·exact hk.2 (by rw [hat, he])
   ·omega⟩, hgrow.block k hl (fun he => hk.2 he.symm)⟩) hgrow.size
 refine ⟨rows ++ [c], by simp [hlen], by simpa using hown, fun i y d hy hd => key y d ?_⟩
 rcases Nat.lt_or_ge i l.length with hi | hi
 ·rw [List.getElem?_append_left hi] at hy
  rw [List.getElem?_append_left (by omega)] at hd
  exact hel i y d hy hd
 ·rw [List.getElem?_append_right hi] at hy
  rw [List.getElem?_append_right (by omega), hlen] at hd
  generalize i - l.length = j at *
  match j, hy, hd with
  | 0, hy, hd => simp at hy hd; subst hy; subst hd; exact hx
theorem Own.list {α : Type} {E : Elem α} {e : TypeId} {w : World} {base : Nat} {l : List α} {v : Value} (h : Own E e w base l v) : LAt E w (fun k => base ≤ k) l v := by
 obtain ⟨rows, h1, ⟨hl, h2⟩, h3⟩ := h
 refine ⟨rows, h1, ?_, fun i x c hx hc => E.keep (h3 i x c hx hc) (fun g hg _ => ⟨hg.1, rfl⟩) (Nat.le_refl _)⟩
 rcases h2 with ⟨h2, h4⟩ | ⟨g, cap, cur, rfl, hb, hh, hc1, hc2, hcs, hct⟩
 ·rw [h2]; exact ⟨none, 0, by rw [h4], by omega, by unfold maxLen; omega, fun h => by omega⟩
 ·refine ⟨_, cap, rfl, hc1, hc2, fun _ => ⟨g, 0, rfl, hb, lt_of_at hh, fun j u hu => ?_⟩⟩
  rw [cell_of_row _ _ _ _ _ _ hh, Nat.zero_add, ← Array.getElem?_toList]
  rw [← hct] at hu
  rw [List.getElem?_take] at hu
  split at hu
  ·exact hu
  ·cases hu
theorem Fr.grown {T : List Nat} {a w w' : World} {row : Option Nat} (h : Fr T a w) (g : w.grownBy w' row) (hr : ∀ k, row = some k → a.heap.size ≤ k) : Fr T a w' :=
 ⟨g.os.trans h.os, g.tape.trans h.tape, g.output.trans h.output, Nat.le_trans h.size g.size, fun k hk hs => (g.block k (Nat.lt_of_lt_of_le hk h.size) (fun e => by have := hr k e.symm; omega)).trans (h.block k hk hs)⟩
theorem RdAt.grown {w w' : World} {R M : Nat} {s : Pa.S} (h : RdAt w R M s) {row : Option Nat} (g : w.grownBy w' row) (hr : ∀ k, row = some k → ∃ cs t fr, w.heap[k]? = some (.cells cs t fr) ∧ t ≠ 63 ∧ t ≠ 60) : RdAt w' R M s := by
 cases row with
 | none => exact h.keep (fun k hk => g.block k hk (by simp)) g.size
 | some n =>
  obtain ⟨cs, t, fr, hn, h1, h2⟩ := hr n rfl
  exact h.oth hn h1 h2 (fun k hk hne => g.block k hk (by simpa using hne))
/-! The kinds. -/
def exE : Elem PEx := ⟨9, ExAt, fun h hk hz => h.keep hk hz, fun h => h.len, fun h => h.one⟩
theorem exs_list {w : World} {S : Nat → Prop} {l : List PEx} {v : Value} (h : LAt exE w S l v) : ExsAt w S l v := by
 obtain ⟨rows, h1, h2, h3⟩ := h
 refine ⟨rows, h1, h2, fun i hi => h3 i _ _ ?_ ?_⟩
 ·rw [List.getD_eq_getElem?_getD, List.getElem?_eq_getElem hi]; rfl
 ·rw [List.getD_eq_getElem?_getD, List.getElem?_eq_getElem (by omega)]; rfl
theorem list_exs {w : World} {S : Nat → Prop} {l : List PEx} {v : Value} (h : ExsAt w S l v) : LAt exE w S l v := by
 obtain ⟨rows, h1, h2, h3⟩ := h
 refine ⟨rows, h1, h2, fun i x c hx hc => ?_⟩
 have hi : i < l.length := (List.getElem?_eq_some_iff.1 hx).1
 have := h3 i hi
 rw [List.getD_eq_getElem?_getD, List.getD_eq_getElem?_getD, hx, hc] at this
 exact this
abbrev vaL (v : PVa) : List Value := [.string v.nm, .int .i64 v.ty.ba, .int .i64 v.ty.st, .string v.ty.rc, .int .i64 v.ln, .int .i64 v.at_]
abbrev fdL (v : PFd) : List Value := [.string v.nm, .int .i64 v.ty.ba, .int .i64 v.ty.st, .string v.ty.rc, .int .i64 v.at_]
def vaE : Elem PVa := ⟨6, fun _ _ x c => c = vaL x, fun h _ _ => h, fun h => by rw [h]; rfl, fun h => by rw [h]; simp [Value.oneCell']⟩
def fdE : Elem PFd := ⟨5, fun _ _ x c => c = fdL x, fun h _ _ => h, fun h => by rw [h]; rfl, fun h => by rw [h]; simp [Value.oneCell']⟩
abbrev stL (kd : Int) (v1 v2 : Value) (v : PVa) (at_ : Nat) : List Value := [.int .i64 kd, v1, v2, .string v.nm, .int .i64 v.ty.ba, .int .i64 v.ty.st, .string v.ty.rc, .int .i64 v.ln, .int .i64 v.at_, .int .i64 at_]
inductive StAt (w : World) (S : Nat → Prop) : PSt → List Value → Prop
 | mk {kd : Int} {exprs : List PEx} {kids : List PSt} {v : PVa} {at_ : Nat} {v1 v2 : Value} {rows : List (List Value)} (hx : ExsAt w S exprs v1) (hl : rows.length = kids.length) (hr : RowAt w S v2 kids.length rows.flatten)
   (hk : ∀ i, i < kids.length → StAt w S (kids.getD i st0) (rows.getD i [])) : StAt w S (.mk kd exprs kids v at_) (stL kd v1 v2 v at_)
theorem StAt.keep {w w' : World} {S S' : Nat → Prop} (hk : ∀ g, S g → g < w.heap.size → S' g ∧ w'.heap[g]? = w.heap[g]?) (hz : w.heap.size ≤ w'.heap.size) {x : PSt} {c : List Value} (h : StAt w S x c) : StAt w' S' x c := by
 induction h with
 | mk hx hl hr _ ih => exact .mk (hx.keep hk hz) hl (hr.keep hk hz) ih
theorem StAt.len {w : World} {S : Nat → Prop} {x : PSt} {c : List Value} (h : StAt w S x c) : c.length = 10 := by cases h; rfl
theorem StAt.one {w : World} {S : Nat → Prop} {x : PSt} {c : List Value} (h : StAt w S x c) : ∀ u ∈ c, u.oneCell' = true := by
 cases h with
 | mk hx hl hr hk =>
  obtain ⟨A, cap, rfl⟩ := hx.slice
  obtain ⟨B, cap2, rfl, _⟩ := hr
  simp [Value.oneCell']
def stE' : Elem PSt := ⟨10, StAt, fun h hk hz => h.keep hk hz, fun h => h.len, fun h => h.one⟩
theorem StAt.of {w : World} {S : Nat → Prop} {kd : Int} {exprs : List PEx} {kids : List PSt} {v : PVa} {at_ : Nat} {v1 v2 : Value} (hx : LAt exE w S exprs v1) (hk : LAt stE' w S kids v2) : StAt w S (.mk kd exprs kids v at_) (stL kd v1 v2 v at_) := by
 obtain ⟨rows, h1, h2, h3⟩ := hk
 refine .mk (exs_list hx) h1 h2 fun i hi => h3 i _ _ ?_ ?_
 ·rw [List.getD_eq_getElem?_getD, List.getElem?_eq_getElem hi]; rfl
 ·rw [List.getD_eq_getElem?_getD, List.getElem?_eq_getElem (by omega)]; rfl
theorem StAt.inv {w : World} {S : Nat → Prop} {x : PSt} {c : List Value} (h : StAt w S x c) : ∃ kd exprs kids v at_ A cap B cap2, x = .mk kd exprs kids v at_ ∧ c = stL kd (.slice A exprs.length cap) (.slice B kids.length cap2) v at_ ∧ LAt exE w S exprs (.slice A exprs.length cap) ∧ LAt stE' w S kids (.slice B kids.length cap2) := by
 cases h with
 | @mk kd exprs kids v at_ v1 v2 rows hx hl hr hk =>
  have h1 := list_exs hx
  have h2 : LAt stE' w S kids v2 := ⟨rows, hl, hr, fun i x c hxi hc => by
   have hi : i < kids.length := (List.getElem?_eq_some_iff.1 hxi).1
   have := hk i hi
   rw [List.getD_eq_getElem?_getD, List.getD_eq_getElem?_getD, hxi, hc] at this
   exact this⟩
  obtain ⟨A, cap, rfl⟩ := h1.slice
  obtain ⟨B, cap2, rfl⟩ := h2.slice
  exact ⟨kd, exprs, kids, v, at_, A, cap, B, cap2, rfl, rfl, h1, h2⟩
def srE : Elem PSr := ⟨3, fun w S x c => ∃ v, LAt fdE w S x.fds v ∧ c = [.string x.nm, v, .int .i64 x.at_], fun h hk hz => by obtain ⟨v, h1, h2⟩ := h; exact ⟨v, h1.keep hk hz, h2⟩, fun h => by obtain ⟨v, h1, rfl⟩ := h; rfl, fun h => by obtain ⟨v, h1, rfl⟩ := h; obtain ⟨A, cap, rfl⟩ := h1.slice; simp [Value.oneCell']⟩
abbrev fnL (x : PFn) (v : Value) (c : List Value) : List Value := [.string x.nm, .int .i64 x.ty.ba, .int .i64 x.ty.st, .string x.ty.rc, v] ++ c ++ [.int .i64 x.at_]
def fnE : Elem PFn := ⟨16, fun w S x c => ∃ v d, LAt vaE w S x.params v ∧ StAt w S x.body d ∧ c = fnL x v d, fun h hk hz => by obtain ⟨v, d, h1, h2, h3⟩ := h; exact ⟨v, d, h1.keep hk hz, h2.keep hk hz, h3⟩, fun h => by obtain ⟨v, d, h1, h2, rfl⟩ := h; simp [h2.len], fun h => by
 obtain ⟨v, d, h1, h2, rfl⟩ := h
 obtain ⟨A, cap, rfl⟩ := h1.slice
 intro u hu
 simp only [fnL, List.mem_append, List.mem_cons, List.not_mem_nil, or_false] at hu
 rcases hu with (hu | hu) | hu
 ·rcases hu with rfl | rfl | rfl | rfl | rfl <;> rfl
 ·exact h2.one u hu
 ·subst hu; rfl⟩
theorem own_typ {w : World} {base : Nat} {e : TypeId} {z : Nat} {v : Value} {n : Nat} {xs : List Value} (h : w.ownsRow base e z v n xs) : ∀ k, v.ownBlock = some k → base ≤ k ∧ k < w.heap.size ∧ ∃ cs fr, w.heap[k]? = some (.cells cs e fr) := by
 intro k hk
 rcases h.2 with ⟨rfl, _⟩ | ⟨g, cap, cur, rfl, hb, hh, _⟩
 ·cases hk
 ·injection hk with hk
  subst hk
  exact ⟨hb, lt_of_at hh, cur, (0, 0), hh⟩
theorem RdAt.own {w w' : World} {R M : Nat} {s : Pa.S} (h : RdAt w R M s) {base : Nat} {e : TypeId} {z : Nat} {v : Value} {n : Nat} {xs : List Value} (ho : w.ownsRow base e z v n xs) (g : w.grownBy w' v.ownBlock) (h1 : e ≠ 63) (h2 : e ≠ 60) : RdAt w' R M s :=
 h.grown g fun k hk => by
  obtain ⟨_, _, cs, fr, hh⟩ := own_typ ho k hk
  exact ⟨cs, e, fr, hh, h1, h2⟩
theorem Fr.own {T : List Nat} {a w w' : World} (h : Fr T a w) {e : TypeId} {z : Nat} {v : Value} {n : Nat} {xs : List Value} (ho : w.ownsRow a.heap.size e z v n xs) (g : w.grownBy w' v.ownBlock) : Fr T a w' :=
 h.grown g fun k hk => (own_typ ho k hk).1
theorem RdAt.ne {w : World} {R M : Nat} {s : Pa.S} (h : RdAt w R M s) {b : Nat} {cs : Array Value} {t : TypeId} {fr : Nat × Nat} (hb : w.heap[b]? = some (.cells cs t fr)) (ht : t ≠ 60) : b ≠ R := by
 obtain ⟨g, o, cap, h⟩ := h
 intro e
 rw [e, h.box] at hb
 injection hb with hb
 injection hb with _ hb _
 exact ht hb.symm
theorem Own.lt {α : Type} {E : Elem α} {e : TypeId} {w : World} {base : Nat} {l : List α} {v : Value} (h : Own E e w base l v) : ∀ k, v.ownBlock = some k → base ≤ k ∧ k < w.heap.size := by
 obtain ⟨rows, _, h2, _⟩ := h
 exact fun k hk => ⟨(own_typ h2 k hk).1, (own_typ h2 k hk).2.1⟩
def PostL (w : World) (R M : Nat) (l : List PEx) (s' : Pa.S) (e : Ending) (w' : World) : Prop :=
 ∃ v : Value, e = .returned v ∧ LAt exE w' (fun g => w.heap.size ≤ g) l v ∧ RdAt w' R M s' ∧ Fr [R] w w'
abbrev ptR (R : Nat) : Array Value := #[.pointer (some ⟨R, 0, none⟩)]
theorem makeFn (fn : Fn) (first cap : Array Value) (w : World) : (Instr.makeFunc fn first cap).run Tryz.prog w = .ok (.func fn first cap) w := rfl
theorem infoEx9 : (Tryz.prog.info? 39).map (fun i => (i.zero, i.size, i.bytes)) = some (some (.agg exZ), 9, 112) := by kernel_rfl
set_option maxHeartbeats 4000000 in
theorem useLit {f : Nat} (HE : ExprC f) (R M d : Nat) (s : Pa.S) (w : World) (br bd : Nat) (h : RdAt w R M s) (hbr : w.heap[br]? = some (.cells (ptR R) 87)) (hbd : w.heap[bd]? = some (.cells #[.int .i64 d] 3)) (hf : 8 * s.tk.length + 5 ≤ f) (hd : d + 1 + f ≤ 60000) :
  Calls Tryz.prog 146 #[.pointer (some ⟨br, 0, none⟩), .pointer (some ⟨bd, 0, none⟩)] w (PostE w R M (hd1 (runE f (.expr (d + 1)) s)) (runE f (.expr (d + 1)) s).2) := by
 have hR := h.lt
 have hbrl := lt_of_at hbr
 have hbdl := lt_of_at hbd
 have c1 : w.cell? ⟨br, 0, none⟩ = some (.pointer (some ⟨R, 0, none⟩)) := cell_of_row _ _ _ _ _ _ hbr
 have c2 : w.cell? ⟨bd, 0, none⟩ = some (.int .i64 d) := cell_of_row _ _ _ _ _ _ hbd
 have h0 := h.alloc (.cells exZ 39)
 have HR0 := Lib.hid (heap_alloc_new w (.cells exZ 39))
 have HS0 := Lib.hid (szA w (.cells exZ 39))
 have hw : IntKind.i64.wrap ((d : Int) + 1) = (d : Int) + 1 := IntWalk.i64_in _ (by omega)
 have hexp := HE R M (d + 1) s _ h0 hf hd
 rw [show ((d + 1 : Nat) : Int) = (d : Int) + 1 from rfl] at hexp
 clear hbr hbd
 go_enter Tryz.func146, Tryz.ntmps146
 go_wp2_with fail
 refine hexp.mono ?_
 rintro e w5 ⟨c5, rfl, hc5, h5, f5⟩
 clear hexp
 have HC5 := Lib.hid hc5.len
 have HA5 := Lib.hid (oneL hc5)
 have HRO := Lib.hid (f5.at_ HR0.out (by simp; omega))
 rw [HS0.out] at hc5
 have F5 := ((Fr.refl [R] w).alloc (.cells exZ 39)).trans f5
 clear c1 c2
 go_wp2_with (((with_reducible refine stE w.heap.size HC5.out HA5.out HRO.out rfl ?_ ?_ ?_); rfl; rfl; intro Y hY; have HY := Lib.hid hY; clear hY))
 refine ret_row Tryz.results146 w.heap.size 39 _ _ rfl rfl HY.out.at_ Tryz.underlying39 rfl (by rw [List.size_toArray, HC5.out]; exact sizeEx) ?_
 exact ⟨c5, rfl, hc5.upd HY.out (fun g hg hl => ⟨by show w.heap.size ≤ g; omega, by omega⟩), h5.up HY.out HRO.out (by decide) (by decide), F5.up HY.out (Nat.le_refl _)⟩
def BetC (f : Nat) : Prop := ∀ (R M d : Nat) (s : Pa.S) (w : World) (br bd : Nat), RdAt w R M s → w.heap[br]? = some (.cells (ptR R) 87) → w.heap[bd]? = some (.cells #[.int .i64 d] 3) → 8 * s.tk.length + 6 ≤ f → d + 1 + f ≤ 60000 →
 Calls Tryz.prog 145 #[.pointer (some ⟨R, 0, none⟩), .func (.func 146) #[] #[.pointer (some ⟨br, 0, none⟩), .pointer (some ⟨bd, 0, none⟩)]] w (PostL w R M (runE f (.betE (d + 1)) s).1 (runE f (.betE (d + 1)) s).2)
set_option maxHeartbeats 16000000 in
theorem bet_step {f : Nat} (HE : ∀ g, g ≤ f → ExprC g) : BetC (f + 1) := by
 intro R M d s w br bd h hbr hbd hf hd
 have hR := h.lt
 have hrR := h.ne hbr (by decide)
 have hdR := h.ne hbd (by decide)
 have HBR := Lib.hid hbr
 have HBD := Lib.hid hbd
 have hrun : runE (f + 1) (.betE (d + 1)) s = if s.is ⟨#[41]⟩ then ([], s.tl) else runE f (.betL (d + 1) [hd1 (runE f (.expr (d + 1)) s)]) (runE f (.expr (d + 1)) s).2 := by simp only [runE]
 have HRUN := Lib.hid hrun
 obtain ⟨i0, hi0, hz0, hz1, hz2⟩ := info_parts infoEx9
 have hta := take_any ⟨#[41]⟩ (by decide) h
 clear hrun hbr hbd
 cases hi : s.is ⟨#[41]⟩ with
 | true =>
  rw [hi, if_pos rfl] at HRUN
  rw [hi, take_tl hi] at hta
  clear hi
  go_enter Tryz.func145, Tryz.ntmps145
  go_wp2_with fail
  refine hta.mono ?_
  rintro e w3 ⟨rfl, h3, f3⟩
  clear hta
  go_wp2
  go_ret
  rw [HRUN.out]
  exact ⟨_, rfl, LAt.nil exE _ _, h3, f3⟩
 | false =>
  rw [hi, if_neg (by decide)] at HRUN
  rw [hi, take_no hi] at hta
  clear hi
  go_enter Tryz.func145, Tryz.ntmps145
  go_wp2_with fail
  refine hta.mono ?_
  rintro e w3 ⟨rfl, h3, f3⟩
  clear hta
  have z3 := f3.size
  have hlit := useLit (HE f (Nat.le_refl _)) R M d s w3 br bd h3 (f3.at_ HBR.out (by simpa using hrR)) (f3.at_ HBD.out (by simpa using hdR)) (by omega) (by omega)
  have hlen := (runE_le f (.expr (d + 1)) s ⟨h3.ok, by simp only [rank]; omega, trivial⟩).1.len
  generalize hx : hd1 (runE f (.expr (d + 1)) s) = x0 at *
  generalize hs1 : (runE f (.expr (d + 1)) s).2 = s0 at *
  clear hx hs1
  go_wp2_with fail
  refine hlit.mono ?_
  rintro e w4 ⟨c0, rfl, hc, h4, f4⟩
  clear hlit
  have HC := Lib.hid hc.len
  have z4 := f4.size
  have h5 := h4.alloc (.cells c0.toArray 39)
  have F5 := (f3.trans f4).alloc (.cells c0.toArray 39)
  have HO5 : Own exE 39 (w4.alloc (.cells c0.toArray 39)) w.heap.size [x0] (.slice (some ⟨w4.heap.size, 0, none⟩) 1 1) :=
   Own.made (E := exE) (by omega) (heap_alloc_new w4 _) (hc.all (.cells c0.toArray 39) (fun g hg hl => ⟨by have : w3.heap.size ≤ g := hg; omega, by omega⟩))
  go_wp2_with (((with_reducible refine bsE1 c0 HC.out ?_ ?_); rfl))
  generalize w4.alloc (.cells c0.toArray 39) = W at *
  generalize (Value.slice (some ⟨w4.heap.size, 0, none⟩) 1 1) = v0 at *
  try simp only [Act.put]
  go_loopw [5] (fun v wr => ∃ (g : Nat) (l : List PEx) (s1 : Pa.S), g ≤ f ∧ 8 * s1.tk.length + 1 ≤ g ∧ Hid (runE f (.betL (d + 1) [x0]) s0 = runE g (.betL (d + 1) l) s1) ∧ l.length ≤ 6 ∧ Own exE 39 wr w.heap.size l v ∧ RdAt wr R M s1 ∧ Fr [R] w wr) (fun _ wr => rdLen wr R)
  case atStart => exact ⟨f, [x0], s0, Nat.le_refl _, by omega, Lib.hid rfl, by simp, HO5, h5, F5⟩
  case round =>
   obtain ⟨g, l, s1, hg, hfu, hst, hl6, hown, hrd, hfr⟩ := hrel
   clear HO5 h5 F5 HC hc h4 f4 h3 f3
   have hpos := hrd.ok.pos
   obtain ⟨g, rfl⟩ : ∃ g', g = g' + 1 := ⟨g - 1, by omega⟩
   have HMS := Lib.hid hrd.len
   have hE : runE (g + 1) (.betL (d + 1) l) s1 = if s1.is ⟨#[44]⟩ then (if l.length = 6 then ([], s1.tl.fail 3) else runE g (.betL (d + 1) (l ++ [hd1 (runE g (.expr (d + 1)) s1.tl)])) (runE g (.expr (d + 1)) s1.tl).2) else (l, s1.want ⟨#[41]⟩) := by simp only [runE]
   have HE0 := Lib.hid hE
   clear hE
   have zr := hfr.size
   obtain ⟨A, cap, rfl⟩ := hown.slice
   have hta := take_any ⟨#[44]⟩ (by decide) hrd
   cases hi1 : s1.is ⟨#[44]⟩ with
   | false =>
    rw [hi1, if_neg (by decide)] at HE0
    rw [hi1, take_no hi1] at hta
    clear hi1
    go_wp2_with fail
    refine hta.mono ?_
    rintro e w4 ⟨rfl, h4, f4⟩
    clear hta
    go_wp2_with fail
    refine (want_any ⟨#[41]⟩ (by decide) h4).mono ?_
    rintro e w7 ⟨rfl, h7, f7⟩
    have HO7 := (hown.fr f4 (by simpa using hR)).fr f7 (by simpa using hR)
    go_wp2
    go_ret
    rw [HRUN.out, hst.out, HE0.out]
    exact ⟨_, rfl, HO7.list, h7, (hfr.trans f4).trans f7⟩
   | true =>
    rw [hi1, if_pos rfl] at HE0
    rw [hi1, take_tl hi1] at hta
    have hne := is_ne hi1 (by decide)
    have htl := (tl_ok hrd.ok hne).2
    clear hi1
    by_cases h6 : l.length = 6
    ·have e6 : ((l.length : Int) == 6) = true := by rw [h6]; rfl
     rw [if_pos h6] at HE0
     clear h6
     go_wp2_with fail
     refine hta.mono ?_
     rintro e w4 ⟨rfl, h4, f4⟩
     clear hta
     go_wp2_with fail
     refine (fail_any 3 (by omega) h4).mono ?_
     rintro e w7 ⟨rfl, h7, f7⟩
     go_wp2
     go_ret
     rw [HRUN.out, hst.out, HE0.out]
     exact ⟨_, rfl, LAt.nil exE _ _, h7, (hfr.trans f4).trans f7⟩
    ·have e6 : ((l.length : Int) == 6) = false := beq_eq_false_iff_ne.mpr (by omega)
     rw [if_neg h6] at HE0
     go_wp2_with fail
     refine hta.mono ?_
     rintro e w4 ⟨rfl, h4, f4⟩
     clear hta
     have z4 := f4.size
     have F4 := hfr.trans f4
     have hlit := useLit (HE g (by omega)) R M d s1.tl w4 br bd h4 (F4.at_ HBR.out (by simpa using hrR)) (F4.at_ HBD.out (by simpa using hdR)) (by omega) (by omega)
     have hlen := (runE_le g (.expr (d + 1)) s1.tl ⟨h4.ok, by simp only [rank]; omega, trivial⟩).1.len
     generalize hx : hd1 (runE g (.expr (d + 1)) s1.tl) = y at *
     generalize hs1 : (runE g (.expr (d + 1)) s1.tl).2 = s2 at *
     clear hx hs1
     go_wp2_with fail
     refine hlit.mono ?_
     rintro e w5 ⟨c5, rfl, hc5, h5, f5⟩
     clear hlit
     have HC5 := Lib.hid hc5.len
     have HN5 := Lib.hid hc5.one
     have z5 := f5.size
     have HO6 := ((hown.fr f4 (by simpa using hR)).fr f5 (by simpa using hR)).alloc (.cells c5.toArray 39)
     have h6' := h5.alloc (.cells c5.toArray 39)
     have F6 := (F4.trans f5).alloc (.cells c5.toArray 39)
     have hlt4 := (hown.fr f4 (by simpa using hR)).lt
     have hx6 := hc5.all (.cells c5.toArray 39) (S' := fun k => w.heap.size ≤ k ∧ (Value.slice A l.length cap).ownBlock ≠ some k) (fun k hk hl => ⟨by have : w4.heap.size ≤ k := hk; omega, fun he => by have := (hlt4 k he).2; have : w4.heap.size ≤ k := hk; omega⟩)
     obtain ⟨rows, hrl, how, hel⟩ := HO6
     clear hown hlt4 hc5
     have HOW := Lib.hid how
     go_wp2_with (first | ((with_reducible refine bsE1 c5 HC5.out ?_ ?_); rfl) | (at_builtin; refine wpList_append_lies (o := ⟨some 22, _, _, _, _, _⟩) _ rfl (.tmp 18) (.tmp 21) 35 rfl w.heap.size 39 i0 (.agg exZ) 9 112 Tryz.underlying35 hi0 hz0 hz1 hz2 rfl (by decide) _ _ _ rfl HOW.out ⟨w5.heap.size, 0, none⟩ 1 1 c5 rfl (by rw [HC5.out]) (World.news_of_block (cs := c5.toArray) (t := 39) (fr := (0, 0)) (heap_alloc_new w5 _)) HN5.out (by omega) (by unfold maxLen; omega) (by omega) (by simp only [szA]; omega) _ rfl ?_; intro ga ca w7 hown7 hgrow7 hat7 hlt7))
     have HO7 := Own.push (E := exE) hrl hel hx6 rfl hown7 hgrow7 hat7
     have h7 := h6'.own how hgrow7 (by decide) (by decide)
     have F7 := F6.own how hgrow7
     go_wp2
     try simp only [Act.put]
     go_roundw
     case rel => exact ⟨g, l ++ [y], s2, by omega, by omega, Lib.hid (hst.out.trans HE0.out), by simp; omega, HO7, h7, F7⟩
     case measure =>
      rw [HMS.out, h7.len]
      omega
end Go.Proofs.YtfjobnljdkiihaaGreatDoor
