/- Lists of parts of trees in memory: what an append leaves; statements, fields, variables, structs, functions. Conditions: each theorem's. -/
import Derived.Test.YtlobphanodhcoaaParY
import Derived.Laws.AppendOwn
import Derived.Deep.AppendLies
namespace Go.Proofs.Ytlobphanodhcoaa
open Go.RowKit Go.Maps
set_option linter.unusedVariables false
set_option linter.unusedSimpArgs false
set_option maxRecDepth 100000
open Lx Pa
/-- A kind of elements: of how many cells, and what it is for cells to be one. -/
structure Elem (α : Type) where
  z : Nat
  At : World → (Nat → Prop) → α → List Value → Prop
  keep : ∀ {w w' : World} {S S' : Nat → Prop} {x : α} {c : List Value}, At w S x c → (∀ g, S g → g < w.heap.size → S' g ∧ w'.heap[g]? = w.heap[g]?) → w.heap.size ≤ w'.heap.size → At w' S' x c
  len : ∀ {w : World} {S : Nat → Prop} {x : α} {c : List Value}, At w S x c → c.length = z
  one : ∀ {w : World} {S : Nat → Prop} {x : α} {c : List Value}, At w S x c → ∀ u ∈ c, u.oneCell' = true
/-- A list of elements in memory. -/
def LAt {α : Type} (E : Elem α) (w : World) (S : Nat → Prop) (l : List α) (v : Value) : Prop :=
  ∃ rows : List (List Value), rows.length = l.length ∧ RowAt w S v l.length rows.flatten ∧ ∀ (i : Nat) (x : α) (c : List Value), l[i]? = some x → rows[i]? = some c → E.At w S x c
theorem LAt.keep {α : Type} {E : Elem α} {w w' : World} {S S' : Nat → Prop} {l : List α} {v : Value} (h : LAt E w S l v) (hk : ∀ g, S g → g < w.heap.size → S' g ∧ w'.heap[g]? = w.heap[g]?) (hz : w.heap.size ≤ w'.heap.size) : LAt E w' S' l v := by
  obtain ⟨rows, h1, h2, h3⟩ := h
  exact ⟨rows, h1, h2.keep hk hz, fun i x c hx hc => E.keep (h3 i x c hx hc) hk hz⟩
theorem LAt.nil {α : Type} (E : Elem α) (w : World) (S : Nat → Prop) : LAt E w S [] (.slice none 0 0) := ⟨[], rfl, RowAt.nil w S, fun i x c hx _ => by simp at hx⟩
theorem LAt.slice {α : Type} {E : Elem α} {w : World} {S : Nat → Prop} {l : List α} {v : Value} (h : LAt E w S l v) : ∃ A cap, v = .slice A l.length cap := by obtain ⟨_, _, ⟨A, cap, e, _⟩, _⟩ := h; exact ⟨A, cap, e⟩
/-- One element laid in a block. -/
theorem LAt.one' {α : Type} {E : Elem α} {w : World} {S : Nat → Prop} {x : α} {c : List Value} {g : Nat} (h : E.At w S x c) (hg : w.rangeAt g 0 c) (hl : g < w.heap.size) (hS : S g) : LAt E w S [x] (.slice (some ⟨g, 0, none⟩) 1 1) :=
  ⟨[c], rfl, ⟨_, 1, rfl, Nat.le_refl _, by unfold maxLen; omega, fun _ => ⟨g, 0, rfl, hS, hl, by simpa using hg⟩⟩, fun i y d hy hd => by
    match i, hy, hd with
    | 0, hy, hd => simp at hy hd; subst hy; subst hd; exact h⟩
/-- A list of elements that the call itself has made: its slice owns its row. -/
def Own {α : Type} (E : Elem α) (e : TypeId) (w : World) (base : Nat) (l : List α) (v : Value) : Prop :=
  ∃ rows : List (List Value), rows.length = l.length ∧ w.ownsRow base e E.z v l.length rows.flatten ∧ ∀ (i : Nat) (x : α) (c : List Value), l[i]? = some x → rows[i]? = some c → E.At w (fun k => base ≤ k ∧ v.ownBlock ≠ some k) x c
theorem Own.nil {α : Type} (E : Elem α) (e : TypeId) (w : World) (base : Nat) : Own E e w base [] (.slice none 0 0) := ⟨[], rfl, World.ownsRow_nil w base e E.z, fun i x c hx _ => by simp at hx⟩
theorem ownsRow_keep {w w' : World} {base : Nat} {e : TypeId} {z : Nat} {v : Value} {n : Nat} {xs : List Value} (h : w.ownsRow base e z v n xs) (hk : ∀ k, base ≤ k → k < w.heap.size → w'.heap[k]? = w.heap[k]?) : w'.ownsRow base e z v n xs := by
  obtain ⟨h1, h2⟩ := h
  refine ⟨h1, ?_⟩
  rcases h2 with h2 | ⟨g, cap, cur, rfl, hb, hh, r⟩
  · exact .inl h2
  · exact .inr ⟨g, cap, cur, rfl, hb, (hk g hb (lt_of_at hh)).trans hh, r⟩
theorem Own.keep {α : Type} {E : Elem α} {e : TypeId} {w w' : World} {base : Nat} {l : List α} {v : Value} (h : Own E e w base l v) (hk : ∀ k, base ≤ k → k < w.heap.size → w'.heap[k]? = w.heap[k]?) (hz : w.heap.size ≤ w'.heap.size) : Own E e w' base l v := by
  obtain ⟨rows, h1, h2, h3⟩ := h
  exact ⟨rows, h1, ownsRow_keep h2 hk, fun i x c hx hc => E.keep (h3 i x c hx hc) (fun g hg hl => ⟨hg, hk g hg.1 hl⟩) hz⟩
theorem Own.fr {α : Type} {E : Elem α} {e : TypeId} {w w' : World} {base : Nat} {l : List α} {v : Value} {T : List Nat} (h : Own E e w base l v) (f : Fr T w w') (hT : ∀ t ∈ T, t < base) : Own E e w' base l v :=
  h.keep (fun k hk hl => f.block k hl fun hh => by have := hT k hh; omega) f.size
theorem Own.alloc {α : Type} {E : Elem α} {e : TypeId} {w : World} {base : Nat} {l : List α} {v : Value} (h : Own E e w base l v) (o : Obj) : Own E e (w.alloc o) base l v :=
  h.keep (fun k hk hl => Below.heap_alloc _ _ _ hl) (by simp)
theorem Own.slice {α : Type} {E : Elem α} {e : TypeId} {w : World} {base : Nat} {l : List α} {v : Value} (h : Own E e w base l v) : ∃ A cap, v = .slice A l.length cap := by
  obtain ⟨rows, h1, ⟨_, h2⟩, h3⟩ := h
  rcases h2 with ⟨h2, h4⟩ | ⟨g, cap, cur, rfl, _⟩
  · exact ⟨none, 0, by rw [h2, h4]⟩
  · exact ⟨_, cap, rfl⟩
/-- A row of one element, made at once. -/
theorem Own.made {α : Type} {E : Elem α} {e : TypeId} {w : World} {base : Nat} {x : α} {c : List Value} {g : Nat} (hb : base ≤ g) (hg : w.heap[g]? = some (.cells c.toArray e)) (h : E.At w (fun k => base ≤ k ∧ k ≠ g) x c) : Own E e w base [x] (.slice (some ⟨g, 0, none⟩) 1 1) := by
  have hl := E.len h
  refine ⟨[c], rfl, ⟨by simp [hl], .inr ⟨g, 1, c.toArray, rfl, hb, hg, Nat.le_refl _, by unfold maxLen; omega, by simp [hl], ?_⟩⟩, fun i y d hy hd => ?_⟩
  · simp only [List.length_singleton, Nat.one_mul, List.flatten_cons, List.flatten_nil, List.append_nil]
    rw [List.take_of_length_le (by rw [hl]; exact Nat.le_refl _)]
  · match i, hy, hd with
    | 0, hy, hd =>
      simp at hy hd
      subst hy
      subst hd
      exact E.keep h (fun k hk _ => ⟨⟨hk.1, fun he => by injection he with he; exact hk.2 he.symm⟩, rfl⟩) (Nat.le_refl _)
/-- What an append of one element leaves. -/
theorem Own.push {α : Type} {E : Elem α} {e : TypeId} {w w' : World} {base g cap H : Nat} {l : List α} {v : Value} {x : α} {c : List Value} {rows : List (List Value)} (hlen : rows.length = l.length)
    (hel : ∀ (i : Nat) (x : α) (c : List Value), l[i]? = some x → rows[i]? = some c → E.At w (fun k => base ≤ k ∧ v.ownBlock ≠ some k) x c) (hx : E.At w (fun k => base ≤ k ∧ v.ownBlock ≠ some k) x c) (hH : w.heap.size = H)
    (hown : w'.ownsRow base e E.z (.slice (some ⟨g, 0, none⟩) (l.length + 1) cap) (l.length + 1) (rows.flatten ++ c)) (hgrow : w.grownBy w' v.ownBlock) (hat : v.ownBlock = some g ∨ g = H) : Own E e w' base (l ++ [x]) (.slice (some ⟨g, 0, none⟩) (l.length + 1) cap) := by
  have key : ∀ (y : α) (d : List Value), E.At w (fun k => base ≤ k ∧ v.ownBlock ≠ some k) y d → E.At w' (fun k => base ≤ k ∧ (Value.slice (some ⟨g, 0, none⟩) (l.length + 1) cap).ownBlock ≠ some k) y d := fun y d h =>
    E.keep h (fun k hk hl => ⟨⟨hk.1, fun he => by
      have he : g = k := by injection he
      rcases hat with hat | hat
      · exact hk.2 (by rw [hat, he])
      · omega⟩, hgrow.block k hl (fun he => hk.2 he.symm)⟩) hgrow.size
  refine ⟨rows ++ [c], by simp [hlen], by simpa using hown, fun i y d hy hd => key y d ?_⟩
  rcases Nat.lt_or_ge i l.length with hi | hi
  · rw [List.getElem?_append_left hi] at hy
    rw [List.getElem?_append_left (by omega)] at hd
    exact hel i y d hy hd
  · rw [List.getElem?_append_right hi] at hy
    rw [List.getElem?_append_right (by omega), hlen] at hd
    generalize i - l.length = j at *
    match j, hy, hd with
    | 0, hy, hd => simp at hy hd; subst hy; subst hd; exact hx
theorem Own.list {α : Type} {E : Elem α} {e : TypeId} {w : World} {base : Nat} {l : List α} {v : Value} (h : Own E e w base l v) : LAt E w (fun k => base ≤ k) l v := by
  obtain ⟨rows, h1, ⟨hl, h2⟩, h3⟩ := h
  refine ⟨rows, h1, ?_, fun i x c hx hc => E.keep (h3 i x c hx hc) (fun g hg _ => ⟨hg.1, rfl⟩) (Nat.le_refl _)⟩
  rcases h2 with ⟨h2, h4⟩ | ⟨g, cap, cur, rfl, hb, hh, hc1, hc2, hcs, hct⟩
  · rw [h2]; exact ⟨none, 0, by rw [h4], by omega, by unfold maxLen; omega, fun h => by omega⟩
  · refine ⟨_, cap, rfl, hc1, hc2, fun _ => ⟨g, 0, rfl, hb, lt_of_at hh, fun j u hu => ?_⟩⟩
    rw [cell_of_row _ _ _ _ _ _ hh, Nat.zero_add, ← Array.getElem?_toList]
    rw [← hct] at hu
    rw [List.getElem?_take] at hu
    split at hu
    · exact hu
    · cases hu
/-- What Fr says of an append to a row that is new since then. -/
theorem Fr.grown {T : List Nat} {a w w' : World} {row : Option Nat} (h : Fr T a w) (g : w.grownBy w' row) (hr : ∀ k, row = some k → a.heap.size ≤ k) : Fr T a w' :=
  ⟨g.os.trans h.os, g.tape.trans h.tape, g.output.trans h.output, Nat.le_trans h.size g.size, fun k hk hs => (g.block k (Nat.lt_of_lt_of_le hk h.size) (fun e => by have := hr k e.symm; omega)).trans (h.block k hk hs)⟩
theorem RdAt.grown {w w' : World} {R M : Nat} {s : Pa.S} (h : RdAt w R M s) {row : Option Nat} (g : w.grownBy w' row) (hr : ∀ k, row = some k → ∃ cs t fr, w.heap[k]? = some (.cells cs t fr) ∧ t ≠ 56 ∧ t ≠ 53) : RdAt w' R M s := by
  cases row with
  | none => exact h.keep (fun k hk => g.block k hk (by simp)) g.size
  | some n =>
    obtain ⟨cs, t, fr, hn, h1, h2⟩ := hr n rfl
    exact h.oth hn h1 h2 (fun k hk hne => g.block k hk (by simpa using hne))
/-! The kinds. -/
theorem exL_one (kd : Int) (op nm : ByteArray) (num : Int) (A : Option Addr) (n cap : Nat) (ty : PTy) (at_ : Nat) : ∀ u ∈ exL kd op nm num (.slice A n cap) ty at_, u.oneCell' = true := by simp [Value.oneCell']
def exE : Elem PEx := ⟨9, ExAt, fun h hk hz => h.keep hk hz, fun h => h.len, fun h => h.one⟩
theorem exs_list {w : World} {S : Nat → Prop} {l : List PEx} {v : Value} (h : LAt exE w S l v) : ExsAt w S l v := by
  obtain ⟨rows, h1, h2, h3⟩ := h
  refine ⟨rows, h1, h2, fun i hi => h3 i _ _ ?_ ?_⟩
  · rw [List.getD_eq_getElem?_getD, List.getElem?_eq_getElem hi]; rfl
  · rw [List.getD_eq_getElem?_getD, List.getElem?_eq_getElem (by omega)]; rfl
theorem list_exs {w : World} {S : Nat → Prop} {l : List PEx} {v : Value} (h : ExsAt w S l v) : LAt exE w S l v := by
  obtain ⟨rows, h1, h2, h3⟩ := h
  refine ⟨rows, h1, h2, fun i x c hx hc => ?_⟩
  have hi : i < l.length := (List.getElem?_eq_some_iff.1 hx).1
  have := h3 i hi
  rw [List.getD_eq_getElem?_getD, List.getD_eq_getElem?_getD, hx, hc] at this
  exact this
abbrev vaL (v : PVa) : List Value := [.string v.nm, .int .i64 v.ty.ba, .int .i64 v.ty.st, .string v.ty.rc, .int .i64 v.ln, .int .i64 v.at_]
abbrev fdL (v : PFd) : List Value := [.string v.nm, .int .i64 v.ty.ba, .int .i64 v.ty.st, .string v.ty.rc, .int .i64 v.at_]
def vaE : Elem PVa := ⟨6, fun _ _ x c => c = vaL x, fun h _ _ => h, fun h => by rw [h]; rfl, fun h => by rw [h]; simp [Value.oneCell']⟩
def fdE : Elem PFd := ⟨5, fun _ _ x c => c = fdL x, fun h _ _ => h, fun h => by rw [h]; rfl, fun h => by rw [h]; simp [Value.oneCell']⟩
abbrev stL (kd : Int) (v1 v2 : Value) (v : PVa) (at_ : Nat) : List Value := [.int .i64 kd, v1, v2, .string v.nm, .int .i64 v.ty.ba, .int .i64 v.ty.st, .string v.ty.rc, .int .i64 v.ln, .int .i64 v.at_, .int .i64 at_]
inductive StAt (w : World) (S : Nat → Prop) : PSt → List Value → Prop
  | mk {kd : Int} {exprs : List PEx} {kids : List PSt} {v : PVa} {at_ : Nat} {v1 v2 : Value} {rows : List (List Value)} (hx : ExsAt w S exprs v1) (hl : rows.length = kids.length) (hr : RowAt w S v2 kids.length rows.flatten)
      (hk : ∀ i, i < kids.length → StAt w S (kids.getD i st0) (rows.getD i [])) : StAt w S (.mk kd exprs kids v at_) (stL kd v1 v2 v at_)
theorem StAt.keep {w w' : World} {S S' : Nat → Prop} (hk : ∀ g, S g → g < w.heap.size → S' g ∧ w'.heap[g]? = w.heap[g]?) (hz : w.heap.size ≤ w'.heap.size) {x : PSt} {c : List Value} (h : StAt w S x c) : StAt w' S' x c := by
  induction h with
  | mk hx hl hr _ ih => exact .mk (hx.keep hk hz) hl (hr.keep hk hz) ih
theorem StAt.len {w : World} {S : Nat → Prop} {x : PSt} {c : List Value} (h : StAt w S x c) : c.length = 10 := by cases h; rfl
theorem StAt.one {w : World} {S : Nat → Prop} {x : PSt} {c : List Value} (h : StAt w S x c) : ∀ u ∈ c, u.oneCell' = true := by
  cases h with
  | mk hx hl hr hk =>
    obtain ⟨A, cap, rfl⟩ := hx.slice
    obtain ⟨B, cap2, rfl, _⟩ := hr
    simp [Value.oneCell']
def stE' : Elem PSt := ⟨10, StAt, fun h hk hz => h.keep hk hz, fun h => h.len, fun h => h.one⟩
theorem StAt.of {w : World} {S : Nat → Prop} {kd : Int} {exprs : List PEx} {kids : List PSt} {v : PVa} {at_ : Nat} {v1 v2 : Value} (hx : LAt exE w S exprs v1) (hk : LAt stE' w S kids v2) : StAt w S (.mk kd exprs kids v at_) (stL kd v1 v2 v at_) := by
  obtain ⟨rows, h1, h2, h3⟩ := hk
  refine .mk (exs_list hx) h1 h2 fun i hi => h3 i _ _ ?_ ?_
  · rw [List.getD_eq_getElem?_getD, List.getElem?_eq_getElem hi]; rfl
  · rw [List.getD_eq_getElem?_getD, List.getElem?_eq_getElem (by omega)]; rfl
theorem StAt.inv {w : World} {S : Nat → Prop} {x : PSt} {c : List Value} (h : StAt w S x c) : ∃ kd exprs kids v at_ A cap B cap2, x = .mk kd exprs kids v at_ ∧ c = stL kd (.slice A exprs.length cap) (.slice B kids.length cap2) v at_ ∧ LAt exE w S exprs (.slice A exprs.length cap) ∧ LAt stE' w S kids (.slice B kids.length cap2) := by
  cases h with
  | @mk kd exprs kids v at_ v1 v2 rows hx hl hr hk =>
    have h1 := list_exs hx
    have h2 : LAt stE' w S kids v2 := ⟨rows, hl, hr, fun i x c hxi hc => by
      have hi : i < kids.length := (List.getElem?_eq_some_iff.1 hxi).1
      have := hk i hi
      rw [List.getD_eq_getElem?_getD, List.getD_eq_getElem?_getD, hxi, hc] at this
      exact this⟩
    obtain ⟨A, cap, rfl⟩ := h1.slice
    obtain ⟨B, cap2, rfl⟩ := h2.slice
    exact ⟨kd, exprs, kids, v, at_, A, cap, B, cap2, rfl, rfl, h1, h2⟩
def srE : Elem PSr := ⟨3, fun w S x c => ∃ v, LAt fdE w S x.fds v ∧ c = [.string x.nm, v, .int .i64 x.at_], fun h hk hz => by obtain ⟨v, h1, h2⟩ := h; exact ⟨v, h1.keep hk hz, h2⟩, fun h => by obtain ⟨v, h1, rfl⟩ := h; rfl, fun h => by obtain ⟨v, h1, rfl⟩ := h; obtain ⟨A, cap, rfl⟩ := h1.slice; simp [Value.oneCell']⟩
abbrev fnL (x : PFn) (v : Value) (c : List Value) : List Value := [.string x.nm, .int .i64 x.ty.ba, .int .i64 x.ty.st, .string x.ty.rc, v] ++ c ++ [.int .i64 x.at_]
def fnE : Elem PFn := ⟨16, fun w S x c => ∃ v d, LAt vaE w S x.params v ∧ StAt w S x.body d ∧ c = fnL x v d, fun h hk hz => by obtain ⟨v, d, h1, h2, h3⟩ := h; exact ⟨v, d, h1.keep hk hz, h2.keep hk hz, h3⟩, fun h => by obtain ⟨v, d, h1, h2, rfl⟩ := h; simp [h2.len], fun h => by
  obtain ⟨v, d, h1, h2, rfl⟩ := h
  obtain ⟨A, cap, rfl⟩ := h1.slice
  intro u hu
  simp only [fnL, List.mem_append, List.mem_cons, List.not_mem_nil, or_false] at hu
  rcases hu with (hu | hu) | hu
  · rcases hu with rfl | rfl | rfl | rfl | rfl <;> rfl
  · exact h2.one u hu
  · subst hu; rfl⟩
theorem own_typ {w : World} {base : Nat} {e : TypeId} {z : Nat} {v : Value} {n : Nat} {xs : List Value} (h : w.ownsRow base e z v n xs) : ∀ k, v.ownBlock = some k → base ≤ k ∧ k < w.heap.size ∧ ∃ cs fr, w.heap[k]? = some (.cells cs e fr) := by
  intro k hk
  rcases h.2 with ⟨rfl, _⟩ | ⟨g, cap, cur, rfl, hb, hh, _⟩
  · cases hk
  · injection hk with hk
    subst hk
    exact ⟨hb, lt_of_at hh, cur, (0, 0), hh⟩
theorem RdAt.own {w w' : World} {R M : Nat} {s : Pa.S} (h : RdAt w R M s) {base : Nat} {e : TypeId} {z : Nat} {v : Value} {n : Nat} {xs : List Value} (ho : w.ownsRow base e z v n xs) (g : w.grownBy w' v.ownBlock) (h1 : e ≠ 56) (h2 : e ≠ 53) : RdAt w' R M s :=
  h.grown g fun k hk => by
    obtain ⟨_, _, cs, fr, hh⟩ := own_typ ho k hk
    exact ⟨cs, e, fr, hh, h1, h2⟩
theorem Fr.own {T : List Nat} {a w w' : World} (h : Fr T a w) {e : TypeId} {z : Nat} {v : Value} {n : Nat} {xs : List Value} (ho : w.ownsRow a.heap.size e z v n xs) (g : w.grownBy w' v.ownBlock) : Fr T a w' :=
  h.grown g fun k hk => (own_typ ho k hk).1
theorem RdAt.ne {w : World} {R M : Nat} {s : Pa.S} (h : RdAt w R M s) {b : Nat} {cs : Array Value} {t : TypeId} {fr : Nat × Nat} (hb : w.heap[b]? = some (.cells cs t fr)) (ht : t ≠ 53) : b ≠ R := by
  obtain ⟨g, o, cap, h⟩ := h
  intro e
  rw [e, h.box] at hb
  injection hb with hb
  injection hb with _ hb _
  exact ht hb.symm
theorem Own.lt {α : Type} {E : Elem α} {e : TypeId} {w : World} {base : Nat} {l : List α} {v : Value} (h : Own E e w base l v) : ∀ k, v.ownBlock = some k → base ≤ k ∧ k < w.heap.size := by
  obtain ⟨rows, _, h2, _⟩ := h
  exact fun k hk => ⟨(own_typ h2 k hk).1, (own_typ h2 k hk).2.1⟩
end Go.Proofs.Ytlobphanodhcoaa
