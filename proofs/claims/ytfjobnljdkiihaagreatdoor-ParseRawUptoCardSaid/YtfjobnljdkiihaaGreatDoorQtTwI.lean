/- Trees in memory, whatever their places: expressions and statements, pointers to them; what the writer holds. Conditions: each theorem's. -/
import Derived.Test.YtfjobnljdkiihaaGreatDoorQtTwG
import Derived.Test.YtfjobnljdkiihaaGreatDoorQtTreeN
import Derived.Test.YtfjobnljdkiihaaGreatDoorQtParUs
import Derived.Test.YtfjobnljdkiihaaGreatDoorQtParAk
namespace Go.Proofs.YtfjobnljdkiihaaGreatDoor
open Go.RowKit Go.Maps
set_option linter.unusedVariables false
set_option linter.unusedSimpArgs false
set_option maxRecDepth 100000
open Lx Pa Go.Lib Qi
theorem bl_app (a b : List UInt8) : (⟨a.toArray⟩ : ByteArray) ++ ⟨b.toArray⟩ = ⟨(a ++ b).toArray⟩ := by
 rw [ByteArray.mk_append_mk]
theorem quoZ_qt (T : PrintTabs) (s : ByteArray) : quoZ T s = ⟨(qt T s).toArray⟩ := rfl
theorem sp_eq : sp = ⟨[32].toArray⟩ := rfl
theorem typZ_eq (T : PrintTabs) (ba st : Int) (rc : ByteArray) : typZ T ba st rc = ⟨(typT T ⟨ba, st, rc⟩).toArray⟩ := by
 unfold typZ numT typT
 rw [quoZ_qt, sp_eq, bl_app, bl_app, bl_app, bl_app]
 simp
theorem varZ_eq (T : PrintTabs) (v : PVa) : varZ T v.nm v.ty.ba v.ty.st v.ty.rc v.ln = ⟨(varT T v).toArray⟩ := by
 unfold varZ numT varT
 rw [quoZ_qt, typZ_eq, sp_eq, bl_app, bl_app, bl_app, bl_app]
 simp
abbrev exQ (kd : Int) (op nm : ByteArray) (num : Int) (v : Value) (ty : PTy) (z : Int) : List Value := [.int .i64 kd, .string op, .string nm, .int .u64 num, v, .int .i64 ty.ba, .int .i64 ty.st, .string ty.rc, .int .i64 z]
inductive ExA (w : World) (S : Nat → Prop) : PEx → List Value → Prop
 | mk {kd : Int} {op nm : ByteArray} {num : Int} {kids : List PEx} {ty : PTy} {at_ : Nat} {z : Int} {v : Value} {rows : List (List Value)} (hl : rows.length = kids.length) (hr : RowAt w S v kids.length rows.flatten)
   (hk : ∀ i, i < kids.length → ExA w S (kids.getD i ex0) (rows.getD i [])) : ExA w S (.mk kd op nm num kids ty at_) (exQ kd op nm num v ty z)
theorem ExA.keep {w w' : World} {S S' : Nat → Prop} (hk : ∀ g, S g → g < w.heap.size → S' g ∧ w'.heap[g]? = w.heap[g]?) (hz : w.heap.size ≤ w'.heap.size) {x : PEx} {c : List Value} (h : ExA w S x c) : ExA w' S' x c := by
 induction h with
 | mk hl hr _ ih => exact .mk hl (hr.keep hk hz) ih
theorem ExA.len {w : World} {S : Nat → Prop} {x : PEx} {c : List Value} (h : ExA w S x c) : c.length = 9 := by cases h; rfl
theorem RowAt.slc {w : World} {S : Nat → Prop} {v : Value} {n : Nat} {xs : List Value} (h : RowAt w S v n xs) : ∃ A cap, v = .slice A n cap := by obtain ⟨A, cap, rfl, _⟩ := h; exact ⟨A, cap, rfl⟩
theorem ExA.one {w : World} {S : Nat → Prop} {x : PEx} {c : List Value} (h : ExA w S x c) : ∀ u ∈ c, u.oneCell' = true := by
 cases h with
 | mk hl hr hk =>
  obtain ⟨A, cap, rfl⟩ := hr.slc
  simp [Value.oneCell']
def exA : Elem PEx := ⟨9, ExA, fun h hk hz => h.keep hk hz, fun h => h.len, fun h => h.one⟩
theorem getD_some {α : Type} {l : List α} {i : Nat} {d x : α} (h : l[i]? = some x) : l.getD i d = x := by rw [List.getD_eq_getElem?_getD, h]; rfl
theorem ExA.inv {w : World} {S : Nat → Prop} {x : PEx} {c : List Value} (h : ExA w S x c) : ∃ kd op nm num kids ty a z A cap, x = .mk kd op nm num kids ty a ∧ c = exQ kd op nm num (.slice A kids.length cap) ty z ∧ LAt exA w S kids (.slice A kids.length cap) := by
 cases h with
 | @mk kd op nm num kids ty a z v rows hl hr hk =>
  obtain ⟨A, cap, rfl⟩ := hr.slc
  exact ⟨kd, op, nm, num, kids, ty, a, z, A, cap, rfl, rfl, rows, hl, hr, fun i x c hx hc => by
   have := hk i (List.getElem?_eq_some_iff.1 hx).1
   rw [getD_some hx, getD_some hc] at this
   exact this⟩
theorem ExAt.toA {w : World} {S : Nat → Prop} {x : PEx} {c : List Value} (h : ExAt w S x c) : ExA w S x c := by
 induction h with
 | mk hl hr _ ih => exact .mk hl hr ih
theorem LAt.map {α : Type} {E F : Elem α} {w : World} {S : Nat → Prop} {l : List α} {v : Value} (h : LAt E w S l v) (hf : ∀ x c, E.At w S x c → F.At w S x c) : LAt F w S l v := by
 obtain ⟨rows, h1, h2, h3⟩ := h
 exact ⟨rows, h1, h2, fun i x c hx hc => hf x c (h3 i x c hx hc)⟩
abbrev stQ (kd : Int) (v1 v2 : Value) (v : PVa) (za z : Int) : List Value := [.int .i64 kd, v1, v2, .string v.nm, .int .i64 v.ty.ba, .int .i64 v.ty.st, .string v.ty.rc, .int .i64 v.ln, .int .i64 za, .int .i64 z]
inductive StA (w : World) (S : Nat → Prop) : PSt → List Value → Prop
 | mk {kd : Int} {exprs : List PEx} {kids : List PSt} {v : PVa} {at_ : Nat} {za z : Int} {v1 v2 : Value} {rows : List (List Value)} (hx : LAt exA w S exprs v1) (hl : rows.length = kids.length) (hr : RowAt w S v2 kids.length rows.flatten)
   (hk : ∀ i, i < kids.length → StA w S (kids.getD i st0) (rows.getD i [])) : StA w S (.mk kd exprs kids v at_) (stQ kd v1 v2 v za z)
theorem StA.keep {w w' : World} {S S' : Nat → Prop} (hk : ∀ g, S g → g < w.heap.size → S' g ∧ w'.heap[g]? = w.heap[g]?) (hz : w.heap.size ≤ w'.heap.size) {x : PSt} {c : List Value} (h : StA w S x c) : StA w' S' x c := by
 induction h with
 | mk hx hl hr _ ih => exact .mk (hx.keep hk hz) hl (hr.keep hk hz) ih
theorem StA.len {w : World} {S : Nat → Prop} {x : PSt} {c : List Value} (h : StA w S x c) : c.length = 10 := by cases h; rfl
theorem StA.one {w : World} {S : Nat → Prop} {x : PSt} {c : List Value} (h : StA w S x c) : ∀ u ∈ c, u.oneCell' = true := by
 cases h with
 | mk hx hl hr hk =>
  obtain ⟨A, cap, rfl⟩ := hx.slice
  obtain ⟨B, cap2, rfl⟩ := hr.slc
  simp [Value.oneCell']
def stA : Elem PSt := ⟨10, StA, fun h hk hz => h.keep hk hz, fun h => h.len, fun h => h.one⟩
theorem StA.inv {w : World} {S : Nat → Prop} {x : PSt} {c : List Value} (h : StA w S x c) : ∃ kd exprs kids v a za z A cap B cap2, x = .mk kd exprs kids v a ∧ c = stQ kd (.slice A exprs.length cap) (.slice B kids.length cap2) v za z ∧ LAt exA w S exprs (.slice A exprs.length cap) ∧ LAt stA w S kids (.slice B kids.length cap2) := by
 cases h with
 | @mk kd exprs kids v a za z v1 v2 rows hx hl hr hk =>
  obtain ⟨A, cap, rfl⟩ := hx.slice
  obtain ⟨B, cap2, rfl⟩ := hr.slc
  exact ⟨kd, exprs, kids, v, a, za, z, A, cap, B, cap2, rfl, rfl, hx, rows, hl, hr, fun i x c hx hc => by
   have := hk i (List.getElem?_eq_some_iff.1 hx).1
   rw [getD_some hx, getD_some hc] at this
   exact this⟩
theorem StAt.toA {w : World} {S : Nat → Prop} {x : PSt} {c : List Value} (h : StAt w S x c) : StA w S x c := by
 induction h with
 | mk hx hl hr _ ih => exact .mk ((list_exs hx).map fun _ _ h => ExAt.toA h) hl hr ih
def PtA {α : Type} (E : Elem α) (w : World) (S : Nat → Prop) (p : Value) (x : α) : Prop := ∃ g o c, p = .pointer (some ⟨g, o, none⟩) ∧ S g ∧ g < w.heap.size ∧ E.At w S x c ∧ w.rangeAt g o c
theorem PtA.keep {α : Type} {E : Elem α} {w w' : World} {S S' : Nat → Prop} {p : Value} {x : α} (h : PtA E w S p x) (hk : ∀ g, S g → g < w.heap.size → S' g ∧ w'.heap[g]? = w.heap[g]?) (hz : w.heap.size ≤ w'.heap.size) : PtA E w' S' p x := by
 obtain ⟨g, o, c, h1, h2, h3, h4, h5⟩ := h
 obtain ⟨k1, k2⟩ := hk g h2 h3
 exact ⟨g, o, c, h1, k1, Nat.lt_of_lt_of_le h3 hz, E.keep h4 hk hz, fun j u hu => (World.cell?_of_block (w := w) k2).trans (h5 j u hu)⟩
theorem LAt.pt {α : Type} {E : Elem α} {w : World} {S : Nat → Prop} {l : List α} {g o cap : Nat} (h : LAt E w S l (.slice (some ⟨g, o, none⟩) l.length cap)) (i : Nat) {x : α} (hi : l[i]? = some x) : PtA E w S (.pointer (some ⟨g, o + i * E.z, none⟩)) x := by
 obtain ⟨g', o', cap', c, e, _, _, hS, hg, hx, hc⟩ := h.get i hi
 injection e with e1 e2 e3
 injection e1 with e1
 injection e1 with e1 e4
 subst e1
 subst e4
 exact ⟨g, o + i * E.z, c, rfl, hS, hg, hx, fun j u hu => by rw [Nat.add_assoc]; exact hc j u hu⟩
abbrev Bl (B : Nat) : Nat → Prop := fun g => g < B
theorem bl_keep {B : Nat} {w w' : World} (h : Below B w w') : ∀ g, Bl B g → g < w.heap.size → Bl B g ∧ w'.heap[g]? = w.heap[g]? := fun g hg _ => ⟨hg, h.block g hg⟩
structure Kx (b : Nat) (t : TypeId) (w w' : World) : Prop where
 size : w.heap.size ≤ w'.heap.size
 block : ∀ k o, w.heap[k]? = some o → k ≠ b → (∀ c z, o ≠ .cells c t z) → w'.heap[k]? = some o
theorem Tq.kx {b : Nat} {w w' : World} (h : Tq b w w') : Kx b 5 w w' := ⟨h.size, h.block⟩
theorem Kx.refl (b : Nat) (t : TypeId) (w : World) : Kx b t w w := ⟨Nat.le_refl _, fun _ _ h _ _ => h⟩
theorem Kx.trans {b : Nat} {t : TypeId} {x y z : World} (h : Kx b t x y) (k : Kx b t y z) : Kx b t x z := ⟨Nat.le_trans h.size k.size, fun i o ho h1 h2 => k.block i o (h.block i o ho h1 h2) h1 h2⟩
theorem Kx.of_below {b : Nat} {t : TypeId} {w w' : World} (h : Below w.heap.size w w') : Kx b t w w' := ⟨h.size, fun k o ho _ _ => (h.block k (Array.getElem?_eq_some_iff.1 ho).1).trans ho⟩
theorem Kx.alloc {b : Nat} {t : TypeId} {x w : World} (h : Kx b t x w) (o : Obj) : Kx b t x (w.alloc o) := h.trans (.of_below ((Below.refl _ w).alloc (Nat.le_refl _) o))
theorem Kx.drew {b : Nat} {t : TypeId} {x w : World} (h : Kx b t x w) : Kx b t x w.drew := ⟨h.size, h.block⟩
theorem Kx.setCell {b : Nat} {t : TypeId} {x w : World} (h : Kx b t x w) (i : Nat) (u : Value) : Kx b t x (w.setCell ⟨b, i, none⟩ u) :=
 h.trans ⟨by simp [World.setCell], fun k o ho h1 _ => (Below.heap_setCell w ⟨b, i, none⟩ u k h1).trans ho⟩
theorem Kx.grown {b : Nat} {t : TypeId} {x w w' : World} {row : Option Nat} (h : Kx b t x w) (g : w.grownBy w' row) (hr : ∀ k, row = some k → ∃ c z, w.heap[k]? = some (.cells c t z)) : Kx b t x w' :=
 h.trans ⟨g.size, fun k o ho _ h2 => (g.block k (Array.getElem?_eq_some_iff.1 ho).1 (fun e => by
  obtain ⟨c, z, hc⟩ := hr k e.symm
  rw [ho] at hc
  injection hc with hc
  exact h2 c z hc)).trans ho⟩
theorem Kx.new {b : Nat} {t : TypeId} {w0 w w' : World} (h : Kx b t w0 w) {b2 : Nat} {t2 : TypeId} (k : Kx b2 t2 w w') (hb : w0.heap.size ≤ b2) (hr : ∀ i c z, w.heap[i]? = some (.cells c t2 z) → w0.heap.size ≤ i ∨ w'.heap[i]? = w.heap[i]?) : Kx b t w0 w' :=
 ⟨Nat.le_trans h.size k.size, fun i o ho h1 h2 => by
  have hi := (Array.getElem?_eq_some_iff.1 ho).1
  have hw := h.block i o ho h1 h2
  by_cases hc : ∃ c z, o = .cells c t2 z
  ·obtain ⟨c, z, rfl⟩ := hc
   rcases hr i c z hw with h3 | h3
   ·omega
   ·rw [h3]; exact hw
  ·exact k.block i o hw (by omega) (fun c z e => hc ⟨c, z, e⟩)⟩
structure Wr (T : PrintTabs) (B b : Nat) (X : List UInt8) (w : World) : Prop where
 bl : Lib.IsBuilder 69 5 B b (Lib.byteCells X) w
 tb : Tb T B w
 bw : B ≤ w.heap.size
theorem Wr.at_ {T : PrintTabs} {B b : Nat} {X : List UInt8} {w : World} (h : Wr T B b X w) : B ≤ b ∧ ∃ c, w.heap[b]? = some (.cells c 69) := by
 rcases h.bl with h | h <;> (obtain ⟨h1, v, h2, _⟩ := h; exact ⟨h1, _, h2⟩)
theorem Wr.lt {T : PrintTabs} {B b : Nat} {X : List UInt8} {w : World} (h : Wr T B b X w) : b < w.heap.size := by
 obtain ⟨_, c, hc⟩ := h.at_
 exact (Array.getElem?_eq_some_iff.1 hc).1
def blen (b : Nat) (w : World) : Nat := match w.cell? ⟨b, 1, none⟩ with | some (.slice _ n _) => n | _ => 0
theorem Wr.len {T : PrintTabs} {B b : Nat} {X : List UInt8} {w : World} (h : Wr T B b X w) : blen b w = X.length := by
 have key : ∀ p, Lib.BuilderAt 69 5 B b p (Lib.byteCells X) w → blen b w = X.length := fun p h => by
  obtain ⟨_, v, h2, h3, _⟩ := h
  have c1 : w.cell? ⟨b, 1, none⟩ = some v := by simp [World.cell?, h2]
  unfold blen
  rw [c1]
  rw [Lib.byteCells_length] at h3
  rcases h3.2 with ⟨rfl, h4⟩ | ⟨g, cap, cur, rfl, _⟩
  ·exact h4.symm
  ·rfl
 rcases h.bl with h | h <;> exact key _ h
theorem builder_kx {T e t : TypeId} {B b c : Nat} {p : Value} {bs : List Value} {w w' : World} (h : Lib.BuilderAt T e B b p bs w) (hk : Kx c t w w') (hc : ∃ a, w.heap[c]? = some (.cells #[a] 159) ∨ w.heap[c]? = some (.cells #[a] 138)) (hTt : T ≠ t) (het : e ≠ t) (h1 : T ≠ 159) (h2 : T ≠ 138) (h3 : e ≠ 159) (h4 : e ≠ 138) : Lib.BuilderAt T e B b p bs w' := by
 have key : ∀ (k : Nat) (cs : Array Value) (u : TypeId) (z : Nat × Nat), w.heap[k]? = some (.cells cs u z) → (u = T ∨ u = e) → w'.heap[k]? = w.heap[k]? := fun k cs u z hh hu => by
  rw [hh]
  refine hk.block k _ hh (fun ek => ?_) (fun c' z' e' => ?_)
  ·subst ek
   obtain ⟨a, hc | hc⟩ := hc
   ·rw [hh] at hc
    injection hc with hc
    injection hc with _ hc _
    subst hc
    rcases hu with hu | hu
    ·exact h1 hu.symm
    ·exact h3 hu.symm
   ·rw [hh] at hc
    injection hc with hc
    injection hc with _ hc _
    subst hc
    rcases hu with hu | hu
    ·exact h2 hu.symm
    ·exact h4 hu.symm
  ·injection e' with _ e' _
   subst e'
   rcases hu with hu | hu
   ·exact hTt hu.symm
   ·exact het hu.symm
 obtain ⟨hB, v, hb, hown, hne⟩ := h
 refine ⟨hB, v, (key b _ T _ hb (.inl rfl)).trans hb, ⟨hown.1, ?_⟩, hne⟩
 rcases hown.2 with hh | ⟨g, cap, cur, hv, hg, hh, r⟩
 ·exact .inl hh
 ·exact .inr ⟨g, cap, cur, hv, hg, (key g _ e _ hh (.inr rfl)).trans hh, r⟩
theorem Wr.kx {T : PrintTabs} {B b c : Nat} {t : TypeId} {X : List UInt8} {w w' : World} (h : Wr T B b X w) (hk : Kx c t w w') (hb : Below B w w') (hc : ∃ a, w.heap[c]? = some (.cells #[a] 159) ∨ w.heap[c]? = some (.cells #[a] 138)) (hTt : 69 ≠ t) (het : 5 ≠ t) : Wr T B b X w' :=
 ⟨by rcases h.bl with h | h
     ·exact .inl (builder_kx h hk hc hTt het (by decide) (by decide) (by decide) (by decide))
     ·exact .inr (builder_kx h hk hc hTt het (by decide) (by decide) (by decide) (by decide)), h.tb.keep hb, Nat.le_trans h.bw hb.size⟩
theorem Wr.below {T : PrintTabs} {B b : Nat} {X : List UInt8} {w w' : World} (h : Wr T B b X w) (hb : Below w.heap.size w w') : Wr T B b X w' :=
 ⟨isBuilder_keep h.bl (hb), h.tb.keep (hb.mono h.bw), Nat.le_trans h.bw hb.size⟩
mutual
def fE : PEx → Prop
 | .mk kd op nm num kids ty _ => (op.size ≤ 1048576 ∧ nm.size ≤ 1048576 ∧ (ty.rc.size ≤ 1048576 ∧ fitI ty.ba ∧ fitI ty.st) ∧ fitI kd ∧ fitU num) ∧ fEs kids
def fEs : List PEx → Prop
 | [] => True
 | x :: l => fE x ∧ fEs l
end
def kidsE : PEx → List PEx | .mk _ _ _ _ kids _ _ => kids
def kidsS : PSt → List PSt | .mk _ _ kids _ _ => kids
section
variable (T : PrintTabs)
def ownE : PEx → List UInt8 | .mk kd op nm num kids ty _ => exLine T kd op nm num ty kids.length
def ownS : PSt → List UInt8 | .mk kd exprs kids v _ => stLine T kd v exprs.length kids.length ++ exsT T exprs
end
theorem exT_own (T : PrintTabs) (x : PEx) : exT T x = ownE T x ++ (kidsE x).flatMap (exT T) := by cases x; simp only [exT, ownE, kidsE, exs_flat]
theorem stT_own (T : PrintTabs) (x : PSt) : stT T x = ownS T x ++ (kidsS x).flatMap (stT T) := by cases x; simp only [stT, ownS, kidsS, sts_flat, List.append_assoc]
theorem ownE_pos (T : PrintTabs) (x : PEx) : 0 < (ownE T x).length := by cases x; simp only [ownE, exLine, List.length_append, List.length_cons]; omega
theorem ownS_pos (T : PrintTabs) (x : PSt) : 0 < (ownS T x).length := by cases x; simp only [ownS, stLine, List.length_append, List.length_cons]; omega
mutual
def fS : PSt → Prop
 | .mk kd exprs kids v _ => (fEs exprs ∧ (v.nm.size ≤ 1048576 ∧ (v.ty.rc.size ≤ 1048576 ∧ fitI v.ty.ba ∧ fitI v.ty.st) ∧ fitI v.ln) ∧ fitI kd) ∧ fSs kids
def fSs : List PSt → Prop
 | [] => True
 | x :: l => fS x ∧ fSs l
end
theorem fE_kids {x : PEx} (h : fE x) : fEs (kidsE x) := by cases x; exact h.2
theorem fS_kids {x : PSt} (h : fS x) : fSs (kidsS x) := by cases x; exact h.2
end Go.Proofs.YtfjobnljdkiihaaGreatDoor
