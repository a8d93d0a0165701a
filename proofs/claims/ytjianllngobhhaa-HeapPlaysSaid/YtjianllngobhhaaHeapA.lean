/- Words for package heap: maps whose elements are values as they stand, pointers, what stands in memory. Conditions: each theorem's. -/
import Derived.Test.YtjianllngobhhaaRows
import Derived.WalkKit
import Derived.ProofKit
import Derived.OpenShut
import Derived.WalkSpells
import Derived.Lib.Hide
import Derived.Handy
import Derived.Deep.QuietTactic
import Derived.BigQuiet
import Derived.Below
import Derived.RegionTactic
import Derived.BigRegion
import Derived.Maps.OwnSet
import Derived.Maps.OwnOps
import Derived.Maps.Own
import Derived.Maps.AppendAt
import Derived.DeepKeys5
import Derived.Deep.RegionHeld3
namespace Go.Proofs.Ytjianllngobhhaa
open Go.RowKit Go.Maps
set_option linter.unusedVariables false
set_option linter.unusedSimpArgs false
set_option maxRecDepth 100000
theorem laidOut : laidOutB Try.prog = true := by kernel_rfl
namespace Hp
def in64 (x : Int) : Prop := -9223372036854775808 ≤ x ∧ x ≤ 9223372036854775807
structure Ptr where
  bl : Int
  off : Int
  lo : Int
  hi : Int
deriving DecidableEq
def Ptr.ok (p : Ptr) : Prop := in64 p.bl ∧ in64 p.off ∧ in64 p.lo ∧ in64 p.hi
def Ptr.v (p : Ptr) : Value := .agg #[.int .i64 p.bl, .int .i64 p.off, .int .i64 p.lo, .int .i64 p.hi]
def p0 : Ptr := ⟨0, 0, 0, 0⟩
structure Val where
  num : Int
  p : Ptr
deriving DecidableEq
def Val.v (x : Val) : Value := .agg #[.int .u64 x.num, .int .i64 x.p.bl, .int .i64 x.p.off, .int .i64 x.p.lo, .int .i64 x.p.hi]
def v0 : Val := ⟨0, p0⟩
theorem Val.inj {x y : Val} (h : x.v = y.v) : x = y := by
  obtain ⟨a, ⟨b, c, d, e⟩⟩ := x
  obtain ⟨a', ⟨b', c', d', e'⟩⟩ := y
  simp [Val.v] at h
  obtain ⟨rfl, rfl, rfl, rfl, rfl⟩ := h
  rfl
def pB (p : Ptr) : Value := p.v
end Hp
open Hp
theorem wf64 {n : Int} (h : in64 n) : (Lit.int .i64 n).wf = true := by
  unfold in64 at h
  show (decide (IntKind.i64.min ≤ n) && decide (n ≤ IntKind.i64.max)) = true
  rw [show IntKind.i64.min = -9223372036854775808 from by decide, show IntKind.i64.max = 9223372036854775807 from by decide]
  simp
  omega
/-! Keys. -/
theorem lawInt : Keyed Try.prog 3 := int_keyed Try.underlying3
theorem lawPlace : Keyed Try.prog 80 := Keyed.of_law (deep_law_laid laidOut (m := 4) (by omega) (by decide +kernel) (by kernel_rfl) (by kernel_rfl))
theorem keyTP : Try.prog.keyType 80 = true := by kernel_rfl
theorem cellsI : Try.prog.cellsOf 3 = 1 := by kernel_rfl
theorem cellsPl : Try.prog.cellsOf 80 = 2 := by kernel_rfl
theorem sizeTys : ∃ m, Try.prog.types.size + 1 = m + 2 := ⟨Try.prog.types.size - 1, by decide +kernel⟩
def plV (b o : Int) : Value := .agg #[.int .i64 b, .int .i64 o]
def keyP (b o : Int) : Lit := .string (keyBytes [.int .i64 b, .int .i64 o])
theorem litsI {m : Nat} {n : Int} (h : (Lit.int .i64 n).wf = true) : Try.prog.keyLits (m + 1) 3 [.int .i64 n] = some [.int .i64 n] := by
  unfold Program.keyLits
  simp [Try.underlying3, h]
theorem formedPl (x y : Int) : Value.formed Try.prog 80 (plV x y) = true := by
  simp [Value.formed, plV, Try.underlying80, cellsPl, cellsI]
theorem key_int {n : Int} (h : in64 n) : keyOf Try.prog 3 (.int .i64 n) = some (.int .i64 n) := keyOf_int_mk Try.underlying3 (wf64 h)
theorem key_pl {x y : Int} (hx : in64 x) (hy : in64 y) : keyOf Try.prog 80 (plV x y) = some (keyP x y) := by
  obtain ⟨m, hm⟩ := sizeTys
  have hl : Try.prog.keyLits (Try.prog.types.size + 1) 80 [.int .i64 x, .int .i64 y] = some [.int .i64 x, .int .i64 y] := by
    rw [hm]
    unfold Program.keyLits
    simp only [Try.underlying80]
    simp [cellsI, cellsPl, litsI (wf64 hx), litsI (wf64 hy), List.range, List.range.loop]
  unfold keyOf
  have hf := formedPl x y
  simp only [plV] at hf ⊢
  simp only [Try.underlying80, keyTP, hf, Value.cells, hl]
  rfl
theorem keyP_inj {x y x' y' : Int} (hx : in64 x) (hy : in64 y) (hx' : in64 x') (hy' : in64 y') (e : keyP x y = keyP x' y') : x = x' ∧ y = y' := by
  have := lawPlace.inj (key_pl hx hy) (e ▸ key_pl hx' hy')
  simpa [plV] using this
/-! Maps whose elements are told as they stand. -/
def heldR (v : Value) : Option (DataW Value × List MemPlace) := some (.held v, [])
def heldOf : DataW Value → Option Value
  | .held v => some v
  | _ => none
def MpIs (w : World) (k : TypeId) (b n : Nat) (f : Lit → Option Value) : Prop := ∃ D : DataW Value, w.ownsMap Try.prog k heldR b n D ∧ ∀ l, f l = heldOf (D.atKey l .nil)
noncomputable def setF (f : Lit → Option Value) (l : Lit) (v : Option Value) : Lit → Option Value := fun x => @ite _ (x = l) (Classical.propDecidable _) v (f x)
theorem setF_same (f : Lit → Option Value) (l : Lit) (v : Option Value) : setF f l v l = v := by unfold setF; rw [if_pos rfl]
theorem setF_other (f : Lit → Option Value) {l x : Lit} (v : Option Value) (h : x ≠ l) : setF f l v x = f x := by unfold setF; rw [if_neg h]
theorem MpIs.lt {w : World} {k : TypeId} {b n : Nat} {f : Lit → Option Value} (h : MpIs w k b n f) : b < w.heap.size := by obtain ⟨D, h, _⟩ := h; exact h.lt
theorem MpIs.keep {w w' : World} {k : TypeId} {b n : Nat} {f : Lit → Option Value} (h : MpIs w k b n f) (e : w'.heap[b]? = w.heap[b]?) : MpIs w' k b n f := by
  obtain ⟨D, ⟨es, clock, hb, r⟩, hf⟩ := h
  exact ⟨D, ⟨es, clock, e.trans hb, r⟩, hf⟩
theorem MpIs.mono {w : World} {k : TypeId} {b n m : Nat} {f : Lit → Option Value} (h : MpIs w k b n f) (e : n ≤ m) : MpIs w k b m f := by
  obtain ⟨D, h, hf⟩ := h
  exact ⟨D, h.mono e, hf⟩
theorem MpIs.isMap {w : World} {k : TypeId} {b n : Nat} {f : Lit → Option Value} (h : MpIs w k b n f) : ∃ es c, w.heap[b]? = some (.map es c) := by
  obtain ⟨D, ⟨es, clock, hb, r⟩, hf⟩ := h
  exact ⟨es, clock, hb⟩
theorem mp_new (w : World) (k : TypeId) : MpIs (w.alloc (.map #[] 0)) k w.heap.size 0 (fun _ => none) := ⟨.map [], World.ownsMap_made _ _ _ _, fun l => rfl⟩
theorem MpIs.look {w : World} {t k e : TypeId} {b n : Nat} {f : Lit → Option Value} (h : MpIs w k b n f) (K : Keyed Try.prog k) (ht : Try.prog.underlying t = some (.map k e)) {z : Value} (hz : (zeroValue e).run Try.prog w = .ok z w) {key : Value} {kl : Lit} (hkey : keyOf Try.prog k key = some kl) (c : Bool) :
    (Instr.lookup t (.map (some b)) key c).run Try.prog w = .ok (if c then .tuple #[(f kl).getD z, .bool (f kl).isSome] else (f kl).getD z) w := by
  obtain ⟨D, ⟨es, clock, hb, F, hs, rfl⟩, hf⟩ := h
  rcases Maps.fit_look c K ht hz hb F hkey with ⟨hrun, _, hat⟩ | ⟨e0, y, _, _, hrun, hRv, hat, _⟩
  · have : f kl = none := by rw [hf, hat]; rfl
    rw [hrun, this]; rfl
  · have : f kl = some e0.val := by
      rw [hf, hat]
      unfold heldR at hRv
      cases hRv
      rfl
    rw [hrun, this]; rfl
theorem MpIs.put {w : World} {t k e : TypeId} {b n : Nat} {f : Lit → Option Value} (h : MpIs w k b n f) (K : Keyed Try.prog k) (ht : Try.prog.underlying t = some (.map k e)) (hn : n < maxLen) {key val : Value} {kl : Lit} (hkey : keyOf Try.prog k key = some kl) :
    ∃ w', (Instr.mapUpdate t (.map (some b)) key val).run Try.prog w = .ok () w' ∧ MpIs w' k b (n + 1) (setF f kl (some val)) ∧ w.grownBy w' (some b) := by
  obtain ⟨D, h, hf⟩ := h
  obtain ⟨w', hrun, h', hg⟩ := h.update K ht hn hkey (d := .held val) (ps := []) rfl
  refine ⟨w', hrun, ⟨_, h', fun l => ?_⟩, hg⟩
  by_cases hl : l = kl
  · subst hl
    rw [setF_same, atKey_put_same h.isMap (K.key hkey)]
    rfl
  · rw [setF_other _ _ hl, atKey_put_other hl, hf]
theorem MpIs.del {w : World} {t k e : TypeId} {b n : Nat} {f : Lit → Option Value} (h : MpIs w k b n f) (K : Keyed Try.prog k) (ht : Try.prog.underlying t = some (.map k e)) {key : Value} {kl : Lit} (hkey : keyOf Try.prog k key = some kl) (ty : TypeId) :
    ∃ w', (Builtin.delete_ #[t, k] ty #[.map (some b), key]).run Try.prog w = .ok (.tuple #[]) w' ∧ MpIs w' k b n (setF f kl none) ∧ w.grownBy w' (some b) := by
  obtain ⟨D, h, hf⟩ := h
  obtain ⟨w', hrun, h', hg⟩ := h.drop K ht hkey ty
  refine ⟨w', hrun, ⟨_, h', fun l => ?_⟩, hg.grown⟩
  by_cases hl : l = kl
  · subst hl
    rw [setF_same, atKey_del_same]
    rfl
  · rw [setF_other _ _ hl, atKey_del_other hl, hf]
section
variable (w : World) {ops : Array Oper} {rest : List Oper} {o : Oper} {a : Act} {Q : Exit → Act → World → Prop}
theorem wpList_look (hg : o.guard = none) (m x : Operand) (t : TypeId) (c : Bool) (hop : o.op = Op.lookup t m x c)
    (k e : TypeId) (K : Keyed Try.prog k) (ht : Try.prog.underlying t = some (.map k e)) {z : Value} (hz : (zeroValue e).run Try.prog w = .ok z w) (b n : Nat) (f : Lit → Option Value)
    (hm : a.eval m = .map (some b)) (hown : MpIs w k b n f) (key : Value) (kl : Lit) (hx : a.eval x = key) (hkey : keyOf Try.prog k key = some kl)
    (V : Value) (hV : (if c then Value.tuple #[(f kl).getD z, .bool (f kl).isSome] else (f kl).getD z) = V)
    (hK : wpList Try.prog ops Q rest (a.put o.dst V) w) :
    wpList Try.prog ops Q (o :: rest) a w := by
  refine wpList_plain hg fun K' hK' => ?_
  have hrun := hown.look K ht hz hkey c
  subst hV
  unfold Oper.wp
  cases c <;> simp [execOp, hop, hm, hx, hrun, Result.andThen] <;> exact hK' _ _ hK
theorem wpList_put (hg : o.guard = none) (m x v : Operand) (t : TypeId) (hop : o.op = Op.mapUpdate t m x v)
    (k e : TypeId) (K : Keyed Try.prog k) (ht : Try.prog.underlying t = some (.map k e)) (b n : Nat) (f : Lit → Option Value)
    (hm : a.eval m = .map (some b)) (hown : MpIs w k b n f) (hn : n < maxLen) (key val : Value) (kl : Lit) (hx : a.eval x = key) (hv : a.eval v = val) (hkey : keyOf Try.prog k key = some kl)
    (hK : ∀ w', MpIs w' k b (n + 1) (setF f kl (some val)) → w.grownBy w' (some b) → wpList Try.prog ops Q rest (a.put o.dst undef) w') :
    wpList Try.prog ops Q (o :: rest) a w := by
  refine wpList_plain hg fun K' hK' => ?_
  obtain ⟨w', hrun, r1, r2⟩ := hown.put K ht hn (val := val) hkey
  unfold Oper.wp
  simp [execOp, hop, hm, hx, hv, hrun, Result.andThen]
  exact hK' _ _ (hK w' r1 r2)
theorem wpList_del (hg : o.guard = none) (m x : Operand) (t k : TypeId) (hop : o.op = Op.call { callee := Callee.builtin Builtin.delete, args := #[m, x], argTypes := #[t, k] })
    (e : TypeId) (K : Keyed Try.prog k) (ht : Try.prog.underlying t = some (.map k e)) (b n : Nat) (f : Lit → Option Value)
    (hm : a.eval m = .map (some b)) (hown : MpIs w k b n f) (key : Value) (kl : Lit) (hx : a.eval x = key) (hkey : keyOf Try.prog k key = some kl)
    (hK : ∀ w', MpIs w' k b n (setF f kl none) → w.grownBy w' (some b) → wpList Try.prog ops Q rest (a.put o.dst (.tuple #[])) w') :
    wpList Try.prog ops Q (o :: rest) a w := by
  refine wpList_plain hg fun K' hK' => ?_
  obtain ⟨w', hrun, r1, r2⟩ := hown.del K ht hkey o.type
  unfold Oper.wp
  simp [execOp, hop, resolve, invoke, builtin, hm, hx, hrun, Result.andThen]
  exact hK' _ _ (hK w' r1 r2)
end
/-! The heap in memory. -/
namespace Hp
/-- A live block's room: where it lies, its size, may it be freed, where it is told what was stored at, and what is told there. -/
structure Room where
  rb : Nat
  size : Int
  free : Bool
  us : Value
  used : List Int
structure G where
  h : Nat
  lb : Nat
  sb : Nat
  cnt : Nat
  made : Int
  room : Int → Option Room
  st : Int → Int → Option Val
def G.own (g : G) (j : Nat) : Prop := j = g.h ∨ j = g.lb ∨ j = g.sb ∨ ∃ b r, g.room b = some r ∧ (j = r.rb ∨ r.us.ownBlock = some j)
/-- What can be seen of it: how many were made, which are live (size, may be freed), what stands where. -/
structure Ab where
  made : Int
  room : Int → Option (Int × Bool)
  st : Int → Int → Val
def G.ab (g : G) : Ab := ⟨g.made, fun b => (g.room b).map fun r => (r.size, r.free), fun b o => (g.st b o).getD v0⟩
end Hp
def i64L (l : List Int) : List Value := l.map fun x => .int .i64 x
structure HeapAt (w : World) (g : G) : Prop where
  box : w.heap[g.h]? = some (.cells #[.int .i64 g.made, .map (some g.lb), .map (some g.sb)] 69)
  live : ∃ f, MpIs w 3 g.lb g.cnt f ∧ ∀ b, in64 b → f (.int .i64 b) = (g.room b).map fun r => .pointer (some ⟨r.rb, 0, none⟩)
  stands : ∃ f, MpIs w 80 g.sb g.cnt f ∧ ∀ b o, in64 b → in64 o → f (keyP b o) = (g.st b o).map Val.v
  ms : g.lb ≠ g.sb
  room : ∀ b r, g.room b = some r → w.heap[r.rb]? = some (.cells #[.int .i64 r.size, .bool r.free, r.us] 73) ∧ w.ownsRow 0 3 1 r.us r.used.length (i64L r.used) ∧ r.used.length ≤ g.cnt ∧ (∀ o ∈ r.used, in64 o) ∧ 1 ≤ b ∧ b ≤ g.made ∧ 0 ≤ r.size ∧ r.size ≤ 4194304
  apart : ∀ b r b' r', g.room b = some r → g.room b' = some r' → b ≠ b' → r.rb ≠ r'.rb ∧ (r.us.ownBlock = none ∨ r.us.ownBlock ≠ r'.us.ownBlock)
  inv : ∀ b o x, g.st b o = some x → in64 o ∧ ∃ r, g.room b = some r ∧ o ∈ r.used
  mkd : 0 ≤ g.made ∧ g.made ≤ g.cnt
/-- Nothing but what the heap has, and new blocks, has changed; the heap has nothing else than it had but new blocks. -/
structure Stays (o : Nat → Prop) (w : World) (o' : Nat → Prop) (w' : World) : Prop where
  os : w'.os = w.os
  tape : w'.tape = w.tape
  output : w'.output = w.output
  size : w.heap.size ≤ w'.heap.size
  block : ∀ k, k < w.heap.size → ¬ o k → w'.heap[k]? = w.heap[k]?
  own : ∀ k, o' k → o k ∨ w.heap.size ≤ k
theorem Stays.refl (o : Nat → Prop) (w : World) : Stays o w o w := ⟨rfl, rfl, rfl, Nat.le_refl _, fun _ _ _ => rfl, fun _ h => .inl h⟩
theorem Stays.trans {o o1 o2 : Nat → Prop} {w w1 w2 : World} (h : Stays o w o1 w1) (g : Stays o1 w1 o2 w2) : Stays o w o2 w2 :=
  ⟨g.os.trans h.os, g.tape.trans h.tape, g.output.trans h.output, Nat.le_trans h.size g.size,
   fun k hk hn => (g.block k (Nat.lt_of_lt_of_le hk h.size) (fun e => (h.own k e).elim hn (fun e => by omega))).trans (h.block k hk hn),
   fun k hk => (g.own k hk).elim (h.own k) (fun e => .inr (Nat.le_trans h.size e))⟩
theorem Stays.below {o : Nat → Prop} {w w' : World} (h : Below w.heap.size w w') : Stays o w o w' := ⟨h.os, h.tape, h.output, h.size, fun k hk _ => h.block k hk, fun _ h => .inl h⟩
theorem Stays.alloc {o o' : Nat → Prop} {w w' : World} (h : Stays o w o' w') (x : Obj) : Stays o w o' (w'.alloc x) := h.trans (Stays.below ((Below.refl _ _).alloc (Nat.le_refl _) _))
theorem Stays.drew {o o' : Nat → Prop} {w w' : World} (h : Stays o w o' w') : Stays o w o' w'.drew := ⟨h.os, h.tape, h.output, h.size, h.block, h.own⟩
theorem Stays.set {o : Nat → Prop} (w : World) (b k : Nat) (v : Value) (hb : o b) : Stays o w o (w.setCell ⟨b, k, none⟩ v) :=
  ⟨rfl, rfl, rfl, by simp [World.setCell], fun j _ hs => Below.heap_setCell w _ v j (fun e => hs (by rw [e]; exact hb)), fun _ h => .inl h⟩
theorem Stays.grown {o : Nat → Prop} {w w' : World} {r : Option Nat} (h : w.grownBy w' r) (hb : ∀ b, r = some b → o b) : Stays o w o w' :=
  ⟨h.os, h.tape, h.output, h.size, fun j hj hs => h.block j hj (fun e => hs (hb j e.symm)), fun _ h => .inl h⟩
theorem lt_of_at {w : World} {g : Nat} {o : Obj} (h : w.heap[g]? = some o) : g < w.heap.size := by
  rcases Nat.lt_or_ge g w.heap.size with hlt | hge
  · exact hlt
  · rw [Array.getElem?_eq_none hge] at h; cases h
theorem Stays.at_ {o o' : Nat → Prop} {w w' : World} (h : Stays o w o' w') {c : Nat} {x : Obj} (hc : w.heap[c]? = some x) (hn : ¬ o c) : w'.heap[c]? = some x ∧ ¬ o' c :=
  ⟨(h.block c (lt_of_at hc) hn).trans hc, fun e => (h.own c e).elim hn (fun e => by have := lt_of_at hc; omega)⟩
theorem Stays.ge {o o' : Nat → Prop} {w w' : World} (h : Stays o w o' w') {B : Nat} (hB : B ≤ w.heap.size) (ho : ∀ j, o j → B ≤ j) : ∀ j, o' j → B ≤ j := fun j hj => (h.own j hj).elim (ho j) (fun e => Nat.le_trans hB e)
theorem Stays.toBelow {o o' : Nat → Prop} {w w' : World} (h : Stays o w o' w') {B : Nat} (hB : B ≤ w.heap.size) (ho : ∀ j, o j → B ≤ j) : Below B w w' :=
  ⟨h.os, h.tape, h.output, h.size, fun j hj => h.block j (by omega) (fun e => by have := ho j e; omega)⟩
def HpIs (w : World) (h : Nat) (o : Nat → Prop) (c : Nat) (A : Ab) : Prop := ∃ g : G, HeapAt w g ∧ g.h = h ∧ o = g.own ∧ g.cnt ≤ c ∧ A = g.ab
theorem HpIs.keep {w w' : World} {h : Nat} {o : Nat → Prop} {c : Nat} {A : Ab} (H : HpIs w h o c A) (hb : ∀ j, o j → w'.heap[j]? = w.heap[j]?) : HpIs w' h o c A := by
  obtain ⟨g, H, rfl, rfl, hc, rfl⟩ := H
  refine ⟨g, ?_, rfl, rfl, hc, rfl⟩
  obtain ⟨hbox, ⟨fl, hl, hfl⟩, ⟨fs, hs, hfs⟩, hms, hr, hap, hinv, hmk⟩ := H
  refine ⟨(hb _ (.inl rfl)).trans hbox, ⟨fl, hl.keep (hb _ (.inr (.inl rfl))), hfl⟩, ⟨fs, hs.keep (hb _ (.inr (.inr (.inl rfl)))), hfs⟩, hms, fun b r e => ?_, hap, hinv, hmk⟩
  obtain ⟨h1, h2, h3⟩ := hr b r e
  refine ⟨(hb _ (.inr (.inr (.inr ⟨b, r, e, .inl rfl⟩)))).trans h1, ?_, h3⟩
  refine ⟨h2.1, h2.2.imp id ?_⟩
  rintro ⟨q, cap, cur, e1, e2, e3, e4⟩
  exact ⟨q, cap, cur, e1, e2, (hb _ (.inr (.inr (.inr ⟨b, r, e, .inr (by rw [e1]; rfl)⟩)))).trans e3, e4⟩
theorem HpIs.lt {w : World} {h : Nat} {o : Nat → Prop} {c : Nat} {A : Ab} (H : HpIs w h o c A) : ∀ j, o j → j < w.heap.size := by
  obtain ⟨g, H, rfl, rfl, hc, rfl⟩ := H
  intro j hj
  rcases hj with rfl | rfl | rfl | ⟨b, r, e, h | h⟩
  · exact lt_of_at H.box
  · obtain ⟨f, hf, _⟩ := H.live; exact hf.lt
  · obtain ⟨f, hf, _⟩ := H.stands; exact hf.lt
  · rw [h]; exact lt_of_at (H.room b r e).1
  · exact ((H.room b r e).2.1.lt j h).2
/-- What isn't the heap's changes, or is new. -/
theorem HpIs.below {w w' : World} {h : Nat} {o : Nat → Prop} {c : Nat} {A : Ab} (H : HpIs w h o c A) (hb : Below w.heap.size w w') : HpIs w' h o c A := H.keep fun j hj => hb.block j (H.lt j hj)
theorem HpIs.mono {w : World} {h : Nat} {o : Nat → Prop} {c c' : Nat} {A : Ab} (H : HpIs w h o c A) (e : c ≤ c') : HpIs w h o c' A := by
  obtain ⟨g, H, h1, h2, hc, h3⟩ := H
  exact ⟨g, H, h1, h2, Nat.le_trans hc e, h3⟩
end Go.Proofs.Ytjianllngobhhaa
