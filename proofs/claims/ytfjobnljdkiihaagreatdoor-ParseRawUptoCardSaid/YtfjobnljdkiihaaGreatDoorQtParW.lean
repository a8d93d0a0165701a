/- What the plain reader leaves of its tokens. Conditions: each theorem's. -/
import Derived.Test.YtfjobnljdkiihaaGreatDoorQtLexP
namespace Go.Proofs.YtfjobnljdkiihaaGreatDoor
open Go.RowKit Go.Maps
set_option linter.unusedVariables false
set_option linter.unusedSimpArgs false
set_option maxRecDepth 100000
open Lx
namespace Pa
structure PTy where
 ba : Int
 st : Int
 rc : ByteArray
inductive PEx
 | mk (kd : Int) (op nm : ByteArray) (num : Int) (kids : List PEx) (ty : PTy) (at_ : Nat)
structure PVa where
 nm : ByteArray
 ty : PTy
 ln : Int
 at_ : Nat
inductive PSt
 | mk (kd : Int) (exprs : List PEx) (kids : List PSt) (v : PVa) (at_ : Nat)
structure PFd where
 nm : ByteArray
 ty : PTy
 at_ : Nat
structure PSr where
 nm : ByteArray
 fds : List PFd
 at_ : Nat
structure PFn where
 nm : ByteArray
 ty : PTy
 params : List PVa
 body : PSt
 at_ : Nat
structure PPr where
 ss : List PSr
 vs : List PVa
 fs : List PFn
def PEx.at_ : PEx → Nat | .mk _ _ _ _ _ _ a => a
abbrev eB : ByteArray := ⟨#[]⟩
def ty0 : PTy := ⟨0, 0, ⟨#[]⟩⟩
def ex0 : PEx := .mk 0 ⟨#[]⟩ ⟨#[]⟩ 0 [] ty0 0
def va0 : PVa := ⟨⟨#[]⟩, ty0, 0, 0⟩
def st0 : PSt := .mk 0 [] [] va0 0
structure S where
 tk : List Tk
 er : Int
def S.hd (s : S) : Tk := s.tk.headD ⟨0, ⟨#[]⟩, 0⟩
def S.ahead (s : S) (n : Nat) : Tk := s.tk.getD (min n (s.tk.length - 1)) ⟨0, ⟨#[]⟩, 0⟩
def S.is (s : S) (x : ByteArray) : Bool := decide (s.hd.tx = x)
def S.tl (s : S) : S := ⟨s.tk.tail, s.er⟩
def S.fail (s : S) (e : Int) : S := if s.er = 0 then ⟨[⟨0, ⟨#[]⟩, s.hd.at_⟩], e⟩ else s
def S.want (s : S) (x : ByteArray) : S := if s.is x then s.tl else s.fail 11
def S.take (s : S) (x : ByteArray) : S := if s.is x then s.tl else s
def S.oneT (s : S) (k : Int) : ByteArray := if s.hd.kd = k then s.hd.tx else ⟨#[]⟩
def S.one (s : S) (k : Int) : S := if s.hd.kd = k then s.tl else s.fail 11
def baseV (x : ByteArray) : Option Int :=
 if x = ⟨#[118, 111, 105, 100]⟩ then some 0 else if x = ⟨#[99, 104, 97, 114]⟩ then some 1 else if x = ⟨#[105, 110, 116]⟩ then some 2 else if x = ⟨#[108, 111, 110, 103]⟩ then some 3 else if x = ⟨#[115, 116, 114, 117, 99, 116]⟩ then some 4 else none
def strTab : List (ByteArray × Int) := [(⟨#[37]⟩, 10), (⟨#[47]⟩, 10), (⟨#[42]⟩, 10), (⟨#[45]⟩, 9), (⟨#[43]⟩, 9), (⟨#[62, 62]⟩, 8), (⟨#[60, 60]⟩, 8), (⟨#[62, 61]⟩, 7), (⟨#[62]⟩, 7), (⟨#[60, 61]⟩, 7), (⟨#[60]⟩, 7), (⟨#[33, 61]⟩, 6), (⟨#[61, 61]⟩, 6), (⟨#[38]⟩, 5), (⟨#[94]⟩, 4), (⟨#[124]⟩, 3), (⟨#[38, 38]⟩, 2), (⟨#[124, 124]⟩, 1)]
def tabV (l : List (ByteArray × Int)) (x : ByteArray) : Int := ((l.find? fun e => decide (e.1 = x)).map (·.2)).getD 0
def strV (x : ByteArray) : Int := tabV strTab x
def starsV : Nat → Int → S → Option Int × S
 | 0, k, s => if s.is ⟨#[42]⟩ then (none, s.fail 1) else (some k, s)
 | n + 1, k, s => if s.is ⟨#[42]⟩ then starsV n (k + 1) s.tl else (some k, s)
def typeV (s : S) : PTy × S :=
 match baseV s.hd.tx with
 | none => (ty0, s.fail 11)
 | some b => match starsV 4 0 (if b = 4 then s.tl.one 1 else s.tl) with
  | (none, s') => (ty0, s')
  | (some k, s') => (⟨b, k, if b = 4 then s.tl.oneT 1 else ⟨#[]⟩⟩, s')
def namedV (s : S) : PVa × S := (⟨(typeV s).2.oneT 1, (typeV s).1, 0, s.hd.at_⟩, (typeV s).2.one 1)
def badLen (m : Option Int) : Bool := m.isSome && (decide (m.getD 0 < 1) || decide (500 < m.getD 0))
def lenS (s : S) : S := ((if badLen (meanV s.hd.tx.data.toList) then s.fail 1 else s).one 2).want ⟨#[93]⟩
def lengthV (s : S) : Int × S := if s.is ⟨#[91]⟩ then (IntKind.i64.wrap ((meanV s.tl.hd.tx.data.toList).getD 0), lenS s.tl) else (0, s)
inductive Qe
 | expr (d : Nat)
 | bin (d : Nat) (l : Int)
 | binL (d : Nat) (l : Int) (x : PEx)
 | un (d : Nat)
 | cast (a : Nat) (d : Nat)
 | inside (d : Nat)
 | post (d : Nat)
 | posL (d : Nat) (x : PEx)
 | atom (d : Nat)
 | use (nm : ByteArray) (a : Nat) (d : Nat)
 | betE (d : Nat)
 | betL (d : Nat) (l : List PEx)
def hd1 (r : List PEx × S) : PEx := r.1.headD ex0
def unOp (x : ByteArray) : Bool := decide (x = ⟨#[45]⟩) || decide (x = ⟨#[126]⟩) || decide (x = ⟨#[33]⟩) || decide (x = ⟨#[42]⟩) || decide (x = ⟨#[38]⟩)
def deepS (d : Nat) (s : S) : S := if 40 < d then s.fail 12 else s
def runE : Nat → Qe → S → List PEx × S
 | 0, _, s => ([], s)
 | f + 1, .expr d, s =>
  let a := runE f (.bin d 1) s
  if a.2.is ⟨#[61]⟩ then
   let b := runE f (.expr (d + 1)) a.2.tl
   ([.mk 5 eB eB 0 [hd1 a, hd1 b] ty0 (hd1 a).at_], b.2)
  else ([hd1 a], a.2)
 | f + 1, .bin d l, s => let a := runE f (.un (d + 1)) s; runE f (.binL d l (hd1 a)) a.2
 | f + 1, .binL d l x, s =>
  if strV s.hd.tx < l then ([x], s)
  else
   let b := runE f (.bin d (strV s.hd.tx + 1)) s.tl
   runE f (.binL d l (.mk 4 s.hd.tx eB 0 [x, hd1 b] ty0 x.at_)) b.2
 | f + 1, .un d, s0 =>
  let s := deepS d s0
  if unOp s.hd.tx then
   let b := runE f (.un (d + 1)) s.tl
   ([.mk 3 s.hd.tx eB 0 [hd1 b] ty0 s.hd.at_], b.2)
  else if s.hd.tx = ⟨#[115, 105, 122, 101, 111, 102]⟩ then
   ([.mk 10 eB eB 0 [] (typeV (s.tl.want ⟨#[40]⟩)).1 s.hd.at_], (typeV (s.tl.want ⟨#[40]⟩)).2.want ⟨#[41]⟩)
  else if s.hd.tx = ⟨#[40]⟩ ∧ (baseV (s.ahead 1).tx).isSome = true then runE f (.cast s.hd.at_ d) s.tl
  else runE f (.post d) s
 | f + 1, .cast a d, s =>
  let s1 := (typeV s).2.want ⟨#[41]⟩
  if s1.is ⟨#[109, 97, 108, 108, 111, 99]⟩ then
   let b := runE f (.inside d) (s1.tl.want ⟨#[40]⟩)
   ([.mk 11 eB eB 0 [hd1 b] (typeV s).1 a], b.2)
  else
   let b := runE f (.un (d + 1)) s1
   ([.mk 9 eB eB 0 [hd1 b] (typeV s).1 a], b.2)
 | f + 1, .inside d, s => let a := runE f (.expr (d + 1)) s; ([hd1 a], a.2.want ⟨#[41]⟩)
 | f + 1, .post d, s => let a := runE f (.atom d) s; runE f (.posL d (hd1 a)) a.2
 | f + 1, .posL d x, s =>
  if s.is ⟨#[91]⟩ then
   let b := runE f (.expr (d + 1)) s.tl
   runE f (.posL d (.mk 7 eB eB 0 [x, hd1 b] ty0 x.at_)) (b.2.want ⟨#[93]⟩)
  else if s.is ⟨#[46]⟩ then runE f (.posL d (.mk 8 eB (s.tl.oneT 1) 0 [x] ty0 x.at_)) (s.tl.one 1)
  else if s.is ⟨#[45, 62]⟩ then runE f (.posL d (.mk 8 eB (s.tl.oneT 1) 0 [.mk 3 ⟨#[42]⟩ eB 0 [x] ty0 x.at_] ty0 x.at_)) (s.tl.one 1)
  else ([x], s)
 | f + 1, .atom d, s =>
  if s.hd.kd = 2 then ([.mk 1 eB eB ((meanV s.hd.tx.data.toList).getD 0) [] ty0 s.hd.at_], s.tl)
  else if s.hd.kd = 1 then runE f (.use s.hd.tx s.hd.at_ d) s.tl
  else if s.is ⟨#[40]⟩ then runE f (.inside d) s.tl
  else ([ex0], s.fail 11)
 | f + 1, .use nm a d, s =>
  if s.is ⟨#[40]⟩ then
   let b := runE f (.betE (d + 1)) s.tl
   ([.mk 6 eB nm 0 b.1 ty0 a], b.2)
  else ([.mk 2 eB nm 0 [] ty0 a], s)
 | f + 1, .betE d, s =>
  if s.is ⟨#[41]⟩ then ([], s.tl)
  else let a := runE f (.expr d) s; runE f (.betL d [hd1 a]) a.2
 | f + 1, .betL d l, s =>
  if s.is ⟨#[44]⟩ then
   if l.length = 6 then ([], s.tl.fail 3)
   else let a := runE f (.expr d) s.tl; runE f (.betL d (l ++ [hd1 a])) a.2
  else (l, s.want ⟨#[41]⟩)
inductive Qs
 | stmt (d : Nat)
 | block (d : Nat)
 | untS (d : Nat) (l : List PSt)
def hdS (r : List PSt × S) : PSt := r.1.headD st0
def condV (f d : Nat) (s : S) : List PEx × S := let a := runE f (.expr (d + 1)) (s.want ⟨#[40]⟩); ([hd1 a], a.2.want ⟨#[41]⟩)
def maybeV (f d : Nat) (s : S) : List PEx × S :=
 if s.is ⟨#[59]⟩ then ([], s.tl) else let a := runE f (.expr (d + 1)) s; ([hd1 a], a.2.want ⟨#[59]⟩)
def localV (f d : Nat) (s : S) : PSt × S :=
 let a := namedV s
 let n := lengthV a.2
 if n.2.is ⟨#[61]⟩ then
  let b := runE f (.expr (d + 1)) n.2.tl
  (.mk 8 [hd1 b] [] ⟨a.1.nm, a.1.ty, n.1, a.1.at_⟩ a.1.at_, b.2.want ⟨#[59]⟩)
 else (.mk 8 [] [] ⟨a.1.nm, a.1.ty, n.1, a.1.at_⟩ a.1.at_, n.2.want ⟨#[59]⟩)
def runS : Nat → Qs → S → List PSt × S
 | 0, .untS _ l, s => (l, s)
 | 0, _, s => ([], s)
 | f + 1, .stmt d, s0 =>
  let s := deepS d s0
  let at_ := s.hd.at_
  if (baseV s.hd.tx).isSome = true then ([(localV f d s).1], (localV f d s).2)
  else if s.is ⟨#[123]⟩ then let a := runS f (.block d) s; ([hdS a], a.2)
  else if s.is ⟨#[105, 102]⟩ then
   let c := condV f d s.tl
   let a := runS f (.stmt (d + 1)) c.2
   if a.2.is ⟨#[101, 108, 115, 101]⟩ then
    let b := runS f (.stmt (d + 1)) a.2.tl
    ([.mk 2 c.1 [hdS a, hdS b] va0 at_], b.2)
   else ([.mk 2 c.1 [hdS a] va0 at_], a.2)
  else if s.is ⟨#[119, 104, 105, 108, 101]⟩ then
   let c := condV f d s.tl
   let a := runS f (.stmt (d + 1)) c.2
   ([.mk 3 c.1 [hdS a] va0 at_], a.2)
  else if s.is ⟨#[114, 101, 116, 117, 114, 110]⟩ then ([.mk 4 (maybeV f d s.tl).1 [] va0 at_], (maybeV f d s.tl).2)
  else if s.is ⟨#[98, 114, 101, 97, 107]⟩ then ([.mk 5 [] [] va0 at_], s.tl.want ⟨#[59]⟩)
  else if s.is ⟨#[99, 111, 110, 116, 105, 110, 117, 101]⟩ then ([.mk 6 [] [] va0 at_], s.tl.want ⟨#[59]⟩)
  else ([.mk 7 (maybeV f d s).1 [] va0 at_], (maybeV f d s).2)
 | f + 1, .block d, s => let a := runS f (.untS (d + 1) []) (s.want ⟨#[123]⟩); ([.mk 1 [] a.1 va0 s.hd.at_], a.2)
 | f + 1, .untS d l, s =>
  if s.er ≠ 0 then (l, s)
  else if s.is ⟨#[125]⟩ then (l, s.tl)
  else let a := runS f (.stmt d) s; runS f (.untS d (l ++ [hdS a])) a.2
def untF : Nat → List PFd → S → List PFd × S
 | 0, l, s => (l, s)
 | f + 1, l, s =>
  if s.er ≠ 0 then (l, s)
  else if s.is ⟨#[125]⟩ then (l, s.tl)
  else untF f (l ++ [⟨(namedV s).1.nm, (namedV s).1.ty, (namedV s).1.at_⟩]) ((namedV s).2.want ⟨#[59]⟩)
def betPL : Nat → List PVa → S → List PVa × S
 | 0, l, s => (l, s)
 | f + 1, l, s =>
  if s.is ⟨#[44]⟩ then
   if l.length = 6 then ([], s.tl.fail 3)
   else betPL f (l ++ [(namedV s.tl).1]) (namedV s.tl).2
  else (l, s.want ⟨#[41]⟩)
def betP (s : S) : List PVa × S :=
 if s.is ⟨#[41]⟩ then ([], s.tl) else betPL ((namedV s).2.tk.length + 1) [(namedV s).1] (namedV s).2
def structV (s : S) : PSr × S :=
 let s1 := s.want ⟨#[115, 116, 114, 117, 99, 116]⟩
 let s2 := (s1.one 1).want ⟨#[123]⟩
 let a := untF (s2.tk.length + 1) [] s2
 (⟨s1.oneT 1, a.1, s1.hd.at_⟩, a.2.want ⟨#[59]⟩)
def fuelOf (s : S) : Nat := 8 * s.tk.length + 20
def funcV (v : PVa) (s : S) : PFn × S :=
 let a := betP s
 let b := runS (fuelOf a.2) (.block 0) a.2
 (⟨v.nm, v.ty, a.1, hdS b, v.at_⟩, b.2)
def topV (p : PPr) (s : S) : PPr × S :=
 if s.is ⟨#[115, 116, 114, 117, 99, 116]⟩ = true ∧ (s.ahead 2).tx = ⟨#[123]⟩ then (⟨p.ss ++ [(structV s).1], p.vs, p.fs⟩, (structV s).2)
 else
  let v := namedV s
  if v.2.is ⟨#[40]⟩ then (⟨p.ss, p.vs, p.fs ++ [(funcV v.1 v.2.tl).1]⟩, (funcV v.1 v.2.tl).2)
  else (⟨p.ss, p.vs ++ [⟨v.1.nm, v.1.ty, (lengthV v.2).1, v.1.at_⟩], p.fs⟩, (lengthV v.2).2.want ⟨#[59]⟩)
def progL : Nat → PPr → S → PPr × S
 | 0, p, s => (p, s)
 | f + 1, p, s => if s.hd.kd = 0 then (p, s) else progL f (topV p s).1 (topV p s).2
def progV (s : S) : PPr × S := progL (s.tk.length + 1) ⟨[], [], []⟩ s
def parseV (t : ByteArray) : PPr × Int × Int :=
 if (lexV t).er ≠ 0 then (⟨[], [], []⟩, (lexV t).pl, (lexV t).er)
 else
  let r := progV ⟨(lexV t).tk, 0⟩
  if r.2.er ≠ 0 then (⟨[], [], []⟩, r.2.hd.at_, r.2.er) else (r.1, 0, 0)
end Pa
open Pa
example : (parseV ⟨#[105, 110, 116, 32, 97, 91, 48, 93, 59]⟩).2 = (6, 1) := by decide +kernel
namespace Pa
def Ok (s : S) : Prop := (∃ A p, s.tk = A ++ [⟨0, ⟨#[]⟩, p⟩]) ∧ ∀ t ∈ s.tk, t.tx.size ≤ 8192 ∧ t.at_ ≤ 8192
theorem Ok.pos {s : S} (h : Ok s) : 1 ≤ s.tk.length := by obtain ⟨⟨A, p, h⟩, _⟩ := h; rw [h]; simp
theorem Ok.cons {s : S} (h : Ok s) : ∃ l, s.tk = s.hd :: l := by
 have := h.pos
 unfold S.hd
 cases ht : s.tk with
 | nil => rw [ht] at this; simp at this
 | cons t l => exact ⟨l, rfl⟩
theorem Ok.hd {s : S} (h : Ok s) : s.hd.tx.size ≤ 8192 ∧ s.hd.at_ ≤ 8192 := by
 obtain ⟨l, hl⟩ := h.cons
 exact h.2 _ (by rw [hl]; simp)
structure Le (s s' : S) : Prop where
 ok : Ok s'
 len : s'.tk.length ≤ s.tk.length
 er : s'.er = 0 → s.er = 0
 one : (s.er ≠ 0 → s.tk.length = 1) → s'.er ≠ 0 → s'.tk.length = 1
structure Lt (s s' : S) : Prop where
 le : Le s s'
 lt : s'.er = 0 → s'.tk.length < s.tk.length
theorem Le.refl {s : S} (h : Ok s) : Le s s := ⟨h, Nat.le_refl _, id, id⟩
theorem Le.trans {a b c : S} (h : Le a b) (g : Le b c) : Le a c := ⟨g.ok, Nat.le_trans g.len h.len, fun e => h.er (g.er e), fun o => g.one (h.one o)⟩
theorem Lt.trans {a b c : S} (h : Lt a b) (g : Le b c) : Lt a c := ⟨h.le.trans g, fun e => Nat.lt_of_le_of_lt g.len (h.lt (g.er e))⟩
theorem Le.lt {a b c : S} (h : Le a b) (g : Lt b c) : Lt a c := ⟨h.trans g.le, fun e => Nat.lt_of_lt_of_le (g.lt e) h.len⟩
theorem tl_ok {s : S} (h : Ok s) (hx : s.hd.tx ≠ ⟨#[]⟩ ∨ s.hd.kd ≠ 0) : Ok s.tl ∧ s.tl.tk.length + 1 = s.tk.length := by
 obtain ⟨l, hl⟩ := h.cons
 obtain ⟨⟨A, p, hA⟩, h2⟩ := h
 have ht : s.tl.tk = l := by unfold S.tl; rw [hl]; rfl
 refine ⟨⟨?_, fun t ht' => h2 t (by rw [hl]; rw [ht] at ht'; exact List.mem_cons_of_mem _ ht')⟩, by rw [ht, hl]; simp⟩
 cases A with
 | nil =>
  exfalso
  rw [hl] at hA
  simp only [List.nil_append, List.cons.injEq] at hA
  rw [hA.1] at hx
  simp at hx
 | cons a A =>
  rw [hl] at hA
  simp only [List.cons_append, List.cons.injEq] at hA
  exact ⟨A, p, by rw [ht, hA.2]⟩
theorem tl_lt {s : S} (h : Ok s) (hx : s.hd.tx ≠ ⟨#[]⟩ ∨ s.hd.kd ≠ 0) : Lt s s.tl := by
 obtain ⟨h1, h2⟩ := tl_ok h hx
 exact ⟨⟨h1, by omega, id, fun o e => by have h3 := o e; have h4 := h1.pos; omega⟩, fun _ => by omega⟩
theorem is_ne {s : S} {x : ByteArray} (h : s.is x = true) (hx : x ≠ ⟨#[]⟩) : s.hd.tx ≠ ⟨#[]⟩ ∨ s.hd.kd ≠ 0 := by
 unfold S.is at h
 exact .inl (by rw [of_decide_eq_true h]; exact hx)
theorem fail_ok {s : S} (h : Ok s) (e : Int) : Ok (s.fail e) := by
 unfold S.fail
 split
 ·refine ⟨⟨[], s.hd.at_, rfl⟩, fun t ht => ?_⟩
  simp only [List.mem_singleton] at ht
  subst ht
  exact ⟨by show (0 : Nat) ≤ 8192; omega, h.hd.2⟩
 ·exact h
theorem fail_le {s : S} (h : Ok s) {e : Int} (he : e ≠ 0) : Lt s (s.fail e) := by
 refine ⟨⟨fail_ok h e, ?_, ?_, fun o he' => ?_⟩, ?_⟩
 ·unfold S.fail; split
  ·exact h.pos
  ·exact Nat.le_refl _
 ·unfold S.fail; split
  ·intro h; exact absurd h he
  ·exact id
 ·unfold S.fail at he' ⊢
  split
  ·rfl
  ·rename_i h1
   exact o h1
 ·unfold S.fail; split
  ·intro h; exact absurd h he
  ·rename_i h1; intro h; exact absurd h h1
theorem fail_er {s : S} {e : Int} (he : e ≠ 0) : (s.fail e).er ≠ 0 := by
 unfold S.fail; split
 ·exact he
 ·assumption
theorem want_lt {s : S} (h : Ok s) {x : ByteArray} (hx : x ≠ ⟨#[]⟩) : Lt s (s.want x) := by
 unfold S.want
 split
 ·rename_i h1; exact tl_lt h (is_ne h1 hx)
 ·exact fail_le h (by decide)
theorem one_lt {s : S} (h : Ok s) {k : Int} (hk : k ≠ 0) : Lt s (s.one k) := by
 unfold S.one
 split
 ·rename_i h1; exact tl_lt h (.inr (by rw [h1]; exact hk))
 ·exact fail_le h (by decide)
theorem base_ne {x : ByteArray} {b : Int} (h : baseV x = some b) : x ≠ ⟨#[]⟩ := by
 intro e; subst e; rw [show baseV ⟨#[]⟩ = none by decide] at h; cases h
theorem base_rg {x : ByteArray} {b : Int} (h : baseV x = some b) : 0 ≤ b ∧ b ≤ 4 := by
 unfold baseV at h
 repeat' split at h
 all_goals first | (cases h; done) | (injection h with h; subst h; exact ⟨by decide, by decide⟩)
theorem stars_le : ∀ n k (s : S), Ok s → Le s (starsV n k s).2 := by
 intro n
 induction n with
 | zero =>
  intro k s h
  unfold starsV
  split
  ·exact (fail_le h (by decide)).le
  ·exact Le.refl h
 | succ n ih =>
  intro k s h
  unfold starsV
  split
  ·rename_i h1
   have := tl_lt h (is_ne h1 (by decide))
   exact this.le.trans (ih _ _ this.le.ok)
  ·exact Le.refl h
theorem type_lt {s : S} (h : Ok s) : Lt s (typeV s).2 := by
 unfold typeV
 split
 ·exact fail_le h (by decide)
 ·rename_i b hb
  have h1 := tl_lt h (.inl (base_ne hb))
  have h2 : Lt s (if b = 4 then s.tl.one 1 else s.tl) := by
   split
   ·exact h1.trans (one_lt h1.le.ok (by decide)).le
   ·exact h1
  have h3 := h2.trans (stars_le 4 0 _ h2.le.ok)
  split
  ·rename_i s' hs; rw [hs] at h3; exact h3
  ·rename_i k s' hs; rw [hs] at h3; exact h3
theorem named_lt {s : S} (h : Ok s) : Lt s (namedV s).2 := (type_lt h).trans (one_lt (type_lt h).le.ok (by decide)).le
theorem lenS_le {s : S} (h : Ok s) : Le s (lenS s) := by
 unfold lenS
 have h1 : Le s (if badLen (meanV s.hd.tx.data.toList) then s.fail 1 else s) := by
  split
  ·exact (fail_le h (by decide)).le
  ·exact Le.refl h
 have h2 := h1.trans (one_lt h1.ok (k := 2) (by decide)).le
 exact h2.trans (want_lt h2.ok (by decide)).le
theorem length_le {s : S} (h : Ok s) : Le s (lengthV s).2 := by
 unfold lengthV
 split
 ·rename_i h1
  have := tl_lt h (is_ne h1 (by decide))
  exact this.le.trans (lenS_le this.le.ok)
 ·exact Le.refl h
theorem deep_le {s : S} (h : Ok s) (d : Nat) : Le s (deepS d s) := by
 unfold deepS
 split
 ·exact (fail_le h (by decide)).le
 ·exact Le.refl h
theorem str_ne {x : ByteArray} {l : Int} (h : ¬ strV x < l) (hl : 1 ≤ l) : x ≠ ⟨#[]⟩ := by
 intro e; subst e; exact h (by rw [show strV ⟨#[]⟩ = 0 by decide]; omega)
theorem un_ne {x : ByteArray} (h : unOp x = true) : x ≠ ⟨#[]⟩ := by intro e; subst e; exact absurd h (by decide)
theorem str_rg (x : ByteArray) : 0 ≤ strV x ∧ strV x ≤ 10 := by
 unfold strV tabV
 cases h : strTab.find? (fun e => decide (e.1 = x)) with
 | none => exact ⟨by decide, by decide⟩
 | some e =>
  have := List.mem_of_find?_eq_some h
  have hall : ∀ e ∈ strTab, 0 ≤ e.2 ∧ e.2 ≤ 10 := by decide
  exact hall e this
def rank : Qe → Nat
 | .expr _ => 5 | .bin _ _ => 4 | .binL _ _ _ => 1 | .un _ => 3 | .cast _ _ => 7 | .inside _ => 6 | .post _ => 2 | .posL _ _ => 1 | .atom _ => 1 | .use _ _ _ => 1 | .betE _ => 6 | .betL _ _ => 1
def strict : Qe → Bool
 | .binL _ _ _ => false | .posL _ _ => false | .use _ _ _ => false | .betL _ _ => false | _ => true
def lOk : Qe → Prop
 | .bin _ l => 1 ≤ l | .binL _ l _ => 1 ≤ l | _ => True
def En (q : Qe) (s : S) (f : Nat) : Prop := Ok s ∧ 8 * s.tk.length + rank q ≤ f ∧ lOk q
theorem runE_le : ∀ f q s, En q s f → Le s (runE f q s).2 ∧ (strict q = true → Lt s (runE f q s).2) := by
 intro f
 induction f with
 | zero => intro q s ⟨h, h1, _⟩; cases q <;> (simp only [rank] at h1; omega)
 | succ f ih =>
  intro q s ⟨h, h1, hl⟩
  have hp := h.pos
  cases q with
  | expr d =>
   simp only [rank] at h1
   have ha := (ih (.bin d 1) s ⟨h, by simp only [rank]; omega, Int.le_refl _⟩).2 rfl
   simp only [runE]
   split
   ·rename_i h2
    have ht := tl_lt ha.le.ok (is_ne h2 (by decide))
    have hz := (tl_ok ha.le.ok (is_ne h2 (by decide))).2
    have hb := (ih (.expr (d + 1)) _ ⟨ht.le.ok, by simp only [rank]; have := ha.le.len; omega, trivial⟩).1
    have := (ha.trans ht.le).trans hb
    exact ⟨this.le, fun _ => this⟩
   ·exact ⟨ha.le, fun _ => ha⟩
  | bin d l =>
   simp only [rank] at h1
   have ha := (ih (.un (d + 1)) s ⟨h, by simp only [rank]; omega, trivial⟩).2 rfl
   simp only [runE]
   have hb := (ih (.binL d l (hd1 (runE f (.un (d + 1)) s))) _ ⟨ha.le.ok, by simp only [rank]; have := ha.le.len; omega, hl⟩).1
   exact ⟨ha.le.trans hb, fun _ => ha.trans hb⟩
  | binL d l x =>
   simp only [rank] at h1
   simp only [lOk] at hl
   simp only [runE]
   split
   ·exact ⟨Le.refl h, fun h => by cases h⟩
   ·rename_i h2
    have hne := Or.inl (b := s.hd.kd ≠ 0) (str_ne h2 hl)
    have ht := tl_lt h hne
    have hz := (tl_ok h hne).2
    have hsr := str_rg s.hd.tx
    have ha := (ih (.bin d (strV s.hd.tx + 1)) _ ⟨ht.le.ok, by simp only [rank]; omega, by simp only [lOk]; omega⟩).1
    have hb := (ih (.binL d l (.mk 4 s.hd.tx eB 0 [x, hd1 (runE f (.bin d (strV s.hd.tx + 1)) s.tl)] ty0 x.at_)) _ ⟨ha.ok, by simp only [rank]; have := ha.len; omega, hl⟩).1
    exact ⟨ht.le.trans (ha.trans hb), fun h => by cases h⟩
  | un d =>
   simp only [rank] at h1
   have hd := deep_le h d
   simp only [runE]
   generalize deepS d s = s at *
   have h := hd.ok
   have hlen := hd.len
   split
   ·rename_i h2
    have hne := Or.inl (b := s.hd.kd ≠ 0) (un_ne h2)
    have ht := tl_lt h hne
    have hz := (tl_ok h hne).2
    have ha := (ih (.un (d + 1)) _ ⟨ht.le.ok, by simp only [rank]; omega, trivial⟩).1
    have := hd.lt (ht.trans ha)
    exact ⟨this.le, fun _ => this⟩
   ·split
    ·rename_i _ h2
     have ht := tl_lt h (.inl (by rw [h2]; decide))
     have h3 := ht.trans (want_lt ht.le.ok (x := ⟨#[40]⟩) (by decide)).le
     have h4 := h3.trans (type_lt h3.le.ok).le
     have h5 := hd.lt (h4.trans (want_lt h4.le.ok (x := ⟨#[41]⟩) (by decide)).le)
     exact ⟨h5.le, fun _ => h5⟩
    ·split
     ·rename_i _ _ h2
      have hne := Or.inl (a := s.hd.tx ≠ ⟨#[]⟩) (b := s.hd.kd ≠ 0) (by rw [h2.1]; decide)
      have ht := tl_lt h hne
      have hz := (tl_ok h hne).2
      have ha := (ih (.cast s.hd.at_ d) _ ⟨ht.le.ok, by simp only [rank]; omega, trivial⟩).1
      have := hd.lt (ht.trans ha)
      exact ⟨this.le, fun _ => this⟩
     ·have ha := (ih (.post d) s ⟨h, by simp only [rank]; omega, trivial⟩).2 rfl
      have := hd.lt ha
      exact ⟨this.le, fun _ => this⟩
  | cast a d =>
   simp only [rank] at h1
   simp only [runE]
   have h2 := (type_lt h).trans (want_lt (type_lt h).le.ok (x := ⟨#[41]⟩) (by decide)).le
   have hlen := h2.le.len
   split
   ·rename_i h3
    have ht := tl_lt h2.le.ok (is_ne h3 (by decide))
    have hz := (tl_ok h2.le.ok (is_ne h3 (by decide))).2
    have hw := want_lt ht.le.ok (x := ⟨#[40]⟩) (by decide)
    have ha := (ih (.inside d) _ ⟨hw.le.ok, by simp only [rank]; have := hw.le.len; omega, trivial⟩).1
    have := (h2.trans ht.le).trans (hw.le.trans ha)
    exact ⟨this.le, fun _ => this⟩
   ·have ha := (ih (.un (d + 1)) _ ⟨h2.le.ok, by simp only [rank]; omega, trivial⟩).1
    have := h2.trans ha
    exact ⟨this.le, fun _ => this⟩
  | inside d =>
   simp only [rank] at h1
   simp only [runE]
   have ha := (ih (.expr (d + 1)) s ⟨h, by simp only [rank]; omega, trivial⟩).2 rfl
   have := ha.trans (want_lt ha.le.ok (x := ⟨#[41]⟩) (by decide)).le
   exact ⟨this.le, fun _ => this⟩
  | post d =>
   simp only [rank] at h1
   simp only [runE]
   have ha := (ih (.atom d) s ⟨h, by simp only [rank]; omega, trivial⟩).2 rfl
   have hb := (ih (.posL d (hd1 (runE f (.atom d) s))) _ ⟨ha.le.ok, by simp only [rank]; have := ha.le.len; omega, trivial⟩).1
   exact ⟨ha.le.trans hb, fun _ => ha.trans hb⟩
  | posL d x =>
   simp only [rank] at h1
   simp only [runE]
   split
   ·rename_i h2
    have ht := tl_lt h (is_ne h2 (by decide))
    have hz := (tl_ok h (is_ne h2 (by decide))).2
    have ha := (ih (.expr (d + 1)) _ ⟨ht.le.ok, by simp only [rank]; omega, trivial⟩).1
    have hw := (want_lt ha.ok (x := ⟨#[93]⟩) (by decide)).le
    have hb := (ih (.posL d (.mk 7 eB eB 0 [x, hd1 (runE f (.expr (d + 1)) s.tl)] ty0 x.at_)) _ ⟨hw.ok, by simp only [rank]; have := ha.len; have := hw.len; omega, trivial⟩).1
    exact ⟨ht.le.trans (ha.trans (hw.trans hb)), fun h => by cases h⟩
   ·split
    ·rename_i _ h2
     have ht := tl_lt h (is_ne h2 (by decide))
     have hz := (tl_ok h (is_ne h2 (by decide))).2
     have ho := (one_lt ht.le.ok (k := 1) (by decide)).le
     have hb := (ih (.posL d (.mk 8 eB (s.tl.oneT 1) 0 [x] ty0 x.at_)) _ ⟨ho.ok, by simp only [rank]; have := ho.len; omega, trivial⟩).1
     exact ⟨ht.le.trans (ho.trans hb), fun h => by cases h⟩
    ·split
     ·rename_i _ _ h2
      have ht := tl_lt h (is_ne h2 (by decide))
      have hz := (tl_ok h (is_ne h2 (by decide))).2
      have ho := (one_lt ht.le.ok (k := 1) (by decide)).le
      have hb := (ih (.posL d (.mk 8 eB (s.tl.oneT 1) 0 [.mk 3 ⟨#[42]⟩ eB 0 [x] ty0 x.at_] ty0 x.at_)) _ ⟨ho.ok, by simp only [rank]; have := ho.len; omega, trivial⟩).1
      exact ⟨ht.le.trans (ho.trans hb), fun h => by cases h⟩
     ·exact ⟨Le.refl h, fun h => by cases h⟩
  | atom d =>
   simp only [rank] at h1
   simp only [runE]
   split
   ·rename_i h2
    have ht := tl_lt h (.inr (by rw [h2]; decide))
    exact ⟨ht.le, fun _ => ht⟩
   ·split
    ·rename_i _ h2
     have hne := Or.inr (a := s.hd.tx ≠ ⟨#[]⟩) (b := s.hd.kd ≠ 0) (by rw [h2]; decide)
     have ht := tl_lt h hne
     have hz := (tl_ok h hne).2
     have ha := (ih (.use s.hd.tx s.hd.at_ d) _ ⟨ht.le.ok, by simp only [rank]; omega, trivial⟩).1
     exact ⟨ht.le.trans ha, fun _ => ht.trans ha⟩
    ·split
     ·rename_i _ _ h2
      have ht := tl_lt h (is_ne h2 (by decide))
      have hz := (tl_ok h (is_ne h2 (by decide))).2
      have ha := (ih (.inside d) _ ⟨ht.le.ok, by simp only [rank]; omega, trivial⟩).1
      exact ⟨ht.le.trans ha, fun _ => ht.trans ha⟩
     ·have := fail_le h (e := 11) (by decide)
      exact ⟨this.le, fun _ => this⟩
  | use nm a d =>
   simp only [rank] at h1
   simp only [runE]
   split
   ·rename_i h2
    have ht := tl_lt h (is_ne h2 (by decide))
    have hz := (tl_ok h (is_ne h2 (by decide))).2
    have ha := (ih (.betE (d + 1)) _ ⟨ht.le.ok, by simp only [rank]; omega, trivial⟩).1
    exact ⟨ht.le.trans ha, fun h => by cases h⟩
   ·exact ⟨Le.refl h, fun h => by cases h⟩
  | betE d =>
   simp only [rank] at h1
   simp only [runE]
   split
   ·rename_i h2
    have ht := tl_lt h (is_ne h2 (by decide))
    exact ⟨ht.le, fun _ => ht⟩
   ·have ha := (ih (.expr d) s ⟨h, by simp only [rank]; omega, trivial⟩).2 rfl
    have hb := (ih (.betL d [hd1 (runE f (.expr d) s)]) _ ⟨ha.le.ok, by simp only [rank]; have := ha.le.len; omega, trivial⟩).1
    exact ⟨ha.le.trans hb, fun _ => ha.trans hb⟩
  | betL d l =>
   simp only [rank] at h1
   simp only [runE]
   split
   ·rename_i h2
    have ht := tl_lt h (is_ne h2 (by decide))
    have hz := (tl_ok h (is_ne h2 (by decide))).2
    split
    ·exact ⟨ht.le.trans (fail_le ht.le.ok (by decide)).le, fun h => by cases h⟩
    ·have ha := (ih (.expr d) _ ⟨ht.le.ok, by simp only [rank]; omega, trivial⟩).1
     have hb := (ih (.betL d (l ++ [hd1 (runE f (.expr d) s.tl)])) _ ⟨ha.ok, by simp only [rank]; have := ha.len; omega, trivial⟩).1
     exact ⟨ht.le.trans (ha.trans hb), fun h => by cases h⟩
   ·exact ⟨(want_lt h (by decide)).le, fun h => by cases h⟩
theorem cond_lt {f d : Nat} {s : S} (h : Ok s) (h1 : 8 * s.tk.length + 5 ≤ f) : Lt s (condV f d s).2 := by
 unfold condV
 have h2 := want_lt h (x := ⟨#[40]⟩) (by decide)
 have ha := (runE_le f (.expr (d + 1)) _ ⟨h2.le.ok, by simp only [rank]; have := h2.le.len; omega, trivial⟩).1
 have := h2.trans ha
 exact this.trans (want_lt this.le.ok (by decide)).le
theorem maybe_lt {f d : Nat} {s : S} (h : Ok s) (h1 : 8 * s.tk.length + 5 ≤ f) : Lt s (maybeV f d s).2 := by
 unfold maybeV
 split
 ·rename_i h2
  exact tl_lt h (is_ne h2 (by decide))
 ·have ha := (runE_le f (.expr (d + 1)) _ ⟨h, by simp only [rank]; omega, trivial⟩).2 rfl
  exact ha.trans (want_lt ha.le.ok (by decide)).le
theorem local_lt {f d : Nat} {s : S} (h : Ok s) (h1 : 8 * s.tk.length ≤ f) : Lt s (localV f d s).2 := by
 unfold localV
 have h2 := (named_lt h).trans (length_le (named_lt h).le.ok)
 have hlen := h2.le.len
 simp only
 split
 ·rename_i h3
  have ht := tl_lt h2.le.ok (is_ne h3 (by decide))
  have hz := (tl_ok h2.le.ok (is_ne h3 (by decide))).2
  have ha := (runE_le f (.expr (d + 1)) _ ⟨ht.le.ok, by simp only [rank]; omega, trivial⟩).1
  have := (h2.trans ht.le).trans ha
  exact this.trans (want_lt this.le.ok (by decide)).le
 ·exact h2.trans (want_lt h2.le.ok (by decide)).le
def rankS : Qs → Nat
 | .stmt _ => 7 | .block _ => 1 | .untS _ _ => 8
def EnS (q : Qs) (s : S) (f : Nat) : Prop := Ok s ∧ match q with
 | .untS _ _ => s.er ≠ 0 ∨ 8 * s.tk.length + 8 ≤ f
 | q => 8 * s.tk.length + rankS q ≤ f
theorem runS_le : ∀ f q s, EnS q s f → Le s (runS f q s).2 ∧ ((match q with | .untS _ _ => False | _ => True) → Lt s (runS f q s).2) := by
 intro f
 induction f with
 | zero =>
  intro q s ⟨h, h1⟩
  have hp := h.pos
  cases q with
  | stmt d => simp only [rankS] at h1; omega
  | block d => simp only [rankS] at h1; omega
  | untS d l => simp only [runS]; exact ⟨Le.refl h, fun h => h.elim⟩
 | succ f ih =>
  intro q s ⟨h, h1⟩
  have hp := h.pos
  cases q with
  | stmt d =>
   simp only [rankS] at h1
   have hd := deep_le h d
   simp only [runS]
   generalize deepS d s = s at *
   have h := hd.ok
   have hlen := hd.len
   split
   ·have := hd.lt (local_lt (f := f) (d := d) h (by omega)); exact ⟨this.le, fun _ => this⟩
   split
   ·have := hd.lt ((ih (.block d) s ⟨h, by simp only [rankS]; omega⟩).2 trivial); exact ⟨this.le, fun _ => this⟩
   split
   ·rename_i h2
    have ht := tl_lt h (is_ne h2 (by decide))
    have hz := (tl_ok h (is_ne h2 (by decide))).2
    have hc := cond_lt (f := f) (d := d) ht.le.ok (by omega)
    have ha := (ih (.stmt (d + 1)) _ ⟨hc.le.ok, by simp only [rankS]; have := hc.le.len; omega⟩).1
    have hl2 := hc.le.len
    split
    ·rename_i h3
     have ht2 := tl_lt ha.ok (is_ne h3 (by decide))
     have hz2 := (tl_ok ha.ok (is_ne h3 (by decide))).2
     have hb := (ih (.stmt (d + 1)) _ ⟨ht2.le.ok, by simp only [rankS]; have := ha.len; omega⟩).1
     have := hd.lt (ht.trans (hc.le.trans (ha.trans (ht2.le.trans hb))))
     exact ⟨this.le, fun _ => this⟩
    ·have := hd.lt (ht.trans (hc.le.trans ha))
     exact ⟨this.le, fun _ => this⟩
   split
   ·rename_i h2
    have ht := tl_lt h (is_ne h2 (by decide))
    have hz := (tl_ok h (is_ne h2 (by decide))).2
    have hc := cond_lt (f := f) (d := d) ht.le.ok (by omega)
    have ha := (ih (.stmt (d + 1)) _ ⟨hc.le.ok, by simp only [rankS]; have := hc.le.len; omega⟩).1
    have := hd.lt (ht.trans (hc.le.trans ha))
    exact ⟨this.le, fun _ => this⟩
   split
   ·rename_i h2
    have ht := tl_lt h (is_ne h2 (by decide))
    have hz := (tl_ok h (is_ne h2 (by decide))).2
    have := hd.lt (ht.trans (maybe_lt (f := f) (d := d) ht.le.ok (by omega)).le)
    exact ⟨this.le, fun _ => this⟩
   split
   ·rename_i h2
    have ht := tl_lt h (is_ne h2 (by decide))
    have := hd.lt (ht.trans (want_lt ht.le.ok (x := ⟨#[59]⟩) (by decide)).le)
    exact ⟨this.le, fun _ => this⟩
   split
   ·rename_i h2
    have ht := tl_lt h (is_ne h2 (by decide))
    have := hd.lt (ht.trans (want_lt ht.le.ok (x := ⟨#[59]⟩) (by decide)).le)
    exact ⟨this.le, fun _ => this⟩
   ·have := hd.lt (maybe_lt (f := f) (d := d) h (by omega)); exact ⟨this.le, fun _ => this⟩
  | block d =>
   simp only [rankS] at h1
   simp only [runS]
   have hw := want_lt h (x := ⟨#[123]⟩) (by decide)
   have ha := (ih (.untS (d + 1) []) _ ⟨hw.le.ok, by
    by_cases he : (s.want ⟨#[123]⟩).er = 0
    ·exact .inr (by have := hw.lt he; omega)
    ·exact .inl he⟩).1
   exact ⟨hw.le.trans ha, fun _ => hw.trans ha⟩
  | untS d l =>
   simp only [runS]
   simp only at h1
   split
   ·exact ⟨Le.refl h, fun h => h.elim⟩
   ·rename_i h2
    have h1 : 8 * s.tk.length + 8 ≤ f + 1 := by rcases h1 with h1 | h1; exact absurd h1 h2; exact h1
    split
    ·rename_i h3; exact ⟨(tl_lt h (is_ne h3 (by decide))).le, fun h => h.elim⟩
    ·have ha := (ih (.stmt d) s ⟨h, by simp only [rankS]; omega⟩).2 trivial
     have hb := (ih (.untS d (l ++ [hdS (runS f (.stmt d) s)])) _ ⟨ha.le.ok, by
      by_cases he : (runS f (.stmt d) s).2.er = 0
      ·exact .inr (by have := ha.lt he; omega)
      ·exact .inl he⟩).1
     exact ⟨ha.le.trans hb, fun h => h.elim⟩
end Pa
end Go.Proofs.YtfjobnljdkiihaaGreatDoor
