/- Programs as trees: the plain reader of tokens. Conditions: each theorem's. -/
import Derived.Test.YtlobphanodhcoaaLexP
namespace Go.Proofs.Ytlobphanodhcoaa
open Go.RowKit Go.Maps
set_option linter.unusedVariables false
set_option linter.unusedSimpArgs false
set_option maxRecDepth 100000
open Lx
namespace Pa
structure PTy where
  ba : Int
  st : Int
  rc : ByteArray
inductive PEx
  | mk (kd : Int) (op nm : ByteArray) (num : Int) (kids : List PEx) (ty : PTy) (at_ : Nat)
structure PVa where
  nm : ByteArray
  ty : PTy
  ln : Int
  at_ : Nat
inductive PSt
  | mk (kd : Int) (exprs : List PEx) (kids : List PSt) (v : PVa) (at_ : Nat)
structure PFd where
  nm : ByteArray
  ty : PTy
  at_ : Nat
structure PSr where
  nm : ByteArray
  fds : List PFd
  at_ : Nat
structure PFn where
  nm : ByteArray
  ty : PTy
  params : List PVa
  body : PSt
  at_ : Nat
structure PPr where
  ss : List PSr
  vs : List PVa
  fs : List PFn
def PEx.at_ : PEx → Nat | .mk _ _ _ _ _ _ a => a
abbrev eB : ByteArray := ⟨#[]⟩
def ty0 : PTy := ⟨0, 0, ⟨#[]⟩⟩
def ex0 : PEx := .mk 0 ⟨#[]⟩ ⟨#[]⟩ 0 [] ty0 0
def va0 : PVa := ⟨⟨#[]⟩, ty0, 0, 0⟩
def st0 : PSt := .mk 0 [] [] va0 0
/-- A reader: the tokens that are still to come, and what is wrong. -/
structure S where
  tk : List Tk
  er : Int
def S.hd (s : S) : Tk := s.tk.headD ⟨0, ⟨#[]⟩, 0⟩
def S.ahead (s : S) (n : Nat) : Tk := s.tk.getD (min n (s.tk.length - 1)) ⟨0, ⟨#[]⟩, 0⟩
def S.is (s : S) (x : ByteArray) : Bool := decide (s.hd.tx = x)
def S.tl (s : S) : S := ⟨s.tk.tail, s.er⟩
def S.fail (s : S) (e : Int) : S := if s.er = 0 then ⟨[⟨0, ⟨#[]⟩, s.hd.at_⟩], e⟩ else s
def S.want (s : S) (x : ByteArray) : S := if s.is x then s.tl else s.fail 11
def S.take (s : S) (x : ByteArray) : S := if s.is x then s.tl else s
def S.oneT (s : S) (k : Int) : ByteArray := if s.hd.kd = k then s.hd.tx else ⟨#[]⟩
def S.one (s : S) (k : Int) : S := if s.hd.kd = k then s.tl else s.fail 11
def baseV (x : ByteArray) : Option Int :=
  if x = ⟨#[118, 111, 105, 100]⟩ then some 0 else if x = ⟨#[99, 104, 97, 114]⟩ then some 1 else if x = ⟨#[105, 110, 116]⟩ then some 2 else if x = ⟨#[108, 111, 110, 103]⟩ then some 3 else if x = ⟨#[115, 116, 114, 117, 99, 116]⟩ then some 4 else none
/-- The strengths, the last one first. -/
def strTab : List (ByteArray × Int) := [(⟨#[37]⟩, 10), (⟨#[47]⟩, 10), (⟨#[42]⟩, 10), (⟨#[45]⟩, 9), (⟨#[43]⟩, 9), (⟨#[62, 62]⟩, 8), (⟨#[60, 60]⟩, 8), (⟨#[62, 61]⟩, 7), (⟨#[62]⟩, 7), (⟨#[60, 61]⟩, 7), (⟨#[60]⟩, 7), (⟨#[33, 61]⟩, 6), (⟨#[61, 61]⟩, 6), (⟨#[38]⟩, 5), (⟨#[94]⟩, 4), (⟨#[124]⟩, 3), (⟨#[38, 38]⟩, 2), (⟨#[124, 124]⟩, 1)]
def tabV (l : List (ByteArray × Int)) (x : ByteArray) : Int := ((l.find? fun e => decide (e.1 = x)).map (·.2)).getD 0
def strV (x : ByteArray) : Int := tabV strTab x
def starsV : Nat → Int → S → Option Int × S
  | 0, k, s => if s.is ⟨#[42]⟩ then (none, s.fail 1) else (some k, s)
  | n + 1, k, s => if s.is ⟨#[42]⟩ then starsV n (k + 1) s.tl else (some k, s)
def typeV (s : S) : PTy × S :=
  match baseV s.hd.tx with
  | none => (ty0, s.fail 11)
  | some b => match starsV 4 0 (if b = 4 then s.tl.one 1 else s.tl) with
    | (none, s') => (ty0, s')
    | (some k, s') => (⟨b, k, if b = 4 then s.tl.oneT 1 else ⟨#[]⟩⟩, s')
def namedV (s : S) : PVa × S := (⟨(typeV s).2.oneT 1, (typeV s).1, 0, s.hd.at_⟩, (typeV s).2.one 1)
def badLen (m : Option Int) : Bool := m.isSome && (decide (m.getD 0 < 1) || decide (500 < m.getD 0))
def lenS (s : S) : S := ((if badLen (meanV s.hd.tx.data.toList) then s.fail 1 else s).one 2).want ⟨#[93]⟩
def lengthV (s : S) : Int × S := if s.is ⟨#[91]⟩ then (IntKind.i64.wrap ((meanV s.tl.hd.tx.data.toList).getD 0), lenS s.tl) else (0, s)
/-- What is read of an expression. -/
inductive Qe
  | expr (d : Nat)
  | bin (d : Nat) (l : Int)
  | binL (d : Nat) (l : Int) (x : PEx)
  | un (d : Nat)
  | cast (a : Nat) (d : Nat)
  | inside (d : Nat)
  | post (d : Nat)
  | posL (d : Nat) (x : PEx)
  | atom (d : Nat)
  | use (nm : ByteArray) (a : Nat) (d : Nat)
  | betE (d : Nat)
  | betL (d : Nat) (l : List PEx)
def hd1 (r : List PEx × S) : PEx := r.1.headD ex0
def unOp (x : ByteArray) : Bool := decide (x = ⟨#[45]⟩) || decide (x = ⟨#[126]⟩) || decide (x = ⟨#[33]⟩) || decide (x = ⟨#[42]⟩) || decide (x = ⟨#[38]⟩)
def deepS (d : Nat) (s : S) : S := if 40 < d then s.fail 12 else s
def runE : Nat → Qe → S → List PEx × S
  | 0, _, s => ([], s)
  | f + 1, .expr d, s =>
    let a := runE f (.bin d 1) s
    if a.2.is ⟨#[61]⟩ then
      let b := runE f (.expr (d + 1)) a.2.tl
      ([.mk 5 eB eB 0 [hd1 a, hd1 b] ty0 (hd1 a).at_], b.2)
    else ([hd1 a], a.2)
  | f + 1, .bin d l, s => let a := runE f (.un (d + 1)) s; runE f (.binL d l (hd1 a)) a.2
  | f + 1, .binL d l x, s =>
    if strV s.hd.tx < l then ([x], s)
    else
      let b := runE f (.bin d (strV s.hd.tx + 1)) s.tl
      runE f (.binL d l (.mk 4 s.hd.tx eB 0 [x, hd1 b] ty0 x.at_)) b.2
  | f + 1, .un d, s0 =>
    let s := deepS d s0
    if unOp s.hd.tx then
      let b := runE f (.un (d + 1)) s.tl
      ([.mk 3 s.hd.tx eB 0 [hd1 b] ty0 s.hd.at_], b.2)
    else if s.hd.tx = ⟨#[115, 105, 122, 101, 111, 102]⟩ then
      ([.mk 10 eB eB 0 [] (typeV (s.tl.want ⟨#[40]⟩)).1 s.hd.at_], (typeV (s.tl.want ⟨#[40]⟩)).2.want ⟨#[41]⟩)
    else if s.hd.tx = ⟨#[40]⟩ ∧ (baseV (s.ahead 1).tx).isSome = true then runE f (.cast s.hd.at_ d) s.tl
    else runE f (.post d) s
  | f + 1, .cast a d, s =>
    let s1 := (typeV s).2.want ⟨#[41]⟩
    if s1.is ⟨#[109, 97, 108, 108, 111, 99]⟩ then
      let b := runE f (.inside d) (s1.tl.want ⟨#[40]⟩)
      ([.mk 11 eB eB 0 [hd1 b] (typeV s).1 a], b.2)
    else
      let b := runE f (.un (d + 1)) s1
      ([.mk 9 eB eB 0 [hd1 b] (typeV s).1 a], b.2)
  | f + 1, .inside d, s => let a := runE f (.expr (d + 1)) s; ([hd1 a], a.2.want ⟨#[41]⟩)
  | f + 1, .post d, s => let a := runE f (.atom d) s; runE f (.posL d (hd1 a)) a.2
  | f + 1, .posL d x, s =>
    if s.is ⟨#[91]⟩ then
      let b := runE f (.expr (d + 1)) s.tl
      runE f (.posL d (.mk 7 eB eB 0 [x, hd1 b] ty0 x.at_)) (b.2.want ⟨#[93]⟩)
    else if s.is ⟨#[46]⟩ then runE f (.posL d (.mk 8 eB (s.tl.oneT 1) 0 [x] ty0 x.at_)) (s.tl.one 1)
    else if s.is ⟨#[45, 62]⟩ then runE f (.posL d (.mk 8 eB (s.tl.oneT 1) 0 [.mk 3 ⟨#[42]⟩ eB 0 [x] ty0 x.at_] ty0 x.at_)) (s.tl.one 1)
    else ([x], s)
  | f + 1, .atom d, s =>
    if s.hd.kd = 2 then ([.mk 1 eB eB ((meanV s.hd.tx.data.toList).getD 0) [] ty0 s.hd.at_], s.tl)
    else if s.hd.kd = 1 then runE f (.use s.hd.tx s.hd.at_ d) s.tl
    else if s.is ⟨#[40]⟩ then runE f (.inside d) s.tl
    else ([ex0], s.fail 11)
  | f + 1, .use nm a d, s =>
    if s.is ⟨#[40]⟩ then
      let b := runE f (.betE (d + 1)) s.tl
      ([.mk 6 eB nm 0 b.1 ty0 a], b.2)
    else ([.mk 2 eB nm 0 [] ty0 a], s)
  | f + 1, .betE d, s =>
    if s.is ⟨#[41]⟩ then ([], s.tl)
    else let a := runE f (.expr d) s; runE f (.betL d [hd1 a]) a.2
  | f + 1, .betL d l, s =>
    if s.is ⟨#[44]⟩ then
      if l.length = 6 then ([], s.tl.fail 3)
      else let a := runE f (.expr d) s.tl; runE f (.betL d (l ++ [hd1 a])) a.2
    else (l, s.want ⟨#[41]⟩)
/-- What is read of a statement. -/
inductive Qs
  | stmt (d : Nat)
  | block (d : Nat)
  | untS (d : Nat) (l : List PSt)
def hdS (r : List PSt × S) : PSt := r.1.headD st0
def condV (f d : Nat) (s : S) : List PEx × S := let a := runE f (.expr (d + 1)) (s.want ⟨#[40]⟩); ([hd1 a], a.2.want ⟨#[41]⟩)
def maybeV (f d : Nat) (s : S) : List PEx × S :=
  if s.is ⟨#[59]⟩ then ([], s.tl) else let a := runE f (.expr (d + 1)) s; ([hd1 a], a.2.want ⟨#[59]⟩)
def localV (f d : Nat) (s : S) : PSt × S :=
  let a := namedV s
  let n := lengthV a.2
  if n.2.is ⟨#[61]⟩ then
    let b := runE f (.expr (d + 1)) n.2.tl
    (.mk 8 [hd1 b] [] ⟨a.1.nm, a.1.ty, n.1, a.1.at_⟩ a.1.at_, b.2.want ⟨#[59]⟩)
  else (.mk 8 [] [] ⟨a.1.nm, a.1.ty, n.1, a.1.at_⟩ a.1.at_, n.2.want ⟨#[59]⟩)
def runS : Nat → Qs → S → List PSt × S
  | 0, .untS _ l, s => (l, s)
  | 0, _, s => ([], s)
  | f + 1, .stmt d, s0 =>
    let s := deepS d s0
    let at_ := s.hd.at_
    if (baseV s.hd.tx).isSome = true then ([(localV f d s).1], (localV f d s).2)
    else if s.is ⟨#[123]⟩ then let a := runS f (.block d) s; ([hdS a], a.2)
    else if s.is ⟨#[105, 102]⟩ then
      let c := condV f d s.tl
      let a := runS f (.stmt (d + 1)) c.2
      if a.2.is ⟨#[101, 108, 115, 101]⟩ then
        let b := runS f (.stmt (d + 1)) a.2.tl
        ([.mk 2 c.1 [hdS a, hdS b] va0 at_], b.2)
      else ([.mk 2 c.1 [hdS a] va0 at_], a.2)
    else if s.is ⟨#[119, 104, 105, 108, 101]⟩ then
      let c := condV f d s.tl
      let a := runS f (.stmt (d + 1)) c.2
      ([.mk 3 c.1 [hdS a] va0 at_], a.2)
    else if s.is ⟨#[114, 101, 116, 117, 114, 110]⟩ then ([.mk 4 (maybeV f d s.tl).1 [] va0 at_], (maybeV f d s.tl).2)
    else if s.is ⟨#[98, 114, 101, 97, 107]⟩ then ([.mk 5 [] [] va0 at_], s.tl.want ⟨#[59]⟩)
    else if s.is ⟨#[99, 111, 110, 116, 105, 110, 117, 101]⟩ then ([.mk 6 [] [] va0 at_], s.tl.want ⟨#[59]⟩)
    else ([.mk 7 (maybeV f d s).1 [] va0 at_], (maybeV f d s).2)
  | f + 1, .block d, s => let a := runS f (.untS (d + 1) []) (s.want ⟨#[123]⟩); ([.mk 1 [] a.1 va0 s.hd.at_], a.2)
  | f + 1, .untS d l, s =>
    if s.er ≠ 0 then (l, s)
    else if s.is ⟨#[125]⟩ then (l, s.tl)
    else let a := runS f (.stmt d) s; runS f (.untS d (l ++ [hdS a])) a.2
def untF : Nat → List PFd → S → List PFd × S
  | 0, l, s => (l, s)
  | f + 1, l, s =>
    if s.er ≠ 0 then (l, s)
    else if s.is ⟨#[125]⟩ then (l, s.tl)
    else untF f (l ++ [⟨(namedV s).1.nm, (namedV s).1.ty, (namedV s).1.at_⟩]) ((namedV s).2.want ⟨#[59]⟩)
def betPL : Nat → List PVa → S → List PVa × S
  | 0, l, s => (l, s)
  | f + 1, l, s =>
    if s.is ⟨#[44]⟩ then
      if l.length = 6 then ([], s.tl.fail 3)
      else betPL f (l ++ [(namedV s.tl).1]) (namedV s.tl).2
    else (l, s.want ⟨#[41]⟩)
def betP (s : S) : List PVa × S :=
  if s.is ⟨#[41]⟩ then ([], s.tl) else betPL ((namedV s).2.tk.length + 1) [(namedV s).1] (namedV s).2
def structV (s : S) : PSr × S :=
  let s1 := s.want ⟨#[115, 116, 114, 117, 99, 116]⟩
  let s2 := (s1.one 1).want ⟨#[123]⟩
  let a := untF (s2.tk.length + 1) [] s2
  (⟨s1.oneT 1, a.1, s1.hd.at_⟩, a.2.want ⟨#[59]⟩)
def fuelOf (s : S) : Nat := 8 * s.tk.length + 20
def funcV (v : PVa) (s : S) : PFn × S :=
  let a := betP s
  let b := runS (fuelOf a.2) (.block 0) a.2
  (⟨v.nm, v.ty, a.1, hdS b, v.at_⟩, b.2)
def topV (p : PPr) (s : S) : PPr × S :=
  if s.is ⟨#[115, 116, 114, 117, 99, 116]⟩ = true ∧ (s.ahead 2).tx = ⟨#[123]⟩ then (⟨p.ss ++ [(structV s).1], p.vs, p.fs⟩, (structV s).2)
  else
    let v := namedV s
    if v.2.is ⟨#[40]⟩ then (⟨p.ss, p.vs, p.fs ++ [(funcV v.1 v.2.tl).1]⟩, (funcV v.1 v.2.tl).2)
    else (⟨p.ss, p.vs ++ [⟨v.1.nm, v.1.ty, (lengthV v.2).1, v.1.at_⟩], p.fs⟩, (lengthV v.2).2.want ⟨#[59]⟩)
def progL : Nat → PPr → S → PPr × S
  | 0, p, s => (p, s)
  | f + 1, p, s => if s.hd.kd = 0 then (p, s) else progL f (topV p s).1 (topV p s).2
def progV (s : S) : PPr × S := progL (s.tk.length + 1) ⟨[], [], []⟩ s
/-- A text's program; or the place and the number of what is wrong. -/
def parseV (t : ByteArray) : PPr × Int × Int :=
  if (lexV t).er ≠ 0 then (⟨[], [], []⟩, (lexV t).pl, (lexV t).er)
  else
    let r := progV ⟨(lexV t).tk, 0⟩
    if r.2.er ≠ 0 then (⟨[], [], []⟩, r.2.hd.at_, r.2.er) else (r.1, 0, 0)

end Pa
open Pa
example : (parseV ⟨#[105, 110, 116, 32, 97, 91, 48, 93, 59]⟩).2 = (6, 1) := by decide +kernel
end Go.Proofs.Ytlobphanodhcoaa
