/- What the plain reader answers of the texts of fixed facts, and of nested ones. Conditions: each theorem's. -/
import Derived.Test.YtlobphanodhcoaaParV
import Derived.Lib.Repeat
import Derived.Test.YtlobphanodhcoaaParMu
namespace Go.Proofs.Ytlobphanodhcoaa
open Go.RowKit Go.Maps
set_option linter.unusedVariables false
set_option linter.unusedSimpArgs false
set_option maxRecDepth 100000
open Lx Pa
namespace Pa
def txA : ByteArray := ⟨#[108, 111, 110, 103, 32, 102, 40, 108, 111, 110, 103, 32, 42, 112, 41, 32, 123, 32, 114, 101, 116, 117, 114, 110, 32, 112, 91, 49, 93, 32, 43, 32, 50, 59, 32, 125]⟩
def exA : PEx := .mk 4 ⟨#[43]⟩ eB 0 [.mk 7 eB eB 0 [.mk 2 eB ⟨#[112]⟩ 0 [] ty0 25, .mk 1 eB eB 1 [] ty0 27] ty0 25, .mk 1 eB eB 2 [] ty0 32] ty0 25
def fnA : PFn := ⟨⟨#[102]⟩, ⟨3, 0, ⟨#[]⟩⟩, [⟨⟨#[112]⟩, ⟨3, 1, ⟨#[]⟩⟩, 0, 7⟩], .mk 1 [] [.mk 4 [exA] [] va0 18] va0 16, 0⟩
theorem pv_A : parseV txA = (⟨[], [], [fnA]⟩, 0, 0) := by kernel_rfl
def txB : ByteArray := ⟨#[105, 110, 116, 32, 97, 91, 48, 93, 59]⟩
theorem pv_B : (parseV txB).2 = (6, 1) := by decide +kernel
def deepL (h n : Nat) : List UInt8 :=
  [105, 110, 116, 32, 102, 40, 41, 32, 123] ++ ((if h = 2 then Lib.repeatL [123] n ++ [49, 59] ++ Lib.repeatL [125] n else Lib.repeatL (if h = 1 then [40] else [126]) n ++ [49] ++ Lib.repeatL (if h = 1 then [41] else []) n ++ [59]) ++ [125])
def mostD (h : Nat) : Nat := if h = 1 then 18 else 37
def dOk (h n : Nat) : Bool :=
  let r := (parseV ⟨(deepL h n).toArray⟩).2
  if n ≤ mostD h then decide (r.2 = 0) else decide (r.2 = 12) && decide ((9 + mostD h : Int) ≤ r.1) && decide (r.1 ≤ 9 + (n : Int))
end Pa
end Go.Proofs.Ytlobphanodhcoaa
/- What is read of a program in memory. Conditions: each theorem's. -/
namespace Go.Proofs.Ytlobphanodhcoaa
open Go.RowKit Go.Maps
set_option linter.unusedVariables false
set_option linter.unusedSimpArgs false
set_option maxRecDepth 100000
open Lx Pa
theorem flat_get {z : Nat} : ∀ (rows : List (List Value)) (i j : Nat) (c : List Value) (u : Value), (∀ r ∈ rows, r.length = z) → rows[i]? = some c → c[j]? = some u → rows.flatten[i * z + j]? = some u := by
  intro rows
  induction rows with
  | nil => intro i j c u _ h; simp at h
  | cons r rows ih =>
    intro i j c u hz hc hu
    have hr := hz r (by simp)
    cases i with
    | zero =>
      simp at hc
      subst hc
      rw [List.flatten_cons, Nat.zero_mul, Nat.zero_add, List.getElem?_append_left (List.getElem?_eq_some_iff.1 hu).1]
      exact hu
    | succ i =>
      simp at hc
      rw [List.flatten_cons, List.getElem?_append_right (by rw [hr, Nat.succ_mul]; omega), hr, show (i + 1) * z + j - z = i * z + j by rw [Nat.succ_mul]; omega]
      exact ih i j c u (fun r' hr' => hz r' (by simp [hr'])) hc hu
theorem LAt.get {α : Type} {E : Elem α} {w : World} {S : Nat → Prop} {l : List α} {v : Value} (h : LAt E w S l v) (i : Nat) {x : α} (hi : l[i]? = some x) :
    ∃ g o cap c, v = .slice (some ⟨g, o, none⟩) l.length cap ∧ l.length ≤ cap ∧ cap ≤ maxLen ∧ S g ∧ g < w.heap.size ∧ E.At w S x c ∧ ∀ j u, c[j]? = some u → w.cell? ⟨g, o + (i * E.z + j), none⟩ = some u := by
  obtain ⟨rows, h1, ⟨A, cap, rfl, h2, h3, h4⟩, h5⟩ := h
  have hl := (List.getElem?_eq_some_iff.1 hi).1
  obtain ⟨g, o, rfl, hS, hg, hr⟩ := h4 (by omega)
  have hri : rows[i]? = some (rows[i]'(by omega)) := List.getElem?_eq_getElem (by omega)
  refine ⟨g, o, cap, _, rfl, h2, h3, hS, hg, h5 i x _ hi hri, fun j u hu => hr _ u (flat_get rows i j _ u (fun r hr' => ?_) hri hu)⟩
  obtain ⟨k, hk, rfl⟩ := List.getElem_of_mem hr'
  exact E.len (h5 k (l[k]'(by omega)) _ (List.getElem?_eq_getElem (by omega)) (List.getElem?_eq_getElem hk))
/-- The first expression of the first statement of the only function. -/
theorem prog_view {w : World} {S : Nat → Prop} {p : PPr} {vs vv vf : Value} (h : PrAt w S p vs vv vf) {f : PFn} {kb : Int} {xb : List PEx} {vb : PVa} {ab : Nat} {kk : Int} {x : PEx} {ks : List PSt} {vk : PVa} {ak : Nat} (hf : p.fs = [f]) (hb : f.body = .mk kb xb [.mk kk [x] ks vk ak] vb ab) :
    ∃ gf of' cf gk ok ck gx ox cx c, vf = .slice (some ⟨gf, of', none⟩) 1 cf ∧ 1 ≤ cf ∧ w.cell? ⟨gf, of' + 7, none⟩ = some (.slice (some ⟨gk, ok, none⟩) 1 ck) ∧ 1 ≤ ck ∧ w.cell? ⟨gk, ok + 1, none⟩ = some (.slice (some ⟨gx, ox, none⟩) 1 cx) ∧ 1 ≤ cx ∧ ExAt w S x c ∧ (∀ j u, c[j]? = some u → w.cell? ⟨gx, ox + j, none⟩ = some u) ∧ gf < w.heap.size ∧ gk < w.heap.size ∧ gx < w.heap.size := by
  have h1 := h.f
  rw [hf] at h1
  obtain ⟨gf, of', cf, c1, e1, l1, _, _, g1, ⟨pv, d, _, hd, rfl⟩, r1⟩ := h1.get 0 rfl
  rw [hb] at hd
  obtain ⟨kd, xs, kids, va, at_, A, ca, B, cb, e2, rfl, _, hk⟩ := hd.inv
  injection e2 with e2a e2b e2c e2d e2e
  subst e2c
  obtain ⟨gk, ok, ck, c2, e3, l3, _, _, g3, hst, r3⟩ := hk.get 0 rfl
  obtain ⟨kd', xs', kids', va', at', A', ca', B', cb', e4, rfl, hx, _⟩ := StAt.inv hst
  injection e4 with e4a e4b e4c e4d e4e
  subst e4b
  obtain ⟨gx, ox, cx, c3, e5, l5, _, _, g5, hx', r5⟩ := hx.get 0 rfl
  have q1 := r1 7 _ rfl
  have q3 := r3 1 _ rfl
  simp only [Nat.zero_mul, Nat.zero_add] at q1 q3 r5
  rw [e3] at q1
  rw [e5] at q3
  exact ⟨gf, of', cf, gk, ok, ck, gx, ox, cx, c3, e1, l1, q1, l3, q3, l5, hx', r5, g1, g3, g5⟩
end Go.Proofs.Ytlobphanodhcoaa
/- The laws' fixed fact. Conditions: each theorem's. -/
namespace Go.Proofs.Ytlobphanodhcoaa
open Go.RowKit Go.Maps
set_option linter.unusedVariables false
set_option linter.unusedSimpArgs false
set_option maxRecDepth 100000
open Lx Pa
end Go.Proofs.Ytlobphanodhcoaa
