/- Structs that came in, as they lie in memory. No condition. -/
import Derived.Test.YtalelgnooemooaaLayM
import Derived.Deep.Slices
import Derived.ChangeArms
import Derived.DataReads
import Derived.WideShapes
namespace Go.Proofs.Ytalelgnooemooaa
open Go.RowKit Go.Deep Go.WideShapes
set_option linter.unusedVariables false
set_option linter.unusedSimpArgs false
set_option maxRecDepth 100000
open Py
theorem cellsF : Try.prog.cellsOf 47 = 5 := by kernel_rfl
theorem cellsSc : Try.prog.cellsOf 45 = 3 := by kernel_rfl
theorem cellsFs : Try.prog.cellsOf 43 = 1 := by kernel_rfl
theorem runsT : ∃ fs : Array Field, Try.prog.underlying 24 = some (.struct fs) ∧ fs.toList.map (fun f => (f.type, f.offset)) = [(3, 0), (3, 1), (9, 2)] := ⟨_, Try.underlying24, by kernel_rfl⟩
theorem runsF : ∃ fs : Array Field, Try.prog.underlying 47 = some (.struct fs) ∧ fs.toList.map (fun f => (f.type, f.offset)) = [(9, 0), (24, 1), (3, 4)] := ⟨_, Try.underlying47, by kernel_rfl⟩
theorem runsSc : ∃ fs : Array Field, Try.prog.underlying 45 = some (.struct fs) ∧ fs.toList.map (fun f => (f.type, f.offset)) = [(9, 0), (43, 1), (3, 2)] := ⟨_, Try.underlying45, by kernel_rfl⟩
section
variable {H : Type} {enc : TypeId × Value → H} {w : World} {sp : Nat → Bool} {held : Bool} {fuel : Nat} {cs : List Value} {x : DataW H × List MemPlace}
theorem field_of {t : TypeId} {l : List (TypeId × Nat)} (hr : ∃ fs : Array Field, Try.prog.underlying t = some (.struct fs) ∧ fs.toList.map (fun f => (f.type, f.offset)) = l) (h : DataW.trod enc Try.prog w 0 sp held fuel t cs = some x) :
    cs.length = Try.prog.cellsOf t ∧ ∀ (i : Nat) (ty : TypeId) (off : Nat), l[i]? = some (ty, off) → ∃ n y, DataW.trod enc Try.prog w 0 sp held n ty ((cs.drop off).take (Try.prog.cellsOf ty)) = some y := by
  obtain ⟨fs, hu, hfs⟩ := hr
  obtain ⟨xs, n, rfl, hx, hl, hxs, hall⟩ := DataW.trod_struct hu h
  refine ⟨hl, fun i ty off hi => ?_⟩
  rw [← hfs, List.getElem?_map] at hi
  cases hf : fs.toList[i]? with
  | none => rw [hf] at hi; cases hi
  | some f =>
    rw [hf] at hi
    simp only [Option.map_some, Option.some.injEq, Prod.mk.injEq] at hi
    obtain ⟨rfl, rfl⟩ := hi
    have hf' : fs[i]? = some f := by simpa using hf
    have := hall i f hf'
    have hlt : i < fs.size := (Array.getElem?_eq_some_iff.1 hf').1
    cases hxi : xs[i]? with
    | none => rw [List.getElem?_eq_none_iff] at hxi; omega
    | some y => exact ⟨n, y, this.trans hxi⟩
theorem list3 (l : List Value) (h : l.length = 3) : ∃ a b c, l = [a, b, c] := by
  match l, h with
  | [a, b, c], _ => exact ⟨a, b, c, rfl⟩
theorem list5 (l : List Value) (h : l.length = 5) : ∃ a b c d e, l = [a, b, c, d, e] := by
  match l, h with
  | [a, b, c, d, e], _ => exact ⟨a, b, c, d, e, rfl⟩
theorem ty_of (h : DataW.trod enc Try.prog w 0 sp held fuel 24 cs = some x) : ∃ t : Ty, cs = tyL t ∧ tyOk t := by
  obtain ⟨hl, hf⟩ := field_of runsT h
  rw [cellsT] at hl
  obtain ⟨c0, c1, c2, rfl⟩ := list3 cs hl
  obtain ⟨n0, y0, h0⟩ := hf 0 _ _ rfl
  obtain ⟨n1, y1, h1⟩ := hf 1 _ _ rfl
  obtain ⟨n2, y2, h2⟩ := hf 2 _ _ rfl
  rw [cellsI] at h0 h1
  rw [cellsS] at h2
  obtain ⟨a, e0, -, w0⟩ := DataW.trod_int Try.underlying3 h0
  obtain ⟨b, e1, -, w1⟩ := DataW.trod_int Try.underlying3 h1
  obtain ⟨s, e2, -, w2⟩ := DataW.trod_string Try.underlying9 h2
  simp at e0 e1 e2
  subst e0 e1 e2
  exact ⟨⟨a, b, s⟩, rfl, w0, w1, w2⟩
/-- A field of its Go type. -/
def fdOk (f : Fe) : Prop := f.nm.size ≤ maxLen ∧ tyOk f.ty ∧ (Lit.int .i64 f.at_).wf = true
theorem fd_of (h : DataW.trod enc Try.prog w 0 sp held fuel 47 cs = some x) : ∃ f : Fe, cs = fdL f ∧ fdOk f := by
  obtain ⟨hl, hf⟩ := field_of runsF h
  rw [cellsF] at hl
  obtain ⟨c0, c1, c2, c3, c4, rfl⟩ := list5 cs hl
  obtain ⟨n0, y0, h0⟩ := hf 0 _ _ rfl
  obtain ⟨n1, y1, h1⟩ := hf 1 _ _ rfl
  obtain ⟨n2, y2, h2⟩ := hf 2 _ _ rfl
  rw [cellsS] at h0
  rw [cellsT] at h1
  rw [cellsI] at h2
  obtain ⟨s, e0, -, w0⟩ := DataW.trod_string Try.underlying9 h0
  obtain ⟨t, e1, w1⟩ := ty_of h1
  obtain ⟨a, e2, -, w2⟩ := DataW.trod_int Try.underlying3 h2
  simp at e0 e1 e2
  obtain ⟨rfl, rfl, rfl⟩ := e1
  subst e0 e2
  exact ⟨⟨s, t, a⟩, rfl, w0, w1, w2⟩
theorem list_of {α : Type} (d : α) (p : Nat → α → Prop) (n : Nat) (h : ∀ k, k < n → ∃ a, p k a) : ∃ l : List α, l.length = n ∧ ∀ k, k < n → p k (l.getD k d) := by
  induction n with
  | zero => exact ⟨[], rfl, fun k hk => by omega⟩
  | succ n ih =>
    obtain ⟨l, hl, hp⟩ := ih fun k hk => h k (by omega)
    obtain ⟨a, ha⟩ := h n (by omega)
    refine ⟨l ++ [a], by simp [hl], fun k hk => ?_⟩
    by_cases hkn : k < n
    · have e : (l ++ [a]).getD k d = l.getD k d := by simp only [List.getD_eq_getElem?_getD]; rw [List.getElem?_append_left (by omega)]
      rw [e]; exact hp k hkn
    · obtain rfl : k = n := by omega
      have e : (l ++ [a]).getD k d = a := by simp only [List.getD_eq_getElem?_getD]; rw [List.getElem?_append_right (by omega)]; simp [hl]
      rw [e]; exact ha
/-- Cells at an address are a range. -/
theorem spot_of {a : Addr} {n : Nat} {l : List Value} (hl : 0 < l.length) (h : w.cells? 0 (a.add (0 * n)) n = some l) : ∃ g o, a = ⟨g, o, none⟩ ∧ g < w.heap.size := by
  rw [Nat.zero_mul] at h
  obtain ⟨-, hlen, hc⟩ := World.cells?_some h
  obtain ⟨g, o, spot⟩ := a
  have h0 := hc 0 (by omega)
  rw [List.getElem?_eq_getElem hl] at h0
  have hs : spot = none := by simpa [Addr.add] using World.cell?_spot h0
  subst hs
  refine ⟨g, o, rfl, ?_⟩
  have := World.block_lt_of_cell? w _ h0
  simpa [Addr.add] using this
theorem range_at {g o m n : Nat} {l : List Value} (h : w.cells? 0 ((⟨g, o, none⟩ : Addr).add m) n = some l) : w.rangeAt g (o + m) l := by
  obtain ⟨-, hlen, hc⟩ := World.cells?_some h
  intro j v hj
  have hjl : j < l.length := (List.getElem?_eq_some_iff.1 hj).1
  have := hc j (by omega)
  rw [hj] at this
  rw [add_plain, add_plain] at this
  exact this
theorem fds_of (h : DataW.trod enc Try.prog w 0 sp held fuel 43 cs = some x) : ∃ (A : Option Addr) (c : Nat) (fs : List Fe), cs = [.slice A fs.length c] ∧ fs.length ≤ c ∧ c ≤ maxLen ∧ FdsAt w w.heap.size A fs ∧ ∀ k, k < fs.length → fdOk (fs.getD k fd0) := by
  rcases open_slice Try.underlying43 h with ⟨rfl, -⟩ | ⟨a, len, cap, m, n, D, Pl, rfl, -, hl, hm, hmm, -, hx⟩
  · exact ⟨none, 0, [], rfl, Nat.le_refl _, Nat.zero_le _, fun h0 => by simp at h0, fun k hk => by simp at hk⟩
  · have hlm : len ≤ m := by rw [hmm]; split <;> omega
    have hex : ∀ k, k < len → ∃ f : Fe, w.cells? 0 (a.add (k * 5)) 5 = some (fdL f) ∧ fdOk f := fun k hk => by
      obtain ⟨cs', h1, h2⟩ := hx k (by omega)
      obtain ⟨f, rfl, hf⟩ := fd_of h2
      rw [cellsF] at h1
      exact ⟨f, h1, hf⟩
    obtain ⟨fs, hfl, hp⟩ := list_of fd0 _ len hex
    refine ⟨some a, cap, fs, by rw [hfl], by omega, hm, fun h0 => ?_, fun k hk => (hp k (by omega)).2⟩
    obtain ⟨g, o, rfl, hg⟩ := spot_of (by simp) (hp 0 (by omega)).1
    exact ⟨g, o, rfl, hg, fun k hk => range_at (hp k (by omega)).1⟩
/-- A struct of its Go type. -/
def scOk (s : Sc) : Prop := s.nm.size ≤ maxLen ∧ ∀ k, k < s.fs.length → fdOk (s.fs.getD k fd0)
theorem sc_of (h : DataW.trod enc Try.prog w 0 sp held fuel 45 cs = some x) : ∃ (s : Sc) (fA : Option Addr) (fc : Nat), cs = [.string s.nm, .slice fA s.fs.length fc, .int .i64 s.at_] ∧ s.fs.length ≤ fc ∧ fc ≤ maxLen ∧ FdsAt w w.heap.size fA s.fs ∧ scOk s := by
  obtain ⟨hl, hf⟩ := field_of runsSc h
  rw [cellsSc] at hl
  obtain ⟨c0, c1, c2, rfl⟩ := list3 cs hl
  obtain ⟨n0, y0, h0⟩ := hf 0 _ _ rfl
  obtain ⟨n1, y1, h1⟩ := hf 1 _ _ rfl
  obtain ⟨n2, y2, h2⟩ := hf 2 _ _ rfl
  rw [cellsS] at h0
  rw [cellsFs] at h1
  rw [cellsI] at h2
  obtain ⟨s, e0, -, w0⟩ := DataW.trod_string Try.underlying9 h0
  obtain ⟨fA, fc, fs, e1, k1, k2, k3, k4⟩ := fds_of h1
  obtain ⟨a, e2, -, w2⟩ := DataW.trod_int Try.underlying3 h2
  simp at e0 e1 e2
  subst e0 e1 e2
  exact ⟨⟨s, fs, a⟩, fA, fc, rfl, k1, k2, k3, w0, k4⟩
theorem scs_of (h : DataW.trod enc Try.prog w 0 sp held fuel 22 cs = some x) : ∃ (A : Option Addr) (c : Nat) (l : List Sc), cs = [.slice A l.length c] ∧ l.length ≤ c ∧ c ≤ maxLen ∧ ScsAt w w.heap.size A l ∧ ∀ k, k < l.length → scOk (l.getD k sc0) := by
  rcases open_slice Try.underlying22 h with ⟨rfl, -⟩ | ⟨a, len, cap, m, n, D, Pl, rfl, -, hl, hm, hmm, -, hx⟩
  · exact ⟨none, 0, [], rfl, Nat.le_refl _, Nat.zero_le _, fun h0 => by simp at h0, fun k hk => by simp at hk⟩
  · have hlm : len ≤ m := by rw [hmm]; split <;> omega
    have hex : ∀ k, k < len → ∃ s : Sc, (∃ fA fc, w.cells? 0 (a.add (k * 3)) 3 = some [.string s.nm, .slice fA s.fs.length fc, .int .i64 s.at_] ∧ s.fs.length ≤ fc ∧ fc ≤ maxLen ∧ FdsAt w w.heap.size fA s.fs) ∧ scOk s := fun k hk => by
      obtain ⟨cs', h1, h2⟩ := hx k (by omega)
      obtain ⟨s, fA, fc, rfl, k1, k2, k3, k4⟩ := sc_of h2
      rw [cellsSc] at h1
      exact ⟨s, ⟨fA, fc, h1, k1, k2, k3⟩, k4⟩
    obtain ⟨l, hll, hp⟩ := list_of sc0 _ len hex
    refine ⟨some a, cap, l, by rw [hll], by omega, hm, fun h0 => ?_, fun k hk => (hp k (by omega)).2⟩
    obtain ⟨⟨fA, fc, hc, -⟩, -⟩ := hp 0 (by omega)
    obtain ⟨g, o, rfl, hg⟩ := spot_of (by simp) hc
    refine ⟨g, o, rfl, hg, fun k hk => ?_⟩
    obtain ⟨⟨fA, fc, hc, k1, k2, k3⟩, -⟩ := hp k (by omega)
    exact ⟨fA, fc, k1, k2, range_at hc, k3⟩
end
end Go.Proofs.Ytalelgnooemooaa
