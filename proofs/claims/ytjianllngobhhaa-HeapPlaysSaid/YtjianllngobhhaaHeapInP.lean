/- Package heap's laws: what comes in, opened. No condition. -/
import Derived.Test.YtjianllngobhhaaHeapB
import Derived.ChangeArms
import Derived.DataReads
import Derived.WideShapes
import Derived.Deep.Slices
namespace Go.Proofs.Ytjianllngobhhaa
open Go.RowKit Go.Deep Go.WideShapes Go.ChangeShapes
set_option linter.unusedVariables false
set_option linter.unusedSimpArgs false
set_option maxRecDepth 100000
open Hp
theorem cellsP : Try.prog.cellsOf 31 = 4 := by kernel_rfl
theorem cellsI2 : Try.prog.cellsOf 32 = 2 := by kernel_rfl
theorem in64_of {n : Int} (h : (Lit.int .i64 n).wf = true) : in64 n := by
  have : IntKind.i64.min ≤ n ∧ n ≤ IntKind.i64.max := by simpa [Lit.wf] using h
  simp [IntKind.min, IntKind.max, IntKind.signed, IntKind.bits] at this
  exact this
theorem u8_of {n : Int} (h : (Lit.int .u8 n).wf = true) : 0 ≤ n ∧ n < 256 := by
  have : IntKind.u8.min ≤ n ∧ n ≤ IntKind.u8.max := by simpa [Lit.wf] using h
  simp [IntKind.min, IntKind.max, IntKind.signed, IntKind.bits] at this
  omega
theorem u64_of {n : Int} (h : (Lit.int .u64 n).wf = true) : 0 ≤ n ∧ n ≤ 18446744073709551615 := by
  have : IntKind.u64.min ≤ n ∧ n ≤ IntKind.u64.max := by simpa [Lit.wf] using h
  simp [IntKind.min, IntKind.max, IntKind.signed, IntKind.bits] at this
  omega
theorem runsP : ∃ fs : Array Field, Try.prog.underlying 31 = some (.struct fs) ∧ fs.toList.map (fun f => (f.type, f.offset)) = [(3, 0), (3, 1), (3, 2), (3, 3)] := ⟨_, Try.underlying31, by kernel_rfl⟩
section
variable {H : Type} {enc : TypeId × Value → H} {w : World} {sp : Nat → Bool} {held : Bool} {fuel : Nat} {cs : List Value} {x : DataW H × List MemPlace}
theorem field_of {t : TypeId} {l : List (TypeId × Nat)} (hr : ∃ fs : Array Field, Try.prog.underlying t = some (.struct fs) ∧ fs.toList.map (fun f => (f.type, f.offset)) = l) (h : DataW.trod enc Try.prog w 0 sp held fuel t cs = some x) :
    cs.length = Try.prog.cellsOf t ∧ ∀ (i : Nat) (ty : TypeId) (off : Nat), l[i]? = some (ty, off) → ∃ n y, DataW.trod enc Try.prog w 0 sp held n ty ((cs.drop off).take (Try.prog.cellsOf ty)) = some y := by
  obtain ⟨fs, hu, hfs⟩ := hr
  obtain ⟨xs, n, rfl, hx, hl, hxs, hall⟩ := DataW.trod_struct hu h
  refine ⟨hl, fun i ty off hi => ?_⟩
  rw [← hfs, List.getElem?_map] at hi
  cases hf : fs.toList[i]? with
  | none => rw [hf] at hi; cases hi
  | some f =>
    rw [hf] at hi
    simp only [Option.map_some, Option.some.injEq, Prod.mk.injEq] at hi
    obtain ⟨rfl, rfl⟩ := hi
    have hf' : fs[i]? = some f := by simpa using hf
    have := hall i f hf'
    have hlt : i < fs.size := (Array.getElem?_eq_some_iff.1 hf').1
    cases hxi : xs[i]? with
    | none => rw [List.getElem?_eq_none_iff] at hxi; omega
    | some y => exact ⟨n, y, this.trans hxi⟩
theorem list4 (l : List Value) (h : l.length = 4) : ∃ a b c d, l = [a, b, c, d] := by
  match l, h with
  | [a, b, c, d], _ => exact ⟨a, b, c, d, rfl⟩
theorem list2 (l : List Value) (h : l.length = 2) : ∃ a b, l = [a, b] := by
  match l, h with
  | [a, b], _ => exact ⟨a, b, rfl⟩
theorem list3 (l : List Value) (h : l.length = 3) : ∃ a b c, l = [a, b, c] := by
  match l, h with
  | [a, b, c], _ => exact ⟨a, b, c, rfl⟩
theorem ptr_of (h : DataW.trod enc Try.prog w 0 sp held fuel 31 cs = some x) : ∃ p : Ptr, cs = [.int .i64 p.bl, .int .i64 p.off, .int .i64 p.lo, .int .i64 p.hi] ∧ p.ok := by
  obtain ⟨hl, hf⟩ := field_of runsP h
  rw [cellsP] at hl
  obtain ⟨c0, c1, c2, c3, rfl⟩ := list4 cs hl
  obtain ⟨n0, y0, h0⟩ := hf 0 _ _ rfl
  obtain ⟨n1, y1, h1⟩ := hf 1 _ _ rfl
  obtain ⟨n2, y2, h2⟩ := hf 2 _ _ rfl
  obtain ⟨n3, y3, h3⟩ := hf 3 _ _ rfl
  rw [cellsI] at h0 h1 h2 h3
  obtain ⟨a, e0, -, w0⟩ := DataW.trod_int Try.underlying3 h0
  obtain ⟨b, e1, -, w1⟩ := DataW.trod_int Try.underlying3 h1
  obtain ⟨c, e2, -, w2⟩ := DataW.trod_int Try.underlying3 h2
  obtain ⟨d, e3, -, w3⟩ := DataW.trod_int Try.underlying3 h3
  simp at e0 e1 e2 e3
  subst e0 e1 e2 e3
  exact ⟨⟨a, b, c, d⟩, rfl, in64_of w0, in64_of w1, in64_of w2, in64_of w3⟩
theorem arr_of {t : TypeId} {n : Nat} (ht : Try.prog.underlying t = some (.array n 3)) (h : DataW.trod enc Try.prog w 0 sp held fuel t cs = some x) : cs.length = Try.prog.cellsOf t ∧ ∀ i, i < n → ∃ a, ((cs.drop i).take 1) = [.int .i64 a] ∧ in64 a := by
  obtain ⟨xs, m, rfl, hx, hl, hxs, hall⟩ := DataW.trod_array ht h
  refine ⟨hl, fun i hi => ?_⟩
  have := hall i hi
  rw [cellsI, Nat.mul_one] at this
  cases hxi : xs[i]? with
  | none => rw [List.getElem?_eq_none_iff] at hxi; omega
  | some y =>
    rw [hxi] at this
    obtain ⟨a, e0, -, w0⟩ := DataW.trod_int Try.underlying3 this
    exact ⟨a, e0, in64_of w0⟩
end
section
variable {H : Type} {enc : TypeId × Value → H} {W : World} {base : Nat} {v : Value} {d : DataW H} {ps : List MemPlace}
theorem ptr_in (hv : Value.okWide Try.prog W .any base 31 v) (h : DataW.Trod enc Try.prog W 0 (fun _ => true) true 31 v d ps) : ∃ p : Ptr, v = p.v ∧ p.ok := by
  obtain ⟨cs, rfl, hsz⟩ := okWide_struct Try.underlying31 hv
  obtain ⟨fuel, hf⟩ := h
  obtain ⟨p, hc, hp⟩ := ptr_of hf
  refine ⟨p, ?_, hp⟩
  simp only [Value.cells] at hc
  obtain ⟨l⟩ := cs
  simp at hc
  subst hc
  rfl
theorem arr2_in (hv : Value.okWide Try.prog W .any base 32 v) (h : DataW.Trod enc Try.prog W 0 (fun _ => true) true 32 v d ps) : ∃ a b : Int, v = .agg #[.int .i64 a, .int .i64 b] ∧ in64 a ∧ in64 b := by
  obtain ⟨cs, rfl, hsz, _⟩ : ∃ cs, v = .agg cs ∧ cs.size = Try.prog.cellsOf 32 ∧ Row.okWide Try.prog W .any base 32 cs := by
    simpa [Value.okWide, Try.underlying32] using hv
  obtain ⟨fuel, hf⟩ := h
  obtain ⟨hl, hi⟩ := arr_of Try.underlying32 hf
  rw [cellsI2] at hl
  obtain ⟨l⟩ := cs
  simp only [Value.cells] at hl hi
  obtain ⟨c0, c1, rfl⟩ := list2 l hl
  obtain ⟨a, ea, wa⟩ := hi 0 (by omega)
  obtain ⟨b, eb, wb⟩ := hi 1 (by omega)
  simp at ea eb
  subst ea eb
  exact ⟨a, b, rfl, wa, wb⟩
end
end Go.Proofs.Ytjianllngobhhaa
