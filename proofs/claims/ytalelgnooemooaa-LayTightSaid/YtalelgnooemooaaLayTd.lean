/- Numbers that came in as a slice. Conditions: each theorem's. -/
import Derived.Test.YtalelgnooemooaaLayTb
import Derived.Test.YtalelgnooemooaaLayS
import Derived.ChangeSlices
namespace Go.Proofs.Ytalelgnooemooaa
open Go.ChangeShapes Go.WideShapes Go.ChangeAt Go.RowKit Go.Maps
set_option linter.unusedVariables false
set_option linter.unusedSimpArgs false
set_option maxRecDepth 100000
open Py
theorem cellsU8 : Try.prog.cellsOf 5 = 1 := by kernel_rfl
theorem wf_of {k : IntKind} {n : Int} (h : (Lit.int k n).wf = true) : k.min ≤ n ∧ n ≤ k.max := by simpa [Lit.wf] using h
theorem u8_of {n : Int} (h : (Lit.int .u8 n).wf = true) : 0 ≤ n ∧ n < 256 := by have := wf_of h; simp [IntKind.min, IntKind.max, IntKind.signed, IntKind.bits] at this; omega
/-- A slice of integers that came in. -/
def NumsIn (w : World) (k : IntKind) (A : Option Addr) (xs : List Int) : Prop := 0 < xs.length → ∃ g o, A = some ⟨g, o, none⟩ ∧ g < w.heap.size ∧ ∀ j, j < xs.length → w.cell? ⟨g, o + j, none⟩ = some (.int k (xs.getD j 0))
theorem nums_in {H : Type} {enc : TypeId × Value → H} {W : World} {base : Nat} {t e : TypeId} {k : IntKind} {v : Value} {d : DataW H} {ps : List MemPlace} (ht : Try.prog.underlying t = some (.slice e)) (he : Try.prog.underlying e = some (.int k)) (hc : Try.prog.cellsOf e = 1)
    (hv : Value.okWide Try.prog W .any base t v) (h : DataW.Trod enc Try.prog W 0 (fun _ => true) true t v d ps) : ∃ (A : Option Addr) (c : Nat) (xs : List Int), v = .slice A xs.length c ∧ xs.length ≤ c ∧ c ≤ maxLen ∧ (∀ n ∈ xs, (Lit.int k n).wf = true) ∧ NumsIn W k A xs := by
  obtain ⟨a0, len, cap, rfl⟩ := okWide_slice ht hv
  obtain ⟨fuel, hf⟩ := h
  rcases open_ints ht he hc hf with ⟨hcs, hx⟩ | ⟨a, len', cap', zs, hcs, _, hl, hm, hz, hx, hcell, hwz⟩
  · simp [Value.cells] at hcs
    obtain ⟨rfl, rfl, rfl⟩ := hcs
    exact ⟨none, 0, [], rfl, Nat.le_refl _, Nat.zero_le _, fun n hn => by simp at hn, fun h0 => by simp at h0⟩
  · simp [Value.cells] at hcs
    obtain ⟨rfl, rfl, rfl⟩ := hcs
    simp only [if_true] at hz
    have hlen : (zs.take len).length = len := by rw [List.length_take]; omega
    refine ⟨some a, cap, zs.take len, by rw [hlen], by rw [hlen]; exact hl, hm, fun n hn => hwz n (List.mem_of_mem_take hn), fun h0 => ?_⟩
    obtain ⟨g, o, rfl, hc2⟩ := ints_at hcell (by omega)
    refine ⟨g, o, rfl, World.block_lt_of_cell? W _ (hc2 0 (by omega)), fun j hj => ?_⟩
    rw [hc2 j (by omega)]
    have hj' : j < len := by omega
    simp [List.getD_eq_getElem?_getD, List.getElem?_take, hj']
theorem ks_of {w : World} {A : Option Addr} {xs : List Int} (h : NumsIn w .u8 A xs) (hwf : ∀ n ∈ xs, (Lit.int .u8 n).wf = true) : KsAt w A (xs.map Int.toNat) := fun h0 => by
  rw [List.length_map] at h0
  obtain ⟨g, o, rfl, hg, hc⟩ := h h0
  refine ⟨g, o, rfl, hg, fun j hj => ?_⟩
  rw [List.length_map] at hj
  have e : (xs.map Int.toNat).getD j 0 = (xs.getD j 0).toNat := by simp [List.getD, hj]
  have hm : xs.getD j 0 ∈ xs := by rw [List.getD_eq_getElem?_getD, List.getElem?_eq_getElem hj]; exact List.getElem_mem hj
  have hb := u8_of (hwf _ hm)
  rw [e, hc j hj]
  exact ⟨by omega, by congr 2; omega⟩
end Go.Proofs.Ytalelgnooemooaa
