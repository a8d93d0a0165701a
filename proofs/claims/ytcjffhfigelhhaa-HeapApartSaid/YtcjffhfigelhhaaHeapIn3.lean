/- Package heap's laws: pairs that come in. No condition. -/
import Derived.Test.YtcjffhfigelhhaaHeapIn
import Derived.Deep.MidRow
namespace Go.Proofs.Ytcjffhfigelhhaa
open Go.RowKit Go.Deep Go.WideShapes Go.ChangeShapes
set_option linter.unusedVariables false
set_option linter.unusedSimpArgs false
set_option maxRecDepth 100000
open Hp
theorem cellsB8 : Try.prog.cellsOf 5 = 1 := by kernel_rfl
theorem cellsQ8 : Try.prog.cellsOf 75 = 2 := by kernel_rfl
section
variable {H : Type} {enc : TypeId × Value → H} {w : World} {sp : Nat → Bool} {held : Bool} {fuel : Nat} {cs : List Value} {x : DataW H × List MemPlace}
theorem q_of (h : DataW.trod enc Try.prog w 0 sp held fuel 75 cs = some x) : ∃ p : Int × Int, cs = [.int .u8 p.1, .int .u8 p.2] ∧ 0 ≤ p.1 ∧ p.1 < 256 ∧ 0 ≤ p.2 ∧ p.2 < 256 := by
  obtain ⟨xs, m, rfl, hx, hl, hxs, hall⟩ := DataW.trod_array Try.underlying75 h
  rw [cellsQ8] at hl
  obtain ⟨c0, c1, rfl⟩ := list2 cs hl
  have g : ∀ i, i < 2 → ∃ a, (([c0, c1].drop i).take 1) = [.int .u8 a] ∧ 0 ≤ a ∧ a < 256 := fun i hi => by
    have := hall i hi
    rw [cellsB8, Nat.mul_one] at this
    cases hxi : xs[i]? with
    | none => rw [List.getElem?_eq_none_iff] at hxi; omega
    | some y =>
      rw [hxi] at this
      obtain ⟨a, e0, -, w0⟩ := DataW.trod_int Try.underlying5 this
      exact ⟨a, e0, u8_of w0⟩
  obtain ⟨a, ea, wa⟩ := g 0 (by omega)
  obtain ⟨b, eb, wb⟩ := g 1 (by omega)
  simp at ea eb
  subst ea eb
  exact ⟨(a, b), rfl, wa.1, wa.2, wb.1, wb.2⟩
theorem list_of {α : Type} (d : α) (p : Nat → α → Prop) (n : Nat) (h : ∀ k, k < n → ∃ a, p k a) : ∃ l : List α, l.length = n ∧ ∀ k, k < n → p k (l.getD k d) := by
  induction n with
  | zero => exact ⟨[], rfl, fun k hk => by omega⟩
  | succ n ih =>
    obtain ⟨l, hl, hp⟩ := ih fun k hk => h k (by omega)
    obtain ⟨a, ha⟩ := h n (by omega)
    refine ⟨l ++ [a], by simp [hl], fun k hk => ?_⟩
    by_cases hkn : k < n
    · have e : (l ++ [a]).getD k d = l.getD k d := by simp only [List.getD_eq_getElem?_getD]; rw [List.getElem?_append_left (by omega)]
      rw [e]; exact hp k hkn
    · obtain rfl : k = n := by omega
      have e : (l ++ [a]).getD k d = a := by simp only [List.getD_eq_getElem?_getD]; rw [List.getElem?_append_right (by omega)]; simp [hl]
      rw [e]; exact ha
/-- Cells at an address are a range. -/
theorem spot_of {a : Addr} {n : Nat} {l : List Value} (hl : 0 < l.length) (h : w.cells? 0 (a.add (0 * n)) n = some l) : ∃ g o, a = ⟨g, o, none⟩ ∧ g < w.heap.size := by
  rw [Nat.zero_mul] at h
  obtain ⟨-, hlen, hc⟩ := World.cells?_some h
  obtain ⟨g, o, spot⟩ := a
  have h0 := hc 0 (by omega)
  rw [List.getElem?_eq_getElem hl] at h0
  have hs : spot = none := by simpa [Addr.add] using World.cell?_spot h0
  subst hs
  refine ⟨g, o, rfl, ?_⟩
  have := World.block_lt_of_cell? w _ h0
  simpa [Addr.add] using this
theorem range_at {g o m n : Nat} {l : List Value} (h : w.cells? 0 ((⟨g, o, none⟩ : Addr).add m) n = some l) : w.rangeAt g (o + m) l := by
  obtain ⟨-, hlen, hc⟩ := World.cells?_some h
  intro j v hj
  have hjl : j < l.length := (List.getElem?_eq_some_iff.1 hj).1
  have := hc j (by omega)
  rw [hj] at this
  rw [add_plain, add_plain] at this
  exact this
theorem qs_of (h : DataW.trod enc Try.prog w 0 sp held fuel 72 cs = some x) : ∃ (A : Option Addr) (c : Nat) (ks : List (Int × Int)), cs = [.slice A ks.length c] ∧ ks.length ≤ c ∧ c ≤ maxLen ∧
    (0 < ks.length → ∃ g o, A = some ⟨g, o, none⟩ ∧ g < w.heap.size ∧ ∀ j, j < ks.length → w.rangeAt g (o + 2 * j) [.int .u8 (ks.getD j (0, 0)).1, .int .u8 (ks.getD j (0, 0)).2]) ∧ ∀ k ∈ ks, 0 ≤ k.1 ∧ k.1 < 256 ∧ 0 ≤ k.2 ∧ k.2 < 256 := by
  rcases open_slice Try.underlying72 h with ⟨rfl, -⟩ | ⟨a, len, cap, m, n, D, Pl, rfl, -, hl, hm, hmm, -, hx⟩
  · exact ⟨none, 0, [], rfl, Nat.le_refl _, Nat.zero_le _, fun h0 => by simp at h0, fun k hk => by simp at hk⟩
  · have hlm : len ≤ m := by rw [hmm]; split <;> omega
    have hex : ∀ k, k < len → ∃ f : Int × Int, w.cells? 0 (a.add (k * 2)) 2 = some [.int .u8 f.1, .int .u8 f.2] ∧ 0 ≤ f.1 ∧ f.1 < 256 ∧ 0 ≤ f.2 ∧ f.2 < 256 := fun k hk => by
      obtain ⟨cs', h1, h2⟩ := hx k (by omega)
      obtain ⟨f, rfl, hf⟩ := q_of h2
      rw [cellsQ8] at h1
      exact ⟨f, h1, hf⟩
    obtain ⟨fs, hfl, hp⟩ := list_of (0, 0) _ len hex
    refine ⟨some a, cap, fs, by rw [hfl], by omega, hm, fun h0 => ?_, fun k hk => ?_⟩
    · obtain ⟨g, o, rfl, hg⟩ := spot_of (by simp) (hp 0 (by omega)).1
      exact ⟨g, o, rfl, hg, fun k hk => by rw [Nat.mul_comm]; exact range_at (hp k (by omega)).1⟩
    · obtain ⟨i, hi, rfl⟩ := List.mem_iff_getElem.1 hk
      have := (hp i (by omega)).2
      rwa [List.getD_eq_getElem?_getD, List.getElem?_eq_getElem hi, Option.getD_some] at this
end
theorem qs_in {H : Type} {enc : TypeId × Value → H} {W : World} {base : Nat} {v : Value} {d : DataW H} {ps : List MemPlace} (hv : Value.okWide Try.prog W .any base 72 v) (h : DataW.Trod enc Try.prog W 0 (fun _ => true) true 72 v d ps) : ∃ (A : Option Addr) (c : Nat) (ks : List (Int × Int)), v = .slice A ks.length c ∧ ks.length ≤ c ∧ c ≤ maxLen ∧
    (0 < ks.length → ∃ g o, A = some ⟨g, o, none⟩ ∧ g < W.heap.size ∧ ∀ j, j < ks.length → W.rangeAt g (o + 2 * j) [.int .u8 (ks.getD j (0, 0)).1, .int .u8 (ks.getD j (0, 0)).2]) ∧ ∀ k ∈ ks, 0 ≤ k.1 ∧ k.1 < 256 ∧ 0 ≤ k.2 ∧ k.2 < 256 := by
  obtain ⟨a0, len, cap, rfl⟩ := okWide_slice Try.underlying72 hv
  obtain ⟨fuel, hf⟩ := h
  obtain ⟨A, c, ks, e, r⟩ := qs_of hf
  simp [Value.cells] at e
  obtain ⟨rfl, rfl, rfl⟩ := e
  exact ⟨_, _, ks, rfl, r⟩
end Go.Proofs.Ytcjffhfigelhhaa
