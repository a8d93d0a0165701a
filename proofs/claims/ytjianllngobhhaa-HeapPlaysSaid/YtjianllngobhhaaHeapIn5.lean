/- Package heap's laws: calls to be played that come in. No condition. -/
import Derived.Test.YtjianllngobhhaaHeapInP
import Derived.Test.YtjianllngobhhaaHeapPl
namespace Go.Proofs.Ytjianllngobhhaa
open Go.RowKit Go.Deep Go.WideShapes Go.ChangeShapes
set_option linter.unusedVariables false
set_option linter.unusedSimpArgs false
set_option maxRecDepth 100000
open Hp
theorem cellsOp : Try.prog.cellsOf 37 = 16 := by kernel_rfl
theorem cellsVal : Try.prog.cellsOf 35 = 5 := by kernel_rfl
theorem cellsU64 : Try.prog.cellsOf 33 = 1 := by kernel_rfl
theorem cellsBool : Try.prog.cellsOf 4 = 1 := by kernel_rfl
theorem runsOp : ∃ fs : Array Field, Try.prog.underlying 37 = some (.struct fs) ∧ fs.toList.map (fun f => (f.type, f.offset)) = [(3, 0), (3, 1), (3, 2), (3, 3), (4, 4), (31, 5), (32, 9), (35, 11)] := ⟨_, Try.underlying37, by kernel_rfl⟩
theorem runsVal : ∃ fs : Array Field, Try.prog.underlying 35 = some (.struct fs) ∧ fs.toList.map (fun f => (f.type, f.offset)) = [(33, 0), (31, 1)] := ⟨_, Try.underlying35, by kernel_rfl⟩
theorem list16 (l : List Value) (h : l.length = 16) : ∃ a0 a1 a2 a3 a4 a5 a6 a7 a8 a9 b0 b1 b2 b3 b4 b5, l = [a0, a1, a2, a3, a4, a5, a6, a7, a8, a9, b0, b1, b2, b3, b4, b5] := by
  match l, h with
  | [a0, a1, a2, a3, a4, a5, a6, a7, a8, a9, b0, b1, b2, b3, b4, b5], _ => exact ⟨a0, a1, a2, a3, a4, a5, a6, a7, a8, a9, b0, b1, b2, b3, b4, b5, rfl⟩
theorem list5 (l : List Value) (h : l.length = 5) : ∃ a0 a1 a2 a3 a4, l = [a0, a1, a2, a3, a4] := by
  match l, h with
  | [a0, a1, a2, a3, a4], _ => exact ⟨a0, a1, a2, a3, a4, rfl⟩
section
variable {H : Type} {enc : TypeId × Value → H} {w : World} {sp : Nat → Bool} {held : Bool} {fuel : Nat} {cs : List Value} {x : DataW H × List MemPlace}
theorem list_of {α : Type} (d : α) (p : Nat → α → Prop) (n : Nat) (h : ∀ k, k < n → ∃ a, p k a) : ∃ l : List α, l.length = n ∧ ∀ k, k < n → p k (l.getD k d) := by
  induction n with
  | zero => exact ⟨[], rfl, fun k hk => by omega⟩
  | succ n ih =>
    obtain ⟨l, hl, hp⟩ := ih fun k hk => h k (by omega)
    obtain ⟨a, ha⟩ := h n (by omega)
    refine ⟨l ++ [a], by simp [hl], fun k hk => ?_⟩
    by_cases hkn : k < n
    · have e : (l ++ [a]).getD k d = l.getD k d := by simp only [List.getD_eq_getElem?_getD]; rw [List.getElem?_append_left (by omega)]
      rw [e]; exact hp k hkn
    · obtain rfl : k = n := by omega
      have e : (l ++ [a]).getD k d = a := by simp only [List.getD_eq_getElem?_getD]; rw [List.getElem?_append_right (by omega)]; simp [hl]
      rw [e]; exact ha
/-- Cells at an address are a range. -/
theorem spot_of {a : Addr} {n : Nat} {l : List Value} (hl : 0 < l.length) (h : w.cells? 0 (a.add (0 * n)) n = some l) : ∃ g o, a = ⟨g, o, none⟩ ∧ g < w.heap.size := by
  rw [Nat.zero_mul] at h
  obtain ⟨-, hlen, hc⟩ := World.cells?_some h
  obtain ⟨g, o, spot⟩ := a
  have h0 := hc 0 (by omega)
  rw [List.getElem?_eq_getElem hl] at h0
  have hs : spot = none := by simpa [Addr.add] using World.cell?_spot h0
  subst hs
  refine ⟨g, o, rfl, ?_⟩
  have := World.block_lt_of_cell? w _ h0
  simpa [Addr.add] using this
theorem range_at {g o m n : Nat} {l : List Value} (h : w.cells? 0 ((⟨g, o, none⟩ : Addr).add m) n = some l) : w.rangeAt g (o + m) l := by
  obtain ⟨-, hlen, hc⟩ := World.cells?_some h
  intro j v hj
  have hjl : j < l.length := (List.getElem?_eq_some_iff.1 hj).1
  have := hc j (by omega)
  rw [hj] at this
  rw [add_plain, add_plain] at this
  exact this
theorem val_of (h : DataW.trod enc Try.prog w 0 sp held fuel 35 cs = some x) : ∃ v : Val, cs = [.int .u64 v.num, .int .i64 v.p.bl, .int .i64 v.p.off, .int .i64 v.p.lo, .int .i64 v.p.hi] := by
  obtain ⟨hl, hf⟩ := field_of runsVal h
  rw [cellsVal] at hl
  obtain ⟨c0, c1, c2, c3, c4, rfl⟩ := list5 cs hl
  obtain ⟨n0, y0, h0⟩ := hf 0 _ _ rfl
  obtain ⟨n1, y1, h1⟩ := hf 1 _ _ rfl
  rw [cellsU64] at h0
  rw [cellsP] at h1
  obtain ⟨a, e0, -, w0⟩ := DataW.trod_int Try.underlying33 h0
  obtain ⟨p, e1, hp⟩ := ptr_of h1
  simp at e0 e1
  obtain ⟨rfl, rfl, rfl, rfl⟩ := e1
  subst e0
  exact ⟨⟨a, p⟩, rfl⟩
theorem op_of (h : DataW.trod enc Try.prog w 0 sp held fuel 37 cs = some x) : ∃ o : Opv, cs = o.l ∧ o.ok := by
  obtain ⟨hl, hf⟩ := field_of runsOp h
  rw [cellsOp] at hl
  obtain ⟨a0, a1, a2, a3, a4, a5, a6, a7, a8, a9, b0, b1, b2, b3, b4, b5, rfl⟩ := list16 cs hl
  obtain ⟨n0, y0, h0⟩ := hf 0 _ _ rfl
  obtain ⟨n1, y1, h1⟩ := hf 1 _ _ rfl
  obtain ⟨n2, y2, h2⟩ := hf 2 _ _ rfl
  obtain ⟨n3, y3, h3⟩ := hf 3 _ _ rfl
  obtain ⟨n4, y4, h4⟩ := hf 4 _ _ rfl
  obtain ⟨n5, y5, h5⟩ := hf 5 _ _ rfl
  obtain ⟨n6, y6, h6⟩ := hf 6 _ _ rfl
  obtain ⟨n7, y7, h7⟩ := hf 7 _ _ rfl
  rw [cellsI] at h0 h1 h2 h3
  rw [cellsBool] at h4
  rw [cellsP] at h5
  rw [cellsI2] at h6
  rw [cellsVal] at h7
  obtain ⟨q0, e0, -, w0⟩ := DataW.trod_int Try.underlying3 h0
  obtain ⟨q1, e1, -, w1⟩ := DataW.trod_int Try.underlying3 h1
  obtain ⟨q2, e2, -, w2⟩ := DataW.trod_int Try.underlying3 h2
  obtain ⟨q3, e3, -, w3⟩ := DataW.trod_int Try.underlying3 h3
  obtain ⟨q4, e4, -⟩ := DataW.trod_bool Try.underlying4 h4
  obtain ⟨p, e5, hp⟩ := ptr_of h5
  obtain ⟨hl6, hi6⟩ := arr_of Try.underlying32 h6
  obtain ⟨qa, ea, wa⟩ := hi6 0 (by omega)
  obtain ⟨qb, eb, wb⟩ := hi6 1 (by omega)
  obtain ⟨v, e7⟩ := val_of h7
  simp at e0 e1 e2 e3 e4 e5 ea eb e7
  obtain ⟨rfl, rfl, rfl, rfl⟩ := e5
  obtain ⟨rfl, rfl, rfl, rfl, rfl⟩ := e7
  subst e0 e1 e2 e3 e4 ea eb
  exact ⟨⟨q0, q1, q2, q3, q4, p, qa, qb, v⟩, rfl, in64_of w0, in64_of w1, in64_of w2, in64_of w3, hp, wa, wb⟩
theorem ops_of (h : DataW.trod enc Try.prog w 0 sp held fuel 22 cs = some x) : ∃ (A : Option Addr) (c : Nat) (ks : List Opv), cs = [.slice A ks.length c] ∧ ks.length ≤ c ∧ c ≤ maxLen ∧
    (0 < ks.length → ∃ g o, A = some ⟨g, o, none⟩ ∧ g < w.heap.size ∧ ∀ j, j < ks.length → w.rangeAt g (o + j * 16) (ks.getD j op0).l) ∧ ∀ k ∈ ks, k.ok := by
  rcases open_slice Try.underlying22 h with ⟨rfl, -⟩ | ⟨a, len, cap, m, n, D, Pl, rfl, -, hl, hm, hmm, -, hx⟩
  · exact ⟨none, 0, [], rfl, Nat.le_refl _, Nat.zero_le _, fun h0 => by simp at h0, fun k hk => by simp at hk⟩
  · have hlm : len ≤ m := by rw [hmm]; split <;> omega
    have hex : ∀ k, k < len → ∃ f : Opv, w.cells? 0 (a.add (k * 16)) 16 = some f.l ∧ f.ok := fun k hk => by
      obtain ⟨cs', h1, h2⟩ := hx k (by omega)
      obtain ⟨f, rfl, hf⟩ := op_of h2
      rw [cellsOp] at h1
      exact ⟨f, h1, hf⟩
    obtain ⟨fs, hfl, hp⟩ := list_of op0 _ len hex
    refine ⟨some a, cap, fs, by rw [hfl], by omega, hm, fun h0 => ?_, fun k hk => ?_⟩
    · obtain ⟨g, o, rfl, hg⟩ := spot_of (by simp [Opv.l]) (hp 0 (by omega)).1
      exact ⟨g, o, rfl, hg, fun k hk => range_at (hp k (by omega)).1⟩
    · obtain ⟨i, hi, rfl⟩ := List.mem_iff_getElem.1 hk
      have := (hp i (by omega)).2
      rwa [List.getD_eq_getElem?_getD, List.getElem?_eq_getElem hi, Option.getD_some] at this
end
theorem ops_in {H : Type} {enc : TypeId × Value → H} {W : World} {base : Nat} {v : Value} {d : DataW H} {ps : List MemPlace} (hv : Value.okWide Try.prog W .any base 22 v) (h : DataW.Trod enc Try.prog W 0 (fun _ => true) true 22 v d ps) : ∃ (A : Option Addr) (c : Nat) (ks : List Opv), v = .slice A ks.length c ∧ ks.length ≤ c ∧ c ≤ maxLen ∧
    (0 < ks.length → ∃ g o, A = some ⟨g, o, none⟩ ∧ g < W.heap.size ∧ ∀ j, j < ks.length → W.rangeAt g (o + j * 16) (ks.getD j op0).l) ∧ ∀ k ∈ ks, k.ok := by
  obtain ⟨a0, len, cap, rfl⟩ := okWide_slice Try.underlying22 hv
  obtain ⟨fuel, hf⟩ := h
  obtain ⟨A, c, ks, e, r⟩ := ops_of hf
  simp [Value.cells] at e
  obtain ⟨rfl, rfl, rfl⟩ := e
  exact ⟨_, _, ks, rfl, r⟩
end Go.Proofs.Ytjianllngobhhaa
