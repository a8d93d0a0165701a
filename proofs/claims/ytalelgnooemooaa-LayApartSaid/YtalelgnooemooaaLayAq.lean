/- What LayApart meets: the cells, their sizes, in one. Conditions: right structs, of their Go types. -/
import Derived.Test.YtalelgnooemooaaLayAp
import Derived.Test.YtalelgnooemooaaLayCd
import Derived.Test.YtalelgnooemooaaLayCe
import Derived.Test.YtalelgnooemooaaLayCa
import Derived.Test.YtalelgnooemooaaLayCb
namespace Go.Proofs.Ytalelgnooemooaa
open Go.RowKit Go.Maps Go.WideShapes
set_option linter.unusedVariables false
set_option linter.unusedSimpArgs false
set_option maxRecDepth 10000
open Py
/-- lay.Size answers z of t, in any world that has the structs. -/
def SzIs (l : List Sc) (c : Nat) (t : Ty) (z : Int) : Prop := ∀ (W : World) (B : Nat) (A : Option Addr), ScsAt W B A l → B ≤ W.heap.size → Calls Try.prog 10 #[.slice A l.length c, .agg #[.int .i64 t.ba, .int .i64 t.st, .string t.sn]] W fun e w' => e = .returned (.tuple #[.int .i64 z, .int .i64 0]) ∧ Below W.heap.size W w'
def ClIs (l : List Sc) (c : Nat) (t : Ty) (n ec : Int) (C : List Cl) : Prop := ∀ (W : World) (B : Nat) (A : Option Addr), ScsAt W B A l → B ≤ W.heap.size → Calls Try.prog 8 #[.slice A l.length c, .agg #[.int .i64 t.ba, .int .i64 t.st, .string t.sn], .int .i64 n] W fun e w' => ∃ v, e = .returned (.tuple #[v, .int .i64 ec]) ∧ ClsAt w' W.heap.size v C ∧ Below W.heap.size W w'
structure ApIs (l : List Sc) (c : Nat) (t : Ty) (n : Int) (C : List Cl) (m : Nat) (z : Int) : Prop where
  nm : n = m
  mm : m ≤ 500
  zz : 0 ≤ z ∧ z ≤ 1073741824
  md : (C.length : Int) % (m : Int) = 0
  ap : AllAp (m * z) C
  sz : SzIs l c t z
  all : ∀ k, k < C.length → whole (C.getD k cl0).ty = false ∧ (C.getD k cl0).off ≤ 1000000000000 ∧ sizeV (C.getD k cl0).ty ≤ 8 ∧ SzIs l c (C.getD k cl0).ty (sizeV (C.getD k cl0).ty)
theorem ap_some {l : List Sc} {c m : Nat} (t : Ty) (z : Int) (C : List Cl) (h0 : 0 < C.length) (hm : m ≤ 500) (hz : 0 ≤ z ∧ z ≤ 1073741824) (ho : OneAp z C) (hs : SzIs l c t z) (ha : ∀ j, j < C.length → whole (C.getD j cl0).ty = false ∧ sizeV (C.getD j cl0).ty ≤ 8 ∧ SzIs l c (C.getD j cl0).ty (sizeV (C.getD j cl0).ty)) : ApIs l c t m (allC z C m) m z := by
  have hap := allAp m h0 hz.1 ho
  refine ⟨rfl, hm, hz, by rw [allC_len, Int.natCast_mul]; exact Int.mul_emod_right _ _, hap, hs, fun k hk => ?_⟩
  have hk' := hk
  rw [allC_len] at hk'
  obtain ⟨j, hj, e⟩ := allC_mem z C m k hk'
  have h4 := (hap k hk).2.2.2.1
  have h1 := (hap k hk).1
  have hmz : (m : Int) * z ≤ 500 * 1073741824 := Int.mul_le_mul (by omega) hz.2 hz.1 (by omega)
  obtain ⟨a, b, d⟩ := ha j hj
  rw [← e] at a b d
  exact ⟨a, by omega, b, d⟩
theorem cells_apart {l : List Sc} {c : Nat} (t : Ty) (n : Int) (ht : tyOk t) (hok : ScsOk l) (hl : l.length ≤ 40) (hR : ∀ i, i < l.length → sIdx l (l.getD i sc0).nm = i ∧ 0 < (l.getD i sc0).fs.length ∧ (l.getD i sc0).fs.length ≤ 12 ∧ ∀ k, k < (l.getD i sc0).fs.length → fIdx (l.getD i sc0).fs ((l.getD i sc0).fs.getD k fd0).nm = k ∧ mayBe l ((l.getD i sc0).fs.getD k fd0).ty = true) :
    ∃ (C : List Cl) (ec : Int), ClIs l c t n ec C ∧ (ec ≠ 0 ∧ C = [] ∧ (Lit.int .i64 ec).wf = true ∨ ec = 0 ∧ C.length ≤ 1000000 ∧ ∃ m z, ApIs l c t n C m z) := by
  have hl' : l.length ≤ 1099511627776 := by omega
  by_cases hn : n < 0 ∨ 500 < n
  · exact ⟨[], 1, fun W B A hS hB => (cells_range t n hn).mono fun e w' h => ⟨_, h.1, ⟨rfl, .inl ⟨rfl, rfl⟩⟩, h.2⟩, .inl ⟨by decide, rfl, by decide⟩⟩
  obtain ⟨m, rfl⟩ : ∃ m : Nat, n = m := ⟨n.toNat, by omega⟩
  have hm : m ≤ 500 := by omega
  have hno : (∀ (W : World) (B : Nat) (A : Option Addr), ScsAt W B A l → B ≤ W.heap.size → Calls Try.prog 10 #[.slice A l.length c, .agg #[.int .i64 t.ba, .int .i64 t.st, .string t.sn]] W fun e w' => e = .returned (.tuple #[.int .i64 0, .int .i64 14]) ∧ Below W.heap.size W w') → ∃ (C : List Cl) (ec : Int), ClIs l c t m ec C ∧ (ec ≠ 0 ∧ C = [] ∧ (Lit.int .i64 ec).wf = true ∨ ec = 0 ∧ C.length ≤ 1000000 ∧ ∃ m' z, ApIs l c t m C m' z) := fun h1 =>
    ⟨[], 14, fun W B A hS hB => (cells_no t m hS hB (by omega) (fun W hS hB => h1 W B A hS hB)).mono fun e w' h => ⟨_, h.1, ⟨rfl, .inl ⟨rfl, rfl⟩⟩, h.2⟩, .inl ⟨by decide, rfl, by decide⟩⟩
  cases hk : known l t
  · exact hno (fun W B A hS hB => size_no t hS hB hl' hk)
  cases hw : whole t
  · -- no struct
    have hst : 0 ≤ t.st ∧ t.st ≤ 4 := by
      unfold known at hk
      split at hk
      · cases hk
      · omega
    have hflat : 1 ≤ sizeV t → sizeV t ≤ 8 → SzIs l c t (sizeV t) → ∃ (C : List Cl) (ec : Int), ClIs l c t m ec C ∧ (ec ≠ 0 ∧ C = [] ∧ (Lit.int .i64 ec).wf = true ∨ ec = 0 ∧ C.length ≤ 1000000 ∧ ∃ m' z, ApIs l c t m C m' z) := fun h1 h8 hs => by
      have hC0 : ∀ j, j < ([⟨0, t⟩] : List Cl).length → 0 ≤ (([⟨0, t⟩] : List Cl).getD j cl0).off ∧ (([⟨0, t⟩] : List Cl).getD j cl0).off ≤ 1073741824 := by
        intro j hj
        have hj0 : j = 0 := by simp at hj; omega
        subst hj0
        exact ⟨Int.le_refl _, show (0 : Int) ≤ 1073741824 by decide⟩
      refine ⟨allC (sizeV t) [⟨0, t⟩] m, 0, fun W B A hS hB => cells_any t (sizeV t) [⟨0, t⟩] hS hB hm (by omega) (by simp) hC0 (fun W hS hB => hs W B A hS hB) (fun W hS hB => one_flat (B := B) t hw), .inr ⟨rfl, by rw [allC_len]; simp; omega, m, sizeV t, ap_some t (sizeV t) [⟨0, t⟩] (by simp) hm (by omega) (one_plain h1) hs (fun j hj => ?_)⟩⟩
      have hj0 : j = 0 := by simp at hj; omega
      subst hj0
      exact ⟨hw, h8, hs⟩
    by_cases hb : t.ba = 0
    · by_cases hs : t.st = 0
      · have hsn : t.sn = ⟨#[]⟩ := by
          unfold known at hk
          rw [if_neg (by omega), if_neg (by omega)] at hk
          have := (Bool.and_eq_true_iff.1 hk).2
          have h2 : t.sn.toList = [] := by simpa using this
          rw [ByteArray.toList_eq] at h2
          exact bytes_inj (by rw [h2])
        have ht0 : t = ⟨0, 0, ⟨#[]⟩⟩ := by cases t; simp_all
        refine hno (fun W B A hS hB => ?_)
        rw [ht0]; exact size_void hS hB hl'
      · have h8 : sizeV t = 8 := by unfold sizeV; rw [if_pos (by omega)]
        exact hflat (by omega) (by omega) (fun W B A hS hB => size_ptr t hS hB hl' hk hs hw ht)
    · have hmb : mayBe l t = true := by unfold mayBe; rw [hk, hw]; simp [hb]
      have h2 := size_pos hmb
      exact hflat (by omega) (by omega) (fun W B A hS hB => size_fld t hS hB hl' hk hb hw ht)
  · -- a struct
    have hba : t.ba = 4 ∧ t.st = 0 := by simpa [whole] using hw
    have hge : 0 ≤ sIdx l t.sn := by
      unfold known at hk
      rw [if_neg (by omega), if_pos hba.1] at hk
      simpa using hk
    obtain ⟨i, hii⟩ : ∃ i : Nat, sIdx l t.sn = i := ⟨(sIdx l t.sn).toNat, by omega⟩
    have hir : i < l.length := by have := (idx_range (fun s : Sc => s.nm.toList == t.sn.toList) l).2; rw [show idx (fun s : Sc => s.nm.toList == t.sn.toList) l = (i : Int) from hii] at this; omega
    obtain ⟨-, f2, f3, f4⟩ := hR i hir
    have hzz := fun k hk => size_pos (f4 k hk).2
    have hends := lay_ends (l.getD i sc0).fs hzz
    have hlast := hends ((l.getD i sc0).fs.length - 1) (by omega)
    rw [if_neg (by omega)] at hlast
    have hz1 := hzz ((l.getD i sc0).fs.length - 1) (by omega)
    have hzb : 0 ≤ (layV (l.getD i sc0).fs).size ∧ (layV (l.getD i sc0).fs).size ≤ 1073741824 := by omega
    have hofs : ∀ j, j < (l.getD i sc0).fs.length → 0 ≤ (layV (l.getD i sc0).fs).offs.getD j 0 ∧ (layV (l.getD i sc0).fs).offs.getD j 0 ≤ 1073741824 := fun j hj => by
      have := hends j hj
      omega
    have hs : SzIs l c t (layV (l.getD i sc0).fs).size := fun W B A hS hB => size_whole t hS hB hl' hw hii hok
    refine ⟨allC (layV (l.getD i sc0).fs).size (fldN (l.getD i sc0).fs (l.getD i sc0).fs.length) m, 0, fun W B A hS hB => cells_any t _ _ hS hB hm hzb (by rw [fldN_len]; omega) (fun j hj => by rw [fldN_len] at hj; rw [fldN_at _ _ hj]; exact hofs j hj) (fun W hS hB => hs W B A hS hB) (fun W hS hB => one_whole t hS hB hl' hw hii hok f2), .inr ⟨rfl, ?_, m, _, ap_some t _ _ (by rw [fldN_len]; omega) hm hzb (one_fields _ hzz) hs (fun j hj => ?_)⟩⟩
    · rw [allC_len, fldN_len]
      exact Nat.le_trans (Nat.mul_le_mul hm f3) (by omega)
    · rw [fldN_len] at hj
      rw [fldN_at _ j hj]
      obtain ⟨k1, k2, k3⟩ := mayBe_facts (f4 j hj).2
      have k4 := hzz j hj
      exact ⟨k3, by dsimp only; omega, fun W B A hS hB => size_fld _ hS hB hl' k1 k2 k3 ((hok i hir).2 j hj)⟩
end Go.Proofs.Ytalelgnooemooaa
