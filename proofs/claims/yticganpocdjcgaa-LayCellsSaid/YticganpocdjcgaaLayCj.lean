/- The program's cells and the document's are one. Conditions: right structs, of their Go types. -/
import Derived.Test.YticganpocdjcgaaLayCd
import Derived.Test.YticganpocdjcgaaLayCe
import Derived.Test.YticganpocdjcgaaLayCg
import Derived.Test.YticganpocdjcgaaLayCh
import Derived.Test.YticganpocdjcgaaLayCa
import Derived.Test.YticganpocdjcgaaLayCb
import Derived.Test.YticganpocdjcgaaLayCc
namespace Go.Proofs.Yticganpocdjcgaa
open Go.RowKit Go.Maps Go.WideShapes
set_option linter.unusedVariables false
set_option linter.unusedSimpArgs false
set_option maxRecDepth 10000
open Py
theorem cells_both {l : List Sc} {c : Nat} (t : Ty) (n : Int) (ht : tyOk t) (hok : ScsOk l) (hl : l.length ≤ 40) (hR : ∀ i, i < l.length → sIdx l (l.getD i sc0).nm = i ∧ 0 < (l.getD i sc0).fs.length ∧ (l.getD i sc0).fs.length ≤ 12 ∧ ∀ k, k < (l.getD i sc0).fs.length → fIdx (l.getD i sc0).fs ((l.getD i sc0).fs.getD k fd0).nm = k ∧ mayBe l ((l.getD i sc0).fs.getD k fd0).ty = true) :
    ∃ (C : List Cl) (ec : Int), C.length ≤ 1000000 ∧ ∀ (W : World) (B : Nat) (A : Option Addr), ScsAt W B A l → B ≤ W.heap.size →
      Calls Try.prog 8 #[.slice A l.length c, .agg #[.int .i64 t.ba, .int .i64 t.st, .string t.sn], .int .i64 n] W (fun e w' => ∃ v, e = .returned (.tuple #[v, .int .i64 ec]) ∧ ClsAt w' W.heap.size v C ∧ Below W.heap.size W w') ∧
      Calls Try.prog 9 #[.slice A l.length c, .agg #[.int .i64 t.ba, .int .i64 t.st, .string t.sn], .int .i64 n] W (fun e w' => ∃ v, e = .returned (.tuple #[v, .int .i64 ec]) ∧ RlsAt w' W.heap.size v C ∧ Below W.heap.size W w') := by
  have hl' : l.length ≤ 1099511627776 := by omega
  by_cases hn : n < 0 ∨ 500 < n
  · exact ⟨[], 1, by simp, fun W B A hS hB => ⟨(cells_range t n hn).mono fun e w' h => ⟨_, h.1, ⟨rfl, .inl ⟨rfl, rfl⟩⟩, h.2⟩, (rcells_range t n hn).mono fun e w' h => ⟨_, h.1, ⟨rfl, .inl ⟨rfl, rfl⟩⟩, h.2⟩⟩⟩
  obtain ⟨m, rfl⟩ : ∃ m : Nat, n = m := ⟨n.toNat, by omega⟩
  have hm : m ≤ 500 := by omega
  have hno : (∀ (W : World) (B : Nat) (A : Option Addr), ScsAt W B A l → B ≤ W.heap.size → Calls Try.prog 10 #[.slice A l.length c, .agg #[.int .i64 t.ba, .int .i64 t.st, .string t.sn]] W fun e w' => e = .returned (.tuple #[.int .i64 0, .int .i64 14]) ∧ Below W.heap.size W w') → (∀ (W : World) (B : Nat) (A : Option Addr), ScsAt W B A l → B ≤ W.heap.size → Calls Try.prog 15 #[.slice A l.length c, .agg #[.int .i64 t.ba, .int .i64 t.st, .string t.sn]] W fun e w' => (∃ z, e = .returned (.tuple #[.int .i64 z, .bool false])) ∧ Below W.heap.size W w') → ∃ (C : List Cl) (ec : Int), C.length ≤ 1000000 ∧ ∀ (W : World) (B : Nat) (A : Option Addr), ScsAt W B A l → B ≤ W.heap.size →
      Calls Try.prog 8 #[.slice A l.length c, .agg #[.int .i64 t.ba, .int .i64 t.st, .string t.sn], .int .i64 m] W (fun e w' => ∃ v, e = .returned (.tuple #[v, .int .i64 ec]) ∧ ClsAt w' W.heap.size v C ∧ Below W.heap.size W w') ∧
      Calls Try.prog 9 #[.slice A l.length c, .agg #[.int .i64 t.ba, .int .i64 t.st, .string t.sn], .int .i64 m] W (fun e w' => ∃ v, e = .returned (.tuple #[v, .int .i64 ec]) ∧ RlsAt w' W.heap.size v C ∧ Below W.heap.size W w') := fun h1 h2 =>
    ⟨[], 14, by simp, fun W B A hS hB => ⟨(cells_no t m hS hB (by omega) (fun W hS hB => h1 W B A hS hB)).mono fun e w' h => ⟨_, h.1, ⟨rfl, .inl ⟨rfl, rfl⟩⟩, h.2⟩, (rcells_no t m hS hB (by omega) (fun W hS hB => h2 W B A hS hB)).mono fun e w' h => ⟨_, h.1, ⟨rfl, .inl ⟨rfl, rfl⟩⟩, h.2⟩⟩⟩
  cases hk : known l t
  · exact hno (fun W B A hS hB => size_no t hS hB hl' hk) (fun W B A hS hB => (rsize_no t hS hB hl' hk).mono fun e w' h => ⟨⟨0, h.1⟩, h.2⟩)
  cases hw : whole t
  · -- no struct
    have hst : 0 ≤ t.st ∧ t.st ≤ 4 := by
      unfold known at hk
      split at hk
      · cases hk
      · omega
    have hflat : ∀ (z : Int), 0 ≤ z ∧ z ≤ 1073741824 → 0 < small t → (∀ (W : World) (B : Nat) (A : Option Addr), ScsAt W B A l → B ≤ W.heap.size → Calls Try.prog 10 #[.slice A l.length c, .agg #[.int .i64 t.ba, .int .i64 t.st, .string t.sn]] W fun e w' => e = .returned (.tuple #[.int .i64 z, .int .i64 0]) ∧ Below W.heap.size W w') → z = small t → ∃ (C : List Cl) (ec : Int), C.length ≤ 1000000 ∧ ∀ (W : World) (B : Nat) (A : Option Addr), ScsAt W B A l → B ≤ W.heap.size →
      Calls Try.prog 8 #[.slice A l.length c, .agg #[.int .i64 t.ba, .int .i64 t.st, .string t.sn], .int .i64 m] W (fun e w' => ∃ v, e = .returned (.tuple #[v, .int .i64 ec]) ∧ ClsAt w' W.heap.size v C ∧ Below W.heap.size W w') ∧
      Calls Try.prog 9 #[.slice A l.length c, .agg #[.int .i64 t.ba, .int .i64 t.st, .string t.sn], .int .i64 m] W (fun e w' => ∃ v, e = .returned (.tuple #[v, .int .i64 ec]) ∧ RlsAt w' W.heap.size v C ∧ Below W.heap.size W w') := fun z hz hsm h1 hzs => by
      have hC0 : ∀ j, j < ([⟨0, t⟩] : List Cl).length → 0 ≤ (([⟨0, t⟩] : List Cl).getD j cl0).off ∧ (([⟨0, t⟩] : List Cl).getD j cl0).off ≤ 1073741824 := by
        intro j hj
        have hj0 : j = 0 := by simp at hj; omega
        subst hj0
        exact ⟨Int.le_refl _, show (0 : Int) ≤ 1073741824 by decide⟩
      refine ⟨allC z [⟨0, t⟩] m, 0, by rw [allC_len]; simp; omega, fun W B A hS hB => ⟨?_, ?_⟩⟩
      · exact cells_any t z [⟨0, t⟩] hS hB hm hz (by simp) hC0 (fun W hS hB => h1 W B A hS hB) (fun W hS hB => one_flat (B := B) t hw)
      · refine rcells_flat t z hS hB hl' hm hz hsm (fun W hS hB => (rsize_plain t hS hB hl' hk (.inl (by rw [beq_eq_false_iff_ne]; omega))).mono fun e w' h => ⟨by rw [h.1, hzs, decide_eq_true hsm], h.2⟩) (fun W fA fc hF hB => ?_)
        by_cases hi : 0 ≤ sIdx l t.sn
        · obtain ⟨i, hii⟩ : ∃ i : Nat, sIdx l t.sn = i := ⟨(sIdx l t.sn).toNat, by omega⟩
          have hir : i < l.length := by have := (idx_range (fun s : Sc => s.nm.toList == t.sn.toList) l).2; rw [show idx (fun s : Sc => s.nm.toList == t.sn.toList) l = (i : Int) from hii] at this; omega
          obtain ⟨-, f2, f3, f4⟩ := hR i hir
          rw [fnd_at hii] at hF ⊢
          exact (places_any _ _ hF hB (by omega) (fun k hk => small_eq (f4 k hk).2) (fun k hk => size_pos (f4 k hk).2) f2).mono fun e w' ⟨ov, h1, h2, h3⟩ => ⟨ov, _, _, h1, h3⟩
        · have : fnd l t.sn = sc0 := by unfold fnd; rw [if_neg hi]
          rw [this]
          exact (places_nil _ _).mono fun e w' h => ⟨_, _, _, h.1, h.2⟩
    by_cases hb : t.ba = 0
    · by_cases hs : t.st = 0
      · have hsn : t.sn = ⟨#[]⟩ := by
          unfold known at hk
          rw [if_neg (by omega), if_neg (by omega)] at hk
          have := (Bool.and_eq_true_iff.1 hk).2
          have h2 : t.sn.toList = [] := by simpa using this
          rw [ByteArray.toList_eq] at h2
          exact bytes_inj (by rw [h2])
        have ht0 : t = ⟨0, 0, ⟨#[]⟩⟩ := by cases t; simp_all
        refine hno (fun W B A hS hB => ?_) (fun W B A hS hB => ?_)
        · rw [ht0]; exact size_void hS hB hl'
        · have h0 : small t = 0 := by rw [ht0]; rfl
          exact (rsize_plain t hS hB hl' hk (.inr (by rw [hb]; rfl))).mono fun e w' h => ⟨⟨small t, by rw [h.1, h0]; rfl⟩, h.2⟩
      · have h8 : sizeV t = 8 := by unfold sizeV; rw [if_pos (by omega)]
        have h8' : small t = 8 := by unfold small; rw [if_pos (by omega)]
        exact hflat (sizeV t) (by omega) (by omega) (fun W B A hS hB => size_ptr t hS hB hl' hk hs hw ht) (by omega)
    · have hmb : mayBe l t = true := by unfold mayBe; rw [hk, hw]; simp [hb]
      have h1 := small_eq hmb
      have h2 := size_pos hmb
      exact hflat (sizeV t) (by omega) (by omega) (fun W B A hS hB => size_fld t hS hB hl' hk hb hw ht) h1.symm
  · -- a struct
    have hba : t.ba = 4 ∧ t.st = 0 := by simpa [whole] using hw
    have hge : 0 ≤ sIdx l t.sn := by
      unfold known at hk
      rw [if_neg (by omega), if_pos hba.1] at hk
      simpa using hk
    obtain ⟨i, hii⟩ : ∃ i : Nat, sIdx l t.sn = i := ⟨(sIdx l t.sn).toNat, by omega⟩
    have hir : i < l.length := by have := (idx_range (fun s : Sc => s.nm.toList == t.sn.toList) l).2; rw [show idx (fun s : Sc => s.nm.toList == t.sn.toList) l = (i : Int) from hii] at this; omega
    obtain ⟨-, f2, f3, f4⟩ := hR i hir
    have hsm := fun k hk => small_eq (f4 k hk).2
    have hzz := fun k hk => size_pos (f4 k hk).2
    have hsm0 : small t = 0 := by unfold small; rw [if_neg (by omega), if_neg (by omega), if_neg (by omega), if_neg (by omega)]
    have hfn := fnd_at hii
    have hends := lay_ends (l.getD i sc0).fs hzz
    have hlast := hends ((l.getD i sc0).fs.length - 1) (by omega)
    rw [if_neg (by omega)] at hlast
    have hz1 := hzz ((l.getD i sc0).fs.length - 1) (by omega)
    have hpos : 0 < (layV (l.getD i sc0).fs).size := by omega
    have hzb : 0 ≤ (layV (l.getD i sc0).fs).size ∧ (layV (l.getD i sc0).fs).size ≤ 1073741824 := by omega
    have hofs : ∀ j, j < (l.getD i sc0).fs.length → 0 ≤ (layV (l.getD i sc0).fs).offs.getD j 0 ∧ (layV (l.getD i sc0).fs).offs.getD j 0 ≤ 1073741824 := fun j hj => by
      have := hends j hj
      omega
    refine ⟨allC (layV (l.getD i sc0).fs).size (fldN (l.getD i sc0).fs (l.getD i sc0).fs.length) m, 0, ?_, fun W B A hS hB => ⟨?_, ?_⟩⟩
    · rw [allC_len, fldN_len]
      exact Nat.le_trans (Nat.mul_le_mul hm f3) (by omega)
    · exact cells_any t _ _ hS hB hm hzb (by rw [fldN_len]; omega) (fun j hj => by rw [fldN_len] at hj; rw [fldN_get _ _ _ hj]; exact hofs j hj) (fun W hS hB => size_whole t hS hB hl' hw hii hok) (fun W hS hB => one_whole t hS hB hl' hw hii hok f2)
    · have := rcells_whole (c := c) t (layV (l.getD i sc0).fs).size hS hB hl' hm hzb hsm0 (fun W hS hB => (rsize_whole t hS hB hl' hk hsm0 (by rw [hba.1]; rfl) hii (by omega) hsm hzz f2).mono fun e w' h => ⟨by rw [h.1, decide_eq_true hpos], h.2⟩) (by rw [hfn]; omega) (by rw [hfn]; exact hofs) (fun W fA fc hF hB => by
        rw [hfn] at hF ⊢
        exact (places_any _ _ hF hB (by omega) hsm hzz f2).mono fun e w' ⟨ov, h1, h2, h3⟩ => ⟨ov, _, _, h1, h2, h3⟩)
      rw [hfn] at this
      exact this
end Go.Proofs.Yticganpocdjcgaa
