/- The document's cells of so many of a type that is no struct. Conditions: each theorem's. -/
import Derived.Test.YticganpocdjcgaaLayC0
namespace Go.Proofs.Yticganpocdjcgaa
open Go.RowKit Go.Maps
set_option linter.unusedVariables false
set_option linter.unusedSimpArgs false
set_option maxRecDepth 10000
open Py
theorem infoRl : (Try.prog.info? 35).map (fun i => (i.zero, i.size, i.bytes)) = some (some (.agg #[.int .i64 0, .int .i64 0, .int .i64 0, .string ⟨#[]⟩]), 4, 40) := by kernel_rfl
/-- A row of the document's cells. -/
def RlsAt (w : World) (base : Nat) (v : Value) (C : List Cl) : Prop := w.ownsRow base 35 4 v C.length (clsL C)
theorem own_grow {w w' : World} {B base size n : Nat} {e : TypeId} {v : Value} {xs : List Value} (hv : w.ownsRow base e size v n xs) (hBb : B ≤ base) (hgr : w.grownBy w' v.ownBlock) (hsz : base ≤ w.heap.size) {w0 : World} (h : Below B w0 w) : Below B w0 w' :=
  h.grown hgr (by omega) (fun k hk => by
    rcases Nat.lt_or_ge k base with hlt | hge
    · exact absurd hk (own_base hv hlt)
    · omega)
theorem own_keep {w w' : World} {base size n : Nat} {e : TypeId} {v : Value} {xs : List Value} (h : w.ownsRow base e size v n xs) (hb : Below w.heap.size w w') : w'.ownsRow base e size v n xs :=
  ownsRow_at h (fun g cur _ hg => row_below2 hb hg (lt_of_row hg))
theorem rls_flat {w : World} {base i : Nat} {v : Value} {z x : Int} {t : Ty} (h : w.ownsRow base 35 4 v (i + 1) (clsL (allC z [⟨0, t⟩] i) ++ [.int .i64 x, .int .i64 t.ba, .int .i64 t.st, .string t.sn])) (hx : x = i * z) : RlsAt w base v (allC z [⟨0, t⟩] (i + 1)) := by
  subst hx
  unfold RlsAt
  rw [allC_len, allC_succ, clsL_app]
  simpa [shiftC, clsL, clL] using h
set_option maxHeartbeats 8000000 in
theorem rcells_flat {w : World} {B n : Nat} {A : Option Addr} {c : Nat} {l : List Sc} (t : Ty) (z : Int) (hS : ScsAt w B A l) (hB : B ≤ w.heap.size) (hl : l.length ≤ 1099511627776) (hn : n ≤ 500) (hz : 0 ≤ z ∧ z ≤ 1073741824) (hsm : 0 < small t)
    (hsize : ∀ W : World, ScsAt W B A l → B ≤ W.heap.size → Calls Try.prog 15 #[.slice A l.length c, .agg #[.int .i64 t.ba, .int .i64 t.st, .string t.sn]] W fun e w' => e = .returned (.tuple #[.int .i64 z, .bool true]) ∧ Below W.heap.size W w')
    (hpl : ∀ (W : World) (fA : Option Addr) (fc : Nat), FdsAt W B fA (fnd l t.sn).fs → B ≤ W.heap.size → Calls Try.prog 17 #[.agg #[.string (fnd l t.sn).nm, .slice fA (fnd l t.sn).fs.length fc, .int .i64 (fnd l t.sn).at_]] W fun e w' => ∃ ov x y, e = .returned (.tuple #[ov, .int .i64 x, .int .i64 y]) ∧ Below W.heap.size W w') :
    Calls Try.prog 9 #[.slice A l.length c, .agg #[.int .i64 t.ba, .int .i64 t.st, .string t.sn], .int .i64 n] w fun e w' => ∃ v, e = .returned (.tuple #[v, .int .i64 0]) ∧ RlsAt w' w.heap.size v (allC z [⟨0, t⟩] n) ∧ Below w.heap.size w w' := by
  have hb0 := (Below.refl w.heap.size w).alloc (Nat.le_refl _) (.cells #[.int .i64 t.ba, .int .i64 t.st, .string t.sn] 24)
  have hx := heap_alloc_new w (.cells #[.int .i64 t.ba, .int .i64 t.st, .string t.sn] 24)
  obtain ⟨a0, a1, a2⟩ := sc_cells3 hx
  obtain ⟨i0, hi0, hz0, hz1, hz2⟩ := info_parts infoRl
  have HSZ := Lib.hid hsize
  have HPL := Lib.hid hpl
  clear hsize hpl
  have hn0 : decide ((n : Int) < 0) = false := decide_eq_false (by omega)
  have hn5 : decide ((500 : Int) < (n : Int)) = false := decide_eq_false (by omega)
  go_enter Try.func9, Try.ntmps9
  go_wp2_with fail
  refine (HSZ.out _ (hS.keep hb0 hB) (by simp only [szA]; omega)).mono ?_
  rintro e w1 ⟨rfl, h1⟩
  have hb1 := hb0.trans (h1.mono (by simp only [szA]; omega))
  have hx1 := row_below2 h1 hx (lt_of_row hx)
  obtain ⟨d0, d1, d2⟩ := sc_cells3 hx1
  clear a0 a1 a2
  go_wp2_with fail
  refine (find_any t.sn (hS.keep hb1 hB) (by have := hb1.size; omega) hl).mono ?_
  rintro e w4 ⟨v, rfl, hv, h5⟩
  obtain ⟨fA, fc, rfl, hfc, hfm, hfd⟩ := hv
  generalize fnd l t.sn = s at *
  have hb4 := hb1.trans (h5.mono hb1.size)
  have hx4 := row_below2 h5 hx1 (lt_of_row hx1)
  have hbB : Below w4.heap.size w4 (w4.alloc (.cells #[.string s.nm, .slice fA s.fs.length fc, .int .i64 s.at_] 45)) := (Below.refl w4.heap.size w4).alloc (Nat.le_refl _) _
  have hb5 := hb4.trans (hbB.mono hb4.size)
  have hx5 := row_below2 hbB hx4 (lt_of_row hx4)
  have h6 := heap_alloc_new w4 (.cells #[.string s.nm, .slice fA s.fs.length fc, .int .i64 s.at_] 45)
  have hfdB := hfd.keep hbB (by have := hb4.size; omega)
  obtain ⟨e0, e1, e2⟩ := sc_cells3 h6
  clear d0 d1 d2
  go_wp2_with fail
  refine (HPL.out _ fA fc hfdB (by have := hb5.size; omega)).mono ?_
  rintro e w6 ⟨ov, x, y, rfl, h7⟩
  have hb6 := hb5.trans (h7.mono hb5.size)
  have hx6 := row_below2 h7 hx5 (lt_of_row hx5)
  have hc0 : RlsAt w6 w.heap.size (.slice none 0 0) (allC z [⟨0, t⟩] 0) := ⟨rfl, .inl ⟨rfl, rfl⟩⟩
  clear e0 e1 e2 h6 hfdB hfd hx hx1 hx4 hx5 hb0 hb1 hb4 hb5 h1 h5 h7 hbB
  go_wp2_with fail
  go_loopw [10, 16] (fun v k wr => ∃ i : Nat, i ≤ n ∧ k = .int .i64 i ∧ RlsAt wr w.heap.size v (allC z [⟨0, t⟩] i) ∧ Below w.heap.size w wr ∧ wr.heap[w.heap.size]? = some (.cells #[.int .i64 t.ba, .int .i64 t.st, .string t.sn] 24)) (fun _ k _ => n - (intOf k).toNat)
  case atStart => exact ⟨0, Nat.zero_le _, rfl, hc0, hb6, hx6⟩
  case round =>
    obtain ⟨i, hi, rfl, hov, hbe, hxr⟩ := hrel
    have hzw := hbe.size
    by_cases hlt : i < n
    · have hP0 : (0 : Int) ≤ (i : Int) * z := Int.mul_nonneg (by omega) hz.1
      have hP1 : (i : Int) * z ≤ 500 * 1073741824 := Int.mul_le_mul (by omega) hz.2 hz.1 (by omega)
      obtain ⟨P, hP⟩ : ∃ P, (i : Int) * z = P := ⟨_, rfl⟩
      rw [hP] at hP0 hP1
      obtain ⟨f0, f1, f2⟩ := sc_cells3 hxr
      have hx6l := lt_of_row hxr
      clear hc0
      go_wp2_with fail
      refine (small_any t wr).mono ?_
      rintro e w7 ⟨rfl, h7⟩
      have hov7 := own_keep hov h7
      have hx7 := row_below2 h7 hxr hx6l
      have hbe7 := hbe.trans (h7.mono hzw)
      have hz7 := hbe7.size
      have hlen := allC_len z [⟨0, t⟩] i
      simp only [List.length_singleton, Nat.mul_one] at hlen
      rw [hlen] at hov7
      have HOV := Lib.hid hov7
      have hsn := Lib.hid (fun (W : World) (v : Value) (x : Int) (h : W.ownsRow w.heap.size 35 4 v (i + 1) (clsL (allC z [⟨0, t⟩] i) ++ [.int .i64 x, .int .i64 t.ba, .int .i64 t.st, .string t.sn])) (hx : x = i * z) => rls_flat h hx)
      have hne := own_type hov7 hx7 (by decide)
      have HNE := Lib.hid hne
      have hsd : decide ((0 : Int) < small t) = true := decide_eq_true hsm
      obtain ⟨k0, k1, k2⟩ := sc_cells3 hx7
      have hx7l := lt_of_row hx7
      clear hov hov7 f0 f1 f2 hne hlen hsm
      generalize small t = smt at *
      go_wp2_with (at_builtin; refine wpList_append_lies (o := ⟨some 60, _, _, _, _, _⟩) _ rfl (.tmp 53) (.tmp 59) 31 rfl w.heap.size 35 i0 (.agg #[.int .i64 0, .int .i64 0, .int .i64 0, .string ⟨#[]⟩]) 4 40 Try.underlying31 hi0 hz0 hz1 hz2 rfl (by decide) _ _ _ rfl (HOV.out.alloc _) ⟨w7.heap.size, 0, none⟩ 1 1 [.int .i64 P, .int .i64 t.ba, .int .i64 t.st, .string t.sn] rfl rfl (World.news_of_block (cs := #[.int .i64 P, .int .i64 t.ba, .int .i64 t.st, .string t.sn]) (t := 35) (fr := (0, 0)) (heap_alloc_new w7 _)) (by simp [Value.oneCell']) (by omega) (by unfold maxLen; omega) (by omega) (by simp only [szA]; omega) _ rfl ?_; intro ga cap2 w8 hown8 hgrow hat hlt8)
      refine ⟨⟨i + 1, by omega, by go_num, hsn.out _ _ _ hown8 hP.symm, ?_, ?_⟩, by simp [intOf]; omega⟩
      · exact own_grow (HOV.out.alloc _) (Nat.le_refl _) hgrow (by simp only [szA]; omega) (hbe7.alloc hz7 _)
      · exact (hgrow.block w.heap.size (by simp only [szA]; omega) (fun e => HNE.out e.symm)).trans ((Below.heap_alloc _ _ _ hx7l).trans hx7)
    · obtain rfl : i = n := by omega
      go_wp2_with fail
      go_ret2
      exact ⟨_, rfl, hov, hbe⟩
end Go.Proofs.Yticganpocdjcgaa
