/- LayPlaces answers true, of any structs and names; at most new blocks in memory. Conditions: structs as they lie in memory, of their Go types. -/
import Derived.Test.YtlghhailckoonabLayZ
import Derived.Test.YtlghhailckoonabLayW
namespace Go.Proofs.Ytlghhailckoonab
open Go.RowKit Go.Maps
set_option linter.unusedVariables false
set_option linter.unusedSimpArgs false
set_option maxRecDepth 10000
open Py
theorem both {l : List Sc} (nm fn : ByteArray) (hl : l.length ≤ 40) (hSO : ScsOk l) (hR : ∀ i, i < l.length → sIdx l (l.getD i sc0).nm = i ∧ 0 < (l.getD i sc0).fs.length ∧ (l.getD i sc0).fs.length ≤ 12 ∧ ∀ k, k < (l.getD i sc0).fs.length → fIdx (l.getD i sc0).fs ((l.getD i sc0).fs.getD k fd0).nm = k ∧ mayBe l ((l.getD i sc0).fs.getD k fd0).ty = true) :
    ∃ (t : Ty) (o : Int) (b : Bool) (ec : Int), (b = true ∧ ec = 0 ∨ b = false ∧ ec = 13) ∧ ∀ (W : World) (B : Nat) (A : Option Addr) (c : Nat), ScsAt W B A l → B ≤ W.heap.size →
      Calls Try.prog 17 #[.slice A l.length c, .string nm, .string fn] W (fun e w' => e = .returned (.tuple #[.agg #[.int .i64 t.ba, .int .i64 t.st, .string t.sn], .int .i64 o, .int .i64 ec]) ∧ Below W.heap.size W w') ∧
      Calls Try.prog 18 #[.slice A l.length c, .string nm, .string fn] W (fun e w' => e = .returned (.tuple #[.agg #[.int .i64 t.ba, .int .i64 t.st, .string t.sn], .int .i64 o, .bool b]) ∧ Below W.heap.size W w') := by
  by_cases hi : sIdx l nm < 0
  · exact ⟨ty0, 0, false, 13, .inr ⟨rfl, rfl⟩, fun W B A c hS hB => ⟨field_no1 nm fn hS hB (by omega) hi, rfield_no1 nm fn hS hB (by omega) hi⟩⟩
  · obtain ⟨i, hii⟩ : ∃ i : Nat, sIdx l nm = i := ⟨(sIdx l nm).toNat, by omega⟩
    have hir : i < l.length := by have := (idx_range (fun s : Sc => s.nm.toList == nm.toList) l).2; rw [show idx (fun s : Sc => s.nm.toList == nm.toList) l = (i : Int) from hii] at this; omega
    obtain ⟨r1, r2, r3, r4⟩ := hR i hir
    have hrf := fun (W : World) (B : Nat) (A : Option Addr) (c : Nat) (hS : ScsAt W B A l) (hB : B ≤ W.heap.size) => rfield_in (c := c) nm fn hS hB (by omega) hii (by omega) (fun k hk => small_eq (r4 k hk).2) (fun k hk => size_pos (r4 k hk).2) r2
    by_cases hk : fIdx (l.getD i sc0).fs fn < 0
    · exact ⟨ty0, 0, false, 13, .inr ⟨rfl, rfl⟩, fun W B A c hS hB => ⟨field_no2 nm fn hS hB (by omega) hii (by omega) hk, (hrf W B A c hS hB).mono fun e w' h => ⟨h.2.1 hk, h.2.2⟩⟩⟩
    · obtain ⟨k, hkk⟩ : ∃ k : Nat, fIdx (l.getD i sc0).fs fn = k := ⟨(fIdx (l.getD i sc0).fs fn).toNat, by omega⟩
      exact ⟨((l.getD i sc0).fs.getD k fd0).ty, (layV (l.getD i sc0).fs).offs.getD k 0, true, 0, .inl ⟨rfl, rfl⟩, fun W B A c hS hB => ⟨field_yes nm fn hS hB (by omega) hii hSO hkk, (hrf W B A c hS hB).mono fun e w' h => ⟨h.1 k hkk, h.2.2⟩⟩⟩
theorem own_row {w : World} {base n : Nat} {v : Value} {O : List Int} (h : w.ownsRow base 3 1 v n (ints O)) (hn : 0 < n) (hO : O.length = n) : ∃ g cap cur, v = .slice (some ⟨g, 0, none⟩) n cap ∧ base ≤ g ∧ w.heap[g]? = some (.cells cur 3 (0, 0)) ∧ ∀ k, k < n → cur[k]? = some (.int .i64 (O.getD k 0)) := by
  rcases h.2 with ⟨rfl, hz⟩ | ⟨g, cap, cur, rfl, hg, hh, hnc, _, hsz, htk⟩
  · omega
  · refine ⟨g, cap, cur, rfl, hg, hh, fun k hk => ?_⟩
    have h1 := getD_ints O k (by omega)
    rw [← htk, List.getElem?_take] at h1
    split at h1
    · simpa using h1
    · cases h1
set_option maxHeartbeats 8000000 in
theorem layPlaces_walk {w : World} {A : Option Addr} {c : Nat} {l : List Sc} (nm fn : ByteArray) (hS : ScsAt w w.heap.size A l) (hlc : l.length ≤ c) (hcm : c ≤ maxLen) (hok : ∀ k, k < l.length → scOk (l.getD k sc0)) :
    Calls Try.prog 4 #[.slice A l.length c, .string nm, .string fn] w fun e w' => e = .returned (.bool true) ∧ Below w.heap.size w w' := by
  go_enter Try.func4, Try.ntmps4
  go_wp2_with fail
  refine (awake_any _).mono ?_
  rintro e w1 ⟨rfl, b1⟩
  go_wp2_with fail
  refine (right_any (hS.keep b1 (Nat.le_refl _)) b1.size hlc hcm).mono ?_
  rintro e w2 ⟨rfl, h2⟩
  have b2 := b1.trans (h2.mono b1.size)
  clear h2 b1
  cases hf : rightV l
  · go_wp2_with fail
    refine (awake_any _).mono ?_
    rintro e w3 ⟨rfl, h3⟩
    go_wp2
    go_ret
    exact ⟨rfl, b2.trans (h3.mono b2.size)⟩
  · have hSO := scsOk_of hf hok
    obtain ⟨hl, hR⟩ := right_facts hf
    obtain ⟨t, o, b, ec, hbe, hB⟩ := both nm fn hl hSO hR
    have HB := Lib.hid hB
    have HR := Lib.hid hR
    clear hB hR hf hok
    have hS2 := hS.keep b2 (Nat.le_refl _)
    have hz2 := b2.size
    by_cases hneg : sIdx l nm < 0
    · have h1 : decide (0 ≤ sIdx l nm) = false := decide_eq_false (by omega)
      go_wp2_with fail
      refine (of_no nm hS2 hz2 (by omega) hneg).mono ?_
      rintro e w3 ⟨rfl, h3⟩
      have b3 := (b2.trans (h3.mono hz2)).alloc (b2.trans (h3.mono hz2)).size (.cells #[.int .i64 0, .int .i64 0, .slice none 0 0] 32)
      go_wp2_with fail
      refine (find_any nm (hS.keep b3 (Nat.le_refl _)) b3.size (by omega)).mono ?_
      rintro e w4 ⟨v, rfl, ⟨fA, fc, rfl, -⟩, h4⟩
      rw [h1]
      have b4 := (b3.trans (h4.mono b3.size)).alloc (b3.trans (h4.mono b3.size)).size (.cells #[.string (fnd l nm).nm, .slice fA (fnd l nm).fs.length fc, .int .i64 (fnd l nm).at_] 37)
      go_wp2_with fail
      refine (HB.out _ _ _ c (hS.keep b4 (Nat.le_refl _)) b4.size).1.mono ?_
      rintro e w5 ⟨rfl, h5⟩
      have b5 := b4.trans (h5.mono b4.size)
      have b6 := b5.alloc b5.size (.cells #[.int .i64 t.ba, .int .i64 t.st, .string t.sn] 43)
      have k6 := heap_alloc_new w5 (.cells #[.int .i64 t.ba, .int .i64 t.st, .string t.sn] 43)
      go_wp2_with fail
      refine (HB.out _ _ _ c (hS.keep b6 (Nat.le_refl _)) b6.size).2.mono ?_
      rintro e w7 ⟨rfl, h7⟩
      have b7 := b6.trans (h7.mono b6.size)
      have k7 := row_below2 h7 k6 (by simp)
      have b8 := b7.alloc b7.size (.cells #[.int .i64 t.ba, .int .i64 t.st, .string t.sn] 43)
      have k8 := heap_alloc_new w7 (.cells #[.int .i64 t.ba, .int .i64 t.st, .string t.sn] 43)
      have k78 := row_below2 ((Below.refl w7.heap.size w7).alloc (Nat.le_refl _) (.cells #[.int .i64 t.ba, .int .i64 t.st, .string t.sn] 43)) k7 (lt_of_row k7)
      obtain ⟨x0, x1, x2⟩ := sc_cells3 k78
      obtain ⟨y0, y1, y2⟩ := sc_cells3 k8
      rcases hbe with ⟨rfl, rfl⟩ | ⟨rfl, rfl⟩
      · go_wp2
        go_ret
        exact ⟨by simp, b8⟩
      · go_wp2
        go_ret
        exact ⟨by simp, b8⟩
    · obtain ⟨i, hii⟩ : ∃ i : Nat, sIdx l nm = i := ⟨(sIdx l nm).toNat, by omega⟩
      have hir : i < l.length := by have := (idx_range (fun s : Sc => s.nm.toList == nm.toList) l).2; rw [show idx (fun s : Sc => s.nm.toList == nm.toList) l = (i : Int) from hii] at this; omega
      have h1 : decide (0 ≤ sIdx l nm) = true := decide_eq_true (by omega)
      obtain ⟨-, f2, f3, f4⟩ := HR.out i hir
      have hsm := fun k hk => small_eq (f4 k hk).2
      have hzz := fun k hk => size_pos (f4 k hk).2
      have hfnd := fnd_at hii
      clear f4
      go_wp2_with fail
      refine (of_yes nm hS2 hz2 (by omega) hii hSO).mono ?_
      rintro e w3 ⟨ov, rfl, hov, h3⟩
      generalize l.getD i sc0 = s at *
      have b3 := (b2.trans (h3.mono hz2)).alloc (b2.trans (h3.mono hz2)).size (.cells #[.int .i64 (layV s.fs).size, .int .i64 (layV s.fs).line, ov] 32)
      have k3 := heap_alloc_new w3 (.cells #[.int .i64 (layV s.fs).size, .int .i64 (layV s.fs).line, ov] 32)
      obtain ⟨g3, cap3, cur3, rfl, hg3, hr3, hq3⟩ := own_row hov f2 (layV_len s.fs)
      have hl3 := lt_of_row hr3
      have hz3 : (w3.alloc (.cells #[.int .i64 (layV s.fs).size, .int .i64 (layV s.fs).line, .slice (some ⟨g3, 0, none⟩) s.fs.length cap3] 32)).heap.size = w3.heap.size + 1 := szA _ _
      have hr3a := ((Below.refl w3.heap.size w3).alloc (Nat.le_refl _) (.cells #[.int .i64 (layV s.fs).size, .int .i64 (layV s.fs).line, .slice (some ⟨g3, 0, none⟩) s.fs.length cap3] 32)).block g3 hl3
      rw [hr3] at hr3a
      clear h3 hov hr3
      go_wp2_with fail
      refine (find_any nm (hS.keep b3 (Nat.le_refl _)) b3.size (by omega)).mono ?_
      rintro e w4 ⟨v, rfl, hv, h4⟩
      rw [h1]
      rw [hfnd] at hv
      obtain ⟨fA, fc, rfl, hfc, hfm, hfd⟩ := hv
      have k34 := row_below2 h4 k3 (by omega)
      have r34 := row_below2 h4 hr3a (by omega)
      have hz4 := h4.size
      have hbB : Below w4.heap.size w4 (w4.alloc (.cells #[.string s.nm, .slice fA s.fs.length fc, .int .i64 s.at_] 37)) := (Below.refl w4.heap.size w4).alloc (Nat.le_refl _) _
      have b4 := (b3.trans (h4.mono b3.size)).trans (hbB.mono (b3.trans (h4.mono b3.size)).size)
      have k4 := heap_alloc_new w4 (.cells #[.string s.nm, .slice fA s.fs.length fc, .int .i64 s.at_] 37)
      have k35 := row_below2 hbB k34 (by omega)
      have r35 := row_below2 hbB r34 (by omega)
      have hfd5 := hfd.keep hbB (b3.trans (h4.mono b3.size)).size
      have hz5 : (w4.alloc (.cells #[.string s.nm, .slice fA s.fs.length fc, .int .i64 s.at_] 37)).heap.size = w4.heap.size + 1 := szA _ _
      clear k3 hr3a k34 r34 hbB hfd h4
      obtain ⟨c0, c1, c2⟩ := sc_cells3 k4
      go_wp2_with fail
      refine (places_any s.nm s.at_ hfd5 b4.size (by omega) hsm hzz f2).mono ?_
      rintro e w6 ⟨ov2, rfl, hov2, h6⟩
      obtain ⟨g4, cap4, cur4, rfl, hg4, hr4, hq4⟩ := own_row hov2 f2 (layV_len s.fs)
      have k36 := row_below2 h6 k35 (by omega)
      have r36 := row_below2 h6 r35 (by omega)
      have b6' := b4.trans (h6.mono b4.size)
      have hxne : w3.heap.size ≠ g3 := by omega
      have h34 : g3 ≠ g4 := by omega
      have h3x : w.heap.size ≤ g3 := by omega
      have hn12 : s.fs.length ≤ 12 := f3
      clear c0 c1 c2 k4 k35 r35 hfd5 hsm hzz hov2 h6
      generalize w3.heap.size = xb at *
      obtain ⟨c0, c1, c2⟩ := sc_cells3 k36
      go_wp2_with fail
      go_loopw [80] (fun k wr => ∃ (j : Nat) (cs : Array Value), j ≤ s.fs.length ∧ k = .int .i64 j ∧ Below w.heap.size w wr ∧ wr.heap[xb]? = some (.cells #[.int .i64 (layV s.fs).size, .int .i64 (layV s.fs).line, .slice (some ⟨g3, 0, none⟩) s.fs.length cap3] 32) ∧ wr.heap[g3]? = some (.cells cs 3 (0, 0)) ∧ (∀ q, j ≤ q → q < s.fs.length → cs[q]? = some (.int .i64 ((layV s.fs).offs.getD q 0))) ∧ wr.heap[g4]? = some (.cells cur4 3 (0, 0))) (fun k _ => s.fs.length - (intOf k).toNat)
      case atStart => exact ⟨0, cur3, Nat.zero_le _, rfl, b6', k36, r36, fun q _ h => hq3 q h, hr4⟩
      case round =>
        obtain ⟨j, cs, hj, rfl, bw, kw, rw3, hqw, rw4⟩ := hrel
        by_cases hlt : j < s.fs.length
        · have e3 : wr.cell? ⟨g3, j, none⟩ = some (.int .i64 ((layV s.fs).offs.getD j 0)) := (cell_of_row _ _ _ _ _ _ rw3).trans (hqw j (Nat.le_refl _) hlt)
          have e4 : wr.cell? ⟨g4, j, none⟩ = some (.int .i64 ((layV s.fs).offs.getD j 0)) := (cell_of_row _ _ _ _ _ _ rw4).trans (hq4 j hlt)
          have fz := frozen_of_row _ _ j _ _ rw3
          obtain ⟨a0, a1, a2⟩ := sc_cells3 kw
          have dj0 : (0 : Int) ≤ (j : Int) := by omega
          have dj1 : (j : Int) < (s.fs.length : Int) := by omega
          generalize (layV s.fs).offs.getD j 0 = off at *
          have e3' : ∀ k, (wr.drewN k).cell? ⟨g3, j, none⟩ = some (.int .i64 off) := fun k => by rw [← e3]; exact (below_drewN (Below.refl (wr.heap.size) wr) k).cell (lt_of_row rw3)
          have fz' : ∀ k, (wr.drewN k).frozen? ⟨g3, j, none⟩ = false := fun k => by rw [← fz]; exact (below_drewN (Below.refl (wr.heap.size) wr) k).frozen (lt_of_row rw3)
          have a2' : ∀ k, (wr.drewN k).cell? ⟨xb, 2, none⟩ = some (.slice (some ⟨g3, 0, none⟩) s.fs.length cap3) := fun k => by rw [← a2]; exact (below_drewN (Below.refl (wr.heap.size) wr) k).cell (lt_of_row kw)
          go_wp2_with fail
          go_quiet (fail)
          go_wp2
          go_roundw
          case rel =>
            have hD := fun m => below_drewN (Below.refl (wr.heap.size) wr) m
            refine ⟨j + 1, cs.setIfInBounds j (.int .i64 (-1)), by omega, by go_num, (below_drewN bw _).setCell h3x _, ?_, ?_, ?_, ?_⟩
            · rw [heap_setCell_other _ _ _ _ hxne, (hD _).block _ (lt_of_row kw)]; exact kw
            · exact heap_setCell_same _ _ _ _ _ _ (((hD _).block _ (lt_of_row rw3)).trans rw3)
            · intro q h1 h2
              rw [Array.getElem?_setIfInBounds_ne (by omega)]
              exact hqw q (by omega) h2
            · rw [heap_setCell_other _ _ _ _ (fun e => h34 e.symm), (hD _).block _ (lt_of_row rw4)]; exact rw4
          case measure => simp [intOf]; omega
        · have hjn : j = s.fs.length := by omega
          subst hjn
          have hstop : decide ((s.fs.length : Int) < (s.fs.length : Int)) = false := by simp
          clear hqw kw rw3 rw4 k36 r36 c0 c1 c2
          go_wp2_with fail
          refine (HB.out _ _ _ c (hS.keep bw (Nat.le_refl _)) bw.size).1.mono ?_
          rintro e w5 ⟨rfl, h5⟩
          have b5 := bw.trans (h5.mono bw.size)
          have b6 := b5.alloc b5.size (.cells #[.int .i64 t.ba, .int .i64 t.st, .string t.sn] 43)
          have k6 := heap_alloc_new w5 (.cells #[.int .i64 t.ba, .int .i64 t.st, .string t.sn] 43)
          go_wp2_with fail
          refine (HB.out _ _ _ c (hS.keep b6 (Nat.le_refl _)) b6.size).2.mono ?_
          rintro e w7 ⟨rfl, h7⟩
          have b7 := b6.trans (h7.mono b6.size)
          have k7 := row_below2 h7 k6 (by simp)
          have b8 := b7.alloc b7.size (.cells #[.int .i64 t.ba, .int .i64 t.st, .string t.sn] 43)
          have k8 := heap_alloc_new w7 (.cells #[.int .i64 t.ba, .int .i64 t.st, .string t.sn] 43)
          have k78 := row_below2 ((Below.refl w7.heap.size w7).alloc (Nat.le_refl _) (.cells #[.int .i64 t.ba, .int .i64 t.st, .string t.sn] 43)) k7 (lt_of_row k7)
          obtain ⟨x0, x1, x2⟩ := sc_cells3 k78
          obtain ⟨y0, y1, y2⟩ := sc_cells3 k8
          rcases hbe with ⟨rfl, rfl⟩ | ⟨rfl, rfl⟩
          · go_wp2
            go_ret
            exact ⟨by simp, b8⟩
          · go_wp2
            go_ret
            exact ⟨by simp, b8⟩
end Go.Proofs.Ytlghhailckoonab
