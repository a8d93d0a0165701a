/- The document's field of a struct. Conditions: each theorem's. -/
import Derived.Test.YtlghhailckoonabLayY
import Derived.Deep.RegionWith
namespace Go.Proofs.Ytlghhailckoonab
open Go.RowKit Go.Maps
set_option linter.unusedVariables false
set_option linter.unusedSimpArgs false
set_option maxRecDepth 10000
open Py
theorem own_atB {w : World} {base k : Nat} {v : Value} {xs : List Int} (h : w.ownsRow base 3 1 v xs.length (ints xs)) (hk : k < xs.length) : ∃ g cap, v = .slice (some ⟨g, 0, none⟩) xs.length cap ∧ base ≤ g ∧ g < w.heap.size ∧ w.cell? ⟨g, k, none⟩ = some (.int .i64 (xs.getD k 0)) := by
  rcases h.2 with ⟨rfl, hn⟩ | ⟨g, cap, cur, rfl, hg, hh, hnc, _, hsz, htk⟩
  · omega
  · refine ⟨g, cap, rfl, hg, lt_of_row hh, ?_⟩
    rw [cell_of_row w g k _ _ _ hh]
    have h1 := getD_ints xs k hk
    rw [← htk, List.getElem?_take] at h1
    split at h1
    · simpa using h1
    · cases h1
theorem fnd_at {l : List Sc} {nm : ByteArray} {i : Nat} (hi : sIdx l nm = i) : fnd l nm = l.getD i sc0 := by unfold fnd; rw [hi, if_pos (by omega), Int.toNat_natCast]
set_option maxHeartbeats 8000000 in
theorem rfield_in {w : World} {B i : Nat} {A : Option Addr} {c : Nat} {l : List Sc} (nm fn : ByteArray) (hS : ScsAt w B A l) (hB : B ≤ w.heap.size) (hl : l.length ≤ 1099511627776) (hi : sIdx l nm = i) (hf40 : (l.getD i sc0).fs.length ≤ 1048576) (hsm : ∀ k, k < (l.getD i sc0).fs.length → small ((l.getD i sc0).fs.getD k fd0).ty = sizeV ((l.getD i sc0).fs.getD k fd0).ty) (hz : ∀ k, k < (l.getD i sc0).fs.length → sizeV ((l.getD i sc0).fs.getD k fd0).ty = 1 ∨ sizeV ((l.getD i sc0).fs.getD k fd0).ty = 4 ∨ sizeV ((l.getD i sc0).fs.getD k fd0).ty = 8) (h0 : 0 < (l.getD i sc0).fs.length) :
    Calls Try.prog 18 #[.slice A l.length c, .string nm, .string fn] w fun e w' => (∀ k : Nat, fIdx (l.getD i sc0).fs fn = k → e = .returned (.tuple #[.agg #[.int .i64 ((l.getD i sc0).fs.getD k fd0).ty.ba, .int .i64 ((l.getD i sc0).fs.getD k fd0).ty.st, .string ((l.getD i sc0).fs.getD k fd0).ty.sn], .int .i64 ((layV (l.getD i sc0).fs).offs.getD k 0), .bool true])) ∧ (fIdx (l.getD i sc0).fs fn < 0 → e = .returned (.tuple #[.agg #[.int .i64 0, .int .i64 0, .string ⟨#[]⟩], .int .i64 0, .bool false])) ∧ Below w.heap.size w w' := by
  have hb0 := (Below.refl w.heap.size w).alloc (Nat.le_refl _) (.cells #[.int .i64 0, .int .i64 0, .string ⟨#[]⟩] 43)
  have h1 : decide (0 ≤ sIdx l nm) = true := decide_eq_true (by omega)
  go_enter Try.func18, Try.ntmps18
  go_wp2_with fail
  refine (find_any nm (hS.keep hb0 hB) (by simp only [szA]; omega) hl).mono ?_
  rintro e w2 ⟨v, rfl, hv, h2⟩
  rw [h1]
  rw [fnd_at hi] at hv
  obtain ⟨fA, fc, rfl, hfc, hfm, hfd⟩ := hv
  generalize hss : l.getD i sc0 = s at *
  have HSS := Lib.hid hss
  clear hss
  have hb2 := hb0.trans (h2.mono (by simp only [szA]; omega))
  have hz2 := hb2.size
  have h4 := row_below2 h2 (heap_alloc_new w (.cells #[.int .i64 0, .int .i64 0, .string ⟨#[]⟩] 43)) (by simp)
  have hl4 := lt_of_row h4
  have hbB : Below w2.heap.size w2 (w2.alloc (.cells #[.string s.nm, .slice fA s.fs.length fc, .int .i64 s.at_] 37)) := (Below.refl w2.heap.size w2).alloc (Nat.le_refl _) _
  have h5 := row_below2 hbB h4 hl4
  have h6 := heap_alloc_new w2 (.cells #[.string s.nm, .slice fA s.fs.length fc, .int .i64 s.at_] 37)
  have hfdB := hfd.keep hbB (by omega)
  have hb3 := hb2.trans (hbB.mono hb2.size)
  have hzB : (w2.alloc (.cells #[.string s.nm, .slice fA s.fs.length fc, .int .i64 s.at_] 37)).heap.size = w2.heap.size + 1 := szA _ _
  clear h2 hb0 h4 hfd hbB
  obtain ⟨c0, c1, c2⟩ := sc_cells3 h6
  obtain ⟨v0, v1, v2⟩ := sc_frozen3 h6
  go_wp2_with fail
  generalize w2.alloc (.cells #[.string s.nm, .slice fA s.fs.length fc, .int .i64 s.at_] 37) = wB at *
  refine (places_any s.nm s.at_ hfdB (by omega) hf40 hsm hz h0).mono ?_
  rintro e w4 ⟨ov, rfl, hov, hb4⟩
  have h54 := row_below2 hb4 h5 (lt_of_row h5)
  have h64 := row_below2 hb4 h6 (lt_of_row h6)
  have hfd4 := hfdB.keep hb4 (by omega)
  have hbA := hb3.trans (hb4.mono (by omega))
  rw [← layV_len s.fs] at hov
  obtain ⟨oA, on, oc, rfl⟩ := own_slice hov
  have hcel := fun (k : Nat) (hk : k < (layV s.fs).offs.length) => own_atB hov hk
  rw [layV_len] at hcel
  clear c0 c1 c2 v0 v1 v2 h5 h6 hfdB hb4 hb2 hb3 hov hsm hz
  obtain ⟨c0, c1, c2⟩ := sc_cells3 h64
  generalize hsb : w2.heap.size = sb at *
  have hsbne : w.heap.size ≠ sb := by omega
  go_wp2_with fail
  go_loopw [33] (fun k wr => ∃ j : Nat, j ≤ s.fs.length ∧ k = .int .i64 j ∧ (∀ i, i < j → ((s.fs.getD i fd0).nm.toList == fn.toList) = false) ∧ wr = w4) (fun k _ => s.fs.length - (intOf k).toNat)
  case atStart => exact ⟨0, Nat.zero_le _, rfl, fun i hi => by omega, rfl⟩
  case round =>
    obtain ⟨j, hj, rfl, hno, rfl⟩ := hrel
    by_cases hlt : j < s.fs.length
    · obtain ⟨g2, o2, rfl, hg2, hrg2⟩ := hfd4 (by omega)
      have hr2 := hrg2 j hlt
      obtain ⟨g3, cap3, he3, hg3b, hg3, hc3⟩ := hcel j hlt
      cases he3
      have hg3ne : w.heap.size ≠ g3 := by omega
      have hg2ne : w.heap.size ≠ g2 := by omega
      have t9 : wr.cell? ⟨g2, o2 + j * 5, none⟩ = some (.string (s.fs.getD j fd0).nm) := hr2 0 _ rfl
      have t0 : wr.cell? ⟨g2, o2 + j * 5 + 1, none⟩ = some (.int .i64 (s.fs.getD j fd0).ty.ba) := hr2 1 _ rfl
      have t1 : wr.cell? ⟨g2, o2 + j * 5 + 1 + 1, none⟩ = some (.int .i64 (s.fs.getD j fd0).ty.st) := hr2 2 _ rfl
      have t2 : wr.cell? ⟨g2, o2 + j * 5 + 1 + 2, none⟩ = some (.string (s.fs.getD j fd0).ty.sn) := hr2 3 _ rfl
      have dj0 : (0 : Int) ≤ (j : Int) := by omega
      have dj1 : (j : Int) < (s.fs.length : Int) := by omega
      have hhit := idx_hit (fun f : Fe => f.nm.toList == fn.toList) s.fs fd0 j hlt hno
      clear hrg2 hr2
      generalize hff : s.fs.getD j fd0 = f at *
      cases hq : (f.nm.toList == fn.toList)
      · go_wp2
        go_roundw
        case rel =>
          refine ⟨j + 1, by omega, by go_num, fun i hi => ?_, trivial⟩
          rcases Nat.lt_or_ge i j with h | h
          · exact hno i h
          · obtain rfl : i = j := by omega
            rw [hff]; exact hq
        case measure => simp [intOf]; omega
      · have hsi : fIdx s.fs fn = (j : Int) := hhit hq
        have HSI := Lib.hid hsi
        have HFF := Lib.hid hff
        clear hsi hhit hff
        clear hcel hno
        have HFD := Lib.hid hfd4
        clear hfd4
        obtain ⟨r0, r1, r2⟩ := sc_cells3 h54
        obtain ⟨s0, s1, s2⟩ := sc_frozen3 h54
        go_wp2_with fail
        go_region
        all_goals
          go_wp2
          have hbD : Below w.heap.size w wr.drew := hbA.drew
          have a1 := heap_setCell_same wr.drew w.heap.size 0 _ _ (.int .i64 f.ty.ba) h54
          have a2 := heap_setCell_same _ w.heap.size 1 _ _ (.int .i64 f.ty.st) a1
          have a3 := heap_setCell_same _ w.heap.size 2 _ _ (.string f.ty.sn) a2
          refine bodyPost_ret (v := .tuple #[.agg #[.int .i64 f.ty.ba, .int .i64 f.ty.st, .string f.ty.sn], .int .i64 ((layV s.fs).offs[j]?.getD 0), .bool true]) (res_cell_tmp3 Try.results18 _ _ w.heap.size 43 _ (0, 0) _ _ _ rfl rfl rfl a3 Try.underlying43 rfl sizeTy) rfl ⟨fun k hk => ?_, fun hk => ?_, ((hbD.setCell (Nat.le_refl _) _).setCell (Nat.le_refl _) _).setCell (Nat.le_refl _) _⟩
          · rw [HSS.out, HSI.out] at hk
            obtain rfl : j = k := by omega
            rw [HSS.out, HFF.out, List.getD_eq_getElem?_getD]
          · rw [HSS.out, HSI.out] at hk; omega
    · obtain rfl : j = s.fs.length := by omega
      have hsi : fIdx s.fs fn = -1 := idx_none _ s.fs fd0 hno
      have HSI := Lib.hid hsi
      have hstop : decide ((s.fs.length : Int) < (s.fs.length : Int)) = false := by simp
      clear hsi
      obtain ⟨r0, r1, r2⟩ := sc_cells3 h54
      obtain ⟨s0, s1, s2⟩ := sc_frozen3 h54
      go_wp2
      have a1 := heap_setCell_same _ w.heap.size 0 _ _ (.int .i64 0) h54
      have a2 := heap_setCell_same _ w.heap.size 1 _ _ (.int .i64 0) a1
      have a3 := heap_setCell_same _ w.heap.size 2 _ _ (.string ⟨#[]⟩) a2
      exact bodyPost_ret (v := .tuple #[.agg #[.int .i64 0, .int .i64 0, .string ⟨#[]⟩], .int .i64 0, .bool false]) (res_cell_tmp3 Try.results18 _ _ w.heap.size 43 _ (0, 0) _ _ _ rfl rfl rfl a3 Try.underlying43 rfl sizeTy) rfl ⟨fun k hk => by rw [HSS.out, HSI.out] at hk; omega, fun _ => rfl, ((hbA.setCell (Nat.le_refl _) _).setCell (Nat.le_refl _) _).setCell (Nat.le_refl _) _⟩
end Go.Proofs.Ytlghhailckoonab
