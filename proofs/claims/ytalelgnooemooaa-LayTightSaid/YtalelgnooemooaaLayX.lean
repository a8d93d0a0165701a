/- The document's places of fields. Conditions: each theorem's. -/
import Derived.Test.YtalelgnooemooaaLayP
import Derived.Test.YtalelgnooemooaaLayB
import Derived.Test.YtalelgnooemooaaLayQ
namespace Go.Proofs.Ytalelgnooemooaa
open Go.RowKit Go.Maps
set_option linter.unusedVariables false
set_option linter.unusedSimpArgs false
set_option maxRecDepth 10000
open Py
namespace Py
theorem small_eq {l : List Sc} {t : Ty} (h : mayBe l t = true) : small t = sizeV t := by
  obtain ⟨hk, h0, hw⟩ := mayBe_facts h
  unfold sizeV small
  by_cases hs : 0 < t.st
  · rw [if_pos hs, if_pos hs]
  rw [if_neg hs, if_neg hs]
  unfold known at hk
  by_cases h1 : t.st < 0 ∨ 4 < t.st
  · rw [if_pos h1] at hk; cases hk
  rw [if_neg h1] at hk
  have hst : t.st = 0 := by omega
  by_cases h4 : t.ba = 4
  · exfalso; simp [whole, h4, hst] at hw
  rw [if_neg h4] at hk
  simp only [Bool.and_eq_true, decide_eq_true_eq] at hk
  obtain ⟨⟨a, b⟩, e⟩ := hk
  have hsn : t.sn = ByteArray.empty := by
    apply Go.WideShapes.bytes_inj
    have : t.sn.toList = [] := by simpa using e
    rw [ByteArray.toList_eq] at this
    rw [this]; rfl
  obtain ⟨tb, ts, tn⟩ := t
  dsimp only at *
  subst hst hsn
  have hb : tb = 1 ∨ tb = 2 ∨ tb = 3 := by omega
  rcases hb with rfl | rfl | rfl <;> decide
/-- The least multiple. -/
theorem next_mod {n z : Int} (hz : z = 1 ∨ z = 4 ∨ z = 8) : nextV n z % z = 0 := by
  unfold nextV
  rcases hz with rfl | rfl | rfl <;> simp <;> omega
theorem next_least {n z a : Int} (hz : z = 1 ∨ z = 4 ∨ z = 8) (h1 : n ≤ a) (h2 : a ≤ nextV n z) (h3 : a % z = 0) : a = nextV n z := by
  unfold nextV at h2 ⊢
  rcases hz with rfl | rfl | rfl <;> simp at h2 ⊢ <;> omega
theorem line_posN {fs : List Fe} (hz : ∀ k, k < fs.length → sizeV (fs.getD k fd0).ty = 1 ∨ sizeV (fs.getD k fd0).ty = 4 ∨ sizeV (fs.getD k fd0).ty = 8) (k : Nat) (h0 : 0 < k) (hk : k ≤ fs.length) : (layN fs k).line = 1 ∨ (layN fs k).line = 4 ∨ (layN fs k).line = 8 := by
  obtain ⟨m, rfl⟩ : ∃ m, k = m + 1 := ⟨k - 1, by omega⟩
  rw [layN_succ fs m (by omega)]
  obtain ⟨y1, y2, y3, y4⟩ := layN_ok fs m (by omega)
  have := hz m (by omega)
  unfold layStep
  dsimp only
  generalize sizeV (fs.getD m fd0).ty = z at *
  split <;> omega
def lnV (y : Ly) : Int := if y.line = 0 then 1 else y.line
end Py
theorem wrap_up {a : Int} (h : 0 ≤ a ∧ a < 1099511627776) : wrap64 (a + 1) = a + 1 := by unfold wrap64; omega
set_option maxHeartbeats 4000000 in
theorem places_any {w : World} {B : Nat} {fA : Option Addr} {fc : Nat} {fs : List Fe} (nm : ByteArray) (sat : Int) (hFS : FdsAt w B fA fs) (hB : B ≤ w.heap.size) (hf40 : fs.length ≤ 1048576) (hsm : ∀ k, k < fs.length → small (fs.getD k fd0).ty = sizeV (fs.getD k fd0).ty) (hz : ∀ k, k < fs.length → sizeV (fs.getD k fd0).ty = 1 ∨ sizeV (fs.getD k fd0).ty = 4 ∨ sizeV (fs.getD k fd0).ty = 8) (h0 : 0 < fs.length) :
    Calls Try.prog 17 #[.agg #[.string nm, .slice fA fs.length fc, .int .i64 sat]] w fun e w' => ∃ ov, e = .returned (.tuple #[ov, .int .i64 (layV fs).size, .int .i64 (layV fs).line]) ∧ w'.ownsRow w.heap.size 3 1 ov fs.length (ints (layV fs).offs) ∧ Below w.heap.size w w' := by
  obtain ⟨i0, hi0, hz0, hz1, hz2⟩ := info_parts infoInt
  have hbA : Below w.heap.size w (w.alloc (.cells #[.string nm, .slice fA fs.length fc, .int .i64 sat] 45)) := (Below.refl _ _).alloc (Nat.le_refl _) _
  have hbx := heap_alloc_new w (.cells #[.string nm, .slice fA fs.length fc, .int .i64 sat] 45)
  obtain ⟨c0, c1, c2⟩ := sc_cells3 hbx
  go_enter Try.func17, Try.ntmps17
  go_wp2
  generalize hwA : w.alloc (.cells #[.string nm, .slice fA fs.length fc, .int .i64 sat] 45) = wA at *
  have hzA : wA.heap.size = w.heap.size + 1 := by rw [← hwA]; exact szA _ _
  clear hwA c0 c1 c2
  go_loopw [5, 6, 7, 13] (fun s5 s6 s7 k wr => ∃ j : Nat, j ≤ fs.length ∧ k = .int .i64 j ∧ s6 = .int .i64 (layN fs j).size ∧ s7 = .int .i64 (lnV (layN fs j)) ∧ wr.ownsRow wA.heap.size 3 1 s5 j (ints (layN fs j).offs) ∧ Below wA.heap.size wA wr) (fun _ _ _ k _ => fs.length - (intOf k).toNat)
  case atStart => exact ⟨0, Nat.zero_le _, rfl, rfl, rfl, ⟨rfl, .inl ⟨rfl, rfl⟩⟩, Below.refl _ _⟩
  case round =>
    obtain ⟨j, hj, rfl, rfl, rfl, hov, hbe⟩ := hrel
    have hbz := hbe.size
    obtain ⟨c0, c1, c2⟩ := sc_cells3 (row_below2 hbe hbx (by omega))
    by_cases hlt : j < fs.length
    · obtain ⟨g, o, rfl, hg, hrg⟩ := hFS (by omega)
      have hr' := range_keep (hrg j hlt) (Nat.lt_of_lt_of_le hg hB) (hbA.trans (hbe.mono (by omega)))
      have hstep := layN_succ fs j hlt
      obtain ⟨y1, y2, y3, y4⟩ := layN_ok fs j hj
      have hzj := hz j hlt
      have hsj := hsm j hlt
      have t0 : wr.cell? ⟨g, o + j * 5 + 1, none⟩ = some (.int .i64 (fs.getD j fd0).ty.ba) := hr' 1 _ rfl
      have t1 : wr.cell? ⟨g, o + j * 5 + 1 + 1, none⟩ = some (.int .i64 (fs.getD j fd0).ty.st) := hr' 2 _ rfl
      have t2 : wr.cell? ⟨g, o + j * 5 + 1 + 2, none⟩ = some (.string (fs.getD j fd0).ty.sn) := hr' 3 _ rfl
      have dj0 : (0 : Int) ≤ (j : Int) := by omega
      have dj1 : (j : Int) < (fs.length : Int) := by omega
      have hlS : layStep (layN fs j) (fs.getD j fd0) = ⟨(layN fs j).offs ++ [nextV (layN fs j).size (sizeV (fs.getD j fd0).ty)], nextV (layN fs j).size (sizeV (fs.getD j fd0).ty) + sizeV (fs.getD j fd0).ty, if (layN fs j).line < sizeV (fs.getD j fd0).ty then sizeV (fs.getD j fd0).ty else (layN fs j).line⟩ := rfl
      rw [hlS] at hstep
      clear hlS hrg hr'
      generalize (fs.getD j fd0).ty = t at *
      have hbig := next_room (layN fs j).size (sizeV t) y2 (by omega)
      have hnm := next_mod (n := (layN fs j).size) hzj
      have hnle := next_le y2 hzj
      have hleast := fun a => next_least (n := (layN fs j).size) (a := a) hzj
      have HST := Lib.hid hstep
      go_wp2_with fail
      refine (small_any t wr).mono ?_
      rintro e w2 ⟨rfl, h2⟩
      rw [hsj]
      have hbe2 := hbe.trans (h2.mono hbe.size)
      have hov2 := ownsRow_at hov (fun g' cur _ hg' => row_below2 h2 hg' (lt_of_row hg'))
      obtain ⟨e0, e1, e2⟩ := sc_cells3 (row_below2 h2 (row_below2 hbe hbx (by omega)) (by omega))
      clear hstep hov t0 t1 t2 c0 c1 c2
      generalize sizeV t = z at *
      have hln : lnV (layN fs j) = if (layN fs j).line = 0 then 1 else (layN fs j).line := rfl
      have HLN0 := Lib.hid hln; clear hln
      generalize hs1 : (layN fs j).size = S at *
      generalize hs2 : (layN fs j).line = L at *
      generalize hs3 : (layN fs j).offs = O at *
      have hz1' : decide (z < 1) = false := decide_eq_false (by omega)
      have hzz : (z == 0) = false := beq_eq_false_iff_ne.mpr (by omega)
      go_wp2_with fail
      go_loopw [6] (fun s6 w3 => ∃ a : Int, s6 = .int .i64 a ∧ S ≤ a ∧ a ≤ nextV S z ∧ w3 = w2) (fun s6 _ => (nextV S z - intOf s6).toNat)
      case atStart => exact ⟨S, rfl, Int.le_refl _, hnle, rfl⟩
      case round =>
        obtain ⟨a, rfl, ha1, ha2, rfl⟩ := hrel
        have ha0 : 0 ≤ a := by omega
        have hzp : 0 < z := by omega
        cases hmd : (a % z == 0)
        · have hmd' : ¬ a % z = 0 := by simpa using hmd
          have hlt2 : a < nextV S z := by
            rcases Int.lt_or_eq_of_le ha2 with h | h
            · exact h
            · exact absurd (h ▸ hnm) hmd'
          go_wp2
          go_roundw
          case rel => exact ⟨a + 1, by go_num, by omega, by omega, trivial⟩
          case measure => simp [intOf]; omega
        · have hav := hleast a ha1 ha2 (by simpa using hmd)
          have hln := HLN0.out
          clear HLN0
          generalize lnV (layN fs j) = ln at *
          have hlz : 1 ≤ ln ∧ ln ≤ 8 := by rw [hln]; split <;> omega
          have hlnext : lnV ⟨O ++ [nextV S z], nextV S z + z, if L < z then z else L⟩ = if ln < z then z else ln := by
            rw [hln]; unfold lnV; dsimp only
            rcases y4 with e | e | e | e <;> rcases hzj with e' | e' | e' <;> simp [e, e']
          have HLN := Lib.hid hlnext
          clear hlnext hln hleast hnm
          generalize nextV S z = off at *
          have hav' := hav.symm
          clear hav
          subst hav'
          cases hgt : decide (ln < z)
          all_goals
            have hgt' := Lib.hid hgt
            go_wp2_with (at_builtin; refine wpList_append_lies (o := ⟨some 34, _, _, _, _, _⟩) _ rfl (.tmp 31) (.tmp 33) 48 rfl wA.heap.size 3 i0 (.int .i64 0) 1 8 Try.underlying48 hi0 hz0 hz1 hz2 rfl (by decide) _ _ _ rfl (hov2.alloc _) ⟨wr.heap.size, 0, none⟩ 1 1 [.int .i64 off] rfl rfl (World.news_of_block (cs := #[.int .i64 off]) (t := 3) (fr := (0, 0)) (heap_alloc_new wr _)) (by simp [Value.oneCell']) (by omega) (by unfold maxLen; omega) (by omega) (by have := hbe2.size; simp only [szA]; omega) (wr.heap.size + 1) (szA _ _) ?_; intro ga cap w3 hown3 hgrow hat hlt3)
            have hb3 : Below wA.heap.size wA w3 := (hbe2.alloc hbe2.size (.cells #[.int .i64 off] 3)).grown hgrow (by simp only [szA]; have := hbe2.size; omega) (fun k hk => by
              rcases Nat.lt_or_ge k wA.heap.size with hlt' | hge
              · exact absurd hk (own_base hov2 hlt')
              · exact hge)
            go_roundw
            case rel =>
              refine ⟨j + 1, by omega, by go_num, by rw [HST.out], ?_, ?_, hb3⟩
              · rw [HST.out, HLN.out]
                have := hgt'.out
                simp at this
                first | rw [if_neg (by omega)] | rw [if_pos (by omega)]
              · rw [HST.out]
                have e : ints (O ++ [off]) = ints O ++ [.int .i64 off] := by simp [ints]
                show World.ownsRow _ _ _ _ _ _ (ints (O ++ [off]))
                rw [e]
                exact hown3
            case measure => simp [intOf]; omega
    · have hjn : j = fs.length := by omega
      subst hjn
      obtain ⟨y1, y2, y3, y4⟩ := layN_ok fs fs.length (Nat.le_refl _)
      have hL := line_posN hz fs.length h0 (Nat.le_refl _)
      have hln : lnV (layN fs fs.length) = (layN fs fs.length).line := by
        unfold lnV
        rw [if_neg (by omega)]
      rw [hln]
      have hbig := next_room (layN fs fs.length).size (layN fs fs.length).line y2 (by omega)
      have hnm := next_mod (n := (layN fs fs.length).size) hL
      have hnle := next_le y2 hL
      have hleast := fun a => next_least (n := (layN fs fs.length).size) (a := a) hL
      have hs : (layV fs).size = nextV (layN fs fs.length).size (layN fs fs.length).line := rfl
      have hl : (layV fs).line = (layN fs fs.length).line := rfl
      have ho : (layV fs).offs = (layN fs fs.length).offs := rfl
      have HS := Lib.hid hs
      have HL := Lib.hid hl
      have HO := Lib.hid ho
      have hstop : decide ((fs.length : Int) < (fs.length : Int)) = false := by simp
      clear hs hl ho hln hsm hz
      generalize (layN fs fs.length).size = S at *
      generalize (layN fs fs.length).line = L at *
      generalize (layN fs fs.length).offs = O at *
      go_wp2_with fail
      go_loopw [6] (fun s6 w3 => ∃ a : Int, s6 = .int .i64 a ∧ S ≤ a ∧ a ≤ nextV S L ∧ w3 = wr) (fun s6 _ => (nextV S L - intOf s6).toNat)
      case atStart => exact ⟨S, rfl, Int.le_refl _, hnle, rfl⟩
      case round =>
        obtain ⟨a, rfl, ha1, ha2, rfl⟩ := hrel
        have ha0 : 0 ≤ a := by omega
        have hzp : 0 < L := by omega
        have hL1 : (L == 0) = false := beq_eq_false_iff_ne.mpr (by omega)
        cases hmd : (a % L == 0)
        · have hmd' : ¬ a % L = 0 := by simpa using hmd
          have hlt2 : a < nextV S L := by
            rcases Int.lt_or_eq_of_le ha2 with h | h
            · exact h
            · exact absurd (h ▸ hnm) hmd'
          go_wp2
          go_roundw
          case rel => exact ⟨a + 1, by go_num, by omega, by omega, trivial⟩
          case measure => simp [intOf]; omega
        · have hav := hleast a ha1 ha2 (by simpa using hmd)
          clear hleast hnm
          generalize nextV S L = off at *
          have hav' := hav.symm
          clear hav
          subst hav'
          go_wp2
          go_ret3
          refine ⟨u5, by rw [HS.out, HL.out]; rfl, ?_, hbA.trans (hbe.mono (by omega))⟩
          rw [HO.out]
          exact own_lower hov (by omega)
end Go.Proofs.Ytalelgnooemooaa
