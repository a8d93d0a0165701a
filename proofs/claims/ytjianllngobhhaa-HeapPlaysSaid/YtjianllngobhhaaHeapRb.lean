/- The document's At. Conditions: each theorem's. -/
import Derived.Test.YtjianllngobhhaaHeapRa
namespace Go.Proofs.Ytjianllngobhhaa
open Go.RowKit Go.Maps
set_option linter.unusedVariables false
set_option linter.unusedSimpArgs false
set_option maxRecDepth 100000
open Hp
namespace Hp
/-- What At answers, where a block's liveness is L. -/
def atV (L : Bool) (p : Ptr) (n : Int) : Int := if wid n = false then 1 else if p.bl = 0 then 22 else if L = false then 20 else if fits p n then 0 else 21
end Hp
set_option maxHeartbeats 4000000 in
theorem rat_any {w : World} {base : Nat} {v : Value} {l : List Rb} (p : Ptr) (hp : p.ok) (n : Int) (H : RfAt w base v l) :
    Calls Try.prog 29 #[.agg #[v], p.v, .int .i64 n] w fun e w' => e = .returned (.int .i64 (atV (rLiv l p.bl) p n)) ∧ Below w.heap.size w w' := by
  obtain ⟨E, hEE⟩ : ∃ E, E = atV (rLiv l p.bl) p n := ⟨_, rfl⟩
  rw [← hEE]
  obtain ⟨A, c, rfl⟩ := rsl H.row
  obtain ⟨b, o, lo, hi⟩ := p
  obtain ⟨p1, p2, p3, p4⟩ := hp
  have HL := Lib.hid (fun (X : World) (hX : Below w.heap.size w X) => rlive_any b p1 (H.below hX))
  have HB2 : Hid (Below w.heap.size w ((w.alloc (.cells #[.slice A l.length c] 28)).alloc (.cells #[.int .i64 b, .int .i64 o, .int .i64 lo, .int .i64 hi] 39))) := Lib.hid (((Below.refl _ _).alloc (Nat.le_refl _) _).alloc (by simp) _)
  clear H
  generalize rLiv l b = L at *
  simp only [Ptr.v] at *
  cases hw : wid n
  · have e1 : E = 1 := by rw [hEE]; unfold atV; rw [hw]; rfl
    subst e1
    have h1 : (n != 1) = true ∧ (n != 4) = true ∧ (n != 8) = true := by unfold wid at hw; simpa [and_assoc] using hw
    obtain ⟨h1, h2, h3⟩ := h1
    clear hEE hw HL
    go_enter Try.func29, Try.ntmps29
    go_wp2
    go_ret
    exact ⟨rfl, HB2.out⟩
  · by_cases hz : b = 0
    · have e1 : E = 22 := by rw [hEE]; unfold atV; rw [hw]; simp [hz]
      subst hz
      subst e1
      clear hEE HL
      rcases wid_or hw with rfl | rfl | rfl
      all_goals
        go_enter Try.func29, Try.ntmps29
        go_wp2
        go_ret
        exact ⟨rfl, HB2.out⟩
    · have hz' : (b == 0) = false := by simpa using hz
      unfold atV at hEE
      rw [hw] at hEE
      simp only [Bool.true_eq_false, if_false, if_neg hz] at hEE
      have HE := Lib.hid hEE
      clear hEE hz
      have hn : 1 ≤ n ∧ n ≤ 8 := by rcases wid_or hw with rfl | rfl | rfl <;> omega
      have HN := Lib.hid hn
      have hn1 : IntKind.i64.wrap (n - 1) = n - 1 := IntWalk.i64_in _ (by omega)
      have hc : (n != 1) = false ∨ ((n != 1) = true ∧ (n != 4) = false) ∨ ((n != 1) = true ∧ (n != 4) = true ∧ (n != 8) = false) := by
        rcases wid_or hw with rfl | rfl | rfl
        · exact .inl (by decide)
        · exact .inr (.inl (by decide))
        · exact .inr (.inr (by decide))
      clear hw hn
      have hb2c : ∀ w2, Below (w.heap.size + 1 + 1) ((w.alloc (.cells #[.slice A l.length c] 28)).alloc (.cells #[.int .i64 b, .int .i64 o, .int .i64 lo, .int .i64 hi] 39)) w2 → w2.heap[w.heap.size + 1]? = some (.cells #[.int .i64 b, .int .i64 o, .int .i64 lo, .int .i64 hi] 39) ∧ Below w.heap.size w w2 := fun w2 h => ⟨row_in h (row_new (by simp) _) (by omega), HB2.out.trans (h.mono (by omega))⟩
      rcases hc with h1 | ⟨h1, h2⟩ | ⟨h1, h2, h3⟩
      all_goals
        go_enter Try.func29, Try.ntmps29
        go_wp2_with fail
        refine (HL.out _ HB2.out).mono ?_
        rintro e w2 ⟨rfl, hb2⟩
        simp only [World.size_alloc] at hb2
        obtain ⟨g1, hbb⟩ := hb2c _ hb2
        clear hb2 hb2c HB2 HL
        cases L
        · obtain rfl : E = 20 := HE.out
          go_wp2
          go_ret
          exact ⟨rfl, hbb⟩
        · have hE : E = if fits ⟨b, o, lo, hi⟩ n then 0 else 21 := HE.out
          clear HE
          obtain ⟨c0, c1, c2, c3⟩ := cells4 g1
          by_cases hlo : o < lo
          · have e1 : E = 21 := by rw [hE, if_neg]; unfold fits; simp; omega
            subst e1
            have t1 : decide (o < lo) = true := by simpa using hlo
            clear hE hlo
            go_wp2
            go_ret
            exact ⟨rfl, hbb⟩
          · have t1 : decide (o < lo) = false := by simpa using hlo
            have HH := Lib.hid hE
            have HLO := Lib.hid hlo
            unfold in64 at p2 p4
            have hp2 := Lib.hid p2
            have hp4 := Lib.hid p4
            clear hE hlo p2 p4
            go_wp2_with fail
            go_loopw [7] (fun a wr => ∃ j : Nat, j ≤ 8 ∧ (j : Int) ≤ n ∧ (j = 0 ∨ o + j ≤ hi) ∧ a = .int .i64 j ∧ Below w.heap.size w wr ∧ wr.heap[w.heap.size + 1]? = some (.cells #[.int .i64 b, .int .i64 (o + j), .int .i64 lo, .int .i64 hi] 39)) (fun a _ => 8 - (intOf a).toNat)
            case atStart => exact ⟨0, by omega, by have := HN.out; omega, .inl rfl, rfl, hbb, by simpa using g1⟩
            case round =>
              obtain ⟨j, hj8, hjn, hjo, rfl, hbe, hh⟩ := hrel
              clear c0 c1 c2 c3
              obtain ⟨c0, c1, c2, c3⟩ := cells4 hh
              have HP := hp2.out
              have HP4 := hp4.out
              by_cases hlt : (j : Int) < n
              · have u1 : decide ((j : Int) < n) = true := by simpa using hlt
                by_cases hge : o + j ≥ hi
                · have u2 : decide (o + (j : Int) ≥ hi) = true := by simpa using hge
                  have e1 : E = 21 := by rw [HH.out, if_neg]; unfold fits; simp; omega
                  subst e1
                  clear hlt hge HP HP4
                  go_wp2
                  go_ret
                  exact ⟨rfl, hbe⟩
                · have u2 : decide (o + (j : Int) ≥ hi) = false := by simpa using hge
                  have u3 : IntKind.i64.wrap (o + (j : Int) + 1) = o + j + 1 := IntWalk.i64_in _ (by omega)
                  have u4 : decide (o + (j : Int) + 1 < o + j) = false := by simp; omega
                  have u5 : IntKind.i64.wrap ((j : Int) + 1) = j + 1 := IntWalk.i64_in _ (by omega)
                  have fz := frozen_of_row _ _ 1 _ _ hh
                  have hlt' := Lib.hid hlt
                  have hge' := Lib.hid hge
                  clear hlt hge HP HP4
                  go_wp2
                  go_roundw
                  case rel => exact ⟨j + 1, by have := hlt'.out; have := HN.out; omega, by have := hlt'.out; omega, .inr (by have := hge'.out; omega), by simp, hbe.setCell (by show _ ≤ w.heap.size + 1; omega) _, by rw [heap_setCell_same _ _ _ _ _ _ hh]; simp; omega⟩
                  case measure => have := hlt'.out; have := HN.out; simp [intOf]; omega
              · have u1 : decide ((j : Int) < n) = false := by simpa using hlt
                have e1 : E = 0 := by rw [HH.out, if_pos]; unfold fits; simp; have := HLO.out; have := HN.out; omega
                subst e1
                clear hlt HP HP4
                go_wp2
                go_ret
                exact ⟨rfl, hbe⟩
end Go.Proofs.Ytjianllngobhhaa
