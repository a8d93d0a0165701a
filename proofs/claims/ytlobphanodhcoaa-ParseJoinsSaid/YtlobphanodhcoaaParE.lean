/- A reader of lengths. Conditions: each theorem's. -/
import Derived.Test.YtlobphanodhcoaaParD
namespace Go.Proofs.Ytlobphanodhcoaa
open Go.RowKit Go.Maps
set_option linter.unusedVariables false
set_option linter.unusedSimpArgs false
set_option maxRecDepth 100000
open Lx Pa
set_option maxHeartbeats 2000000 in
theorem length_any {w : World} {R M : Nat} {s : Pa.S} (h : RdAt w R M s) :
    Calls Try.prog 32 #[.pointer (some ⟨R, 0, none⟩)] w fun e w' => e = .returned (.int .i64 (lengthV s).1) ∧ RdAt w' R M (lengthV s).2 ∧ Fr [R] w w' := by
  have hR := h.lt
  have F1 := tf1
  have hta := take_any ⟨#[91]⟩ (by decide) h
  cases hb : s.is ⟨#[91]⟩ with
  | false =>
    have hl : lengthV s = (0, s) := by unfold lengthV; rw [hb]; rfl
    have ht : s.take ⟨#[91]⟩ = s := by unfold S.take; rw [hb]; rfl
    rw [hl]
    rw [hb, ht] at hta
    go_enter Try.func32, Try.ntmps32
    go_wp2_with fail
    refine hta.mono ?_
    rintro e w1 ⟨rfl, h1, f1⟩
    go_wp2
    go_ret
    exact ⟨rfl, h1, f1⟩
  | true =>
    have hl : lengthV s = (IntKind.i64.wrap ((meanV s.tl.hd.tx.data.toList).getD 0), lenS s.tl) := by unfold lengthV; rw [hb]; rfl
    have ht : s.take ⟨#[91]⟩ = s.tl := by unfold S.take; rw [hb]; rfl
    rw [hl]
    rw [hb, ht] at hta
    clear hl ht
    generalize s.tl = u at *
    unfold lenS
    have hns : (u.hd.tx).size ≤ 1048576 ∨ True := .inr trivial
    have hme := fun (W : World) (hW : u.hd.tx.size ≤ 1048576) => mean_any u.hd.tx W hW
    cases hm : meanV u.hd.tx.data.toList with
    | none =>
      rw [hm] at hme
      have hbad : badLen none = false := rfl
      rw [hbad]
      have hn : (none : Option Int).getD 0 = 0 := rfl
      have he : mnE none = 10 := rfl
      rw [hn, he] at hme
      rw [hn]
      clear hbad hn he hm
      go_enter Try.func32, Try.ntmps32
      go_wp2_with fail
      refine hta.mono ?_
      rintro e w1 ⟨rfl, h1', f1⟩
      have hts := h1'.ok.hd.1
      go_wp2_with fail
      refine (now_any h1').mono ?_
      rintro e w2 ⟨rfl, b2⟩
      have g2 := h1'.below b2
      have G2 := f1.trans (Fr.below b2)
      clear hta
      go_wp2_with fail
      refine (hme w2 (by omega)).mono ?_
      rintro e w3 ⟨rfl, rfl⟩
      clear hme
      go_wp2_with fail
      refine (one_any 2 (.inr rfl) g2).mono ?_
      rintro e w4 ⟨rfl, g4, f4⟩
      go_wp2_with fail
      refine (want_any ⟨#[93]⟩ (by decide) g4).mono ?_
      rintro e w5 ⟨rfl, g5, f5⟩
      go_wp2
      go_ret
      exact ⟨retI (by rw [IntKind.wrap_i64]; first | rfl | (unfold wrap64; rfl) | (unfold wrap64; omega) | omega), g5, (G2.trans f4).trans f5⟩
    | some n =>
      rw [hm] at hme
      have he : mnE (some n) = 0 := rfl
      rw [show (some n : Option Int).getD 0 = n from rfl, he] at hme
      rw [show (some n : Option Int).getD 0 = n from rfl]
      clear he hm
      by_cases h1 : n < 1
      · have hbad : badLen (some n) = true := by simp [badLen, h1]
        rw [hbad, if_pos rfl]
        clear hbad
        have d1 : decide (n < 1) = true := decide_eq_true h1
        go_enter Try.func32, Try.ntmps32
        go_wp2_with fail
        refine hta.mono ?_
        rintro e w1 ⟨rfl, h1', f1⟩
        have hts := h1'.ok.hd.1
        go_wp2_with fail
        refine (now_any h1').mono ?_
        rintro e w2 ⟨rfl, b2⟩
        have g2 := h1'.below b2
        have G2 := f1.trans (Fr.below b2)
        clear hta
        go_wp2_with fail
        refine (hme w2 (by omega)).mono ?_
        rintro e w3 ⟨rfl, rfl⟩
        clear hme
        go_wp2_with fail
        refine (fail_any 1 (by omega) g2).mono ?_
        rintro e w6 ⟨rfl, g6, f6⟩
        go_wp2_with fail
        refine (one_any 2 (.inr rfl) g6).mono ?_
        rintro e w4 ⟨rfl, g4, f4⟩
        go_wp2_with fail
        refine (want_any ⟨#[93]⟩ (by decide) g4).mono ?_
        rintro e w5 ⟨rfl, g5, f5⟩
        go_wp2
        go_ret
        exact ⟨retI (by rw [IntKind.wrap_i64]; first | rfl | (unfold wrap64; rfl) | (unfold wrap64; omega) | omega), g5, ((G2.trans f6).trans f4).trans f5⟩
      · have d1 : decide (n < 1) = false := decide_eq_false h1
        by_cases h2 : 500 < n
        · have hbad : badLen (some n) = true := by simp [badLen, h2]
          rw [hbad, if_pos rfl]
          clear hbad
          have d2 : decide (500 < n) = true := decide_eq_true h2
          go_enter Try.func32, Try.ntmps32
          go_wp2_with fail
          refine hta.mono ?_
          rintro e w1 ⟨rfl, h1', f1⟩
          have hts := h1'.ok.hd.1
          go_wp2_with fail
          refine (now_any h1').mono ?_
          rintro e w2 ⟨rfl, b2⟩
          have g2 := h1'.below b2
          have G2 := f1.trans (Fr.below b2)
          clear hta
          go_wp2_with fail
          refine (hme w2 (by omega)).mono ?_
          rintro e w3 ⟨rfl, rfl⟩
          clear hme
          go_wp2_with fail
          refine (fail_any 1 (by omega) g2).mono ?_
          rintro e w6 ⟨rfl, g6, f6⟩
          go_wp2_with fail
          refine (one_any 2 (.inr rfl) g6).mono ?_
          rintro e w4 ⟨rfl, g4, f4⟩
          go_wp2_with fail
          refine (want_any ⟨#[93]⟩ (by decide) g4).mono ?_
          rintro e w5 ⟨rfl, g5, f5⟩
          go_wp2
          go_ret
          exact ⟨retI (by rw [IntKind.wrap_i64]; first | rfl | (unfold wrap64; rfl) | (unfold wrap64; omega) | omega), g5, ((G2.trans f6).trans f4).trans f5⟩
        · have hbad : badLen (some n) = false := by simp [badLen]; omega
          rw [hbad]
          clear hbad
          have d2 : decide (500 < n) = false := decide_eq_false h2
          go_enter Try.func32, Try.ntmps32
          go_wp2_with fail
          refine hta.mono ?_
          rintro e w1 ⟨rfl, h1', f1⟩
          have hts := h1'.ok.hd.1
          go_wp2_with fail
          refine (now_any h1').mono ?_
          rintro e w2 ⟨rfl, b2⟩
          have g2 := h1'.below b2
          have G2 := f1.trans (Fr.below b2)
          clear hta
          go_wp2_with fail
          refine (hme w2 (by omega)).mono ?_
          rintro e w3 ⟨rfl, rfl⟩
          clear hme
          go_wp2_with fail
          refine (one_any 2 (.inr rfl) g2).mono ?_
          rintro e w4 ⟨rfl, g4, f4⟩
          go_wp2_with fail
          refine (want_any ⟨#[93]⟩ (by decide) g4).mono ?_
          rintro e w5 ⟨rfl, g5, f5⟩
          go_wp2
          go_ret
          exact ⟨retI (by rw [IntKind.wrap_i64]; first | rfl | (unfold wrap64; rfl) | (unfold wrap64; omega) | omega), g5, (G2.trans f4).trans f5⟩
end Go.Proofs.Ytlobphanodhcoaa
