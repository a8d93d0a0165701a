/- Package heap: End, Clear. Conditions: each theorem's. -/
import Derived.Test.YtjianllngobhhaaHeapJ
namespace Go.Proofs.Ytjianllngobhhaa
open Go.RowKit Go.Maps
set_option linter.unusedVariables false
set_option linter.unusedSimpArgs false
set_option maxRecDepth 100000
open Hp
theorem gone_ab {w : World} {g : G} {b : Int} {r : Room} (H : HeapAt w g) (hr : g.room b = some r) : ((g.emp b r).gone b).ab = g.ab.drop b := by
  have h := emp_ab H hr
  unfold Ab.drop G.ab at *
  simp only [Ab.clear, Ab.mk.injEq] at h ⊢
  refine ⟨h.1, ?_, h.2.2⟩
  funext b'
  have h2 := congrFun h.2.1 b'
  simp only [G.gone]
  by_cases e : b' = b
  · rw [if_pos e, if_pos e]; rfl
  · rw [if_neg e, if_neg e]; exact h2
theorem emp_st {w : World} {g : G} {b : Int} {r : Room} (H : HeapAt w g) (hr : g.room b = some r) (o : Int) : (g.emp b r).st b o = none := st_del H hr o
set_option maxHeartbeats 2000000 in
theorem drop_any {w : World} {g : G} {b : Int} {r : Room} {h : Nat} (hh : g.h = h) (H : HeapAt w g) (hb : in64 b) (hr : g.room b = some r) (hcn : g.cnt < 1073741824) :
    Calls Try.prog 33 #[.pointer (some ⟨h, 0, none⟩), .int .i64 b, .pointer (some ⟨r.rb, 0, none⟩)] w fun e w' => e = .returned (.tuple #[]) ∧ HeapAt w' ((g.emp b r).gone b) ∧ Stays g.own w ((g.emp b r).gone b).own w' := by
  have he := empty_any hh H hb hr hcn
  have HST := Lib.hid (emp_st H hr)
  have hgh : (g.emp b r).h = h := hh
  clear H hr
  generalize g.emp b r = g2 at *
  have HB := Lib.hid hb
  clear hb
  go_enter Try.func33, Try.ntmps33
  go_wp2_with (first | (go_at_call 37; refine he.mono ?_; rintro e w1 ⟨rfl, hq1, hs1⟩; obtain ⟨fl, hfl, hle⟩ := hq1.live; have hc1 : w1.cell? ⟨h, 1, none⟩ = some (.map (some g2.lb)) := hgh ▸ (box_cells hq1).2.1; have HQ := Lib.hid hq1; have HLE := Lib.hid hle; clear hq1 hle) | (at_delete; refine wpList_del _ rfl _ _ 66 3 rfl 70 lawInt Try.underlying66 g2.lb g2.cnt fl rfl hfl (.int .i64 b) (.int .i64 b) rfl (key_int HB.out) ?_; intro w2 hm2 hg2))
  go_end0
  refine ⟨rfl, HQ.out.gone HB.out HST.out (fun j hj hn => hg2.block j (HQ.out.lt j hj) (fun e => hn (by injection e))) fl HLE.out hm2, ?_⟩
  exact hs1.trans ((Stays.grown hg2 (fun k e => by cases e; exact .inr (.inl rfl))).trans ⟨rfl, rfl, rfl, Nat.le_refl _, fun _ _ _ => rfl, fun k hk => .inl (g2.gone_own b hk)⟩)
namespace Hp
def Ab.nb (A : Ab) (b : Int) : Int := if b < 1 ∨ b > A.made then 1 else if (A.room b).isNone then 20 else 0
def Ab.clearE (A : Ab) (b : Int) : Ab := if A.nb b = 0 then A.clear b else A
def Ab.endE (A : Ab) (b : Int) : Ab := if A.nb b = 0 then A.drop b else A
end Hp
set_option maxHeartbeats 1000000 in
theorem numbered_bad {w : World} {g : G} {h : Nat} (b : Int) (hb : in64 b) (H : HeapAt w g) (hh : g.h = h) (fv : Value) (hE : g.ab.nb b ≠ 0) :
    Calls Try.prog 34 #[.pointer (some ⟨h, 0, none⟩), .int .i64 b, fv] w fun e w' => e = .returned (.int .i64 (g.ab.nb b)) ∧ w = w' := by
  obtain ⟨c0, c1, -⟩ := box_cells H
  have hlk := look_live H hb
  subst hh
  unfold Ab.nb at hE ⊢
  have hm : g.ab.made = g.made := rfl
  have hr : (g.ab.room b).isNone = (g.room b).isNone := by simp [G.ab]
  rw [hm, hr] at hE ⊢
  clear hm hr H
  by_cases h1 : b < 1
  · rw [if_pos (.inl h1)]
    have d1 : decide (b < 1) = true := decide_eq_true h1
    clear hE hlk h1 c0 c1
    go_enter Try.func34, Try.ntmps34
    go_wp2
    go_ret
    exact ⟨rfl, rfl⟩
  · have d1 : decide (b < 1) = false := decide_eq_false h1
    by_cases h2 : b > g.made
    · rw [if_pos (.inr h2)]
      have d2 : decide (g.made < b) = true := decide_eq_true h2
      clear hE hlk h1 h2 c1
      go_enter Try.func34, Try.ntmps34
      go_wp2
      go_ret
      exact ⟨rfl, rfl⟩
    · have d2 : decide (g.made < b) = false := decide_eq_false h2
      have hno : ¬ (b < 1 ∨ b > g.made) := by omega
      rw [if_neg hno] at hE ⊢
      cases hrm : g.room b with
      | some r => rw [hrm] at hE; exact absurd rfl hE
      | none =>
        rw [hrm] at hlk
        simp only [roomP] at hlk
        clear hE h1 h2 hno
        go_enter Try.func34, Try.ntmps34
        go_wp2
        go_ret
        exact ⟨rfl, rfl⟩
set_option maxHeartbeats 1000000 in
theorem numbered_clear {w : World} {g : G} {h : Nat} (b : Int) (hb : in64 b) (H : HeapAt w g) (hh : g.h = h) (x y : Value) (Q : World → Prop) (hE : g.ab.nb b = 0)
    (hd : ∀ r, g.room b = some r → Calls Try.prog 36 #[.pointer (some ⟨r.rb, 0, none⟩), x, y] w fun e w2 => e = .returned (.tuple #[]) ∧ Q w2) :
    Calls Try.prog 34 #[.pointer (some ⟨h, 0, none⟩), .int .i64 b, .func (.func 36) #[] #[x, y]] w fun e w' => e = .returned (.int .i64 0) ∧ Q w' := by
  obtain ⟨c0, c1, -⟩ := box_cells H
  have hlk := look_live H hb
  subst hh
  unfold Ab.nb at hE
  have hm : g.ab.made = g.made := rfl
  have hr : (g.ab.room b).isNone = (g.room b).isNone := by simp [G.ab]
  rw [hm, hr] at hE
  clear hm hr H
  by_cases hno : b < 1 ∨ b > g.made
  · rw [if_pos hno] at hE; simp at hE
  · rw [if_neg hno] at hE
    have d1 : decide (b < 1) = false := decide_eq_false (by omega)
    have d2 : decide (g.made < b) = false := decide_eq_false (by omega)
    cases hrm : g.room b with
    | none => rw [hrm] at hE; simp at hE
    | some r =>
      rw [hrm] at hlk
      have hdr := hd r hrm
      simp only [roomP] at hlk
      clear hE hno hd hrm
      go_enter Try.func34, Try.ntmps34
      go_wp2_with (go_at_call 36; refine hdr.mono ?_; rintro e w2 ⟨rfl, hq⟩)
      go_ret
      exact ⟨rfl, hq⟩
set_option maxHeartbeats 1000000 in
theorem numbered_end {w : World} {g : G} {h : Nat} (b : Int) (hb : in64 b) (H : HeapAt w g) (hh : g.h = h) (x y : Value) (Q : World → Prop) (hE : g.ab.nb b = 0)
    (hd : ∀ r, g.room b = some r → Calls Try.prog 35 #[.pointer (some ⟨r.rb, 0, none⟩), x, y] w fun e w2 => e = .returned (.tuple #[]) ∧ Q w2) :
    Calls Try.prog 34 #[.pointer (some ⟨h, 0, none⟩), .int .i64 b, .func (.func 35) #[] #[x, y]] w fun e w' => e = .returned (.int .i64 0) ∧ Q w' := by
  obtain ⟨c0, c1, -⟩ := box_cells H
  have hlk := look_live H hb
  subst hh
  unfold Ab.nb at hE
  have hm : g.ab.made = g.made := rfl
  have hr : (g.ab.room b).isNone = (g.room b).isNone := by simp [G.ab]
  rw [hm, hr] at hE
  clear hm hr H
  by_cases hno : b < 1 ∨ b > g.made
  · rw [if_pos hno] at hE; simp at hE
  · rw [if_neg hno] at hE
    have d1 : decide (b < 1) = false := decide_eq_false (by omega)
    have d2 : decide (g.made < b) = false := decide_eq_false (by omega)
    cases hrm : g.room b with
    | none => rw [hrm] at hE; simp at hE
    | some r =>
      rw [hrm] at hlk
      have hdr := hd r hrm
      simp only [roomP] at hlk
      clear hE hno hd hrm
      go_enter Try.func34, Try.ntmps34
      go_wp2_with (go_at_call 35; refine hdr.mono ?_; rintro e w2 ⟨rfl, hq⟩)
      go_ret
      exact ⟨rfl, hq⟩
set_option maxHeartbeats 1000000 in
theorem clear1 {w : World} {g : G} {hb bb : Nat} {b : Int} {r : Room} (H : HeapAt w g) (hb64 : in64 b) (hr : g.room b = some r) (hcn : g.cnt < 1073741824)
    (hh : w.heap[hb]? = some (.cells #[.pointer (some ⟨g.h, 0, none⟩)] 23)) (hv : w.heap[bb]? = some (.cells #[.int .i64 b] 3)) :
    Calls Try.prog 36 #[.pointer (some ⟨r.rb, 0, none⟩), .pointer (some ⟨hb, 0, none⟩), .pointer (some ⟨bb, 0, none⟩)] w fun e w' => e = .returned (.tuple #[]) ∧ HeapAt w' (g.emp b r) ∧ Stays g.own w (g.emp b r).own w' := by
  have c3 : w.cell? ⟨hb, 0, none⟩ = some (.pointer (some ⟨g.h, 0, none⟩)) := cell_of_row _ _ _ _ _ _ hh
  have c4 : w.cell? ⟨bb, 0, none⟩ = some (.int .i64 b) := cell_of_row _ _ _ _ _ _ hv
  have hc := empty_any rfl H hb64 hr hcn
  clear hh hv H
  go_enter Try.func36, Try.ntmps36
  go_wp2_with (go_at_call 37; refine hc.mono ?_; rintro e w2 ⟨rfl, h1, h2⟩)
  go_end0
  exact ⟨rfl, h1, h2⟩
set_option maxHeartbeats 1000000 in
theorem clear_any {w : World} {h : Nat} {o : Nat → Prop} {c : Nat} {A : Ab} (H : HpIs w h o c A) (hc : c < 1073741822) (b : Int) (hb : in64 b) :
    Calls Try.prog 22 #[.pointer (some ⟨h, 0, none⟩), .int .i64 b] w fun e w' => ∃ o', e = .returned (.int .i64 (A.nb b)) ∧ HpIs w' h o' (c + 1) (A.clearE b) ∧ Stays o w o' w' := by
  obtain ⟨g, H, hh, rfl, hg, rfl⟩ := H
  have hB : Below w.heap.size w ((w.alloc (.cells #[.pointer (some ⟨h, 0, none⟩)] 23)).alloc (.cells #[.int .i64 b] 3)) := ((Below.refl _ _).alloc (Nat.le_refl _) _).alloc (by simp) _
  have q0 : ((w.alloc (.cells #[.pointer (some ⟨h, 0, none⟩)] 23)).alloc (.cells #[.int .i64 b] 3)).heap[w.heap.size]? = some (.cells #[.pointer (some ⟨g.h, 0, none⟩)] 23) := by rw [hh]; exact row_up (row_new rfl _) _
  have q1 : ((w.alloc (.cells #[.pointer (some ⟨h, 0, none⟩)] 23)).alloc (.cells #[.int .i64 b] 3)).heap[w.heap.size + 1]? = some (.cells #[.int .i64 b] 3) := row_new (by simp) _
  have H2 := H.below hB
  have hst := Stays.below (o := g.own) hB
  have key : Calls Try.prog 34 #[.pointer (some ⟨h, 0, none⟩), .int .i64 b, .func (.func 36) #[] #[.pointer (some ⟨w.heap.size, 0, none⟩), .pointer (some ⟨w.heap.size + 1, 0, none⟩)]] ((w.alloc (.cells #[.pointer (some ⟨h, 0, none⟩)] 23)).alloc (.cells #[.int .i64 b] 3)) fun e w' => e = .returned (.int .i64 (g.ab.nb b)) ∧ ∃ o', HpIs w' h o' (c + 1) (g.ab.clearE b) ∧ Stays g.own w o' w' := by
    by_cases hE : g.ab.nb b = 0
    · rw [hE]
      refine numbered_clear b hb H2 hh _ _ _ hE fun r hr => ?_
      refine (clear1 H2 hb hr (by omega) q0 q1).mono ?_
      rintro e w2 ⟨rfl, h1, h2⟩
      exact ⟨rfl, _, ⟨_, h1, hh, rfl, by show g.cnt + 1 ≤ c + 1; omega, by unfold Ab.clearE; rw [if_pos hE]; exact (emp_ab H hr).symm⟩, hst.trans h2⟩
    · refine (numbered_bad b hb H2 hh _ hE).mono ?_
      rintro e w' ⟨rfl, rfl⟩
      exact ⟨rfl, _, ⟨g, H2, hh, rfl, by omega, by unfold Ab.clearE; rw [if_neg hE]⟩, hst⟩
  generalize g.ab.nb b = E at *
  generalize g.ab.clearE b = A2 at *
  clear H2 q0 q1 hB hst H hg
  go_enter Try.func22, Try.ntmps22
  go_wp2_with (go_at_call 34; refine key.mono ?_; rintro e w2 ⟨rfl, hq⟩)
  go_ret
  obtain ⟨o', h1, h2⟩ := hq
  exact ⟨o', rfl, h1, h2⟩
set_option maxHeartbeats 1000000 in
theorem end1 {w : World} {g : G} {hb bb : Nat} {b : Int} {r : Room} (H : HeapAt w g) (hb64 : in64 b) (hr : g.room b = some r) (hcn : g.cnt < 1073741824)
    (hh : w.heap[hb]? = some (.cells #[.pointer (some ⟨g.h, 0, none⟩)] 23)) (hv : w.heap[bb]? = some (.cells #[.int .i64 b] 3)) :
    Calls Try.prog 35 #[.pointer (some ⟨r.rb, 0, none⟩), .pointer (some ⟨hb, 0, none⟩), .pointer (some ⟨bb, 0, none⟩)] w fun e w' => e = .returned (.tuple #[]) ∧ HeapAt w' ((g.emp b r).gone b) ∧ Stays g.own w ((g.emp b r).gone b).own w' := by
  have c3 : w.cell? ⟨hb, 0, none⟩ = some (.pointer (some ⟨g.h, 0, none⟩)) := cell_of_row _ _ _ _ _ _ hh
  have c4 : w.cell? ⟨bb, 0, none⟩ = some (.int .i64 b) := cell_of_row _ _ _ _ _ _ hv
  have hc := drop_any rfl H hb64 hr hcn
  clear hh hv H
  go_enter Try.func35, Try.ntmps35
  go_wp2_with (go_at_call 33; refine hc.mono ?_; rintro e w2 ⟨rfl, h1, h2⟩)
  go_end0
  exact ⟨rfl, h1, h2⟩
set_option maxHeartbeats 1000000 in
theorem end_any {w : World} {h : Nat} {o : Nat → Prop} {c : Nat} {A : Ab} (H : HpIs w h o c A) (hc : c < 1073741822) (b : Int) (hb : in64 b) :
    Calls Try.prog 20 #[.pointer (some ⟨h, 0, none⟩), .int .i64 b] w fun e w' => ∃ o', e = .returned (.int .i64 (A.nb b)) ∧ HpIs w' h o' (c + 1) (A.endE b) ∧ Stays o w o' w' := by
  obtain ⟨g, H, hh, rfl, hg, rfl⟩ := H
  have hB : Below w.heap.size w ((w.alloc (.cells #[.pointer (some ⟨h, 0, none⟩)] 23)).alloc (.cells #[.int .i64 b] 3)) := ((Below.refl _ _).alloc (Nat.le_refl _) _).alloc (by simp) _
  have q0 : ((w.alloc (.cells #[.pointer (some ⟨h, 0, none⟩)] 23)).alloc (.cells #[.int .i64 b] 3)).heap[w.heap.size]? = some (.cells #[.pointer (some ⟨g.h, 0, none⟩)] 23) := by rw [hh]; exact row_up (row_new rfl _) _
  have q1 : ((w.alloc (.cells #[.pointer (some ⟨h, 0, none⟩)] 23)).alloc (.cells #[.int .i64 b] 3)).heap[w.heap.size + 1]? = some (.cells #[.int .i64 b] 3) := row_new (by simp) _
  have H2 := H.below hB
  have hst := Stays.below (o := g.own) hB
  have key : Calls Try.prog 34 #[.pointer (some ⟨h, 0, none⟩), .int .i64 b, .func (.func 35) #[] #[.pointer (some ⟨w.heap.size, 0, none⟩), .pointer (some ⟨w.heap.size + 1, 0, none⟩)]] ((w.alloc (.cells #[.pointer (some ⟨h, 0, none⟩)] 23)).alloc (.cells #[.int .i64 b] 3)) fun e w' => e = .returned (.int .i64 (g.ab.nb b)) ∧ ∃ o', HpIs w' h o' (c + 1) (g.ab.endE b) ∧ Stays g.own w o' w' := by
    by_cases hE : g.ab.nb b = 0
    · rw [hE]
      refine numbered_end b hb H2 hh _ _ _ hE fun r hr => ?_
      refine (end1 H2 hb hr (by omega) q0 q1).mono ?_
      rintro e w2 ⟨rfl, h1, h2⟩
      exact ⟨rfl, _, ⟨_, h1, hh, rfl, by show g.cnt + 1 ≤ c + 1; omega, by unfold Ab.endE; rw [if_pos hE]; exact (gone_ab H hr).symm⟩, hst.trans h2⟩
    · refine (numbered_bad b hb H2 hh _ hE).mono ?_
      rintro e w' ⟨rfl, rfl⟩
      exact ⟨rfl, _, ⟨g, H2, hh, rfl, by omega, by unfold Ab.endE; rw [if_neg hE]⟩, hst⟩
  generalize g.ab.nb b = E at *
  generalize g.ab.endE b = A2 at *
  clear H2 q0 q1 hB hst H hg
  go_enter Try.func20, Try.ntmps20
  go_wp2_with (go_at_call 34; refine key.mono ?_; rintro e w2 ⟨rfl, hq⟩)
  go_ret
  obtain ⟨o', h1, h2⟩ := hq
  exact ⟨o', rfl, h1, h2⟩
end Go.Proofs.Ytjianllngobhhaa
