/- The document's Load, and the law's value. Conditions: each theorem's. -/
import Derived.Test.YtjianllngobhhaaHeapRb
import Derived.Deep.MidRow
namespace Go.Proofs.Ytjianllngobhhaa
open Go.RowKit Go.Maps
set_option linter.unusedVariables false
set_option linter.unusedSimpArgs false
set_option maxRecDepth 100000
open Hp
namespace Hp
def celOf : List (Int × Val) → Int → Val
  | [], _ => v0
  | c :: cs, o => if c.1 = o then c.2 else celOf cs o
/-- What Load answers beside its error. -/
def rLoadV (l : List Rb) (p : Ptr) (n : Int) : Val := if atV (rLiv l p.bl) p n = 0 then (match rbOf l p.bl with | some r => celOf r.cs p.off | none => v0) else v0
end Hp
theorem celOf_none {cs : List (Int × Val)} {o : Int} (h : ∀ k (hk : k < cs.length), cs[k].1 ≠ o) : celOf cs o = v0 := by
  induction cs with
  | nil => rfl
  | cons c cs ih =>
    unfold celOf
    rw [if_neg (show ¬ c.1 = o from h 0 (by simp))]
    exact ih fun k hk => h (k + 1) (by simpa using hk)
theorem celOf_some {cs : List (Int × Val)} {o : Int} (j : Nat) (hj : j < cs.length) (h : ∀ k (hk : k < j), (cs[k]'(by omega)).1 ≠ o) (e : cs[j].1 = o) : celOf cs o = cs[j].2 := by
  induction cs generalizing j with
  | nil => simp at hj
  | cons c cs ih =>
    unfold celOf
    cases j with
    | zero => rw [if_pos (show c.1 = o from e)]; rfl
    | succ j =>
      rw [if_neg (show ¬ c.1 = o from h 0 (by omega))]
      exact ih j (by simpa using hj) (fun k hk => h (k + 1) (by omega)) e
theorem sizeRV : (Try.prog.info? 51).map (·.size) = some 5 := by kernel_rfl
theorem sizeRB : (Try.prog.info? 77).map (·.size) = some 4 := by kernel_rfl
theorem sizeRH : (Try.prog.info? 28).map (·.size) = some 1 := by kernel_rfl
set_option maxHeartbeats 1000000 in
theorem value_any (v : Val) (w : World) :
    Calls Try.prog 15 #[v.v] w fun e w' => e = .returned v.v ∧ Below w.heap.size w w' := by
  obtain ⟨n, b, o, lo, hi⟩ := v
  simp only [Val.v] at *
  go_enter Try.func15, Try.ntmps15
  go_wp2
  exact bodyPost_ret (by simp [results, Try.results15, go_sem]) rfl ⟨rfl, ((((Below.refl _ _).alloc (Nat.le_refl _) _).alloc (by simp) _))⟩
set_option maxHeartbeats 4000000 in
theorem rload_any {w : World} {base : Nat} {v : Value} {l : List Rb} (p : Ptr) (hp : p.ok) (n : Int) (H : RfAt w base v l) :
    Calls Try.prog 14 #[.agg #[v], p.v, .int .i64 n] w fun e w' => e = .returned (.tuple #[(rLoadV l p n).v, .int .i64 (atV (rLiv l p.bl) p n)]) ∧ Below w.heap.size w w' := by
  have HR := Lib.hid (fun (X : World) (hX : Below w.heap.size w X) => H.below hX)
  have HA := Lib.hid (fun (X : World) (hX : Below w.heap.size w X) => rat_any p hp n (H.below hX))
  have hlen := rlen H.row
  unfold maxLen at hlen
  obtain ⟨V, HV0⟩ : ∃ V, V = rLoadV l p n := ⟨_, rfl⟩
  have HV := Lib.hid HV0
  rw [← HV0]
  clear HV0
  obtain ⟨E, HE0⟩ : ∃ E, E = atV (rLiv l p.bl) p n := ⟨_, rfl⟩
  rw [← HE0] at HA ⊢
  have HE := Lib.hid HE0
  clear HE0
  obtain ⟨A, c, rfl⟩ := rsl H.row
  obtain ⟨b, o, lo, hi⟩ := p
  obtain ⟨p1, p2, p3, p4⟩ := hp
  have HB2 : Hid (Below w.heap.size w (((w.alloc (.cells #[.slice A l.length c] 28)).alloc (.cells #[.int .i64 b, .int .i64 o, .int .i64 lo, .int .i64 hi] 39)).alloc (.cells (valA v0) 51))) := Lib.hid ((((Below.refl _ _).alloc (Nat.le_refl _) _).alloc (by simp) _).alloc (by simp; omega) _)
  have hbox0 : ∀ w2, Below (w.heap.size + 1 + 1 + 1) (((w.alloc (.cells #[.slice A l.length c] 28)).alloc (.cells #[.int .i64 b, .int .i64 o, .int .i64 lo, .int .i64 hi] 39)).alloc (.cells (valA v0) 51)) w2 →
      w2.heap[w.heap.size]? = some (.cells #[.slice A l.length c] 28) ∧ w2.heap[w.heap.size + 1]? = some (.cells #[.int .i64 b, .int .i64 o, .int .i64 lo, .int .i64 hi] 39) ∧ w2.heap[w.heap.size + 1 + 1]? = some (.cells (valA v0) 51) ∧ Below w.heap.size w w2 :=
    fun w2 h => ⟨row_in h (row_up (row_up (row_new rfl _) _) _) (by omega), row_in h (row_up (row_new (by simp) _) _) (by omega), row_in h (row_new (by simp) _) (by omega), HB2.out.trans (h.mono (by omega))⟩
  simp only [valA, v0, p0] at HB2
  have hbox := Lib.hid hbox0
  clear hbox0
  clear H
  simp only [Ptr.v] at *
  go_enter Try.func14, Try.ntmps14
  go_wp2_with fail
  refine (HA.out _ HB2.out).mono ?_
  rintro e w2 ⟨rfl, hb2⟩
  simp only [World.size_alloc] at hb2
  obtain ⟨g0, g1, g2, hbb⟩ := hbox.out _ hb2
  clear hb2 hbox HB2 HA
  have hE := HE.out
  by_cases hz : E = 0
  · have hL : rLiv l b = true := by
      rw [hE] at hz
      unfold atV at hz
      cases hL : rLiv l b
      · rw [hL] at hz
        exfalso
        revert hz
        cases wid n
        · simp
        · simp only [if_true, if_false, Bool.true_eq_false]
          split
          · simp
          · simp
      · rfl
    have hB : 1 ≤ b ∧ b ≤ l.length := by
      by_cases h : 1 ≤ b ∧ b ≤ l.length
      · exact h
      · unfold rLiv at hL; rw [rbOf_none h] at hL; cases hL
    obtain ⟨k, hk, rfl, he⟩ := rbOf_some hB.1 hB.2
    have hVV : V = celOf l[k].cs o := by rw [HV.out]; unfold rLoadV; rw [← hE, if_pos hz]; simp only; rw [he]
    clear hE HV HE hL he hB
    subst hz
    have hR2 := HR.out _ hbb
    obtain ⟨g, cap, cur, hve, hg, hh, hs, hn, hm, -, -, -, c3⟩ := rb_at hR2 k hk
    injection hve with hA _ hC
    subst hA hC
    have hcel := (hR2.cels _ (List.getElem_mem hk)).1
    have hHR := HR
    clear HR hR2
    generalize l[k].row = R at *
    generalize l[k].cs = cs at *
    obtain ⟨A2, c2, rfl⟩ := rsl hcel
    have hcl := rlen hcel
    unfold maxLen at hcl
    have e1 : IntKind.i64.wrap ((k : Int) + 1 - 1) = k := by rw [show (k : Int) + 1 - 1 = k by omega]; exact IntWalk.i64_in _ (by omega)
    have dj0 : (0 : Int) ≤ (k : Int) := by omega
    have dj1 : (k : Int) < (l.length : Int) := by omega
    have d0 := cell_of_row _ _ 0 _ _ _ g0
    obtain ⟨q0, q1, q2, q3⟩ := cells4 g1
    have HCV := Lib.hid hVV
    have HCL := Lib.hid hcl
    clear hVV
    go_wp2_with fail
    go_loopw [29] (fun a wr => ∃ j : Nat, j ≤ cs.length ∧ Hid (∀ i (h1 : i < j) (h2 : i < cs.length), cs[i].1 ≠ o) ∧ a = .int .i64 j ∧ Below w.heap.size w wr ∧ wr.heap[w.heap.size + 1]? = some (.cells #[.int .i64 ((k : Int) + 1), .int .i64 o, .int .i64 lo, .int .i64 hi] 39) ∧ wr.heap[w.heap.size + 1 + 1]? = some (.cells (valA v0) 51) ∧ CelsAt wr base (.slice A2 cs.length c2) cs) (fun a _ => cs.length - (intOf a).toNat)
    case atStart => exact ⟨0, by omega, Lib.hid (fun i h => by omega), rfl, hbb, g1, g2, hcel⟩
    case round =>
      obtain ⟨j, hj, hno, rfl, hbe, hh1, hh2, hce⟩ := hrel
      clear q0 q1 q2 q3 c3 d0 hh g0 g1 g2 hbb hcel
      obtain ⟨q0, q1, q2, q3⟩ := cells4 hh1
      by_cases hlt : j < cs.length
      · obtain ⟨gg, cap2, cur2, hve, _, hgg, hsz2, hn2, hm2, hc6⟩ := cel_at hce j hlt
        injection hve with hA _ hC
        subst hA hC
        have e0 : wr.cell? ⟨gg, j * 6, none⟩ = some (.int .i64 cs[j].1) := hc6 0 (by omega)
        have HR6 : Hid (∀ X : World, X.heap = wr.heap → X.rangeAt gg (j * 6 + 1) (valA cs[j].2).toList) := Lib.hid fun X hX i u hu => by
          have hi : i < 5 := by
            have := (List.getElem?_eq_some_iff.1 hu).1
            simpa [valA] using this
          have h6 := hc6 (1 + i) (by omega)
          rw [show j * 6 + (1 + i) = j * 6 + 1 + i by omega] at h6
          have hx : X.cell? ⟨gg, j * 6 + 1 + i, none⟩ = wr.cell? ⟨gg, j * 6 + 1 + i, none⟩ := by simp only [World.cell?, hX]
          rw [hx, h6, ← hu, Nat.add_comm 1 i]
          rfl
        have t1 : decide ((j : Int) < (cs.length : Int)) = true := by simp; omega
        have dk0 : (0 : Int) ≤ (j : Int) := by omega
        have dk1 : (j : Int) < (cs.length : Int) := by omega
        have u5 : IntKind.i64.wrap ((j : Int) + 1) = j + 1 := IntWalk.i64_in _ (by have := HCL.out; omega)
        by_cases heq : cs[j].1 = o
        · have t2 : (cs[j].1 == o) = true := by simpa using heq
          have hV : V = cs[j].2 := by rw [HCV.out]; exact celOf_some j hlt (fun i hi => hno.out i hi (by omega)) heq
          rw [← hV] at HR6
          clear heq hV
          generalize cs[j].1 = cj at *
          have e0' := e0
          have q1' := q1
          unfold World.cell? at e0' q1'
          have HE0 : Hid (∀ X : World, X.heap = wr.heap → X.cell? ⟨gg, j * 6, none⟩ = some (.int .i64 cj) ∧ X.cell? ⟨w.heap.size + 1, 1, none⟩ = some (.int .i64 o)) := Lib.hid fun X hX => ⟨(by simp only [World.cell?, hX]; exact e0'), (by simp only [World.cell?, hX]; exact q1')⟩
          have E0 := fun kk => (HE0.out (wr.drewN kk) rfl)
          go_wp2_with fail
          go_quiet (fail)
          have hh2' : (wr.drewN nq).heap[w.heap.size + 1 + 1]? = some (.cells (valA v0) 51) := hh2
          have hbe' : Below w.heap.size w (wr.drewN nq) := belowN hbe
          have hrg := HR6.out (wr.drewN nq) rfl
          generalize wr.drewN nq = X at *
          go_wp2_with (first | (refine wpList_load_mid (op := ⟨some 44, _, _, _, _, _⟩) rfl 51 (.tmp 43) rfl gg (j * 6 + 1) rfl _ _ hrg Try.underlying51 rfl sizeRV ?_) | (refine wpList_store_row (o := ⟨none, .store 51 (.tmp 6) (.tmp 44), _, _, _, _⟩) rfl 51 (.tmp 6) (.tmp 44) rfl (w.heap.size + 1 + 1) (valA V) rfl rfl 51 (valA v0) hh2' sizeRV rfl (by simp [valA, Value.oneCell']) ?_))
          exact bodyPost_ret (v := .tuple #[V.v, .int .i64 0]) (res_cell_tmp Try.results14 _ _ (w.heap.size + 1 + 1) 51 _ (0, 0) _ _ rfl rfl (setRow_heap _ _ _ _ _ _ hh2') Try.underlying51 rfl sizeRV) rfl ⟨rfl, hbe'.trans ((Onl.setRow _ _ _).toBelow (by omega) hbe'.size)⟩
        · have t2 : (cs[j].1 == o) = false := by simpa using heq
          have heq' := Lib.hid heq
          clear heq
          have hlt' := Lib.hid hlt
          go_wp2_with fail
          go_quiet (fail)
          go_wp2
          go_roundw
          case rel => exact ⟨j + 1, by omega, Lib.hid (fun i h1 h2 => by by_cases hi : i < j; exact hno.out i hi h2; have hij : i = j := (by omega); subst hij; exact heq'.out), by simp, belowN hbe, hh1, hh2, own_at hce fun _ _ => rfl⟩
          case measure => simp [intOf]; omega
      · obtain rfl : j = cs.length := by omega
        have t1 : decide ((cs.length : Int) < (cs.length : Int)) = false := by simp
        have hV : V = v0 := by rw [HCV.out]; exact celOf_none fun i hi => hno.out i hi hi
        subst hV
        go_wp2_with (refine wpList_store_row (o := ⟨none, .store 51 (.tmp 6) (.tmp 46), _, _, _, _⟩) rfl 51 (.tmp 6) (.tmp 46) rfl (w.heap.size + 1 + 1) (valA v0) rfl rfl 51 (valA v0) hh2 sizeRV rfl (by simp [valA, Value.oneCell']) ?_)
        exact bodyPost_ret (v := .tuple #[v0.v, .int .i64 0]) (res_cell_tmp Try.results14 _ _ (w.heap.size + 1 + 1) 51 _ (0, 0) _ _ rfl rfl (setRow_heap _ _ _ _ _ _ hh2) Try.underlying51 rfl sizeRV) rfl ⟨rfl, hbe.trans ((Onl.setRow _ _ _).toBelow (by omega) hbe.size)⟩
  · have hz' : (E != 0) = true := by simpa using hz
    have hV : V = v0 := by rw [HV.out]; unfold rLoadV; rw [← hE, if_neg hz]
    subst hV
    have hbe : Below w.heap.size w (w2.setRow (w.heap.size + 1 + 1) (valA v0)) := hbb.trans ((Onl.setRow _ w2 _).toBelow (by omega) hbb.size)
    clear hE hz HV HE HR
    go_wp2_with (refine wpList_store_row (o := ⟨none, .store 51 (.tmp 6) (.tmp 17), _, _, _, _⟩) rfl 51 (.tmp 6) (.tmp 17) rfl (w.heap.size + 1 + 1) (valA v0) rfl rfl 51 (valA v0) g2 sizeRV rfl (by simp [valA, Value.oneCell']) ?_)
    exact bodyPost_ret (v := .tuple #[v0.v, .int .i64 E]) (res_cell_tmp Try.results14 _ _ (w.heap.size + 1 + 1) 51 _ (0, 0) _ _ rfl rfl (setRow_heap _ _ _ _ _ _ g2) Try.underlying51 rfl sizeRV) rfl ⟨rfl, hbe⟩
end Go.Proofs.Ytjianllngobhhaa
