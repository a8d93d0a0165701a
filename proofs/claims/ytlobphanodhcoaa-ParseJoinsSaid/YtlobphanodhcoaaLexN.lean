/- The signs of package lex: the map is made. No condition. -/
import Derived.Test.YtlobphanodhcoaaLexM
namespace Go.Proofs.Ytlobphanodhcoaa
open Go.RowKit Go.Maps
set_option linter.unusedVariables false
set_option linter.unusedSimpArgs false
set_option maxRecDepth 100000
open Lx
/-- Of the region's operations those that are listed are done; B is the map's block. -/
def SgInv (w0 : World) (f : Nat) (l : Array Bool) (a : Act) (w : World) : Prop :=
  f ≤ 65 ∧ a.defers = [] ∧ a.tmps.size = 34 ∧ (∀ k, k < 31 → l.getD (1 + 2 * k) false = true → a.tmps.getD (2 + k) undef = pairV (sgA k) (sgB k)) ∧
  (l.getD 0 true = false → w = w0.drew ∧ ∀ k, k < 31 → l.getD (2 + 2 * k) false = false) ∧
  (l.getD 0 false = true → a.tmps.getD 1 undef = .map (some w0.heap.size) ∧ ∃ (D : DataW Unit) (n : Nat), w.ownsMap Try.prog 77 (plainElem Try.prog 3) w0.heap.size n D ∧ n + f ≤ 65 ∧ Below w0.heap.size w0 w ∧ IsMap D ∧
    (∀ k, k < 31 → l.getD (2 + 2 * k) false = true → D.atKey (keyP (sgA k) (sgB k)) zI = .lit (.int .i64 (sgN k))) ∧ (∀ x y : Int, (∀ k, k < 31 → l.getD (2 + 2 * k) false = true → keyP x y ≠ keyP (sgA k) (sgB k)) → D.atKey (keyP x y) zI = zI)) ∧
  (l.getD 63 false = true → a.tmps.getD 33 undef = .map (some w0.heap.size)) ∧ (l.getD 64 false = true → a.tmps.getD 0 undef = .map (some w0.heap.size))
theorem gset {l : Array Bool} {i j : Nat} {d : Bool} (hi : i < l.size) : (l.setIfInBounds i true).getD j d = if j = i then true else l.getD j d := by
  simp only [Array.getD_eq_getD_getElem?, Array.getElem?_setIfInBounds]
  by_cases h : i = j
  · subst h; simp [hi]
  · rw [if_neg h, if_neg (fun e => h e.symm)]
theorem tput {a : Act} {d j : Nat} {v : Value} (hd : d < a.tmps.size) : (a.put (some d) v).tmps.getD j undef = if j = d then v else a.tmps.getD j undef := by
  simp only [Act.put, Array.getD_eq_getD_getElem?, Array.getElem?_setIfInBounds]
  by_cases h : d = j
  · subst h; simp [hd]
  · rw [if_neg h, if_neg (fun e => h e.symm)]
theorem i64of (i : Nat) (h : i < 65) : i = 0 ∨ (∃ k, k < 31 ∧ i = 1 + 2 * k) ∨ (∃ k, k < 31 ∧ i = 2 + 2 * k) ∨ i = 63 ∨ i = 64 := by
  by_cases h1 : i = 0
  · exact .inl h1
  by_cases h2 : i = 63
  · exact .inr (.inr (.inr (.inl h2)))
  by_cases h3 : i = 64
  · exact .inr (.inr (.inr (.inr h3)))
  by_cases h4 : i % 2 = 1
  · exact .inr (.inl ⟨i / 2, by omega, by omega⟩)
  · exact .inr (.inr (.inl ⟨i / 2 - 1, by omega, by omega⟩))
theorem sg_step (w0 : World) (Q : Exit → Act → World → Prop) (f : Nat) (l : Array Bool) (a : Act) (w : World) (i : Nat) (o : Oper) (hs : l.size = sgOps.size) (hI : SgInv w0 (f + 1) l a w) (ho : sgOps[i]? = some o) (hl : l.getD i true = false)
    (hb : ∀ e ∈ o.after, Region.binds .any e = true → l.getD e.on false = true) : wpOp Try.prog sgOps Q i (SgInv w0 f (l.setIfInBounds i true)) a w := by
  have hi : i < 65 := by have := (Array.getElem?_eq_some_iff.1 ho).1; rw [sgOps_size] at this; exact this
  rw [sgOps_size] at hs
  have hil : i < l.size := by omega
  obtain ⟨hf, h1, h2, h3, h4, h5, h6, h7⟩ := hI
  rcases i64of i hi with rfl | ⟨k, hk, rfl⟩ | ⟨k, hk, rfl⟩ | rfl | rfl
  · obtain ⟨o', ho', hg, hd, hop⟩ := sgOp_make
    obtain ⟨rfl, hno⟩ := h4 hl
    refine wpOp_value (v := .map (some w0.heap.size)) (w' := w0.drew.alloc (.map #[] 0)) ho' hg ?_ ?_
    · rw [show execOp a.eval o' = execOp a.eval { o' with op := o'.op } from rfl]
      simp [execOp, hop, run_makeMap2, Result.andThen]
    · have hm := World.ownsMap_made (H := Unit) w0.drew Try.prog 77 (plainElem Try.prog 3)
      rw [hd]
      refine ⟨by omega, h1, by simpa [Act.put] using h2, fun k hk hlk => ?_, fun h => ?_, fun _ => ?_, fun h => ?_, fun h => ?_⟩
      · rw [gset hil, if_neg (by omega)] at hlk
        rw [tput (by omega), if_neg (by omega)]
        exact h3 k hk hlk
      · rw [gset hil, if_pos rfl] at h; cases h
      · rw [tput (by omega), if_pos rfl]
        refine ⟨rfl, .map [], 0, hm, by omega, ((Below.refl _ _).drew).alloc (Nat.le_refl _) _, isMap_empty, fun k hk hlk => ?_, fun x y _ => rfl⟩
        rw [gset hil, if_neg (by omega), hno k hk] at hlk
        cases hlk
      · rw [gset hil, if_neg (by omega)] at h
        rw [tput (by omega), if_neg (by omega)]
        exact h6 h
      · rw [gset hil, if_neg (by omega)] at h
        rw [tput (by omega), if_neg (by omega)]
        exact h7 h
  · obtain ⟨o', ho', hg, hd, hr⟩ := sgOp_build k hk
    refine wpOp_value ho' hg (hr a w) ?_
    rw [hd]
    refine ⟨by omega, h1, by simpa [Act.put] using h2, fun j hj hlj => ?_, fun h => ?_, fun h => ?_, fun h => ?_, fun h => ?_⟩
    · rw [gset hil] at hlj
      rw [tput (by omega)]
      by_cases e : j = k
      · subst e; rw [if_pos rfl]
      · rw [if_neg (by omega)] at hlj
        rw [if_neg (by omega)]
        exact h3 j hj hlj
    · rw [gset hil, if_neg (by omega)] at h
      obtain ⟨e1, e2⟩ := h4 h
      exact ⟨e1, fun j hj => by rw [gset hil, if_neg (by omega)]; exact e2 j hj⟩
    · rw [gset hil, if_neg (by omega)] at h
      obtain ⟨e1, D, n, e2, e3, e4, e5, e6, e7⟩ := h5 h
      rw [tput (by omega), if_neg (by omega)]
      refine ⟨e1, D, n, e2, by omega, e4, e5, fun j hj hlj => ?_, fun x y hxy => ?_⟩
      · rw [gset hil, if_neg (by omega)] at hlj
        exact e6 j hj hlj
      · exact e7 x y fun j hj hlj => hxy j hj (by rw [gset hil, if_neg (by omega)]; exact hlj)
    · rw [gset hil, if_neg (by omega)] at h
      rw [tput (by omega), if_neg (by omega)]
      exact h6 h
    · rw [gset hil, if_neg (by omega)] at h
      rw [tput (by omega), if_neg (by omega)]
      exact h7 h
  · obtain ⟨o', ho', hg, hd, hop, ⟨x1, x2, x3, x4⟩, ⟨y1, y2, y3, y4⟩⟩ := sgOp_put k hk
    rw [ho] at ho'
    injection ho' with ho'
    subst ho'
    have p0 := hb x1 x2 x4
    rw [x3] at p0
    have pk := hb y1 y2 y4
    rw [y3] at pk
    obtain ⟨e1, D, n, e2, e3, e4, e5, e6, e7⟩ := h5 p0
    have ek := h3 k hk pk
    obtain ⟨r1, r2, r3, r4, r5, r6⟩ := sg_range k hk
    obtain ⟨w', hrun, hown, hgr⟩ := put_run (sgN k) r1 r2 r3 r4 r5 e2 (by omega)
    have hl0 : l.getD 0 true = true := by
      rw [Array.getD_eq_getD_getElem?] at p0 ⊢
      cases hx : l[0]? with
      | none => rfl
      | some b => rw [hx] at p0; simpa using p0
    have hbelow : Below w0.heap.size w0 w' := e4.grown hgr e4.size (fun j hj => by cases hj; exact Nat.le_refl _)
    refine wpOp_skip (w' := w') ho hg ?_ ?_
    · rw [show execOp a.eval o = execOp a.eval { o with op := o.op } from rfl]
      have ev1 : a.eval (.tmp 1) = .map (some w0.heap.size) := e1
      have ev2 : a.eval (.tmp (2 + k)) = pairV (sgA k) (sgB k) := ek
      have ev3 : a.eval (.const (.int .i64 (sgN k))) = .int .i64 (sgN k) := rfl
      simp [execOp, hop, ev1, ev2, ev3, hrun, Result.andThen]
    · rw [hd]
      refine ⟨by omega, h1, h2, fun j hj hlj => ?_, fun h => ?_, fun _ => ?_, fun h => ?_, fun h => ?_⟩
      · rw [gset hil, if_neg (by omega)] at hlj
        exact h3 j hj hlj
      · rw [gset hil, if_neg (by omega), hl0] at h
        cases h
      · refine ⟨e1, _, n + 1, hown, by omega, hbelow, e5.put _ _, fun j hj hlj => ?_, fun x y hxy => ?_⟩
        · by_cases e : j = k
          · subst e
            rw [atKey_put_same e5 (show WideAt.IsKeyLit (keyP (sgA j) (sgB j)) from trivial)]
          · rw [gset hil, if_neg (by omega)] at hlj
            obtain ⟨q1, q2, q3, q4, q5, q6⟩ := sg_range j hj
            rw [atKey_put_other]
            · exact e6 j hj hlj
            · intro he
              have := keyP_inj q1 q2 q3 q4 r1 r2 r3 r4 he
              exact sg_apart j hj k hk e this
        · rw [atKey_put_other]
          · exact e7 x y fun j hj hlj => hxy j hj (by rw [gset hil]; split <;> first | rfl | exact hlj)
          · exact hxy k hk (by rw [gset hil, if_pos rfl])
      · rw [gset hil, if_neg (by omega)] at h
        exact h6 h
      · rw [gset hil, if_neg (by omega)] at h
        exact h7 h
  · obtain ⟨o', ho', hg, hd, hop, ⟨x1, x2, x3, x4⟩⟩ := sgOp_63
    rw [ho] at ho'
    injection ho' with ho'
    subst ho'
    have p0 := hb x1 x2 x4
    rw [x3] at p0
    obtain ⟨e1, D, n, e2, e3, e4, e5, e6, e7⟩ := h5 p0
    refine wpOp_value (v := .map (some w0.heap.size)) (w' := w) ho hg ?_ ?_
    · rw [show execOp a.eval o = execOp a.eval { o with op := o.op } from rfl]
      have ev1 : a.eval (.tmp 1) = .map (some w0.heap.size) := e1
      simp [execOp, hop, ev1, Result.andThen]
    · rw [hd]
      refine ⟨by omega, h1, by simpa [Act.put] using h2, fun j hj hlj => ?_, fun h => ?_, fun h => ?_, fun h => ?_, fun h => ?_⟩
      · rw [gset hil, if_neg (by omega)] at hlj
        rw [tput (by omega), if_neg (by omega)]
        exact h3 j hj hlj
      · rw [gset hil, if_neg (by omega)] at h
        obtain ⟨e1, e2⟩ := h4 h
        exact ⟨e1, fun j hj => by rw [gset hil, if_neg (by omega)]; exact e2 j hj⟩
      · rw [tput (by omega), if_neg (by omega)]
        exact ⟨e1, D, n, e2, by omega, e4, e5, fun j hj hlj => e6 j hj (by rwa [gset hil, if_neg (by omega)] at hlj), fun x y hxy => e7 x y fun j hj hlj => hxy j hj (by rw [gset hil, if_neg (by omega)]; exact hlj)⟩
      · rw [tput (by omega), if_pos rfl]
      · rw [gset hil, if_neg (by omega)] at h
        rw [tput (by omega), if_neg (by omega)]
        exact h7 h
  · obtain ⟨o', ho', hg, hd, hop, ⟨x1, x2, x3, x4⟩⟩ := sgOp_64
    rw [ho] at ho'
    injection ho' with ho'
    subst ho'
    have p0 := hb x1 x2 x4
    rw [x3] at p0
    have e1 := h6 p0
    refine wpOp_value (v := .map (some w0.heap.size)) (w' := w) ho hg ?_ ?_
    · rw [show execOp a.eval o = execOp a.eval { o with op := o.op } from rfl]
      have ev1 : a.eval (.tmp 33) = .map (some w0.heap.size) := e1
      simp [execOp, hop, ev1, Result.andThen]
    · rw [hd]
      refine ⟨by omega, h1, by simpa [Act.put] using h2, fun j hj hlj => ?_, fun h => ?_, fun h => ?_, fun h => ?_, fun h => ?_⟩
      · rw [gset hil, if_neg (by omega)] at hlj
        rw [tput (by omega), if_neg (by omega)]
        exact h3 j hj hlj
      · rw [gset hil, if_neg (by omega)] at h
        obtain ⟨e1, e2⟩ := h4 h
        exact ⟨e1, fun j hj => by rw [gset hil, if_neg (by omega)]; exact e2 j hj⟩
      · rw [gset hil, if_neg (by omega)] at h
        obtain ⟨e1, D, n, e2, e3, e4, e5, e6, e7⟩ := h5 h
        rw [tput (by omega), if_neg (by omega)]
        exact ⟨e1, D, n, e2, by omega, e4, e5, fun j hj hlj => e6 j hj (by rwa [gset hil, if_neg (by omega)] at hlj), fun x y hxy => e7 x y fun j hj hlj => hxy j hj (by rw [gset hil, if_neg (by omega)]; exact hlj)⟩
      · rw [gset hil, if_neg (by omega)] at h
        rw [tput (by omega), if_neg (by omega)]
        exact h6 h
      · rw [tput (by omega), if_pos rfl]
theorem SgInv.done {w0 : World} {f : Nat} {l : Array Bool} {a : Act} {w : World} (hs : l.size = sgOps.size) (hI : SgInv w0 f l a w) (hall : ∀ i, i < sgOps.size → l.getD i true = true) : a.defers = [] ∧ a.tmps.getD 0 undef = .map (some w0.heap.size) ∧ SgAt w w0.heap.size ∧ Below w0.heap.size w0 w := by
  rw [sgOps_size] at hs hall
  have hf : ∀ i, i < 65 → l.getD i false = true := fun i hi => getD_ff (by omega) (hall i hi)
  obtain ⟨hf', h1, h2, h3, h4, h5, h6, h7⟩ := hI
  obtain ⟨e1, D, n, e2, e3, e4, e5, e6, e7⟩ := h5 (hf 0 (by omega))
  refine ⟨h1, h7 (hf 64 (by omega)), ⟨D, n, e2, fun x y x0 x1 y0 y1 => ?_⟩, e4⟩
  by_cases hx : ∃ k, k < 31 ∧ sgA k = x ∧ sgB k = y
  · obtain ⟨k, hk, rfl, rfl⟩ := hx
    obtain ⟨r1, r2, r3, r4, r5, r6⟩ := sg_range k hk
    rw [r6]
    exact e6 k hk (hf _ (by omega))
  · rw [sg_none (fun k hk e => hx ⟨k, hk, e.1, e.2⟩)]
    refine e7 x y fun k hk _ he => hx ⟨k, hk, ?_⟩
    obtain ⟨r1, r2, r3, r4, r5, r6⟩ := sg_range k hk
    have := keyP_inj x0 x1 y0 y1 r1 r2 r3 r4 he
    exact ⟨this.1.symm, this.2.symm⟩
set_option maxHeartbeats 1000000 in
theorem allSigns_any (w : World) : Calls Try.prog 14 #[] w fun e w' => e = .returned (.map (some w.heap.size)) ∧ SgAt w' w.heap.size ∧ Below w.heap.size w w' := by
  go_enter Try.func14, Try.ntmps14
  go_wp2_with fail
  refine wp_region_inv (ops := sgOps) (by kernel_rfl) (SgInv w) sgOps_lt ?_ (fun f l a w' i o => sg_step w _ f l a w' i o) ?_
  · refine ⟨by rw [sgOps_size]; exact Nat.le_refl _, rfl, rfl, fun k hk h => ?_, fun _ => ⟨rfl, fun k hk => by simp [Array.getD_eq_getD_getElem?, Array.getElem?_replicate]; split <;> rfl⟩, fun h => ?_, fun h => ?_, fun h => ?_⟩
    all_goals
      rw [sgOps_size] at h
      simp only [Array.getD_eq_getD_getElem?, Array.getElem?_replicate] at h
      split at h <;> cases h
  · intro f l a w' hs hI hall
    obtain ⟨r1, r2, r3, r4⟩ := hI.done hs hall
    rename_i K hK
    refine hK a w' (wp_ret (show bodyPost Try.prog Try.f14 (fun e w'' => e = .returned (.map (some w.heap.size)) ∧ SgAt w'' w.heap.size ∧ Below w.heap.size w w'') .ret a w' from ?_))
    rw [Array.getD_eq_getD_getElem?] at r2
    refine bodyPost_ret (v := .map (some w.heap.size)) ?_ r1 ⟨rfl, r3, r4⟩
    simp [results, Try.results14, go_sem, r2]
end Go.Proofs.Ytlobphanodhcoaa
