/- HeapGone answers true. Conditions: each theorem's. -/
import Derived.Test.YtcjffhfigelhhaaHeapGnA
namespace Go.Proofs.Ytcjffhfigelhhaa
open Go.RowKit Go.Maps
set_option linter.unusedVariables false
set_option linter.unusedSimpArgs false
set_option maxRecDepth 100000
open Hp
theorem lt_of_eqz {W Y : World} {j : Nat} (e : W.heap[j]? = Y.heap[j]?) (h : j < Y.heap.size) : j < W.heap.size := by
  rcases Nat.lt_or_ge j W.heap.size with hl | hg
  · exact hl
  · rw [Array.getElem?_eq_none hg, Array.getElem?_eq_getElem h] at e; cases e
def pc4 (b s : Int) : List Value := [.int .i64 b, .int .i64 0, .int .i64 0, .int .i64 s]
def pcs (sz : List Int) : Nat → List Value
  | 0 => []
  | i + 1 => pcs sz i ++ pc4 ((i : Int) + 1) (sz.getD i 0 + 8)
theorem pcs_len (sz : List Int) (i : Nat) : (pcs sz i).length = i * 4 := by
  induction i with
  | zero => rfl
  | succ i ih => simp [pcs, pc4, ih]; omega
theorem pcs_get (sz : List Int) (i b : Nat) (hb : b < i) (r : Nat) (hr : r < 4) : (pcs sz i)[b * 4 + r]? = (pc4 ((b : Int) + 1) (sz.getD b 0 + 8))[r]? := by
  induction i with
  | zero => omega
  | succ i ih =>
    rw [pcs]
    by_cases e : b = i
    · subst e
      rw [List.getElem?_append_right (by rw [pcs_len]; omega), pcs_len, Nat.add_sub_cancel_left]
    · rw [List.getElem?_append_left (by rw [pcs_len]; omega)]
      exact ih (by omega)
theorem pcs_one (sz : List Int) (i : Nat) : ∀ u ∈ pcs sz i, u.oneCell' = true := by
  induction i with
  | zero => simp [pcs]
  | succ i ih =>
    intro u hu
    rcases List.mem_append.1 hu with h | h
    · exact ih u h
    · simp only [pc4, List.mem_cons, List.not_mem_nil, or_false] at h
      rcases h with rfl | rfl | rfl | rfl <;> rfl
/-- The slice of the pointers. -/
def PsAt (w V : World) (L : List Nat) (sz : List Int) (v : Value) (i : Nat) : Prop :=
  V.ownsRow w.heap.size 31 4 v i (pcs sz i) ∧ ∀ m, v.ownBlock = some m → m ∈ L ∧ w.heap.size ≤ m
theorem PsAt.keep {w V N : World} {L : List Nat} {sz : List Int} {v : Value} {i : Nat} (H : PsAt w V L sz v i) (hk : ∀ m ∈ L, m < V.heap.size → N.heap[m]? = V.heap[m]?) : PsAt w N L sz v i :=
  ⟨own_at H.1 (fun j hj => hk j (H.2 j hj).1 (H.1.lt j hj).2), H.2⟩
theorem PsAt.below {w V N : World} {L : List Nat} {sz : List Int} {v : Value} {i : Nat} (H : PsAt w V L sz v i) (hb : Below V.heap.size V N) : PsAt w N L sz v i := H.keep fun m _ hl => hb.block m hl
theorem PsAt.more {w V : World} {L L' : List Nat} {sz : List Int} {v : Value} {i : Nat} (H : PsAt w V L sz v i) (h : ∀ m ∈ L, m ∈ L') : PsAt w V L' sz v i := ⟨H.1, fun m hm => ⟨h m (H.2 m hm).1, (H.2 m hm).2⟩⟩
theorem PsAt.get {w V : World} {L : List Nat} {sz : List Int} {v : Value} {i : Nat} (H : PsAt w V L sz v i) (hi : 0 < i) : ∃ g cap, v = .slice (some ⟨g, 0, none⟩) i cap ∧ g < V.heap.size ∧ g ∈ L ∧ ∀ b, b < i → V.cell? ⟨g, b * 4, none⟩ = some (.int .i64 ((b : Int) + 1)) ∧ V.cell? ⟨g, b * 4 + 1, none⟩ = some (.int .i64 0) ∧ V.cell? ⟨g, b * 4 + 2, none⟩ = some (.int .i64 0) ∧ V.cell? ⟨g, b * 4 + 3, none⟩ = some (.int .i64 (sz.getD b 0 + 8)) := by
  obtain ⟨⟨hl, h⟩, hm⟩ := H
  rcases h with ⟨rfl, hz⟩ | ⟨g, cap, cur, rfl, hb, hh, hn, hc, hsz, htk⟩
  · omega
  · refine ⟨g, cap, rfl, lt_of_at hh, (hm g rfl).1, fun b hbi => ?_⟩
    have hcell : ∀ r, r < 4 → V.cell? ⟨g, b * 4 + r, none⟩ = (pc4 ((b : Int) + 1) (sz.getD b 0 + 8))[r]? := fun r hr => by
      rw [cell_of_row V g _ _ _ _ hh, ← pcs_get sz i b hbi r hr, ← htk, List.getElem?_take, if_pos (by omega)]
      simp
    exact ⟨hcell 0 (by omega), hcell 1 (by omega), hcell 2 (by omega), hcell 3 (by omega)⟩
theorem infoPt : (Try.prog.info? 31).map (fun i => (i.zero, i.size, i.bytes)) = some (some (.agg #[.int .i64 0, .int .i64 0, .int .i64 0, .int .i64 0]), 4, 32) := by kernel_rfl
/-- What stands behind i makings. -/
def G1 (w : World) (h : Nat) (sz : List Int) (x : Int) (v : Value) (i : Nat) (V : World) : Prop := ∃ L, Cg (GnOk sz x i) w h L (3 * i) V ∧ PsAt w V L sz v i
/-- What stands in the last loop. -/
def G2 (w : World) (h : Nat) (sz : List Int) (x : Int) (n k gl : Nat) (R : World) (c : Nat) (V : World) : Prop := Cg (GnE sz x n k) w h [gl] c V ∧ V.heap[gl]? = R.heap[gl]?
set_option maxHeartbeats 8000000 in
theorem heapGone_walk (A : Option Addr) (n c : Nat) (sz : List Int) (wh x : Int) (w : World) (hn : sz.length = n) (hnc : n ≤ c) (hcm : c ≤ maxLen) (hx : 0 ≤ x ∧ x ≤ 18446744073709551615) (hwh : in64 wh)
    (hin : 0 < n → ∃ g o, A = some ⟨g, o, none⟩ ∧ g < w.heap.size ∧ ∀ j, j < n → w.cell? ⟨g, o + j, none⟩ = some (.int .u8 (sz.getD j 0)))
    (hwf : ∀ k ∈ sz, 0 ≤ k ∧ k < 256) :
    Calls Try.prog 6 #[.slice A n c, .int .i64 wh, .int .u64 x] w fun e w' => e = .returned (.bool true) ∧ Below w.heap.size w w' := by
  unfold maxLen at hcm
  unfold in64 at hwh
  have big : (n = 0 ∨ 20 < n) → Calls Try.prog 6 #[.slice A n c, .int .i64 wh, .int .u64 x] w fun e w' => e = .returned (.bool true) ∧ Below w.heap.size w w' := by
    intro hb
    clear hin hwf
    obtain ⟨E1, hE1⟩ : ∃ E1, E1 = (wh.tmod 2 == 0) := ⟨_, rfl⟩
    have d : ((n : Int) == 0) = true ∨ ((n : Int) == 0) = false ∧ decide ((20 : Int) < (n : Int)) = true := by
      rcases hb with h | h
      · left; simpa using h
      · right; exact ⟨by simp; omega, decide_eq_true (by omega)⟩
    clear hb
    rcases d with d1 | ⟨d1, d2⟩
    all_goals
      go_enter Try.func6, Try.ntmps6
      go_wp2_with fail
      refine (new_any _).mono ?_
      rintro e w1 ⟨h, o, rfl, hpa, hoa, hba⟩
      go_wp2_with fail
      refine (awake_any _).mono ?_
      rintro e w2 ⟨rfl, hb2⟩
      go_wp2_with fail
      refine (awake_any _).mono ?_
      rintro e w3 ⟨rfl, hb3⟩
      go_wp2
      go_ret
      exact ⟨rfl, hba.trans ((hb2.mono hba.size).trans (hb3.mono (Nat.le_trans hba.size hb2.size)))⟩
  by_cases hb : n = 0 ∨ 20 < n
  · exact big hb
  · clear big
    have d1 : ((n : Int) == 0) = false := by simp; omega
    have d2 : decide ((20 : Int) < (n : Int)) = false := decide_eq_false (by omega)
    have hn20 : 1 ≤ n ∧ n ≤ 20 := by omega
    have HIN := Lib.hid hin
    have HWF : Hid (∀ j, j < n → 0 ≤ sz.getD j 0 ∧ sz.getD j 0 < 256) := Lib.hid (fun j hj => hwf _ (by rw [List.getD_eq_getElem?_getD, List.getElem?_eq_getElem (by omega)]; exact List.getElem_mem _))
    clear hin hwf hb
    go_enter Try.func6, Try.ntmps6
    go_wp2_with fail
    refine (new_any _).mono ?_
    rintro e w1 ⟨h, o, rfl, hpa, hoa, hba⟩
    have HPA := Lib.hid hpa
    have HOA := Lib.hid hoa
    clear hpa hoa
    go_wp2_with fail
    refine (awake_any _).mono ?_
    rintro e w2 ⟨rfl, hb2⟩
    have HG0 : Hid (G1 w h sz x (.slice none 0 0) 0 w2) := Lib.hid ⟨[], ⟨o, ab0, HPA.out.below hb2, ⟨rfl, by funext b; show none = gnRm sz 0 b; unfold gnRm; rw [if_neg (by omega)], fun b hb => by omega⟩, by simp, HOA.out, hba.trans (hb2.mono hba.size)⟩, ⟨rfl, .inl ⟨rfl, rfl⟩⟩, by simp [Value.ownBlock]⟩
    clear hb2 HPA HOA hba
    go_wp2_with fail
    go_loopw [9, 45] (fun lv i wr => ∃ j : Nat, j ≤ n ∧ i = .int .i64 j ∧ Hid (G1 w h sz x lv j wr)) (fun _ i _ => n - (intOf i).toNat)
    case atStart => exact ⟨0, Nat.zero_le _, rfl, HG0⟩
    case round =>
      obtain ⟨j, hj, rfl, hg1⟩ := hrel
      by_cases hlt : j < n
      · have dj0 : (0 : Int) ≤ (j : Int) := by omega
        have dj1 : (j : Int) < (n : Int) := by omega
        obtain ⟨ga, og, rfl, hga, hcell⟩ := HIN.out (by omega)
        obtain ⟨L, hcg, hps⟩ := hg1.out
        have hss := HWF.out j hlt
        have hc := (hcg.be.cell (p := ⟨ga, og + j, none⟩) hga).trans (hcell j hlt)
        have hgr : ga < wr.heap.size := Nat.lt_of_lt_of_le hga hcg.be.size
        have HCG := Lib.hid hcg
        have HPS := Lib.hid hps
        clear hcg hps hg1 hcell
        obtain ⟨s, hs⟩ : ∃ s, sz.getD j 0 = s := ⟨_, rfl⟩
        rw [hs] at hc hss
        have HS := Lib.hid hs
        clear hs
        have e8 : wrap64 (s + 8) = s + 8 := IntWalk.wrap64_in _ (by omega)
        have ew : IntKind.i64.wrap s = s := IntWalk.i64_in _ (by omega)
        go_wp2_with fail
        refine (gnMake HCG.out hss HS.out (by omega)).mono ?_
        rintro e w4 ⟨he, hcg4, hk4⟩
        simp only [ptA] at he
        subst he
        have hB5 : Below w4.heap.size w4 (w4.alloc (.cells #[.int .i64 ((j : Int) + 1), .int .i64 0, .int .i64 0, .int .i64 (s + 8)] 31)) := (Below.refl _ _).alloc (Nat.le_refl _) _
        have HC5 := Lib.hid (hcg4.alloc (.cells #[.int .i64 ((j : Int) + 1), .int .i64 0, .int .i64 0, .int .i64 (s + 8)] 31))
        have HP5 := Lib.hid (((HPS.out.keep hk4).below hB5).more (L' := w4.heap.size :: L) (fun m hm => List.mem_cons_of_mem _ hm))
        have r12 := heap_alloc_new w4 (.cells #[.int .i64 ((j : Int) + 1), .int .i64 0, .int .i64 0, .int .i64 (s + 8)] 31)
        obtain ⟨q0, q1, q2, q3⟩ := cells4 r12
        have hl12 := lt_of_at r12
        clear hcg4 hk4 hB5 hc hgr e8 ew
        go_wp2_with fail
        generalize w4.alloc (.cells #[.int .i64 ((j : Int) + 1), .int .i64 0, .int .i64 0, .int .i64 (s + 8)] 31) = X5 at *
        generalize w4.heap.size = m12 at *
        refine (gnStore HC5.out hss (by omega) HS.out (by omega)).mono ?_
        rintro e w6 ⟨rfl, hcg6, hk6⟩
        have r6 := (hk6 m12 (by simp) hl12).trans r12
        have HC6 := Lib.hid hcg6
        have HP6 := Lib.hid (HP5.out.keep hk6)
        clear hcg6 hk6 r12 q0 q1 q2 q3 hl12
        obtain ⟨q0, q1, q2, q3⟩ := cells4 r6
        have hl12 := lt_of_at r6
        obtain ⟨i0, hi0, hz0, hz1, hz2⟩ := info_parts infoPt
        have hbs := HC6.out.be.size
        go_wp2_with (at_builtin; refine wpList_append_lies (o := ⟨some 74, _, _, _, _, _⟩) _ rfl (.tmp 71) (.tmp 73) 29 rfl w.heap.size 31 i0 (.agg #[.int .i64 0, .int .i64 0, .int .i64 0, .int .i64 0]) 4 32 Try.underlying29 hi0 hz0 hz1 hz2 rfl (by decide) _ j (pcs sz j) rfl (HP6.out.1.alloc _) ⟨w6.heap.size, 0, none⟩ 1 1 [.int .i64 ((j : Int) + 1), .int .i64 0, .int .i64 0, .int .i64 (s + 8)] rfl rfl (World.news_of_block (cs := #[.int .i64 ((j : Int) + 1), .int .i64 0, .int .i64 0, .int .i64 (s + 8)]) (t := 31) (fr := (0, 0)) (heap_alloc_new w6 _)) (by simp [Value.oneCell']) (by omega) (by unfold maxLen; omega) (by omega) (by simp; omega) (w6.heap.size + 1) (by simp) ?_; intro gb cap w7 hown7 hgrow7 hat7 hlt7)
        go_roundw
        case rel =>
          refine ⟨j + 1, by omega, by go_num, Lib.hid ⟨gb :: w6.heap.size :: m12 :: L, ?_, ?_⟩⟩
          · exact ((HC6.out.alloc _).grow (fun m hm => ⟨List.mem_cons_of_mem _ (HP6.out.2 m hm).1, (HP6.out.2 m hm).2⟩) hgrow7 (hat7.imp id (fun e => by rw [e]; simp)) hlt7).cut (fun m hm => hm) (by omega)
          · refine ⟨?_, fun m hm => ?_⟩
            · rw [pcs, HS.out]; exact hown7
            · simp only [Value.ownBlock, Option.some.injEq] at hm
              subst hm
              refine ⟨by simp, ?_⟩
              rcases hat7 with e | e
              · exact (HP6.out.2 gb e).2
              · omega
        case measure => simp [intOf]; omega
      · have dj1 : decide ((j : Int) < (n : Int)) = false := decide_eq_false (by omega)
        have hjn : j = n := by omega
        obtain ⟨R, hR⟩ : ∃ R, R = wr := ⟨_, rfl⟩
        subst hR
        obtain ⟨L, hcg, hps⟩ := hg1.out
        rw [hjn] at hcg hps
        obtain ⟨gl, cap, rfl, hgl, hglL, hcell⟩ := hps.get (by omega)
        have HCG := Lib.hid hcg
        have HPS := Lib.hid hps
        clear hcg hps hg1
        obtain ⟨kk, hkq⟩ : ∃ kk : Int, wrap64 ((IntKind.u64.wrap wh).tmod (n : Int)) = kk := ⟨_, rfl⟩
        have hkk : 0 ≤ kk ∧ kk < (n : Int) := by
          rw [← hkq, IntKind.wrap_u64, Int.tmod_eq_emod_of_nonneg (by omega)]
          have h1 := Int.emod_nonneg (wh % 18446744073709551616) (b := (n : Int)) (by omega)
          have h2 := Int.emod_lt_of_pos (wh % 18446744073709551616) (b := (n : Int)) (by omega)
          rw [IntWalk.wrap64_in _ (by omega)]
          exact ⟨h1, h2⟩
        obtain ⟨k, hkt⟩ : ∃ k : Nat, kk.toNat = k := ⟨_, rfl⟩
        have hkn : k < n := by omega
        have HKK : Hid (kk = (k : Int)) := Lib.hid (by omega)
        obtain ⟨dk0, dk1⟩ := hkk
        obtain ⟨kc0, kc1, kc2, kc3⟩ := hcell k hkn
        have hfree := gnFree HCG.out hkn (by omega) (by omega) (HWF.out k hkn)
        have hsr := HWF.out k hkn
        have HCELL := Lib.hid hcell
        clear hcell
        obtain ⟨sk, hsk⟩ : ∃ sk, sz.getD k 0 = sk := ⟨_, rfl⟩
        rw [hsk] at kc3 hfree hsr
        have HFREE := Lib.hid hfree
        have HSK := Lib.hid hsk
        clear hsk hfree
        rcases Bool.eq_false_or_eq_true (wh.tmod 2 == 0) with hev | hev
        · go_wp2_with fail
          refine (gnEnd HCG.out hkn (by omega) (by omega)).mono ?_
          rintro e T1 ⟨rfl, hcg1, hk1⟩
          have HC1 := Lib.hid hcg1
          have E1 := Lib.hid (hk1 gl hglL hgl)
          clear hcg1 hk1
          have ca0 := (World.cell?_of_block (w := R) (a := ⟨gl, k * 4, none⟩) E1.out).trans kc0
          have hga := World.block_lt_of_cell? _ _ ca0
          simp only at hga
          go_wp2_with fail
          refine (dLive HC1.out (by omega)).mono ?_
          rintro e T2 ⟨rfl, hb2⟩
          have HC2 := Lib.hid (HC1.out.below hb2)
          have E2 := Lib.hid ((hb2.block gl hga).trans E1.out)
          clear hb2
          clear ca0 hga
          have cb0 := (World.cell?_of_block (w := R) (a := ⟨gl, k * 4, none⟩) E2.out).trans kc0
          have cb1 := (World.cell?_of_block (w := R) (a := ⟨gl, k * 4 + 1, none⟩) E2.out).trans kc1
          have cb2 := (World.cell?_of_block (w := R) (a := ⟨gl, k * 4 + 2, none⟩) E2.out).trans kc2
          have cb3 := (World.cell?_of_block (w := R) (a := ⟨gl, k * 4 + 3, none⟩) E2.out).trans kc3
          have hgb := World.block_lt_of_cell? _ _ cb0
          simp only at hgb
          go_wp2_with fail
          refine (dFree HC2.out (by omega) (by omega) hsr).mono ?_
          rintro e T3 ⟨rfl, hcg3, hk3⟩
          have HC3 := Lib.hid hcg3
          have E3 := Lib.hid ((hk3 gl hglL hgb).trans E2.out)
          clear hcg3 hk3
          clear cb0 cb1 cb2 cb3 hgb
          have cd0 := (World.cell?_of_block (w := R) (a := ⟨gl, k * 4, none⟩) E3.out).trans kc0
          have hgd := World.block_lt_of_cell? _ _ cd0
          simp only at hgd
          go_wp2_with fail
          refine (dEnd HC3.out hkn (by omega) (by omega)).mono ?_
          rintro e T4 ⟨rfl, hcg4, hk4⟩
          have HC4 := Lib.hid hcg4
          have E4 := Lib.hid ((hk4 gl hglL hgd).trans E3.out)
          clear hcg4 hk4
          clear cd0 hgd
          have cf0 := (World.cell?_of_block (w := R) (a := ⟨gl, k * 4, none⟩) E4.out).trans kc0
          have hgf := World.block_lt_of_cell? _ _ cf0
          simp only at hgf
          go_wp2_with fail
          refine (dClear HC4.out hkn (by omega) (by omega)).mono ?_
          rintro e T5 ⟨rfl, hcg5, hk5⟩
          have HC5 := Lib.hid hcg5
          have E5 := Lib.hid ((hk5 gl hglL hgf).trans E4.out)
          have hg5 : gl < T5.heap.size := lt_of_eqz E5.out hgl
          clear hcg5 hk5
          clear cf0 hgf
          go_wp2_with fail
          refine (dMake HC5.out (by omega)).mono ?_
          rintro e T6 ⟨he, hcg6, hk6⟩
          simp only [ptA] at he
          subst he
          have E6 := (hk6 gl hglL hg5).trans E5.out
          have hg6 : gl < T6.heap.size := lt_of_eqz E6 hgl
          have HC7 := Lib.hid (hcg6.alloc (.cells #[.int .i64 ((n : Int) + 1), .int .i64 0, .int .i64 0, .int .i64 8] 31))
          have r16 := heap_alloc_new T6 (.cells #[.int .i64 ((n : Int) + 1), .int .i64 0, .int .i64 0, .int .i64 8] 31)
          have E7 := Lib.hid ((heap_alloc_old T6 (.cells #[.int .i64 ((n : Int) + 1), .int .i64 0, .int .i64 0, .int .i64 8] 31) hg6).trans E6)
          clear hcg6 hk6 E6 hg5 hg6
          have p0 := cell_of_row _ _ 0 _ _ _ r16
          have hm16 := lt_of_at r16
          simp only [List.getElem?_toArray, List.getElem?_cons_zero] at p0
          have cg0 := (World.cell?_of_block (w := R) (a := ⟨gl, k * 4, none⟩) E7.out).trans kc0
          have hgg := World.block_lt_of_cell? _ _ cg0
          simp only at hgg
          have dne : (((n : Int) + 1) == ((k : Int) + 1)) = false := by simp; omega
          go_wp2_with fail
          generalize T6.alloc (.cells #[.int .i64 ((n : Int) + 1), .int .i64 0, .int .i64 0, .int .i64 8] 31) = X7 at *
          generalize T6.heap.size = m16 at *
          go_quiet (fail)
          go_wp2_with fail
          have HY : Hid (G2 w h sz x n k gl R (3 * n + 20) (X7.drewN nq)) := Lib.hid ⟨(HC7.out.below (belowN (Below.refl _ _))).cut (by intro m hm; simp at hm; subst hm; exact List.mem_cons_of_mem _ hglL) (by omega), ((belowN (n := nq) (Below.refl X7.heap.size X7)).block gl hgg).trans E7.out⟩
          clear cg0 hgg p0 hm16 r16 dne
          generalize X7.drewN nq = Y at *
          go_loopw [156] (fun i wr => ∃ u : Nat, u ≤ n ∧ i = .int .i64 u ∧ Hid (G2 w h sz x n k gl R (3 * n + 20 + 2 * u) wr)) (fun i _ => n - (intOf i).toNat)
          case atStart => exact ⟨0, Nat.zero_le _, rfl, HY⟩
          case round =>
            obtain ⟨u, hu, rfl, hg2⟩ := hrel
            by_cases hlu : u < n
            · have du0 : (0 : Int) ≤ (u : Int) := by omega
              have du1 : (u : Int) < (n : Int) := by omega
              obtain ⟨a0, a1, a2, a3⟩ := HCELL.out u hlu
              have hsu := HWF.out u hlu
              have hgw := lt_of_eqz hg2.out.2 hgl
              have b0 := (World.cell?_of_block (w := R) (a := ⟨gl, u * 4, none⟩) hg2.out.2).trans a0
              have b1 := (World.cell?_of_block (w := R) (a := ⟨gl, u * 4 + 1, none⟩) hg2.out.2).trans a1
              have b2 := (World.cell?_of_block (w := R) (a := ⟨gl, u * 4 + 2, none⟩) hg2.out.2).trans a2
              have b3 := (World.cell?_of_block (w := R) (a := ⟨gl, u * 4 + 3, none⟩) hg2.out.2).trans a3
              have HEL : Hid (∀ V c, Cg (GnE sz x n k) w h (wr.heap.size :: [gl]) c V → _) := Lib.hid (fun V c H => eLoad (V := V) (c := c) H hlu (by omega) hsu)
              have HES : Hid (∀ V c L v, Cg (GnE sz x n k) w h L c V → c < 1000 → _) := Lib.hid (fun V c L v H hc => eStore (V := V) (c := c) (L := L) (v := v) H hlu (by omega) hsu hc)
              have HPO := Lib.hid (gn_ok ((u : Int) + 1) (sz.getD u 0 + 8) (by unfold in64; omega) (by unfold in64; omega))
              obtain ⟨su, hsz⟩ : ∃ su, sz.getD u 0 = su := ⟨_, rfl⟩
              rw [hsz] at b3 hsu HEL HES HPO
              clear a0 a1 a2 a3 hsz
              have r18 := heap_alloc_new wr (.cells #[.int .i64 ((u : Int) + 1), .int .i64 0, .int .i64 0, .int .i64 (su + 8)] 31)
              have HC18 := Lib.hid (hg2.out.1.alloc (.cells #[.int .i64 ((u : Int) + 1), .int .i64 0, .int .i64 0, .int .i64 (su + 8)] 31))
              have E18 := Lib.hid ((heap_alloc_old wr (.cells #[.int .i64 ((u : Int) + 1), .int .i64 0, .int .i64 0, .int .i64 (su + 8)] 31) hgw).trans hg2.out.2)
              obtain ⟨q0, q1, q2, q3⟩ := cells4 r18
              have hl18 := lt_of_at r18
              clear hg2
              go_wp2_with fail
              have hel := HEL.out _ _ HC18.out
              simp only [ptA, vlA] at hel
              refine hel.mono ?_
              rintro e T8 ⟨rfl, hb8⟩
              have r18b := row_in hb8 r18 hl18
              have HC19 := Lib.hid ((HC18.out.below hb8).alloc (.cells #[.int .u64 (gV x u k), .int .i64 0, .int .i64 0, .int .i64 0, .int .i64 0] 35))
              have hgl8 := lt_of_eqz E18.out hgl
              have E19 := Lib.hid ((heap_alloc_old T8 (.cells #[.int .u64 (gV x u k), .int .i64 0, .int .i64 0, .int .i64 0, .int .i64 0] 35) (Nat.lt_of_lt_of_le hgl8 hb8.size)).trans ((hb8.block gl hgl8).trans E18.out))
              have R18 := Lib.hid (row_up r18b (.cells #[.int .u64 (gV x u k), .int .i64 0, .int .i64 0, .int .i64 0, .int .i64 0] 35))
              have R19 := Lib.hid (heap_alloc_new T8 (.cells #[.int .u64 (gV x u k), .int .i64 0, .int .i64 0, .int .i64 0, .int .i64 0] 35))
              clear hel hb8 r18 r18b q0 q1 q2 q3 b0 b1 b2 b3 hl18 hgl8 hgw
              go_wp2_with fail
              generalize T8.alloc (.cells #[.int .u64 (gV x u k), .int .i64 0, .int .i64 0, .int .i64 0, .int .i64 0] 35) = Y9 at *
              generalize T8.heap.size = m19 at *
              generalize wr.heap.size = m18 at *
              obtain ⟨q0, q1, q2, q3⟩ := cells4 R18.out
              obtain ⟨v0c, v1c, v2c, v3c, v4c⟩ := cells5 (V := ⟨gV x u k, p0⟩) R19.out
              simp only [Hp.p0] at v0c v1c v2c v3c v4c
              have hlg := lt_of_eqz E19.out hgl
              refine wp_region_held_drew (S := fun W : World => W.heap[gl]? = Y9.heap[gl]? ∧ W.heap[m18]? = Y9.heap[m18]? ∧ W.heap[m19]? = Y9.heap[m19]?) (by kernel_rfl) ⟨rfl, rfl, rfl⟩ (fun hHeld => ?_)
              have HP := Lib.hid (HC19.out.below ((Below.refl Y9.heap.size Y9).drew))
              generalize hYD : Y9.drew = V0 at *
              clear hYD
              refine wpAnyH_take (i := 0) (oi := ({ dst := some 167, op := Go.Op.move (Go.Operand.tmp 8), type := 23, pos := "law.go:178", after := #[], guard := none } : Oper)) (v := .pointer (some ⟨h, 0, none⟩)) rfl (by kernel_rfl) (by kernel_rfl) (by kernel_rfl) (fun _ _ _ h => h) (Or.inl ⟨by rfl, ?hy1⟩) (by assumption) ?_
              case hy1 => ((intro W hSW; go_simp); (try with_reducible rfl); (try exact ⟨rfl, rfl, rfl⟩))
              simp only [Act.put, List.setIfInBounds_toArray, List.set_cons_zero, List.set_cons_succ]
              refine wpAnyH_take (i := 1) (oi := ({ dst := some 168, op := Go.Op.load 31 (Go.Operand.tmp 18), type := 31, pos := "law.go:178", after := #[], guard := none } : Oper)) (v := .agg #[.int .i64 ((u : Int) + 1), .int .i64 0, .int .i64 0, .int .i64 (su + 8)]) rfl (by kernel_rfl) (by kernel_rfl) (by kernel_rfl) (fun _ _ _ h => h) (Or.inl ⟨by rfl, ?hy2⟩) (by assumption) ?_
              case hy2 => ((intro W hSW; have hl2 : m18 < W.heap.size := lt_of_eqz hSW.2.1 (lt_of_at R18.out); have e0 := (World.cell?_of_block (w := Y9) (a := ⟨m18, 0, none⟩) hSW.2.1).trans q0; have e1 := (World.cell?_of_block (w := Y9) (a := ⟨m18, 1, none⟩) hSW.2.1).trans q1; have e2 := (World.cell?_of_block (w := Y9) (a := ⟨m18, 2, none⟩) hSW.2.1).trans q2; have e3 := (World.cell?_of_block (w := Y9) (a := ⟨m18, 3, none⟩) hSW.2.1).trans q3; clear hSW; go_simp); (try with_reducible rfl); (try exact ⟨rfl, rfl, rfl⟩))
              simp only [Act.put, List.setIfInBounds_toArray, List.set_cons_zero, List.set_cons_succ]
              refine wpAnyH_take (i := 3) (oi := ({ dst := some 170, op := Go.Op.load 35 (Go.Operand.tmp 19), type := 35, pos := "law.go:178", after := #[], guard := none } : Oper)) (v := .agg #[.int .u64 (gV x u k), .int .i64 0, .int .i64 0, .int .i64 0, .int .i64 0]) rfl (by kernel_rfl) (by kernel_rfl) (by kernel_rfl) (fun _ _ _ h => h) (Or.inl ⟨by rfl, ?hy3⟩) (by assumption) ?_
              case hy3 => ((intro W hSW; have hl2 : m19 < W.heap.size := lt_of_eqz hSW.2.2 (lt_of_at R19.out); have e0 := (World.cell?_of_block (w := Y9) (a := ⟨m19, 0, none⟩) hSW.2.2).trans v0c; have e1 := (World.cell?_of_block (w := Y9) (a := ⟨m19, 1, none⟩) hSW.2.2).trans v1c; have e2 := (World.cell?_of_block (w := Y9) (a := ⟨m19, 2, none⟩) hSW.2.2).trans v2c; have e3 := (World.cell?_of_block (w := Y9) (a := ⟨m19, 3, none⟩) hSW.2.2).trans v3c; have e4 := (World.cell?_of_block (w := Y9) (a := ⟨m19, 4, none⟩) hSW.2.2).trans v4c; clear hSW; go_simp); (try with_reducible rfl); (try exact ⟨rfl, rfl, rfl⟩))
              simp only [Act.put, List.setIfInBounds_toArray, List.set_cons_zero, List.set_cons_succ]
              refine wpAnyH_ready (rs := [2]) (by kernel_rfl) (by simp) ?_
              refine (AllReadyH.cons (i := 2) (o := ({ dst := some 169, op := Go.Op.call { callee := Go.Callee.value (Go.Operand.func 11), args := #[Go.Operand.tmp 168, Go.Operand.const (Go.Value.int Go.IntKind.i64 1)], argTypes := #[31, 3] }, type := 31, pos := "law.go:178", after := #[{ on := 1, ground := Go.Ground.data }], guard := none } : Oper)) rfl (fun K hK => ?_) AllReadyH.nil)
              rw [if_pos (by rfl)]
              go_simp
              refine (move_any ⟨(u : Int) + 1, 0, 0, su + 8⟩ 1 _ HPO.out).mono ?_
              rintro e V1 ⟨he, hb⟩
              subst he
              replace HP := Lib.hid (HP.out.below hb)
              go_simp
              refine hK.out _ _ (⟨(hb.block _ (lt_of_eqz hHeld.1 hlg)).trans hHeld.1, (hb.block _ (lt_of_eqz hHeld.2.1 (lt_of_at R18.out))).trans hHeld.2.1, (hb.block _ (lt_of_eqz hHeld.2.2 (lt_of_at R19.out))).trans hHeld.2.2⟩) (fun hHeld => ?_)
              clear hK K
              try simp only [Act.put, List.setIfInBounds_toArray, List.set_cons_zero, List.set_cons_succ]
              refine wpAnyH_ready (rs := [4]) (by kernel_rfl) (by simp) ?_
              refine (AllReadyH.cons (i := 4) (o := ({ dst := some 171, op := Go.Op.call { callee := Go.Callee.value (Go.Operand.func 20), args := #[Go.Operand.tmp 167, Go.Operand.tmp 169, Go.Operand.const (Go.Value.int Go.IntKind.i64 1), Go.Operand.tmp 170], argTypes := #[23, 31, 3, 35] }, type := 43, pos := "law.go:178", after := #[{ on := 0, ground := Go.Ground.data }, { on := 2, ground := Go.Ground.data }, { on := 3, ground := Go.Ground.data }, { on := 2, ground := Go.Ground.chain }], guard := none } : Oper)) rfl (fun K hK => ?_) AllReadyH.nil)
              rw [if_pos (by rfl)]
              go_simp
              have hes := HES.out _ _ _ (gV x u k) HP.out (by omega)
              simp only [vlA] at hes
              refine hes.mono ?_
              rintro e V2 ⟨he, hp, hs⟩
              subst he
              replace HP := Lib.hid hp
              clear hp hes
              go_simp
              refine hK.out _ _ (⟨(hs gl (by simp) (lt_of_eqz hHeld.1 hlg)).trans hHeld.1, (hs m18 (by simp) (lt_of_eqz hHeld.2.1 (lt_of_at R18.out))).trans hHeld.2.1, (hs m19 (by simp) (lt_of_eqz hHeld.2.2 (lt_of_at R19.out))).trans hHeld.2.2⟩) (fun hHeld => ?_)
              clear hK K
              try simp only [Act.put, List.setIfInBounds_toArray, List.set_cons_zero, List.set_cons_succ]
              refine wpAnyH_take (i := 5) (oi := ({ dst := some 21, op := Go.Op.assign (Go.Operand.tmp 171), type := 43, pos := "law.go:178", after := #[{ on := 4, ground := Go.Ground.data }, { on := 4, ground := Go.Ground.chain }, { on := 0, ground := Go.Ground.phase }, { on := 1, ground := Go.Ground.phase }, { on := 2, ground := Go.Ground.phase }, { on := 3, ground := Go.Ground.phase }, { on := 4, ground := Go.Ground.phase }], guard := none } : Oper)) (v := .int .i64 (gC u k)) rfl (by kernel_rfl) (by kernel_rfl) (by kernel_rfl) (fun _ _ _ h => h) (Or.inl ⟨by rfl, ?hy4⟩) (by assumption) ?_
              case hy4 => ((intro W hSW; go_simp); (try with_reducible rfl); (try exact ⟨rfl, rfl, rfl⟩))
              simp only [Act.put, List.setIfInBounds_toArray, List.set_cons_zero, List.set_cons_succ]
              refine wpAnyH_done (by kernel_rfl) ?_ _
              have HH := Lib.hid (hHeld.1.trans E19.out)
              have w0 := (World.cell?_of_block (w := Y9) (a := ⟨m19, 0, none⟩) hHeld.2.2).trans v0c
              have hl9 := World.block_lt_of_cell? _ _ w0
              simp only at hl9
              clear hHeld hs v0c v1c v2c v3c v4c q0 q1 q2 q3 hlg
              generalize hVV : V2 = T9 at *
              clear hVV
              have ewx : IntKind.u64.wrap (x + (u : Int)) = wv x u := rfl
              by_cases huk : u = k
              · have hgk : gC u k = 20 := by rw [huk]; exact gC_y k
                have hku : kk = (u : Int) := by rw [HKK.out, huk]
                rw [hgk]
                clear hgk hkq hkt dk0 dk1 HKK
                subst hku
                go_wp2
                go_roundw
                case rel => exact ⟨u + 1, by omega, by go_num, Lib.hid ⟨HP.out.cut (by simp) (by omega), HH.out⟩⟩
                case measure => simp [intOf]; omega
              · rw [gC_n huk]
                have dk : ((u : Int) == kk) = false := by rw [HKK.out]; simp; omega
                have w1 : T9.cell? ⟨m19, 0, none⟩ = some (.int .u64 (IntKind.u64.wrap (x + (u : Int)))) := by rw [w0]; unfold gV; rw [if_neg huk]; rfl
                clear w0 ewx
                go_wp2
                go_roundw
                case rel => exact ⟨u + 1, by omega, by go_num, Lib.hid ⟨HP.out.cut (by simp) (by omega), HH.out⟩⟩
                case measure => simp [intOf]; omega
            · have du1 : decide ((u : Int) < (n : Int)) = false := decide_eq_false (by omega)
              go_wp2
              go_ret
              exact ⟨rfl, hg2.out.1.be⟩
        · go_wp2_with fail
          refine HFREE.out.mono ?_
          rintro e T1 ⟨rfl, hcg1, hk1⟩
          have HC1 := Lib.hid hcg1
          have E1 := Lib.hid (hk1 gl hglL hgl)
          clear hcg1 hk1
          have ca0 := (World.cell?_of_block (w := R) (a := ⟨gl, k * 4, none⟩) E1.out).trans kc0
          have hga := World.block_lt_of_cell? _ _ ca0
          simp only at hga
          go_wp2_with fail
          refine (dLive HC1.out (by omega)).mono ?_
          rintro e T2 ⟨rfl, hb2⟩
          have HC2 := Lib.hid (HC1.out.below hb2)
          have E2 := Lib.hid ((hb2.block gl hga).trans E1.out)
          clear hb2
          clear ca0 hga
          have cb0 := (World.cell?_of_block (w := R) (a := ⟨gl, k * 4, none⟩) E2.out).trans kc0
          have cb1 := (World.cell?_of_block (w := R) (a := ⟨gl, k * 4 + 1, none⟩) E2.out).trans kc1
          have cb2 := (World.cell?_of_block (w := R) (a := ⟨gl, k * 4 + 2, none⟩) E2.out).trans kc2
          have cb3 := (World.cell?_of_block (w := R) (a := ⟨gl, k * 4 + 3, none⟩) E2.out).trans kc3
          have hgb := World.block_lt_of_cell? _ _ cb0
          simp only at hgb
          go_wp2_with fail
          refine (dFree HC2.out (by omega) (by omega) hsr).mono ?_
          rintro e T3 ⟨rfl, hcg3, hk3⟩
          have HC3 := Lib.hid hcg3
          have E3 := Lib.hid ((hk3 gl hglL hgb).trans E2.out)
          clear hcg3 hk3
          clear cb0 cb1 cb2 cb3 hgb
          have cd0 := (World.cell?_of_block (w := R) (a := ⟨gl, k * 4, none⟩) E3.out).trans kc0
          have hgd := World.block_lt_of_cell? _ _ cd0
          simp only at hgd
          go_wp2_with fail
          refine (dEnd HC3.out hkn (by omega) (by omega)).mono ?_
          rintro e T4 ⟨rfl, hcg4, hk4⟩
          have HC4 := Lib.hid hcg4
          have E4 := Lib.hid ((hk4 gl hglL hgd).trans E3.out)
          clear hcg4 hk4
          clear cd0 hgd
          have cf0 := (World.cell?_of_block (w := R) (a := ⟨gl, k * 4, none⟩) E4.out).trans kc0
          have hgf := World.block_lt_of_cell? _ _ cf0
          simp only at hgf
          go_wp2_with fail
          refine (dClear HC4.out hkn (by omega) (by omega)).mono ?_
          rintro e T5 ⟨rfl, hcg5, hk5⟩
          have HC5 := Lib.hid hcg5
          have E5 := Lib.hid ((hk5 gl hglL hgf).trans E4.out)
          have hg5 : gl < T5.heap.size := lt_of_eqz E5.out hgl
          clear hcg5 hk5
          clear cf0 hgf
          go_wp2_with fail
          refine (dMake HC5.out (by omega)).mono ?_
          rintro e T6 ⟨he, hcg6, hk6⟩
          simp only [ptA] at he
          subst he
          have E6 := (hk6 gl hglL hg5).trans E5.out
          have hg6 : gl < T6.heap.size := lt_of_eqz E6 hgl
          have HC7 := Lib.hid (hcg6.alloc (.cells #[.int .i64 ((n : Int) + 1), .int .i64 0, .int .i64 0, .int .i64 8] 31))
          have r16 := heap_alloc_new T6 (.cells #[.int .i64 ((n : Int) + 1), .int .i64 0, .int .i64 0, .int .i64 8] 31)
          have E7 := Lib.hid ((heap_alloc_old T6 (.cells #[.int .i64 ((n : Int) + 1), .int .i64 0, .int .i64 0, .int .i64 8] 31) hg6).trans E6)
          clear hcg6 hk6 E6 hg5 hg6
          have p0 := cell_of_row _ _ 0 _ _ _ r16
          have hm16 := lt_of_at r16
          simp only [List.getElem?_toArray, List.getElem?_cons_zero] at p0
          have cg0 := (World.cell?_of_block (w := R) (a := ⟨gl, k * 4, none⟩) E7.out).trans kc0
          have hgg := World.block_lt_of_cell? _ _ cg0
          simp only at hgg
          have dne : (((n : Int) + 1) == ((k : Int) + 1)) = false := by simp; omega
          go_wp2_with fail
          generalize T6.alloc (.cells #[.int .i64 ((n : Int) + 1), .int .i64 0, .int .i64 0, .int .i64 8] 31) = X7 at *
          generalize T6.heap.size = m16 at *
          go_quiet (fail)
          go_wp2_with fail
          have HY : Hid (G2 w h sz x n k gl R (3 * n + 20) (X7.drewN nq)) := Lib.hid ⟨(HC7.out.below (belowN (Below.refl _ _))).cut (by intro m hm; simp at hm; subst hm; exact List.mem_cons_of_mem _ hglL) (by omega), ((belowN (n := nq) (Below.refl X7.heap.size X7)).block gl hgg).trans E7.out⟩
          clear cg0 hgg p0 hm16 r16 dne
          generalize X7.drewN nq = Y at *
          go_loopw [156] (fun i wr => ∃ u : Nat, u ≤ n ∧ i = .int .i64 u ∧ Hid (G2 w h sz x n k gl R (3 * n + 20 + 2 * u) wr)) (fun i _ => n - (intOf i).toNat)
          case atStart => exact ⟨0, Nat.zero_le _, rfl, HY⟩
          case round =>
            obtain ⟨u, hu, rfl, hg2⟩ := hrel
            by_cases hlu : u < n
            · have du0 : (0 : Int) ≤ (u : Int) := by omega
              have du1 : (u : Int) < (n : Int) := by omega
              obtain ⟨a0, a1, a2, a3⟩ := HCELL.out u hlu
              have hsu := HWF.out u hlu
              have hgw := lt_of_eqz hg2.out.2 hgl
              have b0 := (World.cell?_of_block (w := R) (a := ⟨gl, u * 4, none⟩) hg2.out.2).trans a0
              have b1 := (World.cell?_of_block (w := R) (a := ⟨gl, u * 4 + 1, none⟩) hg2.out.2).trans a1
              have b2 := (World.cell?_of_block (w := R) (a := ⟨gl, u * 4 + 2, none⟩) hg2.out.2).trans a2
              have b3 := (World.cell?_of_block (w := R) (a := ⟨gl, u * 4 + 3, none⟩) hg2.out.2).trans a3
              have HEL : Hid (∀ V c, Cg (GnE sz x n k) w h (wr.heap.size :: [gl]) c V → _) := Lib.hid (fun V c H => eLoad (V := V) (c := c) H hlu (by omega) hsu)
              have HES : Hid (∀ V c L v, Cg (GnE sz x n k) w h L c V → c < 1000 → _) := Lib.hid (fun V c L v H hc => eStore (V := V) (c := c) (L := L) (v := v) H hlu (by omega) hsu hc)
              have HPO := Lib.hid (gn_ok ((u : Int) + 1) (sz.getD u 0 + 8) (by unfold in64; omega) (by unfold in64; omega))
              obtain ⟨su, hsz⟩ : ∃ su, sz.getD u 0 = su := ⟨_, rfl⟩
              rw [hsz] at b3 hsu HEL HES HPO
              clear a0 a1 a2 a3 hsz
              have r18 := heap_alloc_new wr (.cells #[.int .i64 ((u : Int) + 1), .int .i64 0, .int .i64 0, .int .i64 (su + 8)] 31)
              have HC18 := Lib.hid (hg2.out.1.alloc (.cells #[.int .i64 ((u : Int) + 1), .int .i64 0, .int .i64 0, .int .i64 (su + 8)] 31))
              have E18 := Lib.hid ((heap_alloc_old wr (.cells #[.int .i64 ((u : Int) + 1), .int .i64 0, .int .i64 0, .int .i64 (su + 8)] 31) hgw).trans hg2.out.2)
              obtain ⟨q0, q1, q2, q3⟩ := cells4 r18
              have hl18 := lt_of_at r18
              clear hg2
              go_wp2_with fail
              have hel := HEL.out _ _ HC18.out
              simp only [ptA, vlA] at hel
              refine hel.mono ?_
              rintro e T8 ⟨rfl, hb8⟩
              have r18b := row_in hb8 r18 hl18
              have HC19 := Lib.hid ((HC18.out.below hb8).alloc (.cells #[.int .u64 (gV x u k), .int .i64 0, .int .i64 0, .int .i64 0, .int .i64 0] 35))
              have hgl8 := lt_of_eqz E18.out hgl
              have E19 := Lib.hid ((heap_alloc_old T8 (.cells #[.int .u64 (gV x u k), .int .i64 0, .int .i64 0, .int .i64 0, .int .i64 0] 35) (Nat.lt_of_lt_of_le hgl8 hb8.size)).trans ((hb8.block gl hgl8).trans E18.out))
              have R18 := Lib.hid (row_up r18b (.cells #[.int .u64 (gV x u k), .int .i64 0, .int .i64 0, .int .i64 0, .int .i64 0] 35))
              have R19 := Lib.hid (heap_alloc_new T8 (.cells #[.int .u64 (gV x u k), .int .i64 0, .int .i64 0, .int .i64 0, .int .i64 0] 35))
              clear hel hb8 r18 r18b q0 q1 q2 q3 b0 b1 b2 b3 hl18 hgl8 hgw
              go_wp2_with fail
              generalize T8.alloc (.cells #[.int .u64 (gV x u k), .int .i64 0, .int .i64 0, .int .i64 0, .int .i64 0] 35) = Y9 at *
              generalize T8.heap.size = m19 at *
              generalize wr.heap.size = m18 at *
              obtain ⟨q0, q1, q2, q3⟩ := cells4 R18.out
              obtain ⟨v0c, v1c, v2c, v3c, v4c⟩ := cells5 (V := ⟨gV x u k, p0⟩) R19.out
              simp only [Hp.p0] at v0c v1c v2c v3c v4c
              have hlg := lt_of_eqz E19.out hgl
              refine wp_region_held_drew (S := fun W : World => W.heap[gl]? = Y9.heap[gl]? ∧ W.heap[m18]? = Y9.heap[m18]? ∧ W.heap[m19]? = Y9.heap[m19]?) (by kernel_rfl) ⟨rfl, rfl, rfl⟩ (fun hHeld => ?_)
              have HP := Lib.hid (HC19.out.below ((Below.refl Y9.heap.size Y9).drew))
              generalize hYD : Y9.drew = V0 at *
              clear hYD
              refine wpAnyH_take (i := 0) (oi := ({ dst := some 167, op := Go.Op.move (Go.Operand.tmp 8), type := 23, pos := "law.go:178", after := #[], guard := none } : Oper)) (v := .pointer (some ⟨h, 0, none⟩)) rfl (by kernel_rfl) (by kernel_rfl) (by kernel_rfl) (fun _ _ _ h => h) (Or.inl ⟨by rfl, ?hy1⟩) (by assumption) ?_
              case hy1 => ((intro W hSW; go_simp); (try with_reducible rfl); (try exact ⟨rfl, rfl, rfl⟩))
              simp only [Act.put, List.setIfInBounds_toArray, List.set_cons_zero, List.set_cons_succ]
              refine wpAnyH_take (i := 1) (oi := ({ dst := some 168, op := Go.Op.load 31 (Go.Operand.tmp 18), type := 31, pos := "law.go:178", after := #[], guard := none } : Oper)) (v := .agg #[.int .i64 ((u : Int) + 1), .int .i64 0, .int .i64 0, .int .i64 (su + 8)]) rfl (by kernel_rfl) (by kernel_rfl) (by kernel_rfl) (fun _ _ _ h => h) (Or.inl ⟨by rfl, ?hy2⟩) (by assumption) ?_
              case hy2 => ((intro W hSW; have hl2 : m18 < W.heap.size := lt_of_eqz hSW.2.1 (lt_of_at R18.out); have e0 := (World.cell?_of_block (w := Y9) (a := ⟨m18, 0, none⟩) hSW.2.1).trans q0; have e1 := (World.cell?_of_block (w := Y9) (a := ⟨m18, 1, none⟩) hSW.2.1).trans q1; have e2 := (World.cell?_of_block (w := Y9) (a := ⟨m18, 2, none⟩) hSW.2.1).trans q2; have e3 := (World.cell?_of_block (w := Y9) (a := ⟨m18, 3, none⟩) hSW.2.1).trans q3; clear hSW; go_simp); (try with_reducible rfl); (try exact ⟨rfl, rfl, rfl⟩))
              simp only [Act.put, List.setIfInBounds_toArray, List.set_cons_zero, List.set_cons_succ]
              refine wpAnyH_take (i := 3) (oi := ({ dst := some 170, op := Go.Op.load 35 (Go.Operand.tmp 19), type := 35, pos := "law.go:178", after := #[], guard := none } : Oper)) (v := .agg #[.int .u64 (gV x u k), .int .i64 0, .int .i64 0, .int .i64 0, .int .i64 0]) rfl (by kernel_rfl) (by kernel_rfl) (by kernel_rfl) (fun _ _ _ h => h) (Or.inl ⟨by rfl, ?hy3⟩) (by assumption) ?_
              case hy3 => ((intro W hSW; have hl2 : m19 < W.heap.size := lt_of_eqz hSW.2.2 (lt_of_at R19.out); have e0 := (World.cell?_of_block (w := Y9) (a := ⟨m19, 0, none⟩) hSW.2.2).trans v0c; have e1 := (World.cell?_of_block (w := Y9) (a := ⟨m19, 1, none⟩) hSW.2.2).trans v1c; have e2 := (World.cell?_of_block (w := Y9) (a := ⟨m19, 2, none⟩) hSW.2.2).trans v2c; have e3 := (World.cell?_of_block (w := Y9) (a := ⟨m19, 3, none⟩) hSW.2.2).trans v3c; have e4 := (World.cell?_of_block (w := Y9) (a := ⟨m19, 4, none⟩) hSW.2.2).trans v4c; clear hSW; go_simp); (try with_reducible rfl); (try exact ⟨rfl, rfl, rfl⟩))
              simp only [Act.put, List.setIfInBounds_toArray, List.set_cons_zero, List.set_cons_succ]
              refine wpAnyH_ready (rs := [2]) (by kernel_rfl) (by simp) ?_
              refine (AllReadyH.cons (i := 2) (o := ({ dst := some 169, op := Go.Op.call { callee := Go.Callee.value (Go.Operand.func 11), args := #[Go.Operand.tmp 168, Go.Operand.const (Go.Value.int Go.IntKind.i64 1)], argTypes := #[31, 3] }, type := 31, pos := "law.go:178", after := #[{ on := 1, ground := Go.Ground.data }], guard := none } : Oper)) rfl (fun K hK => ?_) AllReadyH.nil)
              rw [if_pos (by rfl)]
              go_simp
              refine (move_any ⟨(u : Int) + 1, 0, 0, su + 8⟩ 1 _ HPO.out).mono ?_
              rintro e V1 ⟨he, hb⟩
              subst he
              replace HP := Lib.hid (HP.out.below hb)
              go_simp
              refine hK.out _ _ (⟨(hb.block _ (lt_of_eqz hHeld.1 hlg)).trans hHeld.1, (hb.block _ (lt_of_eqz hHeld.2.1 (lt_of_at R18.out))).trans hHeld.2.1, (hb.block _ (lt_of_eqz hHeld.2.2 (lt_of_at R19.out))).trans hHeld.2.2⟩) (fun hHeld => ?_)
              clear hK K
              try simp only [Act.put, List.setIfInBounds_toArray, List.set_cons_zero, List.set_cons_succ]
              refine wpAnyH_ready (rs := [4]) (by kernel_rfl) (by simp) ?_
              refine (AllReadyH.cons (i := 4) (o := ({ dst := some 171, op := Go.Op.call { callee := Go.Callee.value (Go.Operand.func 20), args := #[Go.Operand.tmp 167, Go.Operand.tmp 169, Go.Operand.const (Go.Value.int Go.IntKind.i64 1), Go.Operand.tmp 170], argTypes := #[23, 31, 3, 35] }, type := 43, pos := "law.go:178", after := #[{ on := 0, ground := Go.Ground.data }, { on := 2, ground := Go.Ground.data }, { on := 3, ground := Go.Ground.data }, { on := 2, ground := Go.Ground.chain }], guard := none } : Oper)) rfl (fun K hK => ?_) AllReadyH.nil)
              rw [if_pos (by rfl)]
              go_simp
              have hes := HES.out _ _ _ (gV x u k) HP.out (by omega)
              simp only [vlA] at hes
              refine hes.mono ?_
              rintro e V2 ⟨he, hp, hs⟩
              subst he
              replace HP := Lib.hid hp
              clear hp hes
              go_simp
              refine hK.out _ _ (⟨(hs gl (by simp) (lt_of_eqz hHeld.1 hlg)).trans hHeld.1, (hs m18 (by simp) (lt_of_eqz hHeld.2.1 (lt_of_at R18.out))).trans hHeld.2.1, (hs m19 (by simp) (lt_of_eqz hHeld.2.2 (lt_of_at R19.out))).trans hHeld.2.2⟩) (fun hHeld => ?_)
              clear hK K
              try simp only [Act.put, List.setIfInBounds_toArray, List.set_cons_zero, List.set_cons_succ]
              refine wpAnyH_take (i := 5) (oi := ({ dst := some 21, op := Go.Op.assign (Go.Operand.tmp 171), type := 43, pos := "law.go:178", after := #[{ on := 4, ground := Go.Ground.data }, { on := 4, ground := Go.Ground.chain }, { on := 0, ground := Go.Ground.phase }, { on := 1, ground := Go.Ground.phase }, { on := 2, ground := Go.Ground.phase }, { on := 3, ground := Go.Ground.phase }, { on := 4, ground := Go.Ground.phase }], guard := none } : Oper)) (v := .int .i64 (gC u k)) rfl (by kernel_rfl) (by kernel_rfl) (by kernel_rfl) (fun _ _ _ h => h) (Or.inl ⟨by rfl, ?hy4⟩) (by assumption) ?_
              case hy4 => ((intro W hSW; go_simp); (try with_reducible rfl); (try exact ⟨rfl, rfl, rfl⟩))
              simp only [Act.put, List.setIfInBounds_toArray, List.set_cons_zero, List.set_cons_succ]
              refine wpAnyH_done (by kernel_rfl) ?_ _
              have HH := Lib.hid (hHeld.1.trans E19.out)
              have w0 := (World.cell?_of_block (w := Y9) (a := ⟨m19, 0, none⟩) hHeld.2.2).trans v0c
              have hl9 := World.block_lt_of_cell? _ _ w0
              simp only at hl9
              clear hHeld hs v0c v1c v2c v3c v4c q0 q1 q2 q3 hlg
              generalize hVV : V2 = T9 at *
              clear hVV
              have ewx : IntKind.u64.wrap (x + (u : Int)) = wv x u := rfl
              by_cases huk : u = k
              · have hgk : gC u k = 20 := by rw [huk]; exact gC_y k
                have hku : kk = (u : Int) := by rw [HKK.out, huk]
                rw [hgk]
                clear hgk hkq hkt dk0 dk1 HKK
                subst hku
                go_wp2
                go_roundw
                case rel => exact ⟨u + 1, by omega, by go_num, Lib.hid ⟨HP.out.cut (by simp) (by omega), HH.out⟩⟩
                case measure => simp [intOf]; omega
              · rw [gC_n huk]
                have dk : ((u : Int) == kk) = false := by rw [HKK.out]; simp; omega
                have w1 : T9.cell? ⟨m19, 0, none⟩ = some (.int .u64 (IntKind.u64.wrap (x + (u : Int)))) := by rw [w0]; unfold gV; rw [if_neg huk]; rfl
                clear w0 ewx
                go_wp2
                go_roundw
                case rel => exact ⟨u + 1, by omega, by go_num, Lib.hid ⟨HP.out.cut (by simp) (by omega), HH.out⟩⟩
                case measure => simp [intOf]; omega
            · have du1 : decide ((u : Int) < (n : Int)) = false := decide_eq_false (by omega)
              go_wp2
              go_ret
              exact ⟨rfl, hg2.out.1.be⟩
end Go.Proofs.Ytcjffhfigelhhaa
