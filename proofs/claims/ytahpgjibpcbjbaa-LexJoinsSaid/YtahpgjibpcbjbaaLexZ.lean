/- The tokens of two texts with a line's end between. Conditions: each theorem's. -/
import Derived.Test.YtahpgjibpcbjbaaLexY
import Derived.Deep.AppendSrc
namespace Go.Proofs.Ytahpgjibpcbjbaa
open Go.RowKit Go.Maps
set_option linter.unusedVariables false
set_option linter.unusedSimpArgs false
set_option maxRecDepth 100000
open Lx
namespace Lx
theorem tksL_app (S T : List Tk) : tksL (S ++ T) = tksL S ++ tksL T := by simp [tksL]
theorem tksL_take (T : List Tk) (k : Nat) : tksL (T.take k) = (tksL T).take (k * 3) := by
  induction T generalizing k with
  | nil => simp [tksL]
  | cons t T ih =>
    cases k with
    | zero => simp [tksL]
    | succ k =>
      have := ih k
      simp only [tksL, List.take_succ_cons, List.flatMap_cons] at this ⊢
      rw [this, show (k + 1) * 3 = (tkL t).length + k * 3 by simp [tkL]; omega, List.take_length_add_append]
end Lx
theorem tks_keep {w w' : World} {base : Nat} {v : Value} {T : List Tk} (h : TksAt w base v T) (hb : Below w.heap.size w w') : TksAt w' base v T := own_keep h hb
theorem one_tks {T : List Tk} (l : List Value) (h : ∀ u ∈ l, u ∈ tksL T) : ∀ u ∈ l, u.oneCell' = true := fun u hu => by
  have := h u hu
  simp only [tksL, List.mem_flatMap] at this
  obtain ⟨t, _, ht⟩ := this
  simp only [tkL, List.mem_cons, List.not_mem_nil, or_false] at ht
  rcases ht with rfl | rfl | rfl <;> rfl
theorem news_of {w : World} {base g n c : Nat} {T : List Tk} (h : TksAt w base (.slice (some ⟨g, 0, none⟩) n c) T) {m : Nat} (hm : m ≤ T.length * 3) : ∀ (j : Nat) (u : Value), ((tksL T).take m)[j]? = some u → w.cell? ((⟨g, 0, none⟩ : Addr).add j) = some u := fun j u hu => by
  have hadd : (⟨g, 0, none⟩ : Addr).add j = ⟨g, j, none⟩ := by unfold Addr.add; split <;> simp_all
  rcases h.2 with ⟨h1, _⟩ | ⟨g', cap, cur, he, _, hh, _, _, _, htk⟩
  · cases h1
  · injection he with e1 _ _
    injection e1 with e1
    injection e1 with e1
    subst e1
    rw [hadd, cell_of_row _ _ _ _ _ _ hh]
    rw [← htk, List.take_take, List.getElem?_take] at hu
    split at hu
    · simpa using hu
    · cases hu
theorem news_all {w : World} {base g n c : Nat} {T : List Tk} (h : TksAt w base (.slice (some ⟨g, 0, none⟩) n c) T) : ∀ (j : Nat) (u : Value), (tksL T)[j]? = some u → w.cell? ((⟨g, 0, none⟩ : Addr).add j) = some u := fun j u hu => by
  refine news_of h (Nat.le_refl _) j u ?_
  rw [List.take_of_length_le (by rw [tksL_len]; exact Nat.le_refl _)]
  exact hu
theorem wpList_append_zero {P : Program} {w : World} {ops : Array Oper} {rest : List Oper} {o : Oper} {a : Act} {Q : Exit → Act → World → Prop} (hgd : o.guard = none) (s x : Operand) (t : TypeId)
    (ho : o.op = .call { callee := .builtin .append, args := #[s, x], argTypes := #[t, t] })
    (e : TypeId) (i : TypeInfo) (ht : P.underlying t = some (.slice e)) (hi : P.info? e = some i)
    (b off n c : Nat) (hs : a.eval s = .slice (some ⟨b, off, none⟩) n c) (ad : Addr) (m c' : Nat) (hx : a.eval x = .slice (some ad) m c') (hm : m = 0) (hnc : n ≤ c)
    (h : wpList P ops Q rest (a.put o.dst (.slice (some ⟨b, off, none⟩) n c)) w) : wpList P ops Q (o :: rest) a w := by
  subst hm
  have hr := run_append_room_src (P := P) w t t o.type e i ht hi b off n c _ 0 [] (Src.ofSlice w ht ad 0 c' [] (by simp) (by simp) (by simp)) (by omega) (by simp) (by simp)
  refine wpList_plain hgd fun _ hK => ?_
  unfold Oper.wp execOp
  simp only [ho, resolve, invoke, builtin, Sem.run_bind, Sem.run_pure, Result.andThen_ok, List.map_toArray, List.map_cons, List.map_nil, hs, hx, hr, Nat.add_zero]
  exact hK _ _ h
set_option maxHeartbeats 32000000 in
theorem lexJoins_walk {w : World} (s t : ByteArray) (hM : MaxIs w) (hs0 : s.size ≤ maxLen) (ht0 : t.size ≤ maxLen) :
    Calls Try.prog 9 #[.string s, .string t] w fun e w' => e = .returned (.bool true) ∧ Below w.heap.size w w' := by
  unfold maxLen at hs0 ht0
  obtain ⟨i0, hi0, hz0, hz1, hz2⟩ := info_parts infoTk
  go_enter Try.func9, Try.ntmps9
  go_wp2_with fail
  refine (awake_any _ hM).mono ?_
  rintro e w1 ⟨rfl, hb1⟩
  by_cases hbig : 1000 < s.size
  · have hb' : (1000 : Int) < (s.size : Int) := by omega
    go_wp2_with fail
    refine (awake_any _ (hM.keep hb1)).mono ?_
    rintro e w2 ⟨rfl, h2⟩
    go_wp2
    go_ret
    exact ⟨rfl, hb1.trans (h2.mono hb1.size)⟩
  have hb' : ¬ (1000 : Int) < (s.size : Int) := by omega
  by_cases hbig2 : 1000 < t.size
  · have hb'' : (1000 : Int) < (t.size : Int) := by omega
    go_wp2_with fail
    refine (awake_any _ (hM.keep hb1)).mono ?_
    rintro e w2 ⟨rfl, h2⟩
    go_wp2
    go_ret
    exact ⟨rfl, hb1.trans (h2.mono hb1.size)⟩
  have hb'' : ¬ (1000 : Int) < (t.size : Int) := by omega
  have hl1 := lexV_len s
  have hl2 := lexV_len t
  have HO1 := Lib.hid (fun h => lexV_to (s := s) h)
  have HO2 := Lib.hid (fun h => lexV_to (s := t) h)
  have hlex1 := lex_any s w1 (by omega) (hM.keep hb1)
  generalize lexV s = R1 at *
  obtain ⟨T1, pl1, er1⟩ := R1
  dsimp only at *
  go_wp2_with fail
  refine hlex1.mono ?_
  rintro e w2 ⟨v1, rfl, hv1, h2⟩
  clear hlex1
  have hb2 := hb1.trans (h2.mono hb1.size)
  have hlex2 := lex_any t w2 (by omega) (hM.keep hb2)
  generalize lexV t = R2 at *
  obtain ⟨T2, pl2, er2⟩ := R2
  dsimp only at *
  go_wp2_with fail
  refine hlex2.mono ?_
  rintro e w3 ⟨v2, rfl, hv2, h3⟩
  clear hlex2
  have hb3 := hb2.trans (h3.mono hb2.size)
  have hv1 := tks_keep hv1 h3
  by_cases her1 : er1 = 0
  rotate_left
  · have hne : (er1 == 0) = false := beq_eq_false_iff_ne.mpr her1
    have hne2 : (er1 != 0) = true := by rw [bne, hne]; rfl
    go_wp2
    go_ret
    exact ⟨rfl, hb3⟩
  by_cases her2 : er2 = 0
  rotate_left
  · subst her1
    have hne : (er2 == 0) = false := beq_eq_false_iff_ne.mpr her2
    have hne2 : (er2 != 0) = true := by rw [bne, hne]; rfl
    go_wp2
    go_ret
    exact ⟨rfl, hb3⟩
  subst her1 her2
  obtain ⟨A, hA, hmA⟩ := HO1.out rfl
  obtain ⟨B, hB, hmB⟩ := HO2.out rfl
  obtain ⟨hTA, -⟩ := map_pr hmA
  obtain ⟨hTB, -⟩ := map_pr hmB
  have hA2 := (lexes_len hA).2
  have hB2 := (lexes_len hB).2
  rw [sz] at hA2 hB2
  have hxl : (s ++ ⟨#[10]⟩ ++ t).data.toList = s.data.toList ++ 10 :: t.data.toList := by rw [app_list, app_list]; simp
  have hxs : (s ++ ⟨#[10]⟩ ++ t).size ≤ 8192 := by rw [← sz, hxl]; simp only [List.length_append, List.length_cons, sz]; omega
  obtain ⟨o1, o2⟩ := lexV_of (s := s ++ ⟨#[10]⟩ ++ t) (A := A ++ B) hxs (by rw [hxl]; exact lexes_join hA hB) (by rw [List.length_append]; omega)
  have hlex3 := lex_any (s ++ ⟨#[10]⟩ ++ t) w3 (by omega) (hM.keep hb3)
  generalize lexV (s ++ ⟨#[10]⟩ ++ t) = R3 at *
  obtain ⟨T3, pl3, er3⟩ := R3
  dsimp only at *
  subst o1
  have hTC : T3.length = A.length + B.length + 1 := by have := congrArg List.length o2; simp only [List.length_map, List.length_append, List.length_singleton] at this; omega
  have hpr : (T1.take A.length ++ T2).map pr = T3.map pr := by
    rw [List.map_append, List.map_take, hmA, hmB, o2, List.take_left]
    simp
  have HS := Lib.hid (fun j => same_pr hpr j)
  have HTA := Lib.hid hTA
  have HTB := Lib.hid hTB
  have HTC := Lib.hid hTC
  clear hpr o2 hmA hmB hA hB HO1 HO2 hxl hxs
  obtain ⟨g1, c1, rfl, hg11, hg12, -⟩ := tks_at hv1 (by omega)
  obtain ⟨g2, c2, rfl, hg21, hg22, -⟩ := tks_at hv2 (by omega)
  have hcap1 := tks_cap hv1 (by omega)
  rw [hTA] at hv1 hcap1 ⊢
  rw [hTB] at hv2 ⊢
  go_wp2_with fail
  refine hlex3.mono ?_
  rintro e w4 ⟨v3, rfl, hv3, h4⟩
  clear hlex3
  have hb4 := hb3.trans (h4.mono hb3.size)
  have hv1 := tks_keep hv1 h4
  have hv2 := tks_keep hv2 h4
  obtain ⟨g3, c3, rfl, hg31', hg32', -⟩ := tks_at hv3 (by omega)
  rw [hTC] at hv3 ⊢
  have hnews1 := news_of hv1 (m := A.length * 3) (by omega)
  have hBa : Below w4.heap.size w4 (w4.alloc (.cells #[] 31)) := (Below.refl _ _).alloc (Nat.le_refl _) _
  have hown0 : (w4.alloc (.cells #[] 31)).ownsRow w4.heap.size 31 3 (.slice (some ⟨w4.heap.size, 0, none⟩) 0 0) 0 [] := ⟨rfl, .inr ⟨w4.heap.size, 0, #[], rfl, Nat.le_refl _, heap_alloc_new w4 _, by simp, by unfold maxLen; omega, rfl, rfl⟩⟩
  have hv1a := tks_keep hv1 hBa
  have hv2a := tks_keep hv2 hBa
  have hnews1a : ∀ (j : Nat) (u : Value), ((tksL T1).take (A.length * 3))[j]? = some u → (w4.alloc (.cells #[] 31)).cell? ((⟨g1, 0, none⟩ : Addr).add j) = some u := news_of hv1a (by omega)
  have hnews2a : ∀ (j : Nat) (u : Value), (tksL T2)[j]? = some u → (w4.alloc (.cells #[] 31)).cell? ((⟨g2, 0, none⟩ : Addr).add j) = some u := news_all hv2a
  have hnl1 : ((tksL T1).take (A.length * 3)).length = A.length * 3 := by rw [List.length_take, tksL_len]; omega
  have hnl2 : (tksL T2).length = (B.length + 1) * 3 := by rw [tksL_len, hTB]
  clear hTA hTB hTC
  by_cases hA0 : 0 < A.length
  · go_wp2_with (first | (at_builtin; refine wpList_append_lies (o := ⟨some 75, _, _, _, _, _⟩) _ rfl (.tmp 69) (.tmp 74) 23 rfl w4.heap.size 31 i0 (.agg #[.int .i64 0, .string ⟨#[]⟩, .int .i64 0]) 3 32 Try.underlying23 hi0 hz0 hz1 hz2 rfl (by decide) _ _ _ rfl hown0 ⟨g1, 0, none⟩ A.length c1 ((tksL T1).take (A.length * 3)) rfl hnl1 hnews1a (by exact one_tks _ (fun u hu => List.mem_of_mem_take hu)) (by omega) (by unfold maxLen; omega) (by omega) (by rw [szA]; omega) _ rfl ?_; intro ga cap w5 hown5 hgrowX hatX hltX; have hB5 := own_below hown0 (Nat.le_refl _) hgrowX (by rw [szA]; omega) hBa; have hv25 := tks_keep hv2 hB5; have hnews2 := news_all hv25; have hz5 := hB5.size; simp only [Nat.zero_add, List.nil_append] at hown5) | (at_builtin; refine wpList_append_lies (o := ⟨some 77, _, _, _, _, _⟩) _ rfl (.tmp 75) (.tmp 76) 23 rfl w4.heap.size 31 i0 (.agg #[.int .i64 0, .string ⟨#[]⟩, .int .i64 0]) 3 32 Try.underlying23 hi0 hz0 hz1 hz2 rfl (by decide) _ _ _ rfl hown5 ⟨g2, 0, none⟩ (B.length + 1) c2 (tksL T2) rfl hnl2 hnews2 (by exact one_tks _ (fun u hu => hu)) (by omega) (by unfold maxLen; omega) (by omega) (by omega) _ rfl ?_; intro gb cap w6 hown6 hgrowX hatX hltX; have hB6 := own_below hown5 (Nat.le_refl _) hgrowX (by omega) hB5))
    have hTL : ((T1.take A.length) ++ T2).length = A.length + (B.length + 1) := by rw [List.length_append, List.length_take, HTA.out, HTB.out]; omega
    have hR : TksAt w6 w4.heap.size (.slice (some ⟨gb, 0, none⟩) (A.length + (B.length + 1)) cap) ((T1.take A.length) ++ T2) := by
      unfold TksAt
      rw [hTL, tksL_app, tksL_take]
      exact hown6
    obtain ⟨gR, cR, heq, hgR1, hgR2, hcR⟩ := tks_at hR (by rw [hTL]; omega)
    rw [hTL] at heq
    injection heq with heq1 _ heq2
    injection heq1 with heq1
    injection heq1 with heq1
    subst heq1 heq2
    have hw6 := hb4.trans (hB6.mono hb4.size)
    have hv36 := tks_keep hv3 hB6
    obtain ⟨g3', c3', heq, hg31, hg32, hc3⟩ := tks_at hv36 (by rw [HTC.out]; omega)
    rw [HTC.out] at heq
    injection heq with heq1 _ heq2
    injection heq1 with heq1
    injection heq1 with heq1
    subst heq1 heq2
    have HCR := Lib.hid hcR
    have HC3 := Lib.hid hc3
    have HTL := Lib.hid hTL
    clear hcR hc3 hTL hR hv36 hv1 hv2 hv3 hown0 hown5 hown6
    go_loopw [79] (fun k wr => ∃ j : Nat, j ≤ A.length + B.length + 1 ∧ k = .int .i64 j ∧ Below w6.heap.size w6 wr) (fun k _ => A.length + B.length + 1 - (intOf k).toNat)
    case atStart => exact ⟨0, by omega, rfl, Below.refl _ _⟩
    case round =>
      obtain ⟨j, hj, rfl, hbe⟩ := hrel
      by_cases hlt : j < A.length + B.length + 1
      · obtain ⟨c0, c1', c2'⟩ := HCR.out j (by rw [HTL.out]; omega)
        obtain ⟨d0, d1, d2⟩ := HC3.out j (by rw [HTC.out]; omega)
        obtain ⟨s1, s2⟩ := HS.out j
        rw [← s1] at d0
        rw [← s2] at d1
        have e0 := (hbe.cell (p := ⟨gb, j * 3, none⟩) hgR2).trans c0
        have e1 := (hbe.cell (p := ⟨gb, j * 3 + 1, none⟩) hgR2).trans c1'
        have e2 := (hbe.cell (p := ⟨gb, j * 3 + 2, none⟩) hgR2).trans c2'
        have hbx : ∀ o : Obj, Below w6.heap.size w6 (wr.alloc o) := fun o => hbe.alloc hbe.size o
        have hwz := hbe.size
        have dj0 : (0 : Int) ≤ (j : Int) := by omega
        have dj1 : (j : Int) < (A.length : Int) + (B.length : Int) + 1 := by omega
        have dj2 : (j : Int) < (A.length : Int) + ((B.length : Int) + 1) := by omega
        have hgbr : gb < wr.heap.size := by omega
        have hg3r : g3 < wr.heap.size := by omega
        clear s1 s2 c0 c1' c2'
        generalize (((T1.take A.length) ++ T2).getD j tk0).kd = kd at *
        generalize (((T1.take A.length) ++ T2).getD j tk0).tx = tx at *
        generalize (((T1.take A.length) ++ T2).getD j tk0).at_ = tat at *
        go_wp2_with fail
        have hnew := heap_alloc_new wr (.cells #[.int .i64 kd, .string tx, .int .i64 tat] 31)
        have hbx2 := hbx (.cells #[.int .i64 kd, .string tx, .int .i64 tat] 31)
        have hxb : wr.heap.size < (wr.alloc (.cells #[.int .i64 kd, .string tx, .int .i64 tat] 31)).heap.size := by rw [szA]; omega
        clear hbx e0 e1 e2
        generalize wr.alloc (.cells #[.int .i64 kd, .string tx, .int .i64 tat] 31) = W at *
        generalize wr.heap.size = xb at *
        have z0 : ∀ m, (W.drewN m).cell? ⟨xb, 0, none⟩ = some (.int .i64 kd) := fun m => by rw [(below_drewN (Below.refl W.heap.size W) m).cell hxb, cell_of_row _ _ _ _ _ _ hnew]; rfl
        have z1 : ∀ m, (W.drewN m).cell? ⟨xb, 1, none⟩ = some (.string tx) := fun m => by rw [(below_drewN (Below.refl W.heap.size W) m).cell hxb, cell_of_row _ _ _ _ _ _ hnew]; rfl
        have y0 : ∀ m, (W.drewN m).cell? ⟨g3, j * 3, none⟩ = some (.int .i64 kd) := fun m => ((below_drewN hbx2 m).cell (p := ⟨g3, j * 3, none⟩) hg32).trans d0
        have y1 : ∀ m, (W.drewN m).cell? ⟨g3, j * 3 + 1, none⟩ = some (.string tx) := fun m => ((below_drewN hbx2 m).cell (p := ⟨g3, j * 3 + 1, none⟩) hg32).trans d1
        clear d0 d1 d2
        go_quiet (fail)
        go_wp2
        go_roundw
        case rel => exact ⟨j + 1, by omega, by go_num, below_drewN hbx2 _⟩
        case measure => simp [intOf]; omega
      · obtain rfl : j = A.length + B.length + 1 := by omega
        go_wp2
        go_ret
        exact ⟨rfl, hw6.trans (hbe.mono hw6.size)⟩

  · have hA1 : A.length = 0 := by omega
    have hnn : 0 + (B.length + 1) = A.length + (B.length + 1) := by omega
    have hnl : [] ++ tksL T2 = ((tksL T1).take (A.length * 3)) ++ tksL T2 := by rw [hA1]; simp
    have HA0 := Lib.hid hA1
    clear hA1
    go_wp2_with (first | (at_builtin; refine wpList_append_zero (o := ⟨some 75, _, _, _, _, _⟩) rfl (.tmp 69) (.tmp 74) 23 rfl 31 i0 Try.underlying23 hi0 w4.heap.size 0 0 0 rfl ⟨g1, 0, none⟩ A.length c1 rfl HA0.out (Nat.le_refl _) ?_) | (at_builtin; refine wpList_append_lies (o := ⟨some 77, _, _, _, _, _⟩) _ rfl (.tmp 75) (.tmp 76) 23 rfl w4.heap.size 31 i0 (.agg #[.int .i64 0, .string ⟨#[]⟩, .int .i64 0]) 3 32 Try.underlying23 hi0 hz0 hz1 hz2 rfl (by decide) _ _ _ rfl hown0 ⟨g2, 0, none⟩ (B.length + 1) c2 (tksL T2) rfl hnl2 hnews2a (by exact one_tks _ (fun u hu => hu)) (by omega) (by unfold maxLen; omega) (by omega) (by rw [szA]; omega) _ rfl ?_; intro gb cap w6 hown6 hgrowX hatX hltX; have hB6 := own_below hown0 (Nat.le_refl _) hgrowX (by rw [szA]; omega) hBa; rw [hnn] at hown6 ⊢; rw [hnl] at hown6))
    have hTL : ((T1.take A.length) ++ T2).length = A.length + (B.length + 1) := by rw [List.length_append, List.length_take, HTA.out, HTB.out]; omega
    have hR : TksAt w6 w4.heap.size (.slice (some ⟨gb, 0, none⟩) (A.length + (B.length + 1)) cap) ((T1.take A.length) ++ T2) := by
      unfold TksAt
      rw [hTL, tksL_app, tksL_take]
      exact hown6
    obtain ⟨gR, cR, heq, hgR1, hgR2, hcR⟩ := tks_at hR (by rw [hTL]; omega)
    rw [hTL] at heq
    injection heq with heq1 _ heq2
    injection heq1 with heq1
    injection heq1 with heq1
    subst heq1 heq2
    have hw6 := hb4.trans (hB6.mono hb4.size)
    have hv36 := tks_keep hv3 hB6
    obtain ⟨g3', c3', heq, hg31, hg32, hc3⟩ := tks_at hv36 (by rw [HTC.out]; omega)
    rw [HTC.out] at heq
    injection heq with heq1 _ heq2
    injection heq1 with heq1
    injection heq1 with heq1
    subst heq1 heq2
    have HCR := Lib.hid hcR
    have HC3 := Lib.hid hc3
    have HTL := Lib.hid hTL
    clear hcR hc3 hTL hR hv36 hv1 hv2 hv3 hown0 hown6
    go_loopw [79] (fun k wr => ∃ j : Nat, j ≤ A.length + B.length + 1 ∧ k = .int .i64 j ∧ Below w6.heap.size w6 wr) (fun k _ => A.length + B.length + 1 - (intOf k).toNat)
    case atStart => exact ⟨0, by omega, rfl, Below.refl _ _⟩
    case round =>
      obtain ⟨j, hj, rfl, hbe⟩ := hrel
      by_cases hlt : j < A.length + B.length + 1
      · obtain ⟨c0, c1', c2'⟩ := HCR.out j (by rw [HTL.out]; omega)
        obtain ⟨d0, d1, d2⟩ := HC3.out j (by rw [HTC.out]; omega)
        obtain ⟨s1, s2⟩ := HS.out j
        rw [← s1] at d0
        rw [← s2] at d1
        have e0 := (hbe.cell (p := ⟨gb, j * 3, none⟩) hgR2).trans c0
        have e1 := (hbe.cell (p := ⟨gb, j * 3 + 1, none⟩) hgR2).trans c1'
        have e2 := (hbe.cell (p := ⟨gb, j * 3 + 2, none⟩) hgR2).trans c2'
        have hbx : ∀ o : Obj, Below w6.heap.size w6 (wr.alloc o) := fun o => hbe.alloc hbe.size o
        have hwz := hbe.size
        have dj0 : (0 : Int) ≤ (j : Int) := by omega
        have dj1 : (j : Int) < (A.length : Int) + (B.length : Int) + 1 := by omega
        have dj2 : (j : Int) < (A.length : Int) + ((B.length : Int) + 1) := by omega
        have hgbr : gb < wr.heap.size := by omega
        have hg3r : g3 < wr.heap.size := by omega
        clear s1 s2 c0 c1' c2'
        generalize (((T1.take A.length) ++ T2).getD j tk0).kd = kd at *
        generalize (((T1.take A.length) ++ T2).getD j tk0).tx = tx at *
        generalize (((T1.take A.length) ++ T2).getD j tk0).at_ = tat at *
        go_wp2_with fail
        have hnew := heap_alloc_new wr (.cells #[.int .i64 kd, .string tx, .int .i64 tat] 31)
        have hbx2 := hbx (.cells #[.int .i64 kd, .string tx, .int .i64 tat] 31)
        have hxb : wr.heap.size < (wr.alloc (.cells #[.int .i64 kd, .string tx, .int .i64 tat] 31)).heap.size := by rw [szA]; omega
        clear hbx e0 e1 e2
        generalize wr.alloc (.cells #[.int .i64 kd, .string tx, .int .i64 tat] 31) = W at *
        generalize wr.heap.size = xb at *
        have z0 : ∀ m, (W.drewN m).cell? ⟨xb, 0, none⟩ = some (.int .i64 kd) := fun m => by rw [(below_drewN (Below.refl W.heap.size W) m).cell hxb, cell_of_row _ _ _ _ _ _ hnew]; rfl
        have z1 : ∀ m, (W.drewN m).cell? ⟨xb, 1, none⟩ = some (.string tx) := fun m => by rw [(below_drewN (Below.refl W.heap.size W) m).cell hxb, cell_of_row _ _ _ _ _ _ hnew]; rfl
        have y0 : ∀ m, (W.drewN m).cell? ⟨g3, j * 3, none⟩ = some (.int .i64 kd) := fun m => ((below_drewN hbx2 m).cell (p := ⟨g3, j * 3, none⟩) hg32).trans d0
        have y1 : ∀ m, (W.drewN m).cell? ⟨g3, j * 3 + 1, none⟩ = some (.string tx) := fun m => ((below_drewN hbx2 m).cell (p := ⟨g3, j * 3 + 1, none⟩) hg32).trans d1
        clear d0 d1 d2
        go_quiet (fail)
        go_wp2
        go_roundw
        case rel => exact ⟨j + 1, by omega, by go_num, below_drewN hbx2 _⟩
        case measure => simp [intOf]; omega
      · obtain rfl : j = A.length + B.length + 1 := by omega
        go_wp2
        go_ret
        exact ⟨rfl, hw6.trans (hbe.mono hw6.size)⟩

end Go.Proofs.Ytahpgjibpcbjbaa
