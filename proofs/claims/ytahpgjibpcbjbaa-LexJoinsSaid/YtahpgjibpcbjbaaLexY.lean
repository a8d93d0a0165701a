/- The tokens of a text with blanks between are the same. Conditions: each theorem's. -/
import Derived.Test.YtahpgjibpcbjbaaLexW
import Derived.Test.YtahpgjibpcbjbaaLexO
import Derived.ChangeSlices
namespace Go.Proofs.Ytahpgjibpcbjbaa
open Go.ChangeShapes Go.WideShapes Go.ChangeAt Go.RowKit Go.Maps
set_option linter.unusedVariables false
set_option linter.unusedSimpArgs false
set_option maxRecDepth 100000
open Lx
theorem cellsU8 : Try.prog.cellsOf 5 = 1 := by kernel_rfl
theorem wf_of {k : IntKind} {n : Int} (h : (Lit.int k n).wf = true) : k.min ≤ n ∧ n ≤ k.max := by simpa [Lit.wf] using h
theorem u8_of {n : Int} (h : (Lit.int .u8 n).wf = true) : 0 ≤ n ∧ n < 256 := by have := wf_of h; simp [IntKind.min, IntKind.max, IntKind.signed, IntKind.bits] at this; omega
/-- A slice of integers that came in. -/
def NumsIn (w : World) (k : IntKind) (A : Option Addr) (xs : List Int) : Prop := 0 < xs.length → ∃ g o, A = some ⟨g, o, none⟩ ∧ g < w.heap.size ∧ ∀ j, j < xs.length → w.cell? ⟨g, o + j, none⟩ = some (.int k (xs.getD j 0))
theorem nums_in {H : Type} {enc : TypeId × Value → H} {W : World} {base : Nat} {t e : TypeId} {k : IntKind} {v : Value} {d : DataW H} {ps : List MemPlace} (ht : Try.prog.underlying t = some (.slice e)) (he : Try.prog.underlying e = some (.int k)) (hc : Try.prog.cellsOf e = 1)
    (hv : Value.okWide Try.prog W .any base t v) (h : DataW.Trod enc Try.prog W 0 (fun _ => true) true t v d ps) : ∃ (A : Option Addr) (c : Nat) (xs : List Int), v = .slice A xs.length c ∧ xs.length ≤ c ∧ c ≤ maxLen ∧ (∀ n ∈ xs, (Lit.int k n).wf = true) ∧ NumsIn W k A xs := by
  obtain ⟨a0, len, cap, rfl⟩ := okWide_slice ht hv
  obtain ⟨fuel, hf⟩ := h
  rcases open_ints ht he hc hf with ⟨hcs, hx⟩ | ⟨a, len', cap', zs, hcs, _, hl, hm, hz, hx, hcell, hwz⟩
  · simp [Value.cells] at hcs
    obtain ⟨rfl, rfl, rfl⟩ := hcs
    exact ⟨none, 0, [], rfl, Nat.le_refl _, Nat.zero_le _, fun n hn => by simp at hn, fun h0 => by simp at h0⟩
  · simp [Value.cells] at hcs
    obtain ⟨rfl, rfl, rfl⟩ := hcs
    simp only [if_true] at hz
    have hlen : (zs.take len).length = len := by rw [List.length_take]; omega
    refine ⟨some a, cap, zs.take len, by rw [hlen], by rw [hlen]; exact hl, hm, fun n hn => hwz n (List.mem_of_mem_take hn), fun h0 => ?_⟩
    obtain ⟨g, o, rfl, hc2⟩ := ints_at hcell (by omega)
    refine ⟨g, o, rfl, World.block_lt_of_cell? W _ (hc2 0 (by omega)), fun j hj => ?_⟩
    rw [hc2 j (by omega)]
    have hj' : j < len := by omega
    simp [List.getD_eq_getElem?_getD, List.getElem?_take, hj']
theorem app_list (A D : ByteArray) : (A ++ D).data.toList = A.data.toList ++ D.data.toList := by simp
namespace Lx
def gX (k : Nat) : ByteArray := ⟨(gapW k).toArray⟩
def gW (gs : List Int) (i : Nat) : Nat := (gs.getD (i % gs.length) 0 % 4).toNat
theorem gW_lt (gs : List Int) (i : Nat) : gW gs i < 4 := by unfold gW; omega
theorem gW_nil (i : Nat) : gW [] i = 0 := by simp [gW]
theorem txG_step {W : Nat → Nat} {A : List (Int × List UInt8)} {j : Nat} {p : Int × List UInt8} (h : A.drop j = p :: A.drop (j + 1)) (X : List UInt8) (hX : X ++ txG W j (A.drop j) = txG W 0 A) : (X ++ p.2 ++ gapW (W j)) ++ txG W (j + 1) (A.drop (j + 1)) = txG W 0 A := by
  rw [← hX, h]
  simp only [txG]
  simp
theorem bytes_eq {a b : ByteArray} (h : a.data.toList = b.data.toList) : a = b := by
  obtain ⟨⟨a⟩⟩ := a
  obtain ⟨⟨b⟩⟩ := b
  dsimp only at h
  rw [h]
theorem map_pr {T : List Tk} {A : List (Int × List UInt8)} (h : T.map pr = A ++ [(0, [])]) : T.length = A.length + 1 ∧ ∀ j, j < A.length → A.drop j = pr (T.getD j tk0) :: A.drop (j + 1) := by
  have hl := congrArg List.length h
  simp at hl
  refine ⟨hl, fun j hj => ?_⟩
  rw [List.drop_eq_getElem_cons hj]
  congr 1
  have h1 : (T.map pr)[j]? = (A ++ [(0, [])])[j]? := by rw [h]
  rw [List.getElem?_append_left hj, List.getElem?_eq_getElem hj, List.getElem?_map, List.getElem?_eq_getElem (by omega)] at h1
  simp only [Option.map_some, Option.some.injEq] at h1
  rw [← h1, List.getD_eq_getElem?_getD, List.getElem?_eq_getElem (by omega)]
  rfl
theorem same_pr {T U : List Tk} (h : T.map pr = U.map pr) (j : Nat) : (T.getD j tk0).kd = (U.getD j tk0).kd ∧ (T.getD j tk0).tx = (U.getD j tk0).tx := by
  have h1 : (T.map pr)[j]? = (U.map pr)[j]? := by rw [h]
  rw [List.getElem?_map, List.getElem?_map] at h1
  rw [List.getD_eq_getElem?_getD, List.getD_eq_getElem?_getD]
  cases hT : T[j]? with
  | none =>
    rw [hT] at h1
    cases hU : U[j]? with
    | none => exact ⟨rfl, rfl⟩
    | some u => rw [hU] at h1; cases h1
  | some t =>
    rw [hT] at h1
    cases hU : U[j]? with
    | none => rw [hU] at h1; cases h1
    | some u =>
      rw [hU] at h1
      simp only [Option.map_some, Option.some.injEq, pr, Prod.mk.injEq] at h1
      exact ⟨h1.1, bytes_eq h1.2⟩
end Lx
theorem tks_cap {w : World} {base n c : Nat} {A : Option Addr} {T : List Tk} (h : TksAt w base (.slice A n c) T) (h0 : 0 < T.length) : T.length ≤ c := by
  rcases h.2 with ⟨_, hz⟩ | ⟨g, cap, cur, he, _, _, hn, _⟩
  · omega
  · injection he with _ _ e3
    omega
set_option maxHeartbeats 16000000 in
theorem lexBlanks_walk {w : World} (s : ByteArray) (gs : List Int) (GA : Option Addr) (gc : Nat) (hM : MaxIs w) (hs0 : s.size ≤ maxLen) (hin : NumsIn w .u8 GA gs) (hwf : ∀ b ∈ gs, 0 ≤ b ∧ b < 256) (hgc : gs.length ≤ gc) (hcm : gc ≤ maxLen) :
    Calls Try.prog 6 #[.string s, .slice GA gs.length gc] w fun e w' => e = .returned (.bool true) ∧ Below w.heap.size w w' := by
  unfold maxLen at hs0 hcm
  have HIN := Lib.hid hin
  have HWF := Lib.hid hwf
  clear hin hwf
  go_enter Try.func6, Try.ntmps6
  go_wp2_with fail
  refine (awake_any _ hM).mono ?_
  rintro e w1 ⟨rfl, hb1⟩
  by_cases hbig : 700 < s.size
  · have hb' : (700 : Int) < (s.size : Int) := by omega
    go_wp2_with fail
    refine (awake_any _ (hM.keep hb1)).mono ?_
    rintro e w2 ⟨rfl, h2⟩
    go_wp2
    go_ret
    exact ⟨rfl, hb1.trans (h2.mono hb1.size)⟩
  have hb' : ¬ (700 : Int) < (s.size : Int) := by omega
  have hs : s.size ≤ 1048576 := by omega
  have hlen := lexV_len s
  have hto := fun h => lexV_to (s := s) h
  have herr := lexV_err s
  have HO := Lib.hid (And.intro hto herr)
  clear hto herr
  have hlex := lex_any s w1 hs (hM.keep hb1)
  generalize lexV s = R at *
  obtain ⟨T, pl, er⟩ := R
  dsimp only at *
  go_wp2_with fail
  refine hlex.mono ?_
  rintro e w2 ⟨v, rfl, hv, h2⟩
  clear hlex
  have hb2 := hb1.trans (h2.mono hb1.size)
  by_cases her : er = 0
  · subst her
    obtain ⟨A, hA, hm⟩ := HO.out.1 rfl
    obtain ⟨hTA, hdr⟩ := map_pr hm
    obtain ⟨hl1, hl2⟩ := lexes_len hA
    rw [sz] at hl1 hl2
    have hfin := lexes_txG (gW gs) (gW_lt gs) A (lexes_toks hA) 0
    have hfl := txG_len (gW gs) (gW_lt gs) A 0
    obtain ⟨g, c, rfl, hg1, hg2, hc⟩ := tks_at hv (by omega)
    have hcap := tks_cap hv (by omega)
    rw [hTA] at hcap
    have HC := Lib.hid hc
    have HD := Lib.hid hdr
    have HF := Lib.hid (And.intro hfin (And.intro hfl hm))
    rw [hTA] at hlen ⊢
    clear hc hv hdr hfin hfl hA hm HO
    have HTA := Lib.hid hTA
    clear hTA
    go_wp2_with fail
    have HG := Lib.hid (fun (j : Nat) (hj : j < 4) => strs_row (w := w2) (l := (List.range 4).map gX) (t := 39) (j := j) (x := gX j) (cs := ((List.range 4).map gX |>.map Value.string).toArray) rfl (by simp [hj]))
    change Code.wp _ _ _ _ (w2.alloc (.cells ((List.range 4).map gX |>.map Value.string).toArray 39))
    have hbG : Below w2.heap.size w2 (w2.alloc (.cells ((List.range 4).map gX |>.map Value.string).toArray 39)) := (Below.refl _ _).alloc (Nat.le_refl _) _
    have hbz : w2.heap.size < (w2.alloc (.cells ((List.range 4).map gX |>.map Value.string).toArray 39)).heap.size := by rw [szA]; omega
    generalize w2.alloc (.cells ((List.range 4).map gX |>.map Value.string).toArray 39) = w3 at *
    have hb3 := hb2.trans (hbG.mono hb2.size)
    generalize hxb : w2.heap.size = xb at *
    have hMr := hM.keep hb3
    go_loopw [9, 39] (fun x k wr => ∃ (j : Nat) (X : ByteArray), j ≤ A.length ∧ k = .int .i64 j ∧ x = .string X ∧ Below w3.heap.size w3 wr ∧ Hid (X.data.toList ++ txG (gW gs) j (A.drop j) = txG (gW gs) 0 A)) (fun _ k _ => A.length - (intOf k).toNat)
    case atStart => exact ⟨0, ⟨#[]⟩, by omega, rfl, rfl, Below.refl _ _, Lib.hid (by simp)⟩
    case round =>
      obtain ⟨j, X, hj, rfl, rfl, hbe, HX⟩ := hrel
      by_cases hlt : j < A.length
      · obtain ⟨c0, c1, c2⟩ := HC.out j (by rw [HTA.out]; omega)
        have hgw3 : g < w3.heap.size := by omega
        have e0 := (hbe.cell (p := ⟨g, j * 3, none⟩) hgw3).trans ((hbG.cell (p := ⟨g, j * 3, none⟩) hg2).trans c0)
        have e1 := (hbe.cell (p := ⟨g, j * 3 + 1, none⟩) hgw3).trans ((hbG.cell (p := ⟨g, j * 3 + 1, none⟩) hg2).trans c1)
        have e2 := (hbe.cell (p := ⟨g, j * 3 + 2, none⟩) hgw3).trans ((hbG.cell (p := ⟨g, j * 3 + 2, none⟩) hg2).trans c2)
        have hst := txG_step (W := gW gs) (HD.out j hlt) X.data.toList HX.out
        have dj0 : (0 : Int) ≤ (j : Int) := by omega
        have dj1 : (j : Int) < (A.length : Int) := by omega
        clear c0 c1 c2
        generalize T.getD j tk0 = t at *
        obtain ⟨kd, tx, tat⟩ := t
        dsimp only [pr] at *
        have hbd := congrArg List.length hst
        simp only [List.length_append, sz] at hbd
        have hL := HF.out.2.1
        have hXb : X.size ≤ 8192 := by omega
        have htb : tx.size ≤ 8192 := by omega
        have HST := Lib.hid hst
        clear hst hbd hL
        by_cases hgs : 0 < gs.length
        · obtain ⟨g', o', rfl, hg', hcell⟩ := HIN.out hgs
          obtain ⟨q, hq, hql⟩ : ∃ q : Nat, (j : Int) % (gs.length : Int) = (q : Int) ∧ q < gs.length := ⟨j % gs.length, by omega, Nat.mod_lt _ hgs⟩
          have hqn : q = j % gs.length := by omega
          have hcq := hcell q hql
          have hwq := HWF.out (gs.getD q 0) (by rw [List.getD_eq_getElem?_getD, List.getElem?_eq_getElem hql]; exact List.getElem_mem _)
          obtain ⟨r, hr, hr4⟩ : ∃ r : Nat, gs.getD q 0 % 4 = (r : Int) ∧ r < 4 := ⟨(gs.getD q 0 % 4).toNat, by omega, by omega⟩
          have hWr : gW gs j = r := by unfold gW; rw [← hqn, hr]; rfl
          have hgx := HG.out r hr4
          have hgx' := (hbe.cell (p := ⟨xb, r, none⟩) hbz).trans hgx
          have hcq' := (hbe.cell (p := ⟨g', o' + q, none⟩) (by have := hb3.size; show g' < _; omega)).trans ((hb3.cell (p := ⟨g', o' + q, none⟩) hg').trans hcq)
          have hg'r : g' < wr.heap.size := by have := hb3.size; have := hbe.size; omega
          have hxbr : xb < wr.heap.size := by have := hbe.size; omega
          have hgl : (0 : Int) < (gs.length : Int) := by omega
          have q0 : (0 : Int) ≤ (q : Int) := by omega
          have q1 : (q : Int) < (gs.length : Int) := by omega
          have r0 : (0 : Int) ≤ (r : Int) := by omega
          have r1 : (r : Int) < 4 := by omega
          have hgxb : (gX r).size ≤ 7 := by have := gapW_len r hr4; show ((gapW r).toArray).size ≤ 7; rw [List.size_toArray]; exact this
          have HWR := Lib.hid hWr
          clear hcell hcq hgx hqn hWr
          generalize gs.getD q 0 = bq at *
          obtain ⟨hw0, hw1⟩ := hwq
          go_wp2
          go_roundw
          case rel =>
            refine ⟨j + 1, X ++ tx ++ gX r, by omega, by go_num, rfl, hbe.alloc hbe.size _, Lib.hid ?_⟩
            rw [app_list, app_list]
            have := HST.out
            rw [HWR.out] at this
            exact this
          case measure => simp [intOf]; omega
        · have hg0 : gs = [] := List.length_eq_zero_iff.1 (by omega)
          have hgl : ¬ (0 : Int) < (gs.length : Int) := by omega
          have hW0 : gW gs j = 0 := by rw [hg0]; exact gW_nil j
          have HWR := Lib.hid hW0
          clear hW0 hg0
          go_wp2
          go_roundw
          case rel =>
            refine ⟨j + 1, X ++ tx ++ ⟨#[32]⟩, by omega, by go_num, rfl, hbe.alloc hbe.size _, Lib.hid ?_⟩
            rw [app_list, app_list]
            have := HST.out
            rw [HWR.out] at this
            exact this
          case measure => simp [intOf]; omega
      · obtain rfl : j = A.length := by omega
        have hX := HX.out
        rw [List.drop_of_length_le (Nat.le_refl _)] at hX
        simp only [txG, List.append_nil] at hX
        have hXs : X.size ≤ 8192 := by rw [← sz, hX]; have := HF.out.2.1; omega
        obtain ⟨o1, o2⟩ := lexV_of (s := X) (A := A) hXs (by rw [hX]; exact HF.out.1) (by omega)
        have hlex := lex_any X wr (by omega) (hMr.keep hbe)
        generalize lexV X = R2 at *
        obtain ⟨T2, pl2, er2⟩ := R2
        dsimp only at *
        subst o1
        have hlen2 := congrArg List.length o2
        simp only [List.length_map, List.length_append, List.length_singleton] at hlen2
        have HS := Lib.hid (fun j => same_pr (HF.out.2.2.trans o2.symm) j)
        clear o2 hX
        go_wp2_with fail
        refine hlex.mono ?_
        rintro e w4 ⟨v2, rfl, hv2, h4⟩
        clear hlex
        have hb4 := hbe.trans (h4.mono hbe.size)
        obtain ⟨g2, c2, rfl, hg3, hg4, hc2⟩ := tks_at hv2 (by omega)
        have HC2 := Lib.hid hc2
        rw [hlen2]
        clear hv2 hc2
        have HL2 := Lib.hid hlen2
        clear hlen2
        go_wp2_with fail
        go_loopw [83] (fun k w5 => ∃ j : Nat, j ≤ A.length + 1 ∧ k = .int .i64 j ∧ Below w4.heap.size w4 w5) (fun k _ => A.length + 1 - (intOf k).toNat)
        case atStart => exact ⟨0, by omega, rfl, Below.refl _ _⟩
        case round =>
          obtain ⟨j, hj, rfl, hbe5⟩ := hrel
          by_cases hlt : j < A.length + 1
          · obtain ⟨c0, c1, c2⟩ := HC.out j (by rw [HTA.out]; omega)
            obtain ⟨d0, d1, d2⟩ := HC2.out j (by rw [HL2.out]; omega)
            obtain ⟨s1, s2⟩ := HS.out j
            have hgw3 : g < w3.heap.size := by omega
            have hgw4 : g < w4.heap.size := by have := hb4.size; omega
            have old : ∀ (o : Nat) (x : Value), w2.cell? ⟨g, o, none⟩ = some x → w4.cell? ⟨g, o, none⟩ = some x := fun o x hx => (hb4.cell (p := ⟨g, o, none⟩) hgw3).trans ((hbG.cell (p := ⟨g, o, none⟩) hg2).trans hx)
            have keep : ∀ (m o b : Nat) (x : Value), b < w4.heap.size → w4.cell? ⟨b, o, none⟩ = some x → (wr.drewN m).cell? ⟨b, o, none⟩ = some x := fun m o b x hb hx => ((below_drewN hbe5 m).cell (p := ⟨b, o, none⟩) hb).trans hx
            rw [← s1] at d0
            rw [← s2] at d1
            have e0 := fun m => keep m _ _ _ hgw4 (old _ _ c0)
            have e1 := fun m => keep m _ _ _ hgw4 (old _ _ c1)
            have f0 := fun m => keep m _ _ _ hg4 d0
            have f1 := fun m => keep m _ _ _ hg4 d1
            have dj0 : (0 : Int) ≤ (j : Int) := by omega
            have dj1 : (j : Int) < (A.length : Int) + 1 := by omega
            clear s1 s2 c0 c1 c2 d0 d1 d2 old keep
            generalize (T.getD j tk0).kd = kd at *
            generalize (T.getD j tk0).tx = tx at *
            go_wp2_with fail
            go_quiet (fail)
            go_wp2
            go_roundw
            case rel => exact ⟨j + 1, by omega, by go_num, below_drewN hbe5 _⟩
            case measure => simp [intOf]; omega
          · obtain rfl : j = A.length + 1 := by omega
            go_wp2
            go_ret
            exact ⟨rfl, hb3.trans ((hb4.trans (hbe5.mono hb4.size)).mono hb3.size)⟩
  · have hne : (er == 0) = false := beq_eq_false_iff_ne.mpr her
    have hne2 : (er != 0) = true := by rw [bne, hne]; rfl
    obtain ⟨A, c, rfl⟩ := own_slice hv
    go_wp2
    go_ret
    exact ⟨rfl, hb2⟩
end Go.Proofs.Ytahpgjibpcbjbaa
