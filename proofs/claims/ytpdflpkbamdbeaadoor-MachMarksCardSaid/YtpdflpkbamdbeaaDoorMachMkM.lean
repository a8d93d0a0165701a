/- MachMarks answers true, of any arguments; at most new blocks in memory. Conditions: the tables as the program lays them, and that the arguments are of their Go types. -/
import Derived.Test.YtpdflpkbamdbeaaDoorMachM2
namespace Go.Proofs.YtpdflpkbamdbeaaDoor
open Go.RowKit Go.Maps
set_option linter.unusedVariables false
set_option linter.unusedSimpArgs false
set_option maxRecDepth 10000
open Pm Pc Pl
namespace Pm
theorem runV_add (a b : Nat) (m : Ma) (R : Ru) : runV (a + b) m R = runV b (runV a m R).1 (runV a m R).2 := by
  induction a generalizing m R with
  | zero => simp [runV]
  | succ a ih =>
    rw [show a + 1 + b = (a + b) + 1 by omega]
    by_cases h0 : m.st = 0
    · rw [runV_go h0, runV_go h0]
      cases hs : stepV m R with
      | none => simp only []; rw [runV_stop (.inl (by simp))]
      | some x => simp only []; exact ih _ _
    · rw [runV_stop (.inl h0), runV_stop (.inl h0), runV_stop (.inl h0)]
/-- An instruction's word in a memory is that instruction. -/
theorem dec_word {M : List Int} {a : Nat} {op n : Int} {rd r1 r2 : Nat} (hs : encS op rd r1 r2 n = 0) (hh : hasB a 4 M.length = true) (hg : getV M a 4 = encW op rd r1 r2 n) : DecAt M a op rd r1 r2 n := by
  obtain ⟨o1, o2, hs', hw⟩ := encS_zero hs
  obtain ⟨mm, d1, d2, d3, d4, -⟩ := enc_dec _ _ _ _ rd r1 r2 n (rowOf_ok op o1 o2) hs'
  rw [← hw] at mm d1 d2 d3 d4
  have hf := findOp_of op _ o1 o2 mm
  refine ⟨hh, by omega, ?_⟩
  rw [hg]
  unfold kOf
  rw [hf, d1, d2, d3, d4]
  exact ⟨rfl, Int.toNat_natCast _, Int.toNat_natCast _, Int.toNat_natCast _, rfl⟩
theorem getV_word {M : List Int} {a : Nat} {w : Int} (h0 : M.getD a 0 = w % 256) (h1 : M.getD (a + 1) 0 = w / 256 % 256) (h2 : M.getD (a + 2) 0 = w / 65536 % 256) (h3 : M.getD (a + 3) 0 = w / 16777216) : getV M a 4 = w := by
  simp only [getV, Nat.add_assoc]
  rw [h0, h1, show 1 + 1 = 2 from rfl, h2, show 1 + 2 = 3 from rfl, h3]
  omega
def markL (rd : Int) : Nat → List In5
  | 0 => []
  | n + 1 => markL rd n ++ [(28, 0, 0, 0, 1), (28, rd, 0, 0, 2)]
theorem markL_len (rd : Int) (n : Nat) : (markL rd n).length = 2 * n := by
  induction n with
  | zero => rfl
  | succ n ih => simp [markL, ih]; omega
def wA : Int := encW 28 0 0 0 1
def wB (rd : Int) : Int := encW 28 rd 0 0 2
theorem encA : encS 28 0 0 0 1 = 0 := by decide +kernel
theorem encB : ∀ rd : Nat, rd < 32 → encS 28 (rd : Int) 0 0 2 = 0 := by decide +kernel
def mkU (rd : Int) : List Int := wordB wA ++ wordB (wB rd)
theorem mark_bytes (rd : Nat) (hr : rd < 32) (n : Nat) : (bytesOf (markL rd n)).length = 8 * n ∧ ∀ j i, j < n → i < 8 → (bytesOf (markL rd n))[8 * j + i]? = (mkU rd)[i]? := by
  induction n with
  | zero => exact ⟨rfl, fun j i hj => by omega⟩
  | succ n ih =>
    have hA : bytesI (28, 0, 0, 0, 1) = wordB wA := by unfold bytesI; exact if_pos encA
    have hB : bytesI (28, (rd : Int), 0, 0, 2) = wordB (wB rd) := by unfold bytesI; exact if_pos (encB rd hr)
    have e : bytesOf (markL rd (n + 1)) = bytesOf (markL rd n) ++ mkU rd := by
      simp only [markL, bytesOf, List.flatMap_append, List.flatMap_cons, List.flatMap_nil, hA, hB, mkU, List.append_nil]
    have hu : (mkU rd).length = 8 := by simp [mkU, wordB]
    rw [e]
    refine ⟨by rw [List.length_append, ih.1, hu]; omega, fun j i hj hi => ?_⟩
    by_cases hjn : j < n
    · rw [List.getElem?_append_left (by rw [ih.1]; omega)]
      exact ih.2 j i hjn hi
    · obtain rfl : j = n := by omega
      rw [List.getElem?_append_right (by rw [ih.1]; omega), ih.1]
      congr 1
      omega
def mkM (rd n : Nat) : Ma := maNew (bytesOf (markL rd n)) (8 * n + 8)
theorem mk_len (rd n : Nat) (hr : rd < 32) : (mkM rd n).mem.length = 8 * n + 8 := by
  have := (mark_bytes rd hr n).1
  exact maNew_len (by omega)
theorem mk_at (rd n : Nat) (hr : rd < 32) (j i : Nat) (hj : j < n) (hi : i < 8) : (mkM rd n).mem.getD (8 * j + i) 0 = (mkU rd).getD i 0 := by
  have h := (mark_bytes rd hr n).2 j i hj hi
  have hl := (mark_bytes rd hr n).1
  simp only [mkM, maNew, List.getD_eq_getElem?_getD]
  rw [List.getElem?_append_left (by omega), h]
theorem mk_decA (rd n : Nat) (hr : rd < 32) (j : Nat) (hj : j < n) : DecAt (mkM rd n).mem (8 * j) 28 0 0 0 1 := by
  refine dec_word encA (by unfold hasB; rw [mk_len rd n hr]; simp; omega) (getV_word ?_ ?_ ?_ ?_)
  · exact mk_at rd n hr j 0 hj (by omega)
  · exact mk_at rd n hr j 1 hj (by omega)
  · exact mk_at rd n hr j 2 hj (by omega)
  · exact mk_at rd n hr j 3 hj (by omega)
theorem mk_decB (rd n : Nat) (hr : rd < 32) (j : Nat) (hj : j < n) : DecAt (mkM rd n).mem (8 * j + 4) 28 rd 0 0 2 := by
  refine dec_word (encB rd hr) (by unfold hasB; rw [mk_len rd n hr]; simp; omega) (getV_word ?_ ?_ ?_ ?_)
  · exact mk_at rd n hr j 4 hj (by omega)
  · exact mk_at rd n hr j 5 hj (by omega)
  · exact mk_at rd n hr j 6 hj (by omega)
  · exact mk_at rd n hr j 7 hj (by omega)
theorem mk_run (rd n : Nat) (hr : rd < 32) (hn : n < 1000000) (j : Nat) (hj : j ≤ n) : ∃ x : List Int, runV (2 * j) (mkM rd n) aw0 = (⟨(mkM rd n).mem, x, 8 * j, 0, 0⟩, ⟨[], 2 * j, j, [], false, []⟩) ∧ x.length = 32 ∧ x.getD 0 0 = 0 := by
  induction j with
  | zero => exact ⟨List.replicate 32 0, rfl, rfl, rfl⟩
  | succ j ih =>
    obtain ⟨x, h1, h2, h3⟩ := ih (by omega)
    rw [show 2 * (j + 1) = 2 * j + 1 + 1 by omega, runV_add (2 * j + 1) 1, runV_add (2 * j) 1, h1]
    have dA : doV ⟨(mkM rd n).mem, x, 8 * j, 0, 0⟩ ⟨[], 2 * j, j, [], false, []⟩ 28 0 0 0 1 = some (⟨(mkM rd n).mem, x, 8 * j + 4, 0, 0⟩, ⟨[], 2 * j, j + 1, [], false, []⟩) := by
      unfold doV
      rw [if_neg (by omega), if_pos (by omega), if_pos (by decide)]
      simp only [Ma.set, Ma.nx]
      congr 2
      simp
      omega
    have s1 := (stepV_dec (m := ⟨(mkM rd n).mem, x, 8 * j, 0, 0⟩) (R := ⟨[], 2 * j, j, [], false, []⟩) (a := 8 * j) (by simp) (mk_decA rd n hr j (by omega))).trans dA
    rw [runV_one rfl s1]
    refine ⟨if 0 < rd then x.set rd (opV 1 (x.getD 0 0) 2) else x, ?_, ?_, ?_⟩
    · have dB : doV ⟨(mkM rd n).mem, x, 8 * j + 4, 0, 0⟩ ⟨[], 2 * j + 1, j + 1, [], false, []⟩ 28 rd 0 0 2 = some (⟨(mkM rd n).mem, if 0 < rd then x.set rd (opV 1 (x.getD 0 0) 2) else x, 8 * (j + 1), 0, 0⟩, ⟨[], 2 * j + 1, j + 1, [], false, []⟩) := by
        unfold doV
        rw [if_neg (by omega), if_pos (by omega), if_neg (by simp [markB])]
        unfold Ma.set Ma.nx Ma.reg
        by_cases h0 : 0 < rd
        · rw [if_pos h0, if_pos h0]; simp [opTab]; omega
        · rw [if_neg h0, if_neg h0]; simp; omega
      have s2 := (stepV_dec (m := ⟨(mkM rd n).mem, x, 8 * j + 4, 0, 0⟩) (R := ⟨[], 2 * j + 1, j + 1, [], false, []⟩) (a := 8 * j + 4) (by simp) (mk_decB rd n hr j (by omega))).trans dB
      rw [runV_one rfl s2]
      simp
    · split <;> simp [h2]
    · split
      · simp only [List.getD_eq_getElem?_getD] at h3 ⊢
        rw [List.getElem?_set_ne (by omega)]; exact h3
      · exact h3
end Pm
theorem infoIns : (Tryd.prog.info? 23).map (fun i => (i.zero, i.size, i.bytes)) = some (some (.agg #[.int .i64 0, .int .i64 0, .int .i64 0, .int .i64 0, .int .i64 0]), 5, 40) := by kernel_rfl
theorem insAt_own {w : World} {base : Nat} {v : Value} {l : List In5} (h : w.ownsRow base 23 5 v l.length (l.flatMap in5)) : ∃ A c, v = .slice A l.length c ∧ InsAt w A l := by
  rcases h.2 with ⟨rfl, hn⟩ | ⟨g, cap, cur, rfl, hg, hh, hnc, _, hsz, htk⟩
  · exact ⟨none, 0, by rw [hn], fun h0 => by omega⟩
  · refine ⟨_, cap, rfl, fun h0 => ⟨g, rfl, lt_of_at hh, fun k hk j u hu => ?_⟩⟩
    have h1 := flat5 l k hk j u hu
    rw [cell_of_row w g _ _ _ _ hh]
    rw [← htk, List.getElem?_take] at h1
    split at h1
    · simpa using h1
    · cases h1
theorem flat_snoc (rd : Int) (j : Nat) : (markL rd (j + 1)).flatMap in5 = (markL rd j).flatMap in5 ++ [.int .i64 28, .int .i64 0, .int .i64 0, .int .i64 0, .int .i64 1, .int .i64 28, .int .i64 rd, .int .i64 0, .int .i64 0, .int .i64 2] := by
  simp [markL, in5]
set_option maxRecDepth 100000 in
set_option maxHeartbeats 4000000 in
theorem machMarks_walk (n o : Nat) (w : World) (hn : n < 256) (ho : o < 256) (hF : FormsIn w) (hO : OpsIn w) :
    Calls Tryd.prog 10 #[.int .u8 n, .int .u8 o] w fun e w' => e = .returned (.bool true) ∧ Below w.heap.size w w' := by
  obtain ⟨i0, hi0, hz0, hz1, hz2⟩ := info_parts infoIns
  have h2 := hO.two
  obtain ⟨rn, hrn⟩ : ∃ rn, o % 32 = rn := ⟨_, rfl⟩
  have hr32 : rn < 32 := by omega
  have hrc : ((o : Int) % 32) = (rn : Int) := by omega
  clear hrn
  obtain ⟨xf, hfin, hxl, hx0⟩ := mk_run rn n hr32 (by omega) n (Nat.le_refl _)
  have Hfin := Lib.hid hfin; have Hx0 := Lib.hid hx0; have HRC := Lib.hid hrc
  clear hfin hx0 hrc
  have hbl := (mark_bytes rn hr32 n).1
  have HBL := Lib.hid hbl; clear hbl
  have hml := markL_len (rn : Int) n
  have HML := Lib.hid hml; clear hml
  go_enter Tryd.func10, Tryd.ntmps10
  go_wp2_with fail
  refine (awake3 _ hF hO).mono ?_
  rintro e w1 ⟨rfl, b1⟩
  have hF1 := hF.keep b1 (Nat.le_refl _)
  have hO1 := hO.below b1
  clear hF hO
  go_wp2_with fail
  go_loopw [5, 6] (fun v k wr => ∃ j : Nat, j ≤ n ∧ k = .int .i64 j ∧ wr.ownsRow w1.heap.size 23 5 v (2 * j) ((markL (rn : Int) j).flatMap in5) ∧ Below w1.heap.size w1 wr) (fun _ k _ => n - (intOf k).toNat)
  case atStart => exact ⟨0, Nat.zero_le _, rfl, ⟨rfl, .inl ⟨rfl, rfl⟩⟩, Below.refl _ _⟩
  case round =>
    obtain ⟨j, hj, rfl, hown, hb⟩ := hrel
    by_cases hlt : j < n
    · have hfs := flat_snoc (rn : Int) j
      have HFS := Lib.hid hfs; clear hfs
      generalize (markL (rn : Int) j).flatMap in5 = xs at *
      generalize (rn : Int) = rd at *
      have hro := HRC.out
      go_wp2_with (at_builtin; refine wpList_append_lies (o := ⟨some 25, _, _, _, _, _⟩) _ rfl (.tmp 18) (.tmp 24) 62 rfl w1.heap.size 23 i0 _ 5 40 Tryd.underlying62 hi0 hz0 hz1 hz2 rfl (by decide) _ _ _ rfl (hown.alloc _) ⟨wr.heap.size, 0, none⟩ 2 2 [.int .i64 28, .int .i64 0, .int .i64 0, .int .i64 0, .int .i64 1, .int .i64 28, .int .i64 rd, .int .i64 0, .int .i64 0, .int .i64 2] rfl rfl (World.news_of_block (cs := #[.int .i64 28, .int .i64 0, .int .i64 0, .int .i64 0, .int .i64 1, .int .i64 28, .int .i64 rd, .int .i64 0, .int .i64 0, .int .i64 2]) (t := 23) (fr := (0, 0)) (heap_alloc_new wr _)) (by simp [Value.oneCell']) (by omega) (by unfold maxLen; omega) (by omega) (by have := hb.size; simp only [szA]; omega) (wr.heap.size + 1) (szA _ _) ?_; intro g cap w3 hown3 hgrow hat hlt3)
      have hb3 : Below w1.heap.size w1 w3 := (hb.alloc hb.size (.cells #[.int .i64 28, .int .i64 0, .int .i64 0, .int .i64 0, .int .i64 1, .int .i64 28, .int .i64 rd, .int .i64 0, .int .i64 0, .int .i64 2] 23)).grown hgrow (by simp only [szA]; have := hb.size; omega) (fun k hk => by
        rcases Nat.lt_or_ge k w1.heap.size with hlt' | hge
        · exact absurd hk (own_base hown hlt')
        · exact hge)
      go_roundw
      case rel => exact ⟨j + 1, by omega, by go_num, by rw [HFS.out, show 2 * (j + 1) = 2 * j + 2 by omega]; exact hown3, hb3⟩
      case measure => simp [intOf]; omega
    · obtain rfl : j = n := by omega
      have hB1 := b1.trans (hb.mono b1.size)
      have hF2 := hF1.keep hb (Nat.le_refl _)
      have hO2 := hO1.below hb
      rw [← HML.out] at hown
      obtain ⟨A, c, rfl, hins⟩ := insAt_own hown
      have hby := bytes_any (c := c) (by rw [HML.out]; omega) hins
      rw [HML.out] at hby ⊢
      have HBY := Lib.hid hby; clear hby hown hF1 hO1 hb b1 hins
      go_wp2_with (go_at_call 27; refine HBY.out.mono ?_; rintro e w2 ⟨v, rfl, hown2, b2⟩; obtain ⟨A2, c2, rfl, hsrc, -⟩ := src_own hown2 (bytesOf_range _))
      have hB2 := hB1.trans (b2.mono hB1.size)
      have hF3 := hF2.keep b2 (Nat.le_refl _)
      have hO3 := hO2.below b2
      clear b2 hown2 hF2 hO2
      rw [show (2 * (j : Int) * 4 + 8) = ((8 * j + 8 : Nat) : Int) by omega]
      refine (ks_new (w0 := w) (N := 8 * j + 8) (by rw [HBL.out]; omega) (by omega) hsrc hF3 hO3 hB2 h2).mono ?_
      rintro e w4 ⟨rfl, k4⟩
      clear hF3 hO3 hsrc hB2
      generalize w2.heap.size = q at *
      go_wp2_with fail
      have hkr := ks_run k4 (2 * (j : Int)) (by omega)
      rw [show (2 * (j : Int)).toNat = 2 * j by omega] at hkr
      have hf' : runV (2 * j) (maNew (bytesOf (markL (rn : Int) j)) (8 * j + 8)) aw0 = _ := Hfin.out
      rw [hf'] at hkr
      refine hkr.mono ?_
      rintro e w5 ⟨A5, n5, c5, rfl, k5⟩
      dsimp only at k5 ⊢
      clear hkr hf' k4
      have k6 := k5.grow ((Below.refl w5.heap.size w5).alloc (Nat.le_refl _) (.cells #[.int .i64 0, .int .u8 0, .int .i64 0, .slice A5 n5 c5, .int .i64 ((2 * j : Nat) : Int), .int .i64 ((j : Nat) : Int)] 52))
      have hr0 := ks_reg k6 (k := 0) (by omega)
      rw [show (⟨(mkM rn j).mem, xf, 8 * (j : Int), 0, 0⟩ : Ma).reg 0 = 0 from Hx0.out] at hr0
      have HR0 := Lib.hid hr0; clear hr0
      go_wp2_with (go_at_call 33; refine HR0.out.mono ?_; rintro e w8 ⟨rfl, rfl⟩)
      go_ret
      exact ⟨rfl, k5.below.alloc k5.below.size _⟩
theorem machMarks_int (n o : Int) (w : World) (hn : 0 ≤ n ∧ n < 256) (ho : 0 ≤ o ∧ o < 256) (hF : FormsIn w) (hO : OpsIn w) :
    Calls Tryd.prog 10 #[.int .u8 n, .int .u8 o] w fun e w' => e = .returned (.bool true) ∧ Below w.heap.size w w' := by
  obtain ⟨n, rfl⟩ := Int.eq_ofNat_of_zero_le hn.1
  obtain ⟨o, rfl⟩ := Int.eq_ofNat_of_zero_le ho.1
  exact machMarks_walk n o w (by omega) (by omega) hF hO
end Go.Proofs.YtpdflpkbamdbeaaDoor
