/- The tokens of a text, in package lex and in the document. Conditions: each theorem's. -/
import Derived.Test.YtahpgjibpcbjbaaLexI
import Derived.Deep.AppendLies
import Derived.Laws.OwnMore
import Derived.OwnWalk
namespace Go.Proofs.Ytahpgjibpcbjbaa
open Go.RowKit Go.Maps
set_option linter.unusedVariables false
set_option linter.unusedSimpArgs false
set_option maxRecDepth 100000
open Lx
namespace Lx
structure Tk where
  kd : Int
  tx : ByteArray
  at_ : Nat
def tkL (t : Tk) : List Value := [.int .i64 t.kd, .string t.tx, .int .i64 t.at_]
def tksL (l : List Tk) : List Value := l.flatMap tkL
theorem tksL_len (l : List Tk) : (tksL l).length = l.length * 3 := by
  induction l with
  | nil => rfl
  | cons t l ih => simp only [tksL, List.flatMap_cons, List.length_append, List.length_cons] at ih ⊢; rw [ih]; simp [tkL]; omega
theorem tksL_snoc (l : List Tk) (t : Tk) : tksL (l ++ [t]) = tksL l ++ tkL t := by simp [tksL]
structure Rs where
  tk : List Tk
  pl : Int
  er : Int
/-- The tokens from a place on, behind those that were found; or the place of what is wrong, and the error. -/
def lx (s : ByteArray) : Nat → Nat → List Tk → Rs
  | 0, _, _ => ⟨[], 0, 0⟩
  | f + 1, j, T =>
    if (gapV (s.data.toList.drop j)).2 = false then ⟨[], (j + (gapV (s.data.toList.drop j)).1 : Nat), 10⟩
    else if j + (gapV (s.data.toList.drop j)).1 = s.size then ⟨T ++ [⟨0, ⟨#[]⟩, j + (gapV (s.data.toList.drop j)).1⟩], 0, 0⟩
    else if (tokV (s.data.toList.drop (j + (gapV (s.data.toList.drop j)).1))).2 = 0 then ⟨[], (j + (gapV (s.data.toList.drop j)).1 : Nat), 10⟩
    else if 2500 ≤ T.length then ⟨[], (j + (gapV (s.data.toList.drop j)).1 : Nat), 3⟩
    else lx s f (j + (gapV (s.data.toList.drop j)).1 + (tokV (s.data.toList.drop (j + (gapV (s.data.toList.drop j)).1))).2) (T ++ [⟨(tokV (s.data.toList.drop (j + (gapV (s.data.toList.drop j)).1))).1, s.extract (j + (gapV (s.data.toList.drop j)).1) (j + (gapV (s.data.toList.drop j)).1 + (tokV (s.data.toList.drop (j + (gapV (s.data.toList.drop j)).1))).2), j + (gapV (s.data.toList.drop j)).1⟩])
def lexV (s : ByteArray) : Rs := if 8192 < s.size then ⟨[], 8192, 3⟩ else lx s (s.size + 1) 0 []
theorem sgW_le {l : List UInt8} (h : 0 < l.length) : sgW l ≤ l.length := by
  rw [sgW_eq]
  split
  · rename_i hm
    have := two_not0 hm
    cases l with
    | nil => simp at h
    | cons x l =>
      cases l with
      | nil => exact absurd rfl this
      | cons y l => simp
  · split
    · omega
    · omega
theorem tokV_le {l : List UInt8} (h : 0 < l.length) : (tokV l).2 ≤ l.length := by
  unfold tokV
  split
  · exact nbV_le l
  · split
    · unfold nwV; split
      · exact Nat.zero_le _
      · exact tw_le _ _
    · exact sgW_le h
end Lx
theorem szA (w : World) (o : Obj) : (w.alloc o).heap.size = w.heap.size + 1 := by simp
theorem infoTk : (Try.prog.info? 31).map (fun i => (i.zero, i.size, i.bytes)) = some (some (.agg #[.int .i64 0, .string ⟨#[]⟩, .int .i64 0]), 3, 32) := by kernel_rfl
theorem info_parts {e : TypeId} {z : Value} {s b : Nat} (h : (Try.prog.info? e).map (fun i => (i.zero, i.size, i.bytes)) = some (some z, s, b)) : ∃ i, Try.prog.info? e = some i ∧ i.zero = some z ∧ i.size = s ∧ i.bytes = b := by
  cases hi : Try.prog.info? e with
  | none => rw [hi] at h; cases h
  | some i =>
    rw [hi] at h
    simp at h
    exact ⟨i, rfl, h.1, h.2.1, h.2.2⟩
theorem own_base {w : World} {base size n g : Nat} {e : TypeId} {v : Value} {xs : List Value} (h : w.ownsRow base e size v n xs) (hg : g < base) : v.ownBlock ≠ some g := by
  rcases h.2 with ⟨rfl, _⟩ | ⟨g', cap, cur, rfl, hb, hh, _⟩
  · simp [Value.ownBlock]
  · intro he
    have : g' = g := by simpa [Value.ownBlock] using he
    omega
theorem own_slice {w : World} {base size n : Nat} {e : TypeId} {v : Value} {xs : List Value} (h : w.ownsRow base e size v n xs) : ∃ A c, v = .slice A n c := by
  rcases h.2 with ⟨rfl, rfl⟩ | ⟨g', cap, cur, rfl, _⟩
  · exact ⟨_, _, rfl⟩
  · exact ⟨_, _, rfl⟩
theorem own_keep {w w' : World} {base size n : Nat} {e : TypeId} {v : Value} {xs : List Value} (h : w.ownsRow base e size v n xs) (hb : Below w.heap.size w w') : w'.ownsRow base e size v n xs := by
  obtain ⟨hl, h⟩ := h
  refine ⟨hl, ?_⟩
  rcases h with h | ⟨g, cap, cur, h1, h2, h3, h4⟩
  · exact .inl h
  · exact .inr ⟨g, cap, cur, h1, h2, (hb.block g (Array.getElem?_eq_some_iff.1 h3).1).trans h3, h4⟩
theorem own_lower {w : World} {base b2 size n : Nat} {e : TypeId} {v : Value} {xs : List Value} (h : w.ownsRow base e size v n xs) (hb : b2 ≤ base) : w.ownsRow b2 e size v n xs := by
  obtain ⟨hl, h⟩ := h
  refine ⟨hl, ?_⟩
  rcases h with h | ⟨g, cap, cur, h1, h2, h3, h4⟩
  · exact .inl h
  · exact .inr ⟨g, cap, cur, h1, Nat.le_trans hb h2, h3, h4⟩
theorem own_below {w w' : World} {B base size n : Nat} {e : TypeId} {v : Value} {xs : List Value} (hv : w.ownsRow base e size v n xs) (hBb : B ≤ base) (hgr : w.grownBy w' v.ownBlock) (hsz : base ≤ w.heap.size) {w0 : World} (h : Below B w0 w) : Below B w0 w' :=
  h.grown hgr (by omega) (fun k hk => by
    rcases Nat.lt_or_ge k base with hlt | hge
    · exact absurd hk (own_base hv hlt)
    · omega)
/-- Tokens in memory. -/
def TksAt (w : World) (base : Nat) (v : Value) (T : List Tk) : Prop := w.ownsRow base 31 3 v T.length (tksL T)
theorem tks_nil (w : World) (base : Nat) : TksAt w base (.slice none 0 0) [] := ⟨rfl, .inl ⟨rfl, rfl⟩⟩
set_option maxHeartbeats 8000000 in
theorem rlex_any (s : ByteArray) (w : World) (hs : s.size ≤ 1048576) :
    Calls Try.prog 12 #[.string s] w fun e w' => ∃ v, e = .returned (.tuple #[v, .int .i64 (lexV s).pl, .int .i64 (lexV s).er]) ∧ TksAt w' w.heap.size v (lexV s).tk ∧ Below w.heap.size w w' := by
  have hsz := sz s
  obtain ⟨i0, hi0, hz0, hz1, hz2⟩ := info_parts infoTk
  by_cases hbig : 8192 < s.size
  · have hb' : (8192 : Int) < (s.size : Int) := by omega
    have hL : lexV s = ⟨[], 8192, 3⟩ := by unfold lexV; rw [if_pos hbig]
    have HL := Lib.hid hL
    clear hL
    go_enter Try.func12, Try.ntmps12
    go_wp2
    go_ret3
    exact ⟨_, by rw [HL.out]; rfl, by rw [HL.out]; exact tks_nil _ _, Below.refl _ _⟩
  have hb' : ¬ (8192 : Int) < (s.size : Int) := by omega
  have hL : lexV s = lx s (s.size + 1) 0 [] := by unfold lexV; rw [if_neg hbig]
  have HL := Lib.hid hL
  clear hL
  go_enter Try.func12, Try.ntmps12
  go_wp2
  go_loopw [5, 6] (fun v a wr => ∃ (f j : Nat) (T : List Tk), j ≤ s.size ∧ s.size - j < f ∧ T.length ≤ 2500 ∧ a = .int .i64 j ∧ Hid (lexV s = lx s f j T) ∧ TksAt wr w.heap.size v T ∧ Below w.heap.size w wr) (fun _ a _ => s.size - (intOf a).toNat)
  case atStart => exact ⟨s.size + 1, 0, [], by omega, by omega, by simp, rfl, HL, tks_nil _ _, Below.refl _ _⟩
  case round =>
    obtain ⟨f, j, T, hj, hf, hT, rfl, HG, hov, hbe⟩ := hrel
    clear HL
    obtain ⟨f, rfl⟩ : ∃ f', f = f' + 1 := ⟨f - 1, by omega⟩
    have hg := HG.out
    rw [lx] at hg
    have hgl := gap_le (s.data.toList.drop j)
    rw [List.length_drop, hsz] at hgl
    obtain ⟨p, hp⟩ : ∃ p, j + (gapV (s.data.toList.drop j)).1 = p := ⟨_, rfl⟩
    rw [hp] at hg
    have HG2 := Lib.hid hg
    have hcall := rgap_any s j wr hs hj
    have hpi : (j : Int) + ((gapV (s.data.toList.drop j)).1 : Int) = (p : Int) := by omega
    rw [hpi] at hcall
    clear hg HG hpi
    have hpj : j ≤ p ∧ p ≤ s.size := by omega
    generalize (gapV (s.data.toList.drop j)).1 = g1 at *
    generalize (gapV (s.data.toList.drop j)).2 = g2 at *
    obtain ⟨vA, vc, rfl⟩ := own_slice hov
    go_wp2_with fail
    refine hcall.mono ?_
    rintro e w' ⟨rfl, rfl⟩
    clear hcall hgl
    cases g2
    · have hg := HG2.out
      rw [if_pos rfl] at hg
      have HG3 := Lib.hid hg
      clear hg HG2
      go_wp2
      go_ret3
      exact ⟨_, by rw [HG3.out]; rfl, by rw [HG3.out]; exact tks_nil _ _, hbe⟩
    have hg := HG2.out
    rw [if_neg (by simp)] at hg
    have HG3 := Lib.hid hg
    clear hg HG2
    by_cases hend : p = s.size
    · subst hend
      have hg := HG3.out
      rw [if_pos rfl] at hg
      have HG4 := Lib.hid hg
      have hpe : ((s.size : Int) == (s.size : Int)) = true := by rw [beq_iff_eq]
      clear hg HG3
      go_wp2_with (at_builtin; refine wpList_append_lies (o := ⟨some 30, _, _, _, _, _⟩) _ rfl (.tmp 26) (.tmp 29) 23 rfl w.heap.size 31 i0 (.agg #[.int .i64 0, .string ⟨#[]⟩, .int .i64 0]) 3 32 Try.underlying23 hi0 hz0 hz1 hz2 rfl (by decide) _ _ _ rfl (hov.alloc _) ⟨wr.heap.size, 0, none⟩ 1 1 [.int .i64 0, .string ⟨#[]⟩, .int .i64 s.size] rfl rfl (World.news_of_block (cs := ([.int .i64 0, .string ⟨#[]⟩, .int .i64 s.size]).toArray) (t := 31) (fr := (0, 0)) (heap_alloc_new wr _)) (by simp [Value.oneCell']) (by omega) (by unfold maxLen; omega) (by omega) (by have := hbe.size; simp only [szA]; omega) (wr.heap.size + 1) (szA _ _) ?_; intro ga cap w5 hown5 hgrow5 hat5 hlt5)
      have hfin := own_below (hov.alloc _) (Nat.le_refl _) hgrow5 (by simp only [szA]; have := hbe.size; omega) (hbe.alloc hbe.size (.cells #[.int .i64 0, .string ⟨#[]⟩, .int .i64 s.size] 31))
      go_ret3
      refine ⟨_, by rw [HG4.out]; rfl, ?_, hfin⟩
      rw [HG4.out]
      unfold TksAt
      rw [tksL_snoc, List.length_append]
      exact hown5
    have hpl : p < s.size := by omega
    have hg := HG3.out
    rw [if_neg hend] at hg
    have HG4 := Lib.hid hg
    have hpe : ((p : Int) == (s.size : Int)) = false := beq_eq_false_iff_ne.mpr (by omega)
    have htl := tokV_le (l := s.data.toList.drop p) (by rw [List.length_drop, hsz]; omega)
    rw [List.length_drop, hsz] at htl
    have hcall := rtoken_any s p wr hs hpl
    unfold rtV at hcall
    clear hg HG3
    generalize (tokV (s.data.toList.drop p)).1 = kd at *
    generalize (tokV (s.data.toList.drop p)).2 = n at *
    go_wp2_with fail
    refine hcall.mono ?_
    rintro e w2 ⟨rfl, hb2⟩
    clear hcall
    have hbe2 := hbe.trans (hb2.mono hbe.size)
    have hov2 := own_keep hov hb2
    by_cases hn : n = 0
    · have hg := HG4.out
      rw [if_pos hn] at hg
      have HG5 := Lib.hid hg
      rw [if_pos hn]
      clear hg HG4
      go_wp2
      go_ret3
      exact ⟨_, by rw [HG5.out]; rfl, by rw [HG5.out]; exact tks_nil _ _, hbe2⟩
    have hg := HG4.out
    rw [if_neg hn] at hg
    rw [if_neg hn]
    have hq0 : (((p : Int) + (n : Int)) == 0) = false := beq_eq_false_iff_ne.mpr (by omega)
    by_cases hful : 2500 ≤ T.length
    · rw [if_pos hful] at hg
      have HG5 := Lib.hid hg
      have hf' : (2500 : Int) ≤ (T.length : Int) := by omega
      clear hg HG4
      go_wp2
      go_ret3
      exact ⟨_, by rw [HG5.out]; rfl, by rw [HG5.out]; exact tks_nil _ _, hbe2⟩
    rw [if_neg hful] at hg
    have HG5 := Lib.hid hg
    have hf' : ¬ (2500 : Int) ≤ (T.length : Int) := by omega
    have hq1 : (p : Int) + (n : Int) ≤ (s.size : Int) := by omega
    have hq2 : (p : Int) ≤ (p : Int) + (n : Int) := by omega
    clear hg HG4
    have hTl : T.length < 2500 := by omega
    go_wp2_with (at_builtin; refine wpList_append_lies (o := ⟨some 53, _, _, _, _, _⟩) _ rfl (.tmp 44) (.tmp 52) 23 rfl w.heap.size 31 i0 (.agg #[.int .i64 0, .string ⟨#[]⟩, .int .i64 0]) 3 32 Try.underlying23 hi0 hz0 hz1 hz2 rfl (by decide) _ _ _ rfl (hov2.alloc _) ⟨w2.heap.size, 0, none⟩ 1 1 [.int .i64 kd, .string (s.extract p (p + n)), .int .i64 p] rfl rfl (World.news_of_block (cs := ([.int .i64 kd, .string (s.extract p (p + n)), .int .i64 p]).toArray) (t := 31) (fr := (0, 0)) (heap_alloc_new w2 _)) (by simp [Value.oneCell']) (by omega) (by unfold maxLen; omega) (by omega) (by have := hbe2.size; simp only [szA]; omega) (w2.heap.size + 1) (szA _ _) ?_; intro ga cap w5 hown5 hgrow5 hat5 hlt5)
    have hfin := own_below (hov2.alloc _) (Nat.le_refl _) hgrow5 (by simp only [szA]; have := hbe2.size; omega) (hbe2.alloc hbe2.size (.cells #[.int .i64 kd, .string (s.extract p (p + n)), .int .i64 p] 31))
    go_roundw
    case rel =>
      refine ⟨f, p + n, T ++ [⟨kd, s.extract p (p + n), p⟩], by omega, by omega, by simp; omega, by go_num, HG5, ?_, hfin⟩
      unfold TksAt
      rw [tksL_snoc, List.length_append]
      exact hown5
    case measure => simp [intOf]; omega
end Go.Proofs.Ytahpgjibpcbjbaa
