/- The laws' fixed fact. Conditions: each theorem's. -/
import Derived.Test.YtfjobnljdkiihaaGreatDoorQtParTe
import Derived.Test.YtfjobnljdkiihaaGreatDoorQtLexP
import Derived.Test.YtfjobnljdkiihaaGreatDoorQtLexW
import Derived.Test.YtfjobnljdkiihaaGreatDoorQtParW
import Derived.Lib.Repeat
namespace Go.Proofs.YtfjobnljdkiihaaGreatDoor
open Go.RowKit Go.Maps
set_option linter.unusedVariables false
set_option linter.unusedSimpArgs false
set_option maxRecDepth 100000
open Lx Pa
theorem untF_le : ∀ f l (s : Pa.S), Ok s → Le s (untF f l s).2 := by
 intro f
 induction f with
 | zero => intro l s h; simp only [untF]; exact Le.refl h
 | succ f ih =>
  intro l s h
  simp only [untF]
  split
  ·exact Le.refl h
  split
  ·rename_i h2; exact (tl_lt h (is_ne h2 (by decide))).le
  ·have h1 := (named_lt h).le
   have h2 := h1.trans (want_lt h1.ok (x := ⟨#[59]⟩) (by decide)).le
   exact h2.trans (ih _ _ h2.ok)
theorem structV_lt {s : Pa.S} (h : Ok s) : Lt s (structV s).2 := by
 unfold structV
 have h1 := want_lt h (x := ⟨#[115, 116, 114, 117, 99, 116]⟩) (by decide)
 have h2 := h1.trans (one_lt h1.le.ok (k := 1) (by decide)).le
 have h3 := h2.trans (want_lt h2.le.ok (x := ⟨#[123]⟩) (by decide)).le
 have h4 := h3.trans (untF_le ((((s.want ⟨#[115, 116, 114, 117, 99, 116]⟩).one 1).want ⟨#[123]⟩).tk.length + 1) [] _ h3.le.ok)
 exact h4.trans (want_lt h4.le.ok (x := ⟨#[59]⟩) (by decide)).le
theorem funcV_le {v : PVa} {s : Pa.S} (h : Ok s) : Le s (funcV v s).2 := by
 unfold funcV
 have h1 := betP_le' h
 exact h1.trans ((runS_le _ (.block 0) _ ⟨h1.ok, by simp only [rankS]; unfold fuelOf; omega⟩).1)
theorem topV_lt {p : PPr} {s : Pa.S} (h : Ok s) : Lt s (topV p s).2 := by
 unfold topV
 split
 ·exact structV_lt h
 ·have h1 := named_lt h
  simp only
  split
  ·rename_i h2
   have ht := (tl_lt h1.le.ok (is_ne h2 (by decide))).le
   exact (h1.trans ht).trans (funcV_le (v := (namedV s).1) ht.ok)
  ·have h2 := h1.trans (length_le h1.le.ok)
   exact h2.trans (want_lt h2.le.ok (x := ⟨#[59]⟩) (by decide)).le
def cnt (p : PPr) : Nat := p.ss.length + p.vs.length + p.fs.length
theorem cnt_top (p : PPr) (s : Pa.S) : cnt (topV p s).1 = cnt p + 1 := by
 unfold topV cnt
 split
 ·simp; omega
 ·simp only
  split
  ·simp; omega
  ·simp; omega
theorem OwnN.list {α : Type} {E : Elem α} {e : TypeId} {w : World} {base : Nat} {N : Nat → Prop} {l : List α} {v : Value} (h : OwnN E e w base N l v) (hN : ∀ k, N k → base ≤ k) : LAt E w (fun k => base ≤ k) l v := by
 obtain ⟨rows, h1, ⟨hl, h2⟩, h3⟩ := h
 refine ⟨rows, h1, ?_, fun i x c hx hc => E.keep (h3 i x c hx hc) (fun g hg _ => ⟨hN g hg, rfl⟩) (Nat.le_refl _)⟩
 rcases h2 with ⟨h2, h4⟩ | ⟨g, cap, cur, rfl, hb, hh, hc1, hc2, hcs, hct⟩
 ·rw [h2]; exact ⟨none, 0, by rw [h4], by omega, by unfold maxLen; omega, fun h => by omega⟩
 ·refine ⟨_, cap, rfl, hc1, hc2, fun _ => ⟨g, 0, rfl, hb, lt_of_at hh, fun j u hu => ?_⟩⟩
  rw [cell_of_row _ _ _ _ _ _ hh, Nat.zero_add, ← Array.getElem?_toList]
  rw [← hct] at hu
  rw [List.getElem?_take] at hu
  split at hu
  ·exact hu
  ·cases hu
structure PrAt (w : World) (S : Nat → Prop) (p : PPr) (vs vv vf : Value) : Prop where
 s : LAt srE w S p.ss vs
 v : LAt vaE w S p.vs vv
 f : LAt fnE w S p.fs vf
theorem PrAt.keep {w w' : World} {S S' : Nat → Prop} {p : PPr} {vs vv vf : Value} (h : PrAt w S p vs vv vf) (hk : ∀ g, S g → g < w.heap.size → S' g ∧ w'.heap[g]? = w.heap[g]?) (hz : w.heap.size ≤ w'.heap.size) : PrAt w' S' p vs vv vf :=
 ⟨h.s.keep hk hz, h.v.keep hk hz, h.f.keep hk hz⟩
theorem LAt.oneV {α : Type} {E : Elem α} {w : World} {S : Nat → Prop} {l : List α} {v : Value} (h : LAt E w S l v) : v.oneCell' = true := by obtain ⟨A, cap, rfl⟩ := h.slice; rfl
theorem PrAt.one {w : World} {S : Nat → Prop} {p : PPr} {vs vv vf : Value} (h : PrAt w S p vs vv vf) : (#[vs, vv, vf] : Array Value).all (·.oneCell') = true := by
 have h1 := h.s.oneV
 have h2 := h.v.oneV
 have h3 := h.f.oneV
 simp [h1, h2, h3]
abbrev prZ : Array Value := #[.slice none 0 0, .slice none 0 0, .slice none 0 0]
def PostP (w : World) (R M : Nat) (p : PPr) (s' : Pa.S) (e : Ending) (w' : World) : Prop :=
 ∃ vs vv vf, e = .returned (.agg #[vs, vv, vf]) ∧ PrAt w' (fun g => w.heap.size ≤ g) p vs vv vf ∧ RdAt w' R M s' ∧ Fr [R] w w'
set_option maxHeartbeats 16000000 in
theorem prog_any {R M : Nat} {s : Pa.S} {w : World} (h : RdAt w R M s) (hn : s.tk.length ≤ 7000) (he0 : s.er = 0) :
  Calls Tryz.prog 14 #[.pointer (some ⟨R, 0, none⟩)] w (PostP w R M (progV s).1 (progV s).2) := by
 have hR := h.lt
 have HV := Lib.hid (show progV s = progL (s.tk.length + 1) ⟨[], [], []⟩ s from rfl)
 have h0 := h.alloc (.cells prZ 27)
 have HR0 := Lib.hid (heap_alloc_new w (.cells prZ 27))
 have HS0 := Lib.hid (szA w (.cells prZ 27))
 have h1 := h0.alloc (.cells prZ 27)
 have HB1 := Lib.hid (bn (w.alloc (.cells prZ 27)) (.cells prZ 27) (k := w.heap.size + 1) (by simp))
 have P1 : PrR (w.alloc (.cells prZ 27)) ((w.alloc (.cells prZ 27)).alloc (.cells prZ 27)) R M (w.heap.size + 1) ⟨[], [], []⟩ s (.slice none 0 0) (.slice none 0 0) (.slice none 0 0) :=
  ⟨(Fr.refl _ _).alloc _, h1, by rw [HS0.out]; omega, Nat.le_of_eq HS0.out, HB1.out, fun _ => False, fun k hk => hk.elim, ⟨[], rfl, World.ownsRow_nil _ _ _ _, fun i x c hx _ => by simp at hx⟩, ⟨[], rfl, World.ownsRow_nil _ _ _ _, fun i x c hx _ => by simp at hx⟩, ⟨[], rfl, World.ownsRow_nil _ _ _ _, fun i x c hx _ => by simp at hx⟩⟩
 have F0 := tf0
 clear h0 h1
 go_enter Tryz.func14, Tryz.ntmps14
 go_wp2_with fail
 generalize hW : w.alloc (.cells prZ 27) = W at *
 go_loopw [] (fun wr => ∃ (g : Nat) (p : PPr) (s1 : Pa.S) (vs vv vf : Value), (s1.er = 0 → s1.tk.length + 1 ≤ g ∧ cnt p + s1.tk.length ≤ 7000) ∧ (s1.er ≠ 0 → s1.tk.length = 1 ∧ 1 ≤ g) ∧ Hid (progL (s.tk.length + 1) ⟨[], [], []⟩ s = progL g p s1) ∧ cnt p ≤ 7000 ∧ PrR W wr R M (w.heap.size + 1) p s1 vs vv vf) (fun wr => rdM wr R)
 case atStart => exact ⟨_, _, s, _, _, _, fun _ => ⟨Nat.le_refl _, by simp [cnt]; omega⟩, fun he => absurd he0 he, Lib.hid rfl, by simp [cnt], P1⟩
 case round =>
  obtain ⟨g, p, s1, vs, vv, vf, hfu, hfe, hst, hl7, hP⟩ := hrel
  clear P1 HB1
  have hg1 : 1 ≤ g := by
   by_cases he : s1.er = 0
   ·have := (hfu he).1; omega
   ·exact (hfe he).2
  obtain ⟨g, rfl⟩ : ∃ g', g = g' + 1 := ⟨g - 1, by omega⟩
  have hE : progL (g + 1) p s1 = if s1.hd.kd = 0 then (p, s1) else progL g (topV p s1).1 (topV p s1).2 := by simp only [progL]
  have HE0 := Lib.hid hE
  clear hE
  have hpos := hP.rd.ok.pos
  have HMS := Lib.hid hP.rd.mz
  have hnow := now_any hP.rd
  have hrl := hP.rl
  by_cases hk : s1.hd.kd = 0
  ·have e1 : (s1.hd.kd != 0) = false := by rw [hk]; rfl
   rw [if_pos hk] at HE0
   clear hk
   go_wp2_with fail
   refine hnow.mono ?_
   rintro e w1 ⟨rfl, b1⟩
   clear hnow
   have P2 := hP.step (Fr.below b1) (hP.rd.below b1)
   obtain ⟨N, hN⟩ := P2.own
   have hA : PrAt w1 (fun k => w.heap.size + 1 + 1 ≤ k) p vs vv vf := ⟨hN.s.list (fun k hk => (hN.ne k hk).1), hN.v.list (fun k hk => (hN.ne k hk).1), hN.f.list (fun k hk => (hN.ne k hk).1)⟩
   have HB2 := Lib.hid P2.row
   have HR2 := Lib.hid (P2.fr.at_ HR0.out (by simp; omega))
   have HONE := Lib.hid hA.one
   go_wp2_with (first | ((with_reducible refine ldG 27 (w.heap.size + 1) ?_ HB2.out Tryz.underlying27 ?_ ?_ ?_); rfl; rfl; exact sizePr) | ((with_reducible refine stG 27 w.heap.size #[vs, vv, vf] ?_ ?_ HR2.out ?_ ?_ ?_ ?_); rfl; rfl; exact sizePr; rfl; exact HONE.out; intro Y hY; have HY9 := Lib.hid hY; clear hY))
   refine ret_row Tryz.results14 w.heap.size 27 _ _ rfl rfl HY9.out.at_ Tryz.underlying27 rfl sizePr ?_
   rw [HV.out, hst.out, HE0.out]
   have FW : Fr [R] w W := by rw [← hW]; exact (Fr.refl _ _).alloc _
   exact ⟨_, _, _, rfl, hA.keep (fun k hk hl => ⟨by have hk' : w.heap.size + 1 + 1 ≤ k := hk; show w.heap.size ≤ k; omega, HY9.out.oth k (by have hk' : w.heap.size + 1 + 1 ≤ k := hk; omega)⟩) (Nat.le_of_eq HY9.out.size.symm), P2.rd.up HY9.out HR2.out (by decide) (by decide), (FW.trans P2.fr).up HY9.out (Nat.le_refl _)⟩
  ·have e1 : (s1.hd.kd != 0) = true := by simpa using hk
   rw [if_neg hk] at HE0
   have her : s1.er = 0 := by
    by_cases he : s1.er = 0
    ·exact he
    ·exfalso
     have h1 := (hfe he).1
     obtain ⟨A, q, hA⟩ := hP.rd.ok.1
     cases A with
     | nil => exact hk (by unfold S.hd; rw [hA]; rfl)
     | cons a A => rw [hA] at h1; simp at h1
   obtain ⟨hf1, hf2⟩ := hfu her
   have hlt := topV_lt (p := p) hP.rd.ok
   have hct := cnt_top p s1
   have hone : (topV p s1).2.er ≠ 0 → (topV p s1).2.tk.length = 1 := hlt.le.one (fun he => absurd her he)
   clear hk
   go_wp2_with fail
   refine hnow.mono ?_
   rintro e w1 ⟨rfl, b1⟩
   clear hnow
   have P2 := hP.step (Fr.below b1) (hP.rd.below b1)
   have htop := top_any P2 (by omega) (by unfold cnt at hl7; exact ⟨by omega, by omega, by omega⟩)
   generalize (topV p s1).1 = p2 at *
   generalize (topV p s1).2 = s2 at *
   go_wp2_with fail
   refine htop.mono ?_
   rintro e w2 ⟨rfl, vs2, vv2, vf2, P3⟩
   clear htop
   go_wp2
   try simp only [Act.put]
   go_roundw
   case rel => exact ⟨g, p2, s2, vs2, vv2, vf2, fun he2 => ⟨by have := hlt.lt he2; omega, by have := hlt.lt he2; omega⟩, fun he2 => ⟨hone he2, by omega⟩, Lib.hid (hst.out.trans HE0.out), by omega, P3⟩
   case measure =>
    rw [HMS.out, P3.rd.mz, if_pos her]
    have := hlt.le.len
    by_cases he2 : s2.er = 0
    ·have := hlt.lt he2; rw [if_pos he2]; omega
    ·rw [if_neg he2]; omega
theorem results3 {fn : Func} {p u v : Tmp} {ty : TypeId} (h : fn.results = #[.cell p ty, .tmp u, .tmp v]) (tmps : Array Value) (P : Program) (w : World) :
  (results fn tmps).run P w =
   ((asAddr (tmps.getD p undef)).run P w).andThen fun a w₁ => ((loadVar ty a).run P w₁).andThen fun x w₂ => .ok (.tuple #[x, tmps.getD u undef, tmps.getD v undef]) w₂ := by
 simp only [results, h]
 simp [Sem.run_bind, Result.andThen]
theorem res3 {P : Program} {fn : Func} {p u v : Tmp} {ty : TypeId} (h : fn.results = #[.cell p ty, .tmp u, .tmp v]) (tmps : Array Value) (w : World) (g : Nat) (t : TypeId) (cs : Array Value) (fr : Nat × Nat) (d : TypeDesc) (x y : Value)
  (hp : tmps.getD p undef = .pointer (some ⟨g, 0, none⟩)) (hx : tmps.getD u undef = x) (hy : tmps.getD v undef = y) (hg : w.heap[g]? = some (.cells cs t fr))
  (hu : P.underlying ty = some d) (hd : (match d with | .struct _ | .array _ _ => true | _ => false) = true) (hi : (P.info? ty).map (·.size) = some cs.size) :
  (results fn tmps).run P w = .ok (.tuple #[.agg cs, x, y]) w := by
 rw [results3 h]
 simp [hp, hx, hy, asAddr, run_loadVar_row w g t ty cs fr d hg hu hd hi, Result.andThen]
theorem Fr.toBelow {T : List Nat} {a b : World} {B : Nat} (h : Fr T a b) (hT : ∀ t ∈ T, B ≤ t) (hB : B ≤ a.heap.size) : Below B a b :=
 ⟨h.os, h.tape, h.output, h.size, fun k hk => h.block k (by omega) fun hh => by have := hT k hh; omega⟩
theorem tk_small {s : ByteArray} (hs : s.size ≤ 8192) : ∀ t ∈ (lexV s).tk, t.tx.size ≤ 8192 ∧ t.at_ ≤ 8192 := by
 refine lexV_all _ s (fun p hp => ⟨by show (0 : Nat) ≤ 8192; omega, by show p ≤ 8192; omega⟩) fun p hp hn => ⟨?_, by show p ≤ 8192; omega⟩
 show (s.extract p (p + _)).size ≤ 8192
 rw [← sz, ext_tok, List.length_take, List.length_drop, sz]
 omega
theorem lex_end {s : ByteArray} (h : (lexV s).er = 0) : Ok ⟨(lexV s).tk, 0⟩ := by
 obtain ⟨A, _, hA⟩ := lexV_to h
 have hsz : s.size ≤ 8192 := by
  unfold lexV at h
  split at h
  ·simp at h
  ·omega
 refine ⟨?_, fun t ht => ?_⟩
 ·obtain ⟨l1, l2, e1, _, e2⟩ := List.map_eq_append_iff.1 hA
  obtain ⟨t, l3, rfl, hlast, e3⟩ := List.map_eq_cons_iff.1 e2
  obtain rfl : l3 = [] := by simpa using e3
  obtain ⟨kd, tx, at_⟩ := t
  simp only [pr, Prod.mk.injEq] at hlast
  obtain ⟨⟨b⟩⟩ := tx
  simp only at hlast
  refine ⟨l1, at_, ?_⟩
  show (lexV s).tk = _
  rw [e1, hlast.1, hlast.2]
 ·exact tk_small hsz t ht
def ParseP (s : ByteArray) (w : World) (e : Ending) (w' : World) : Prop :=
 ∃ vs vv vf, e = .returned (.tuple #[.agg #[vs, vv, vf], .int .i64 (parseV s).2.1, .int .i64 (parseV s).2.2]) ∧ PrAt w' (fun g => w.heap.size ≤ g) (parseV s).1 vs vv vf ∧ Below w.heap.size w w'
theorem prZ_at (w : World) (S : Nat → Prop) : PrAt w S ⟨[], [], []⟩ (.slice none 0 0) (.slice none 0 0) (.slice none 0 0) := ⟨LAt.nil _ _ _, LAt.nil _ _ _, LAt.nil _ _ _⟩
theorem onePr0 : prZ.all (·.oneCell') = true := by simp [Value.oneCell']
def RowP (W : World) (r : Nat) : Prop := ∃ old : Array Value, old.size = 3 ∧ W.heap[r]? = some (.cells old 27)
set_option maxHeartbeats 16000000 in
theorem parse_any (s : ByteArray) (w : World) (hs : s.size ≤ 1048576) (hM : MaxIs w) :
  Calls Tryz.prog 7 #[.string s] w (ParseP s w) := by
 have hV : parseV s = if (lexV s).er ≠ 0 then (⟨[], [], []⟩, (lexV s).pl, (lexV s).er) else if (progV ⟨(lexV s).tk, 0⟩).2.er ≠ 0 then (⟨[], [], []⟩, (progV ⟨(lexV s).tk, 0⟩).2.hd.at_, (progV ⟨(lexV s).tk, 0⟩).2.er) else ((progV ⟨(lexV s).tk, 0⟩).1, 0, 0) := rfl
 have HV := Lib.hid hV
 clear hV
 have hb0 := belowA w (.cells prZ 27)
 have HR0 := Lib.hid (heap_alloc_new w (.cells prZ 27))
 have HS0 := Lib.hid (szA w (.cells prZ 27))
 have hlx := lex_any s (w.alloc (.cells prZ 27)) hs (hM.keep hb0)
 have hlen := lexV_len s
 have hend := lex_end (s := s)
 have HB0 := Lib.hid hb0
 clear hb0 hM
 generalize (lexV s).pl = pl at *
 generalize (lexV s).tk = T at *
 generalize (lexV s).er = er at *
 go_enter Tryz.func7, Tryz.ntmps7
 go_wp2_with fail
 refine hlx.mono ?_
 rintro e w1 ⟨v, rfl, htk, b1⟩
 clear hlx
 have HR1 := Lib.hid ((b1.block w.heap.size (by rw [HS0.out]; omega)).trans HR0.out)
 have z1 : w.heap.size + 1 ≤ w1.heap.size := by have := b1.size; rw [HS0.out] at this; exact this
 have B1 := HB0.out.trans (b1.mono (by rw [HS0.out]; omega))
 clear b1
 by_cases he : er = 0
 ·rw [if_neg (by simpa using he)] at HV
  have e1 : (er != 0) = false := by rw [he]; rfl
  have hok := hend he
  clear he hend
  have hform : ∃ g cap, v = .slice (some ⟨g, 0, none⟩) T.length cap ∧ (∃ cs fr, w1.heap[g]? = some (.cells cs 63 fr)) ∧ w1.rangeAt g 0 (tksL T) ∧ T.length ≤ cap ∧ cap ≤ maxLen := by
   have hp := hok.pos
   rcases htk.2 with ⟨_, h0⟩ | ⟨g, cap, cur, rfl, hb, hh, h3, h4, h5, h6⟩
   ·exact absurd h0 (by have hp' : 1 ≤ T.length := hp; omega)
   ·refine ⟨g, cap, rfl, ⟨cur, (0, 0), hh⟩, fun j u hu => ?_, h3, h4⟩
    rw [Nat.zero_add, cell_of_row _ _ _ _ _ _ hh, ← Array.getElem?_toList]
    rw [← h6, List.getElem?_take] at hu
    split at hu
    ·exact hu
    ·cases hu
  obtain ⟨g, cap, rfl, hty, hrange, hcap1, hcap2⟩ := hform
  clear htk
  have hst := allStr_any w1
  go_wp2_with fail
  refine hst.mono ?_
  rintro e w2 ⟨rfl, hstr, b2⟩
  clear hst
  have z2 := b2.size
  have hgl : g < w1.heap.size := by obtain ⟨cs, fr, hh⟩ := hty; exact lt_of_at hh
  have HR2 := Lib.hid ((b2.block w.heap.size (by omega)).trans HR1.out)
  have B2 := B1.trans (b2.mono (by omega))
  have h3 : RdAt (w2.alloc (.cells #[.slice (some ⟨g, 0, none⟩) T.length cap, .map (some w1.heap.size), .int .i64 0] 60)) w2.heap.size w1.heap.size ⟨T, 0⟩ := by
   have hal := Below.heap_alloc w2 (.cells #[.slice (some ⟨g, 0, none⟩) T.length cap, .map (some w1.heap.size), .int .i64 0] 60)
   refine ⟨g, 0, cap, heap_alloc_new w2 _, fun j u hu => ?_, by omega, ?_, ⟨hcap1, hcap2⟩, hstr.keep (hal _ hstr.lt), by have := hstr.lt; omega, hok⟩
   ·exact (World.cell?_of_block (w := w1) ((hal g (by omega)).trans (b2.block g hgl))).trans (hrange j u hu)
   ·obtain ⟨cs, fr, hh⟩ := hty
    exact ⟨cs, fr, (hal g (by omega)).trans ((b2.block g hgl).trans hh)⟩
  have HR3 := Lib.hid (bl1 w2 (.cells #[.slice (some ⟨g, 0, none⟩) T.length cap, .map (some w1.heap.size), .int .i64 0] 60) HR2.out (by omega))
  have B3 := B2.alloc (by omega) (.cells #[.slice (some ⟨g, 0, none⟩) T.length cap, .map (some w1.heap.size), .int .i64 0] 60)
  have HS3 := Lib.hid (szA w2 (.cells #[.slice (some ⟨g, 0, none⟩) T.length cap, .map (some w1.heap.size), .int .i64 0] 60))
  have hpr := prog_any h3 (by show T.length ≤ 7000; omega) rfl
  have hne2 : w.heap.size ≠ w2.heap.size := by omega
  generalize (progV ⟨T, 0⟩).1 = p at *
  generalize (progV ⟨T, 0⟩).2 = s2 at *
  clear hrange hty hstr h3 hok
  generalize hRR : w2.heap.size = R at *
  generalize w1.heap.size = M at *
  go_wp2_with fail
  refine hpr.mono ?_
  rintro e w4 ⟨vs, vv, vf, rfl, hpa, h4, f4⟩
  clear hpr
  have z4 : R + 1 ≤ w4.heap.size := by have := f4.size; rw [HS3.out] at this; exact this
  have HR4 := Lib.hid (f4.at_ HR3.out (by simp; omega))
  have B4 := B3.trans (f4.toBelow (B := w.heap.size) (by simp; omega) (by rw [HS3.out]; omega))
  have HONE := Lib.hid hpa.one
  rw [HS3.out] at hpa
  have h5 := h4.alloc (.cells #[vs, vv, vf] 27)
  have HR5 := Lib.hid (bl1 w4 (.cells #[vs, vv, vf] 27) HR4.out (by omega))
  have HB5 := Lib.hid (heap_alloc_new w4 (.cells #[vs, vv, vf] 27))
  have B5 := B4.alloc (by omega) (.cells #[vs, vv, vf] 27)
  have hpa5 := hpa.keep (w' := w4.alloc (.cells #[vs, vv, vf] 27)) (S' := fun k => R + 1 ≤ k) (fun k hk hl => ⟨hk, Below.heap_alloc _ _ _ hl⟩) (by simp)
  have her := h5.er
  clear hpa h4 f4
  by_cases he2 : s2.er = 0
  ·have e2 : (s2.er != 0) = false := by rw [he2]; rfl
   rw [if_neg (by simpa using he2)] at HV
   clear he2
   go_wp2_with (first | ((with_reducible refine stN 27 w4.heap.size #[vs, vv, vf] rfl ?_ ?_ ?_ ?_ ?_ ?_); rfl; rfl; exact sizePr; rfl; exact HONE.out) | ((with_reducible refine ldG 27 w4.heap.size ?_ HB5.out Tryz.underlying27 ?_ ?_ ?_); rfl; rfl; exact sizePr) | ((with_reducible refine stG 27 w.heap.size #[vs, vv, vf] ?_ ?_ HR5.out ?_ ?_ ?_ ?_); rfl; rfl; exact sizePr; rfl; exact HONE.out; intro Y hY; have HY9 := Lib.hid hY; clear hY))
   refine bodyPost_ret (v := .tuple #[.agg #[vs, vv, vf], .int .i64 0, .int .i64 0]) (res3 Tryz.results7 _ _ w.heap.size 27 #[vs, vv, vf] (0, 0) _ _ _ rfl rfl rfl HY9.out.at_ Tryz.underlying27 rfl sizePr) rfl ?_
   unfold ParseP
   rw [HV.out]
   exact ⟨vs, vv, vf, rfl, hpa5.keep (fun k hk hl => ⟨by have hk' : R + 1 ≤ k := hk; show w.heap.size ≤ k; omega, HY9.out.oth k (by have hk' : R + 1 ≤ k := hk; omega)⟩) (Nat.le_of_eq HY9.out.size.symm), HY9.out.below B5 (Nat.le_refl _)⟩
  ·have e2 : (s2.er != 0) = true := by simpa using he2
   rw [if_pos he2] at HV
   clear he2
   have TF2 := tf2
   have hR5 : RowP (w4.alloc (.cells #[vs, vv, vf] 27)) w.heap.size := ⟨_, rfl, HR5.out⟩
   go_wp2_with (first | ((with_reducible refine stN 27 w4.heap.size #[vs, vv, vf] rfl ?_ ?_ ?_ ?_ ?_ ?_); rfl; rfl; exact sizePr; rfl; exact HONE.out))
   generalize hX : w4.alloc (.cells #[vs, vv, vf] 27) = X at *
   refine wp_region_held_drew (S := fun W : World => W.cell? ⟨R, 2, none⟩ = some (.int .i64 s2.er) ∧ RdAt W R M s2 ∧ RowP W w.heap.size ∧ Below w.heap.size w W) (by kernel_rfl) (⟨her, h5.below ((Below.refl _ _).drew), hR5, B5.drew⟩) (fun hHeld => ?_)
   refine wpAnyH_take (i := 0) (oi := ⟨some 28, .build 27 #[], 27, "parse.go:18", #[], none⟩) (v := .agg prZ) rfl (by kernel_rfl) (by kernel_rfl) (by kernel_rfl) (fun _ _ _ h => h) (Or.inl ⟨by rfl, ?hy1⟩) (by assumption) ?_
   case hy1 => ((intro W hSW; (try dsimp only at hSW); go_simp); (try with_reducible rfl); (try exact ⟨rfl, rfl, rfl⟩))
   simp only [Act.put, sZa, sZb, sZc]
   refine wpAnyH_take (i := 3) (oi := ⟨some 31, .fieldAddr 60 (.tmp 8) 2, 0, "parse.go:18", #[{ on := 6, ground := Go.Ground.gcOnly Go.Departure.lateStores }], none⟩) (v := .pointer (some ⟨R, 2, none⟩)) rfl (by kernel_rfl) (by kernel_rfl) (by kernel_rfl) (fun _ _ _ h => h) (Or.inl ⟨by rfl, ?hy2⟩) (by assumption) ?_
   case hy2 => ((intro W hSW; (try dsimp only at hSW); go_simp); (try with_reducible rfl); (try exact ⟨rfl, rfl, rfl⟩))
   simp only [Act.put, sZa, sZb, sZc]
   refine wpAnyH_take (i := 4) (oi := ⟨some 32, .load 28 (.tmp 31), 28, "parse.go:18", #[⟨3, .data⟩, { on := 6, ground := Go.Ground.gcOnly Go.Departure.lateStores }], none⟩) (v := .int .i64 s2.er) rfl (by kernel_rfl) (by kernel_rfl) (by kernel_rfl) (fun _ _ _ h => h) (Or.inl ⟨by rfl, ?hy3⟩) (by assumption) ?_
   case hy3 => ((intro W hSW; (try dsimp only at hSW); go_simp); (try with_reducible rfl); (try exact ⟨rfl, rfl, rfl⟩))
   simp only [Act.put, sZa, sZb, sZc]
   refine wpAnyH_ready (rs := [1]) (by kernel_rfl) (by simp) ?_
   refine AllReadyH.cons (o := ⟨some 29, .call { callee := .value (.func 15), args := #[.tmp 8], argTypes := #[60] }, 63, "parse.go:18", #[], none⟩) rfl (fun K hK => ?_) AllReadyH.nil
   have hnow := now_any hHeld.2.1
   go_simp
   refine hnow.mono ?_
   rintro e w6 ⟨rfl, b6⟩
   have h6 := hHeld.2.1.below b6
   have hr6 : RowP w6 w.heap.size := by obtain ⟨old, ho, hr⟩ := hHeld.2.2.1; exact ⟨old, ho, (b6.block _ (lt_of_at hr)).trans hr⟩
   have B6 := hHeld.2.2.2.trans (b6.mono hHeld.2.2.2.size)
   try go_wp2_with fail
   refine hK.out _ _ (⟨h6.er, h6, hr6, B6⟩) (fun hHeld => ?_)
   clear hK K
   try simp only [Act.put, sZa, sZb, sZc]
   refine wpAnyH_take (i := 2) (oi := ⟨some 30, .field 63 (.tmp 29) 2, 3, "parse.go:18", #[⟨1, .data⟩, { on := 5, ground := Go.Ground.gcOnly Go.Departure.lateStores }], none⟩) (v := .int .i64 s2.hd.at_) rfl (by kernel_rfl) (by kernel_rfl) (by kernel_rfl) (fun _ _ _ h => h) (Or.inl ⟨by rfl, ?hy4⟩) (by assumption) ?_
   case hy4 => ((intro W hSW; (try dsimp only at hSW); go_simp); (try with_reducible rfl); (try exact ⟨rfl, rfl, rfl⟩))
   simp only [Act.put, sZa, sZb, sZc]
   refine wpAnyH_ready (rs := [5]) (by kernel_rfl) (by simp) ?_
   refine AllReadyH.cons (o := ⟨none, .store 27 (.tmp 2) (.tmp 28), 0, "parse.go:18", #[⟨0, .data⟩, ⟨1, .chain⟩, ⟨0, .phase⟩, { on := 1, ground := Go.Ground.textOnly Go.Departure.lateStoresUnsure }, { on := 2, ground := Go.Ground.textOnly Go.Departure.lateStores }, { on := 3, ground := Go.Ground.textOnly Go.Departure.lateStores }, { on := 4, ground := Go.Ground.textOnly Go.Departure.lateStores }], none⟩) rfl (fun K hK => ?_) AllReadyH.nil
   rw [if_pos (by rfl)]
   obtain ⟨old, ho, hro⟩ := hHeld.2.2.1
   refine wp_stG 27 w.heap.size prZ (by rfl) (by rfl) hro sizePr ho onePr0 ?_
   intro Y hY
   have HY := Lib.hid hY
   clear hY
   have hy := hHeld.2.1.up HY.out hro (by decide) (by decide)
   refine hK.out _ _ (⟨hy.er, hy, ⟨_, rfl, HY.out.at_⟩, HY.out.below hHeld.2.2.2 (Nat.le_refl _)⟩) (fun hHeld => ?_)
   clear hK K
   try simp only [Act.put, sZa, sZb, sZc]
   refine wpAnyH_take (i := 6) (oi := ⟨some 3, .assign (.tmp 30), 3, "parse.go:18", #[⟨2, .data⟩, ⟨5, .chain⟩, ⟨0, .phase⟩, ⟨1, .phase⟩, ⟨2, .phase⟩, { on := 3, ground := Go.Ground.textOnly Go.Departure.lateStores }, { on := 4, ground := Go.Ground.textOnly Go.Departure.lateStores }, ⟨5, .phase⟩], none⟩) (v := .int .i64 s2.hd.at_) rfl (by kernel_rfl) (by kernel_rfl) (by kernel_rfl) (fun _ _ _ h => h) (Or.inl ⟨by rfl, ?hy5⟩) (by assumption) ?_
   case hy5 => ((intro W hSW; (try dsimp only at hSW); go_simp); (try with_reducible rfl); (try exact ⟨rfl, rfl, rfl⟩))
   simp only [Act.put, sZa, sZb, sZc]
   refine wpAnyH_take (i := 7) (oi := ⟨some 4, .assign (.tmp 32), 28, "parse.go:18", #[⟨4, .data⟩, ⟨6, .chain⟩, ⟨0, .phase⟩, ⟨1, .phase⟩, ⟨2, .phase⟩, ⟨3, .phase⟩, ⟨4, .phase⟩, ⟨5, .phase⟩, ⟨6, .phase⟩], none⟩) (v := .int .i64 s2.er) rfl (by kernel_rfl) (by kernel_rfl) (by kernel_rfl) (fun _ _ _ h => h) (Or.inl ⟨by rfl, ?hy6⟩) (by assumption) ?_
   case hy6 => ((intro W hSW; (try dsimp only at hSW); go_simp); (try with_reducible rfl); (try exact ⟨rfl, rfl, rfl⟩))
   simp only [Act.put, sZa, sZb, sZc]
   refine wpAnyH_done (by kernel_rfl) ?_ _
   have BY := hHeld.2.2.2
   go_wp2
   refine bodyPost_ret (v := .tuple #[.agg prZ, .int .i64 s2.hd.at_, .int .i64 s2.er]) (res3 Tryz.results7 _ _ w.heap.size 27 prZ (0, 0) _ _ _ rfl rfl rfl HY.out.at_ Tryz.underlying27 rfl sizePr) rfl ?_
   unfold ParseP
   rw [HV.out]
   exact ⟨_, _, _, rfl, prZ_at _ _, BY⟩
 ·rw [if_pos he] at HV
  have e1 : (er != 0) = true := by simpa using he
  clear he hend
  go_wp2_with (((with_reducible refine stG 27 w.heap.size prZ ?_ ?_ HR1.out ?_ ?_ ?_ ?_); rfl; rfl; exact sizePr; rfl; exact onePr0; intro Y hY; have HY9 := Lib.hid hY; clear hY))
  refine bodyPost_ret (v := .tuple #[.agg prZ, .int .i64 pl, .int .i64 er]) (res3 Tryz.results7 _ _ w.heap.size 27 prZ (0, 0) _ _ _ rfl rfl rfl HY9.out.at_ Tryz.underlying27 rfl sizePr) rfl ?_
  unfold ParseP
  rw [HV.out]
  exact ⟨_, _, _, rfl, prZ_at _ _, HY9.out.below B1 (Nat.le_refl _)⟩
namespace Pa
def txA : ByteArray := ⟨#[108, 111, 110, 103, 32, 102, 40, 108, 111, 110, 103, 32, 42, 112, 41, 32, 123, 32, 114, 101, 116, 117, 114, 110, 32, 112, 91, 49, 93, 32, 43, 32, 50, 59, 32, 125]⟩
def exA : PEx := .mk 4 ⟨#[43]⟩ eB 0 [.mk 7 eB eB 0 [.mk 2 eB ⟨#[112]⟩ 0 [] ty0 25, .mk 1 eB eB 1 [] ty0 27] ty0 25, .mk 1 eB eB 2 [] ty0 32] ty0 25
def fnA : PFn := ⟨⟨#[102]⟩, ⟨3, 0, ⟨#[]⟩⟩, [⟨⟨#[112]⟩, ⟨3, 1, ⟨#[]⟩⟩, 0, 7⟩], .mk 1 [] [.mk 4 [exA] [] va0 18] va0 16, 0⟩
theorem pv_A : parseV txA = (⟨[], [], [fnA]⟩, 0, 0) := by kernel_rfl
def txB : ByteArray := ⟨#[105, 110, 116, 32, 97, 91, 48, 93, 59]⟩
theorem pv_B : (parseV txB).2 = (6, 1) := by decide +kernel
end Pa
theorem flat_get {z : Nat} : ∀ (rows : List (List Value)) (i j : Nat) (c : List Value) (u : Value), (∀ r ∈ rows, r.length = z) → rows[i]? = some c → c[j]? = some u → rows.flatten[i * z + j]? = some u := by
 intro rows
 induction rows with
 | nil => intro i j c u _ h; simp at h
 | cons r rows ih =>
  intro i j c u hz hc hu
  have hr := hz r (by simp)
  cases i with
  | zero =>
   simp at hc
   subst hc
   rw [List.flatten_cons, Nat.zero_mul, Nat.zero_add, List.getElem?_append_left (List.getElem?_eq_some_iff.1 hu).1]
   exact hu
  | succ i =>
   simp at hc
   rw [List.flatten_cons, List.getElem?_append_right (by rw [hr, Nat.succ_mul]; omega), hr, show (i + 1) * z + j - z = i * z + j by rw [Nat.succ_mul]; omega]
   exact ih i j c u (fun r' hr' => hz r' (by simp [hr'])) hc hu
theorem LAt.get {α : Type} {E : Elem α} {w : World} {S : Nat → Prop} {l : List α} {v : Value} (h : LAt E w S l v) (i : Nat) {x : α} (hi : l[i]? = some x) :
  ∃ g o cap c, v = .slice (some ⟨g, o, none⟩) l.length cap ∧ l.length ≤ cap ∧ cap ≤ maxLen ∧ S g ∧ g < w.heap.size ∧ E.At w S x c ∧ ∀ j u, c[j]? = some u → w.cell? ⟨g, o + (i * E.z + j), none⟩ = some u := by
 obtain ⟨rows, h1, ⟨A, cap, rfl, h2, h3, h4⟩, h5⟩ := h
 have hl := (List.getElem?_eq_some_iff.1 hi).1
 obtain ⟨g, o, rfl, hS, hg, hr⟩ := h4 (by omega)
 have hri : rows[i]? = some (rows[i]'(by omega)) := List.getElem?_eq_getElem (by omega)
 refine ⟨g, o, cap, _, rfl, h2, h3, hS, hg, h5 i x _ hi hri, fun j u hu => hr _ u (flat_get rows i j _ u (fun r hr' => ?_) hri hu)⟩
 obtain ⟨k, hk, rfl⟩ := List.getElem_of_mem hr'
 exact E.len (h5 k (l[k]'(by omega)) _ (List.getElem?_eq_getElem (by omega)) (List.getElem?_eq_getElem hk))
theorem prog_view {w : World} {S : Nat → Prop} {p : PPr} {vs vv vf : Value} (h : PrAt w S p vs vv vf) {f : PFn} {kb : Int} {xb : List PEx} {vb : PVa} {ab : Nat} {kk : Int} {x : PEx} {ks : List PSt} {vk : PVa} {ak : Nat} (hf : p.fs = [f]) (hb : f.body = .mk kb xb [.mk kk [x] ks vk ak] vb ab) :
  ∃ gf of' cf gk ok ck gx ox cx c, vf = .slice (some ⟨gf, of', none⟩) 1 cf ∧ 1 ≤ cf ∧ w.cell? ⟨gf, of' + 7, none⟩ = some (.slice (some ⟨gk, ok, none⟩) 1 ck) ∧ 1 ≤ ck ∧ w.cell? ⟨gk, ok + 1, none⟩ = some (.slice (some ⟨gx, ox, none⟩) 1 cx) ∧ 1 ≤ cx ∧ ExAt w S x c ∧ (∀ j u, c[j]? = some u → w.cell? ⟨gx, ox + j, none⟩ = some u) ∧ gf < w.heap.size ∧ gk < w.heap.size ∧ gx < w.heap.size := by
 have h1 := h.f
 rw [hf] at h1
 obtain ⟨gf, of', cf, c1, e1, l1, _, _, g1, ⟨pv, d, _, hd, rfl⟩, r1⟩ := h1.get 0 rfl
 rw [hb] at hd
 obtain ⟨kd, xs, kids, va, at_, A, ca, B, cb, e2, rfl, _, hk⟩ := hd.inv
 injection e2 with e2a e2b e2c e2d e2e
 subst e2c
 obtain ⟨gk, ok, ck, c2, e3, l3, _, _, g3, hst, r3⟩ := hk.get 0 rfl
 obtain ⟨kd', xs', kids', va', at', A', ca', B', cb', e4, rfl, hx, _⟩ := StAt.inv hst
 injection e4 with e4a e4b e4c e4d e4e
 subst e4b
 obtain ⟨gx, ox, cx, c3, e5, l5, _, _, g5, hx', r5⟩ := hx.get 0 rfl
 have q1 := r1 7 _ rfl
 have q3 := r3 1 _ rfl
 simp only [Nat.zero_mul, Nat.zero_add] at q1 q3 r5
 rw [e3] at q1
 rw [e5] at q3
 exact ⟨gf, of', cf, gk, ok, ck, gx, ox, cx, c3, e1, l1, q1, l3, q3, l5, hx', r5, g1, g3, g5⟩
end Go.Proofs.YtfjobnljdkiihaaGreatDoor
