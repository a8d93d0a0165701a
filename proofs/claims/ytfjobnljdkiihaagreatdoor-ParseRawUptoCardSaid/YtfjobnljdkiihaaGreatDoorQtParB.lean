/- A reader of types and names. Conditions: each theorem's. -/
import Derived.Test.YtfjobnljdkiihaaGreatDoorQtParW
import Derived.Test.YtfjobnljdkiihaaGreatDoorQtLexP
import Derived.Deep.QuietTactic
import Derived.BigQuiet
import Derived.OneCell
import Derived.Deep.RegionHeld3
import Derived.Laws.Small
import Derived.Laws.Rows
import Derived.Laws.Tables
import Derived.Great.BuildSlice
import Derived.StillTailTactics
namespace Go.Proofs.YtfjobnljdkiihaaGreatDoor
open Go.RowKit Go.Maps
set_option linter.unusedVariables false
set_option linter.unusedSimpArgs false
set_option maxRecDepth 100000
open Lx Pa
structure Fr (S : List Nat) (w w' : World) : Prop where
 os : w'.os = w.os
 tape : w'.tape = w.tape
 output : w'.output = w.output
 size : w.heap.size ≤ w'.heap.size
 block : ∀ k, k < w.heap.size → k ∉ S → w'.heap[k]? = w.heap[k]?
theorem Fr.refl (S : List Nat) (w : World) : Fr S w w := ⟨rfl, rfl, rfl, Nat.le_refl _, fun _ _ _ => rfl⟩
theorem Fr.trans {S : List Nat} {a b c : World} (h : Fr S a b) (g : Fr S b c) : Fr S a c :=
 ⟨g.os.trans h.os, g.tape.trans h.tape, g.output.trans h.output, Nat.le_trans h.size g.size, fun k hk hs => (g.block k (Nat.lt_of_lt_of_le hk h.size) hs).trans (h.block k hk hs)⟩
theorem Fr.below {S : List Nat} {w w' : World} (h : Below w.heap.size w w') : Fr S w w' := ⟨h.os, h.tape, h.output, h.size, fun k hk _ => h.block k hk⟩
theorem Fr.alloc {S : List Nat} {w w' : World} (h : Fr S w w') (o : Obj) : Fr S w (w'.alloc o) := h.trans (Fr.below ((Below.refl _ _).alloc (Nat.le_refl _) _))
theorem Fr.drew {S : List Nat} {w w' : World} (h : Fr S w w') : Fr S w w'.drew := ⟨h.os, h.tape, h.output, h.size, h.block⟩
theorem Fr.set {S : List Nat} (w : World) (b o : Nat) (v : Value) (hb : b ∈ S) : Fr S w (w.setCell ⟨b, o, none⟩ v) :=
 ⟨rfl, rfl, rfl, by simp [World.setCell], fun k _ hs => Below.heap_setCell w _ v k (fun e => hs (by rw [e]; exact hb))⟩
theorem Fr.since {S : List Nat} {a b c : World} (h : Fr S a b) {n : Nat} (g : Fr (S ++ [n]) b c) (hn : a.heap.size ≤ n) : Fr S a c :=
 ⟨g.os.trans h.os, g.tape.trans h.tape, g.output.trans h.output, Nat.le_trans h.size g.size, fun k hk hs => (g.block k (Nat.lt_of_lt_of_le hk h.size) (by simp; exact ⟨hs, by omega⟩)).trans (h.block k hk hs)⟩
theorem lt_of_at {w : World} {g : Nat} {o : Obj} (h : w.heap[g]? = some o) : g < w.heap.size := by
 rcases Nat.lt_or_ge g w.heap.size with hlt | hge
 ·exact hlt
 ·rw [Array.getElem?_eq_none hge] at h; cases h
theorem Fr.at_ {S : List Nat} {w w' : World} (h : Fr S w w') {g : Nat} {o : Obj} (hg : w.heap[g]? = some o) (hs : g ∉ S) : w'.heap[g]? = some o := (h.block g (lt_of_at hg) hs).trans hg
theorem Fr.range {S : List Nat} {w w' : World} (h : Fr S w w') {g o : Nat} {cs : List Value} (hg : w.rangeAt g o cs) (hl : g < w.heap.size) (hs : g ∉ S) : w'.rangeAt g o cs := fun j v hv => (World.cell?_of_block (w := w) (h.block g hl hs)).trans (hg j v hv)
def StrAt (w : World) (b : Nat) : Prop := ∃ (D : DataW Unit) (n : Nat), w.ownsMap Tryz.prog 9 (plainElem Tryz.prog 3) b n D ∧ ∀ x : ByteArray, D.atKey (.string x.toList) zI = .lit (.int .i64 (strV x))
theorem StrAt.lt {w : World} {b : Nat} (h : StrAt w b) : b < w.heap.size := by
 obtain ⟨D, n, ⟨es, clock, hb, _⟩, _⟩ := h
 exact (Array.getElem?_eq_some_iff.1 hb).1
theorem StrAt.keep {w w' : World} {b : Nat} (h : StrAt w b) (hb : w'.heap[b]? = w.heap[b]?) : StrAt w' b := by
 obtain ⟨D, n, ⟨es, clock, hh, r⟩, h2⟩ := h
 exact ⟨D, n, ⟨es, clock, hb.trans hh, r⟩, h2⟩
structure Rd (w : World) (R M : Nat) (s : Pa.S) (g o cap : Nat) : Prop where
 box : w.heap[R]? = some (.cells #[.slice (some ⟨g, o, none⟩) s.tk.length cap, .map (some M), .int .i64 s.er] 60)
 tok : w.rangeAt g o (tksL s.tk)
 gR : g ≠ R
 tb : ∃ cs fr, w.heap[g]? = some (.cells cs 63 fr)
 cap : s.tk.length ≤ cap ∧ cap ≤ maxLen
 str : StrAt w M
 mR : M ≠ R
 ok : Pa.Ok s
theorem Rd.gl {w : World} {R M g o cap : Nat} {s : Pa.S} (h : Rd w R M s g o cap) : g < w.heap.size := by obtain ⟨cs, fr, h⟩ := h.tb; exact lt_of_at h
def RdAt (w : World) (R M : Nat) (s : Pa.S) : Prop := ∃ g o cap, Rd w R M s g o cap
theorem RdAt.ok {w : World} {R M : Nat} {s : Pa.S} (h : RdAt w R M s) : Pa.Ok s := by obtain ⟨_, _, _, h⟩ := h; exact h.ok
theorem RdAt.lt {w : World} {R M : Nat} {s : Pa.S} (h : RdAt w R M s) : R < w.heap.size := by obtain ⟨_, _, _, h⟩ := h; exact lt_of_at h.box
theorem Rd.keep {w w' : World} {R M g o cap : Nat} {s : Pa.S} (h : Rd w R M s g o cap) (hb : ∀ k, k < w.heap.size → w'.heap[k]? = w.heap[k]?) (hz : w.heap.size ≤ w'.heap.size) : Rd w' R M s g o cap :=
 ⟨(hb _ (lt_of_at h.box)).trans h.box, fun j v hv => (World.cell?_of_block (w := w) (hb g h.gl)).trans (h.tok j v hv), h.gR, (by obtain ⟨cs, fr, ht⟩ := h.tb; exact ⟨cs, fr, (hb g h.gl).trans ht⟩), h.cap, h.str.keep (hb M h.str.lt), h.mR, h.ok⟩
theorem RdAt.keep {w w' : World} {R M : Nat} {s : Pa.S} (h : RdAt w R M s) (hb : ∀ k, k < w.heap.size → w'.heap[k]? = w.heap[k]?) (hz : w.heap.size ≤ w'.heap.size) : RdAt w' R M s := by
 obtain ⟨g, o, cap, h⟩ := h
 exact ⟨g, o, cap, h.keep hb hz⟩
theorem RdAt.below {w w' : World} {R M : Nat} {s : Pa.S} (h : RdAt w R M s) (hb : Below w.heap.size w w') : RdAt w' R M s := h.keep hb.block hb.size
theorem RdAt.oth {w w' : World} {R M : Nat} {s : Pa.S} (h : RdAt w R M s) {n : Nat} {cs : Array Value} {t : TypeId} {fr : Nat × Nat} (hn : w.heap[n]? = some (.cells cs t fr)) (h1 : t ≠ 63) (h2 : t ≠ 60)
  (hb : ∀ k, k < w.heap.size → k ≠ n → w'.heap[k]? = w.heap[k]?) : RdAt w' R M s := by
 obtain ⟨g, o, cap, h⟩ := h
 obtain ⟨cg, fg, hg⟩ := h.tb
 have e1 : g ≠ n := fun e => by rw [e, hn] at hg; injection hg with hg; injection hg with _ hg _; exact h1 hg
 have e2 : R ≠ n := fun e => by have := h.box; rw [e, hn] at this; injection this with this; injection this with _ this _; exact h2 this
 have e3 : M ≠ n := fun e => by obtain ⟨D, k, ⟨es, clock, hm, _⟩, _⟩ := h.str; rw [e, hn] at hm; cases hm
 have b1 := hb g h.gl e1
 exact ⟨g, o, cap, (hb R (lt_of_at h.box) e2).trans h.box, fun j v hv => (World.cell?_of_block (w := w) b1).trans (h.tok j v hv), h.gR, ⟨cg, fg, b1.trans hg⟩, h.cap, h.str.keep (hb M h.str.lt e3), h.mR, h.ok⟩
theorem Rd.tok0 {w : World} {R M g o cap : Nat} {s : Pa.S} (h : Rd w R M s g o cap) : w.cell? ⟨g, o, none⟩ = some (.int .i64 s.hd.kd) ∧ w.cell? ⟨g, o + 1, none⟩ = some (.string s.hd.tx) ∧ w.cell? ⟨g, o + 2, none⟩ = some (.int .i64 s.hd.at_) := by
 obtain ⟨l, hl⟩ := h.ok.cons
 have ht := h.tok
 rw [hl] at ht
 exact ⟨ht 0 _ rfl, ht 1 _ rfl, ht 2 _ rfl⟩
theorem Rd.cells {w : World} {R M g o cap : Nat} {s : Pa.S} (h : Rd w R M s g o cap) : w.cell? ⟨R, 0, none⟩ = some (.slice (some ⟨g, o, none⟩) s.tk.length cap) ∧ w.cell? ⟨R, 1, none⟩ = some (.map (some M)) ∧ w.cell? ⟨R, 2, none⟩ = some (.int .i64 s.er) :=
 ⟨cell_of_row _ _ _ _ _ _ h.box, cell_of_row _ _ _ _ _ _ h.box, cell_of_row _ _ _ _ _ _ h.box⟩
theorem Rd.free {w : World} {R M g o cap : Nat} {s : Pa.S} (h : Rd w R M s g o cap) (i : Nat) : w.frozen? ⟨R, i, none⟩ = false := frozen_of_row _ _ _ _ _ h.box
set_option maxHeartbeats 1000000 in
theorem now_any {w : World} {R M : Nat} {s : Pa.S} (h : RdAt w R M s) :
  Calls Tryz.prog 15 #[.pointer (some ⟨R, 0, none⟩)] w fun e w' => e = .returned (.agg #[.int .i64 s.hd.kd, .string s.hd.tx, .int .i64 s.hd.at_]) ∧ Below w.heap.size w w' := by
 obtain ⟨g, o, cap, h⟩ := h
 obtain ⟨c0, -, -⟩ := h.cells
 obtain ⟨t0, t1, t2⟩ := h.tok0
 have hp : 0 < s.tk.length := h.ok.pos
 have hR := lt_of_at h.box
 have hg := h.gl
 have hcap := h.cap.1
 clear h
 generalize s.tk.length = n at *
 generalize s.hd = t at *
 go_enter Tryz.func15, Tryz.ntmps15
 go_wp2
 exact bodyPost_ret (by simp [results, Tryz.results15, go_sem]) rfl ⟨rfl, (Below.refl _ _).alloc (Nat.le_refl _) _⟩
theorem strEq (a b : ByteArray) : (a.toList == b.toList) = decide (a = b) := by
 rw [Bool.eq_iff_iff, beq_iff_eq, decide_eq_true_iff, Lib.toList_data, Lib.toList_data]
 constructor
 ·intro h
  obtain ⟨⟨x⟩⟩ := a
  obtain ⟨⟨y⟩⟩ := b
  simp only at h
  rw [h]
 ·intro h; rw [h]
theorem tf0 (a : Int) (b : ByteArray) (c : Int) (W : World) : (Instr.field 63 (.agg #[.int .i64 a, .string b, .int .i64 c]) 0).run Tryz.prog W = .ok (.int .i64 a) W := by kernel_rfl
theorem tf1 (a : Int) (b : ByteArray) (c : Int) (W : World) : (Instr.field 63 (.agg #[.int .i64 a, .string b, .int .i64 c]) 1).run Tryz.prog W = .ok (.string b) W := by kernel_rfl
theorem tf2 (a : Int) (b : ByteArray) (c : Int) (W : World) : (Instr.field 63 (.agg #[.int .i64 a, .string b, .int .i64 c]) 2).run Tryz.prog W = .ok (.int .i64 c) W := by kernel_rfl
set_option maxHeartbeats 1000000 in
theorem is_any {w : World} {R M : Nat} {s : Pa.S} (x : ByteArray) (h : RdAt w R M s) :
  Calls Tryz.prog 41 #[.pointer (some ⟨R, 0, none⟩), .string x] w fun e w' => e = .returned (.bool (s.is x)) ∧ Below w.heap.size w w' := by
 have F1 := tf1
 go_enter Tryz.func41, Tryz.ntmps41
 go_wp2_with (go_at_call 15; refine (now_any h).mono ?_; rintro e w1 ⟨rfl, hb⟩)
 go_ret
 exact ⟨by rw [strEq]; rfl, hb⟩
set_option maxHeartbeats 1000000 in
theorem step_any {w : World} {R M : Nat} {s : Pa.S} (h : RdAt w R M s) (hx : s.hd.tx ≠ ⟨#[]⟩ ∨ s.hd.kd ≠ 0) :
  Calls Tryz.prog 70 #[.pointer (some ⟨R, 0, none⟩)] w fun e w' => e = .returned (.tuple #[]) ∧ RdAt w' R M s.tl ∧ Fr [R] w w' ∧ w'.heap.size = w.heap.size := by
 obtain ⟨ho1, ho2⟩ := tl_ok h.ok hx
 obtain ⟨g, o, cap, h⟩ := h
 obtain ⟨c0, -, -⟩ := h.cells
 have hf := h.free 0
 have hz : s.tk.length = s.tl.tk.length + 1 := ho2.symm
 have hR := lt_of_at h.box
 have hg := h.gl
 have hcap := h.cap
 have hpos := ho1.pos
 have H := Lib.hid h
 have HO := Lib.hid ho1
 clear h ho1 ho2
 generalize hn : s.tk.length = n at *
 generalize hm : s.tl.tk.length = m at *
 have HN := Lib.hid hn
 have HM := Lib.hid hm
 clear hn hm
 subst hz
 unfold maxLen at hcap
 go_enter Tryz.func70, Tryz.ntmps70
 go_wp2
 go_end0
 refine ⟨rfl, ⟨g, o + 3, cap - 1, ?_⟩, Fr.set _ _ _ _ (by simp), by simp [World.setCell]⟩
 have hs : (S.tl s).er = s.er := rfl
 refine ⟨?_, ?_, H.out.gR, (by obtain ⟨cs, fr, ht⟩ := H.out.tb; exact ⟨cs, fr, (Below.heap_setCell _ _ _ _ H.out.gR).trans ht⟩), by rw [HM.out]; unfold maxLen; omega, H.out.str.keep (Below.heap_setCell _ _ _ _ H.out.mR), H.out.mR, HO.out⟩
 ·rw [heap_setCell_same _ _ _ _ _ _ H.out.box, HM.out, hs]
  simp
 ·have ht := H.out.tok
  obtain ⟨l, hl⟩ := H.out.ok.cons
  have e : s.tl.tk = l := by unfold S.tl; rw [hl]; rfl
  rw [e]
  rw [hl] at ht
  intro j v hv
  rw [World.cell?_of_block (w := w) (Below.heap_setCell _ _ _ _ H.out.gR)]
  have := ht (j + 3) v (by show (tkL s.hd ++ tksL l)[j + 3]? = some v; rw [List.getElem?_append_right (by simp [tkL])]; simpa [tkL] using hv)
  rw [← this]
  congr 2
  omega
set_option maxHeartbeats 1000000 in
theorem take_any {w : World} {R M : Nat} {s : Pa.S} (x : ByteArray) (hx : x ≠ ⟨#[]⟩) (h : RdAt w R M s) :
  Calls Tryz.prog 45 #[.pointer (some ⟨R, 0, none⟩), .string x] w fun e w' => e = .returned (.bool (s.is x)) ∧ RdAt w' R M (s.take x) ∧ Fr [R] w w' := by
 have his := is_any x h
 cases hb : s.is x with
 | true =>
  rw [hb] at his
  have ht : s.take x = s.tl := by unfold S.take; rw [hb]; rfl
  rw [ht]
  have hne := is_ne hb hx
  go_enter Tryz.func45, Tryz.ntmps45
  go_wp2_with fail
  refine his.mono ?_
  rintro e w1 ⟨rfl, hb1⟩
  go_wp2_with fail
  refine (step_any (h.below hb1) hne).mono ?_
  rintro e w2 ⟨rfl, h2, hf2, -⟩
  go_wp2
  go_ret
  exact ⟨rfl, h2, (Fr.below hb1).trans hf2⟩
 | false =>
  rw [hb] at his
  have ht : s.take x = s := by unfold S.take; rw [hb]; rfl
  rw [ht]
  go_enter Tryz.func45, Tryz.ntmps45
  go_wp2_with fail
  refine his.mono ?_
  rintro e w1 ⟨rfl, hb1⟩
  go_wp2
  go_ret
  exact ⟨rfl, h.below hb1, Fr.below hb1⟩
theorem Rd.setEr {w : World} {R M g o cap : Nat} {s : Pa.S} (h : Rd w R M s g o cap) (c : Int) : Rd (w.setCell ⟨R, 2, none⟩ (.int .i64 c)) R M ⟨s.tk, c⟩ g o cap := by
 refine ⟨?_, fun j v hv => (World.cell?_of_block (w := w) (Below.heap_setCell _ _ _ _ h.gR)).trans (h.tok j v hv), h.gR, (by obtain ⟨cs, fr, ht⟩ := h.tb; exact ⟨cs, fr, (Below.heap_setCell _ _ _ _ h.gR).trans ht⟩), h.cap, h.str.keep (Below.heap_setCell _ _ _ _ h.mR), h.mR, h.ok⟩
 rw [heap_setCell_same _ _ _ _ _ _ h.box]
 simp
theorem Rd.setTok {w : World} {R M g o cap : Nat} {s : Pa.S} (h : Rd w R M s g o cap) {t : Tk} (ht : t.tx.size ≤ 8192 ∧ t.at_ ≤ 8192) (hk : t.kd = 0) (hx : t.tx = ⟨#[]⟩) {g1 : Nat} (hg : ∃ cs fr, w.heap[g1]? = some (.cells cs 63 fr)) (hgR : g1 ≠ R) (hr : w.rangeAt g1 0 (tkL t)) :
  Rd (w.setCell ⟨R, 0, none⟩ (.slice (some ⟨g1, 0, none⟩) 1 1)) R M ⟨[t], s.er⟩ g1 0 1 := by
 refine ⟨?_, fun j v hv => (World.cell?_of_block (w := w) (Below.heap_setCell _ _ _ _ hgR)).trans (hr j v (by simpa [tksL] using hv)), hgR, (by obtain ⟨cs, fr, ht⟩ := hg; exact ⟨cs, fr, (Below.heap_setCell _ _ _ _ hgR).trans ht⟩), by unfold maxLen; simp, h.str.keep (Below.heap_setCell _ _ _ _ h.mR), h.mR, ⟨⟨[], t.at_, by rw [show t = ⟨0, ⟨#[]⟩, t.at_⟩ from by cases t; simp only at hk hx; rw [hk, hx]]; rfl⟩, fun u hu => by simp at hu; rw [hu]; exact ht⟩⟩
 rw [heap_setCell_same _ _ _ _ _ _ h.box]
 simp
set_option maxHeartbeats 1000000 in
theorem fail_any {w : World} {R M : Nat} {s : Pa.S} (c : Int) (hc : 1 ≤ c ∧ c ≤ 1000) (h : RdAt w R M s) :
  Calls Tryz.prog 73 #[.pointer (some ⟨R, 0, none⟩), .int .i64 c] w fun e w' => e = .returned (.tuple #[]) ∧ RdAt w' R M (s.fail c) ∧ Fr [R] w w' := by
 have F2 := tf2
 have hfo := fail_ok h.ok c
 have hat := h.ok.hd.2
 have hR := h.lt
 obtain ⟨g, o, cap, h⟩ := h
 obtain ⟨-, -, c2⟩ := h.cells
 have hf0 := h.free 0
 have hf2 := h.free 2
 by_cases he : s.er = 0
 ·have hF : s.fail c = ⟨[⟨0, ⟨#[]⟩, s.hd.at_⟩], c⟩ := by unfold S.fail; rw [if_pos he]
  rw [hF]
  have hb : (s.er == 0) = true := by rw [he]; rfl
  have h2 := h.setEr c
  have hn := now_any ⟨g, o, cap, h2⟩
  have hd : Pa.S.hd ⟨s.tk, c⟩ = s.hd := rfl
  rw [hd] at hn
  have H := Lib.hid h2
  clear he hF h h2
  go_enter Tryz.func73, Tryz.ntmps73
  go_wp2_with fail
  refine hn.mono ?_
  rintro e w1 ⟨rfl, hb1⟩
  have h3 := H.out.keep hb1.block hb1.size
  have hz := hb1.size
  simp only [World.setCell, Array.size_modify] at hz
  have hfr : (w1.alloc (.cells #[.int .i64 0, .string ⟨#[]⟩, .int .i64 s.hd.at_] 63)).frozen? ⟨R, 0, none⟩ = false := by
   have h4 := h3.keep (w' := w1.alloc (.cells #[.int .i64 0, .string ⟨#[]⟩, .int .i64 s.hd.at_] 63)) (Below.heap_alloc _ _) (by simp)
   exact h4.free 0
  have hcc : (w1.alloc (.cells #[.int .i64 0, .string ⟨#[]⟩, .int .i64 s.hd.at_] 63)).cell? ⟨R, 0, none⟩ = some (.slice (some ⟨g, o, none⟩) s.tk.length cap) := by
   have h4 := h3.keep (w' := w1.alloc (.cells #[.int .i64 0, .string ⟨#[]⟩, .int .i64 s.hd.at_] 63)) (Below.heap_alloc _ _) (by simp)
   exact h4.cells.1
  have H3 := Lib.hid h3
  clear h3
  go_wp2
  go_end0
  have h4 := H3.out.keep (w' := w1.alloc (.cells #[.int .i64 0, .string ⟨#[]⟩, .int .i64 s.hd.at_] 63)) (Below.heap_alloc _ _) (by simp)
  refine ⟨rfl, ⟨w1.heap.size, 0, 1, ?_⟩, ?_⟩
  ·refine h4.setTok (t := ⟨0, ⟨#[]⟩, s.hd.at_⟩) ⟨by show 0 ≤ 8192; omega, hat⟩ rfl rfl ⟨_, _, heap_alloc_new _ _⟩ (by omega) ?_
   intro j v hv
   rw [Nat.zero_add, World.cell?_alloc_new]
   simpa [tkL] using hv
  ·exact (((Fr.set w R 2 _ (by simp)).trans (Fr.below hb1)).alloc _).trans (Fr.set _ _ _ _ (by simp))
 ·have hF : s.fail c = s := by unfold S.fail; rw [if_neg he]
  rw [hF]
  have hb : (s.er == 0) = false := beq_eq_false_iff_ne.mpr he
  have H := Lib.hid h
  clear he h hF
  go_enter Tryz.func73, Tryz.ntmps73
  go_wp2
  go_end0
  exact ⟨rfl, ⟨g, o, cap, H.out⟩, Fr.refl _ _⟩
set_option maxHeartbeats 1000000 in
theorem want_any {w : World} {R M : Nat} {s : Pa.S} (x : ByteArray) (hx : x ≠ ⟨#[]⟩) (h : RdAt w R M s) :
  Calls Tryz.prog 48 #[.pointer (some ⟨R, 0, none⟩), .string x] w fun e w' => e = .returned (.tuple #[]) ∧ RdAt w' R M (s.want x) ∧ Fr [R] w w' := by
 have hta := take_any x hx h
 cases hb : s.is x with
 | true =>
  have ht : s.want x = s.take x := by unfold S.want S.take; rw [hb]; rfl
  rw [ht]
  rw [hb] at hta
  go_enter Tryz.func48, Tryz.ntmps48
  go_wp2_with fail
  refine hta.mono ?_
  rintro e w1 ⟨rfl, h1, hf1⟩
  go_wp2
  go_end0
  exact ⟨rfl, h1, hf1⟩
 | false =>
  have ht : s.want x = s.fail 11 := by unfold S.want; rw [hb]; rfl
  have ht2 : s.take x = s := by unfold S.take; rw [hb]; rfl
  rw [ht]
  rw [hb, ht2] at hta
  go_enter Tryz.func48, Tryz.ntmps48
  go_wp2_with fail
  refine hta.mono ?_
  rintro e w1 ⟨rfl, h1, hf1⟩
  go_wp2_with fail
  refine (fail_any 11 (by omega) h1).mono ?_
  rintro e w2 ⟨rfl, h2, hf2⟩
  go_wp2
  go_end0
  exact ⟨rfl, h2, hf1.trans hf2⟩
set_option maxHeartbeats 1000000 in
theorem one_any {w : World} {R M : Nat} {s : Pa.S} (k : Int) (hk : k = 1 ∨ k = 2) (h : RdAt w R M s) :
  Calls Tryz.prog 66 #[.pointer (some ⟨R, 0, none⟩), .int .i64 k] w fun e w' => e = .returned (.string (s.oneT k)) ∧ RdAt w' R M (s.one k) ∧ Fr [R] w w' := by
 have hn := now_any h
 by_cases he : s.hd.kd = k
 ·have hne : s.hd.tx ≠ ⟨#[]⟩ ∨ s.hd.kd ≠ 0 := .inr (by omega)
  have h1 : s.oneT k = s.hd.tx := by unfold S.oneT; rw [if_pos he]
  have h2 : s.one k = s.tl := by unfold S.one; rw [if_pos he]
  rw [h1, h2]
  have hb : (s.hd.kd != k) = false := by rw [he]; simp
  have HK := Lib.hid hk
  clear h1 h2 he hk
  go_enter Tryz.func66, Tryz.ntmps66
  go_wp2_with fail
  refine hn.mono ?_
  rintro e w1 ⟨rfl, hb1⟩
  go_wp2_with fail
  have h3 : RdAt (w1.alloc (.cells #[.int .i64 s.hd.kd, .string s.hd.tx, .int .i64 s.hd.at_] 63)) R M s := (h.below hb1).below ((Below.refl _ _).alloc (Nat.le_refl _) _)
  have hz := hb1.size
  have hR := h.lt
  refine (step_any h3 hne).mono ?_
  rintro e w2 ⟨rfl, h4, hf4, hz4⟩
  have hc : w2.heap[w1.heap.size]? = some (.cells #[.int .i64 s.hd.kd, .string s.hd.tx, .int .i64 s.hd.at_] 63) := hf4.at_ (heap_alloc_new _ _) (by simp; omega)
  have hc1 : w2.cell? ⟨w1.heap.size, 1, none⟩ = some (.string s.hd.tx) := cell_of_row _ _ _ _ _ _ hc
  clear hc hz4 h3
  go_wp2
  go_ret
  exact ⟨rfl, h4, ((Fr.below hb1).alloc _).trans hf4⟩
 ·have h1 : s.oneT k = ⟨#[]⟩ := by unfold S.oneT; rw [if_neg he]
  have h2 : s.one k = s.fail 11 := by unfold S.one; rw [if_neg he]
  rw [h1, h2]
  have hb : (s.hd.kd != k) = true := by simpa using he
  have HK := Lib.hid hk
  clear h1 h2 he hk
  go_enter Tryz.func66, Tryz.ntmps66
  go_wp2_with fail
  refine hn.mono ?_
  rintro e w1 ⟨rfl, hb1⟩
  go_wp2_with fail
  have h3 : RdAt (w1.alloc (.cells #[.int .i64 s.hd.kd, .string s.hd.tx, .int .i64 s.hd.at_] 63)) R M s := (h.below hb1).below ((Below.refl _ _).alloc (Nat.le_refl _) _)
  refine (fail_any 11 (by omega) h3).mono ?_
  rintro e w2 ⟨rfl, h4, hf4⟩
  go_wp2
  go_ret
  exact ⟨rfl, h4, ((Fr.below hb1).alloc _).trans hf4⟩
theorem results_cell {fn : Func} {p : Tmp} {ty : TypeId} (h : fn.results = #[.cell p ty]) (tmps : Array Value) (P : Program) (w : World) :
  (results fn tmps).run P w = ((asAddr (tmps.getD p undef)).run P w).andThen fun a w₁ => (loadVar ty a).run P w₁ := by
 simp only [results, h]
 simp [Sem.run_bind, Result.andThen]
theorem ret_row {P : Program} {fn : Func} {p : Tmp} {ty : TypeId} (h : fn.results = #[.cell p ty]) {Q : Ending → World → Prop} {a : Act} {w : World} (g : Nat) (t : TypeId) (cs : Array Value) (d : TypeDesc) (hdf : a.defers = [])
  (hp : a.tmps.getD p undef = .pointer (some ⟨g, 0, none⟩)) (hg : w.heap[g]? = some (.cells cs t)) (hu : P.underlying ty = some d) (hd : (match d with | .struct _ | .array _ _ => true | _ => false) = true) (hi : (P.info? ty).map (·.size) = some cs.size)
  (hQ : Q (.returned (.agg cs)) w) : bodyPost P fn Q .ret a w :=
 bodyPost_ret (v := .agg cs) (by rw [results_cell h]; simp [hp, asAddr, run_loadVar_row w g t ty cs (0, 0) d hg hu hd hi, Result.andThen]) hdf hQ
theorem sizeTk : (Tryz.prog.info? 63).map (·.size) = some 3 := by kernel_rfl
theorem sizeTy : (Tryz.prog.info? 37).map (·.size) = some 3 := by kernel_rfl
theorem sizeVa : (Tryz.prog.info? 42).map (·.size) = some 6 := by kernel_rfl
theorem sizeEx : (Tryz.prog.info? 39).map (·.size) = some 9 := by kernel_rfl
theorem sizeSt : (Tryz.prog.info? 44).map (·.size) = some 10 := by kernel_rfl
theorem sizeFd : (Tryz.prog.info? 77).map (·.size) = some 5 := by kernel_rfl
theorem sizeSr : (Tryz.prog.info? 75).map (·.size) = some 3 := by kernel_rfl
theorem sizeFn : (Tryz.prog.info? 46).map (·.size) = some 16 := by kernel_rfl
theorem sizePr : (Tryz.prog.info? 27).map (·.size) = some 3 := by kernel_rfl
structure Up (X : World) (g : Nat) (cs : Array Value) (t : TypeId) (Y : World) : Prop where
 at_ : Y.heap[g]? = some (.cells cs t)
 oth : ∀ k, k ≠ g → Y.heap[k]? = X.heap[k]?
 size : Y.heap.size = X.heap.size
 os : Y.os = X.os
 tape : Y.tape = X.tape
 output : Y.output = X.output
theorem up_setRow {X : World} {g : Nat} {old cs : Array Value} {t : TypeId} (hg : X.heap[g]? = some (.cells old t)) : Up X g cs t (X.setRow g cs) :=
 ⟨setRow_heap X g old cs t (0, 0) hg, fun k hk => setRow_other X g k cs hk, by simp, rfl, rfl, rfl⟩
theorem Up.fr {X Y : World} {g : Nat} {cs : Array Value} {t : TypeId} (h : Up X g cs t Y) {S : List Nat} (hg : g ∈ S) : Fr S X Y := ⟨h.os, h.tape, h.output, Nat.le_of_eq h.size.symm, fun k _ hk => h.oth k fun e => hk (e ▸ hg)⟩
theorem Up.below {X Y w : World} {g : Nat} {cs : Array Value} {t : TypeId} {B : Nat} (h : Up X g cs t Y) (hb : Below B w X) (hg : B ≤ g) : Below B w Y := ⟨h.os.trans hb.os, h.tape.trans hb.tape, h.output.trans hb.output, h.size ▸ hb.size, fun k hk => (h.oth k (by omega)).trans (hb.block k hk)⟩
theorem wpList_store_up {P : Program} {ops : Array Oper} {rest : List Oper} {o : Oper} {a : Act} {w : World} {Q : Exit → Act → World → Prop} (hgd : o.guard = none) (ty : TypeId) (x y : Operand) (ho : o.op = .store ty x y)
  (g : Nat) (cells : Array Value) (hx : a.eval x = .pointer (some ⟨g, 0, none⟩)) (hy : a.eval y = .agg cells)
  (t : TypeId) (old : Array Value) (hg : w.heap[g]? = some (.cells old t)) (hi : (P.info? ty).map (·.size) = some cells.size)
  (hold : old.size = cells.size) (h1 : cells.all (·.oneCell') = true)
  (h : ∀ Y, Up w g cells t Y → wpList P ops Q rest (a.put o.dst undef) Y) : wpList P ops Q (o :: rest) a w :=
 wpList_store_row hgd ty x y ho g cells hx hy t old hg hi hold h1 (h _ (up_setRow hg))
theorem ldG {P : Program} {ops : Array Oper} {rest : List Oper} {Q : Exit → Act → World → Prop} {a : Act} {w : World} {dst : Option Tmp} {ty : TypeId} {pos : String} {af : Array Edge} {x : Operand} (t : TypeId) (g : Nat) {cs : Array Value} {d : TypeDesc}
  (hx : a.eval x = .pointer (some ⟨g, 0, none⟩)) (hg : w.heap[g]? = some (.cells cs t)) (hu : P.underlying t = some d) (hd : (match d with | .struct _ | .array _ _ => true | _ => false) = true) (hi : (P.info? t).map (·.size) = some cs.size)
  (h : wpList P ops Q rest (a.put dst (.agg cs)) w) : wpList P ops Q (⟨dst, .load t x, ty, pos, af, none⟩ :: rest) a w :=
 wpList_load_row rfl _ x rfl g hx _ cs (0, 0) _ hg hu hd hi h
theorem stG {P : Program} {ops : Array Oper} {rest : List Oper} {Q : Exit → Act → World → Prop} {a : Act} {w : World} {dst : Option Tmp} {ty : TypeId} {pos : String} {af : Array Edge} {x y : Operand} (t : TypeId) (g : Nat) (cs : Array Value) {old : Array Value}
  (hx : a.eval x = .pointer (some ⟨g, 0, none⟩)) (hy : a.eval y = .agg cs) (hg : w.heap[g]? = some (.cells old t)) (hi : (P.info? t).map (·.size) = some cs.size) (ho : old.size = cs.size) (ha : cs.all (·.oneCell') = true)
  (h : ∀ Y, Up w g cs t Y → wpList P ops Q rest (a.put dst undef) Y) : wpList P ops Q (⟨dst, .store t x y, ty, pos, af, none⟩ :: rest) a w :=
 wpList_store_up rfl _ x y rfl g cs hx hy _ old hg hi ho ha h
theorem strNe {a : ByteArray} (l : List UInt8) (h : ¬ a = ⟨l.toArray⟩) : (a.toList == l) = false := by
 have := strEq a ⟨l.toArray⟩
 rw [Lib.toList_data ⟨l.toArray⟩] at this
 rw [← decide_eq_false h]; exact this
set_option maxHeartbeats 1000000 in
theorem baseOf_any (w : World) (kd : Int) (tx : ByteArray) (at_ : Nat) :
  Calls Tryz.prog 88 #[.agg #[.int .i64 kd, .string tx, .int .i64 at_]] w fun e w' => e = .returned (.tuple #[.int .i64 ((baseV tx).getD 0), .bool (baseV tx).isSome]) ∧ Below w.heap.size w w' := by
 unfold baseV
 by_cases h0 : tx = ⟨#[118, 111, 105, 100]⟩
 ·subst h0
  go_enter Tryz.func88, Tryz.ntmps88
  go_wp2
  go_ret2
  exact ⟨rfl, (Below.refl _ _).alloc (Nat.le_refl _) _⟩
 have n0 := strNe [118, 111, 105, 100] h0
 rw [if_neg h0]
 by_cases h1 : tx = ⟨#[99, 104, 97, 114]⟩
 ·subst h1
  go_enter Tryz.func88, Tryz.ntmps88
  go_wp2
  go_ret2
  exact ⟨rfl, (Below.refl _ _).alloc (Nat.le_refl _) _⟩
 have n1 := strNe [99, 104, 97, 114] h1
 rw [if_neg h1]
 by_cases h2 : tx = ⟨#[105, 110, 116]⟩
 ·subst h2
  go_enter Tryz.func88, Tryz.ntmps88
  go_wp2
  go_ret2
  exact ⟨rfl, (Below.refl _ _).alloc (Nat.le_refl _) _⟩
 have n2 := strNe [105, 110, 116] h2
 rw [if_neg h2]
 by_cases h3 : tx = ⟨#[108, 111, 110, 103]⟩
 ·subst h3
  go_enter Tryz.func88, Tryz.ntmps88
  go_wp2
  go_ret2
  exact ⟨rfl, (Below.refl _ _).alloc (Nat.le_refl _) _⟩
 have n3 := strNe [108, 111, 110, 103] h3
 rw [if_neg h3]
 by_cases h4 : tx = ⟨#[115, 116, 114, 117, 99, 116]⟩
 ·subst h4
  go_enter Tryz.func88, Tryz.ntmps88
  go_wp2
  go_ret2
  exact ⟨rfl, (Below.refl _ _).alloc (Nat.le_refl _) _⟩
 have n4 := strNe [115, 116, 114, 117, 99, 116] h4
 rw [if_neg h4]
 clear h0 h1 h2 h3 h4
 go_enter Tryz.func88, Tryz.ntmps88
 go_wp2
 go_ret2
 exact ⟨rfl, (Below.refl _ _).alloc (Nat.le_refl _) _⟩
set_option maxHeartbeats 1000000 in
theorem ahead_any {w : World} {R M : Nat} {s : Pa.S} (n : Nat) (hn : n ≤ 2) (h : RdAt w R M s) :
  Calls Tryz.prog 42 #[.pointer (some ⟨R, 0, none⟩), .int .i64 n] w fun e w' => e = .returned (.agg #[.int .i64 (s.ahead n).kd, .string (s.ahead n).tx, .int .i64 (s.ahead n).at_]) ∧ Below w.heap.size w w' := by
 have hpos := h.ok.pos
 obtain ⟨g, o, cap, h⟩ := h
 obtain ⟨c0, -, -⟩ := h.cells
 have hcap := h.cap
 have hgl := h.gl
 have hRl := lt_of_at h.box
 unfold maxLen at hcap
 have hk : min n (s.tk.length - 1) < s.tk.length := by omega
 have hm : min (n : Int) ((s.tk.length : Int) - 1) = ((min n (s.tk.length - 1) : Nat) : Int) := by
  rcases Nat.le_total n (s.tk.length - 1) with h | h
  ·rw [Nat.min_eq_left h, Int.min_eq_left (by omega)]
  ·rw [Nat.min_eq_right h, Int.min_eq_right (by omega)]; omega
 have ht : ∀ j v, (tkL (s.ahead n))[j]? = some v → w.cell? ⟨g, o + min n (s.tk.length - 1) * 3 + j, none⟩ = some v := by
  intro j v hv
  have hj : j < 3 := by have := (List.getElem?_eq_some_iff.1 hv).1; simpa [tkL] using this
  rw [Nat.add_assoc]
  refine h.tok _ v ?_
  rw [← hv]
  unfold Pa.S.ahead
  generalize min n (s.tk.length - 1) = k at *
  clear hm hcap h c0 hv hpos
  generalize s.tk = T at *
  induction T generalizing k with
  | nil => simp at hk
  | cons t T ih =>
   cases k with
   | zero =>
    show (tkL t ++ tksL T)[0 * 3 + j]? = _
    rw [List.getElem?_append_left (by simp [tkL]; omega)]
    simp
   | succ k =>
    show (tkL t ++ tksL T)[(k + 1) * 3 + j]? = _
    have h3 : (tkL t).length = 3 := rfl
    rw [List.getElem?_append_right (by omega), show (k + 1) * 3 + j - (tkL t).length = k * 3 + j by omega, ih k (by simpa using hk)]
    simp
 have t0 := ht 0 _ rfl
 have t1 := ht 1 _ rfl
 have t2 := ht 2 _ rfl
 have hw : IntKind.i64.wrap ((s.tk.length : Int) - 1) = (s.tk.length : Int) - 1 := IntWalk.i64_in _ (by omega)
 clear ht h
 generalize s.ahead n = t at *
 generalize s.tk.length = L at *
 generalize hq : min n (L - 1) = q at *
 have HQ := Lib.hid hq
 clear hq
 go_enter Tryz.func42, Tryz.ntmps42
 go_wp2_with fail
 have hc := fun (b : Nat) (hb : b < w.heap.size) (i : Nat) => World.cell?_of_block (w := w) (w' := w.alloc (.cells #[.int .i64 0, .string ⟨#[]⟩, .int .i64 0] 63)) (a := ⟨b, i, none⟩) (Below.heap_alloc _ _ b hb)
 have hc2 := heap_alloc_new w (.cells #[.int .i64 0, .string ⟨#[]⟩, .int .i64 0] 63)
 have hbl := (Below.refl w.heap.size w).alloc (Nat.le_refl _) (.cells #[.int .i64 0, .string ⟨#[]⟩, .int .i64 0] 63)
 generalize w.alloc (.cells #[.int .i64 0, .string ⟨#[]⟩, .int .i64 0] 63) = Z at *
 have c0z : Z.drew.cell? ⟨R, 0, none⟩ = some (.slice (some ⟨g, o, none⟩) L cap) := (hc R hRl 0).trans c0
 have t0z : Z.drew.cell? ⟨g, o + q * 3, none⟩ = some (.int .i64 t.kd) := (hc g hgl _).trans t0
 have t1z : Z.drew.cell? ⟨g, o + q * 3 + 1, none⟩ = some (.string t.tx) := (hc g hgl _).trans t1
 have t2z : Z.drew.cell? ⟨g, o + q * 3 + 2, none⟩ = some (.int .i64 t.at_) := (hc g hgl _).trans t2
 have HC2 := Lib.hid (show Z.drew.heap[w.heap.size]? = _ from hc2)
 have HBL := Lib.hid hbl.drew
 clear c0 t0 t1 t2 hc hc2 hbl
 go_still_tail 14, (by kernel_rfl)
 change wpList _ _ _ _ _ Z.drew
 generalize Z.drew = Y at *
 refine wpList_store_up rfl 63 (.tmp 4) (.tmp 18) rfl w.heap.size #[.int .i64 t.kd, .string t.tx, .int .i64 t.at_] rfl rfl 63 _ HC2.out sizeTk rfl (by simp [Value.oneCell']) ?_
 intro V hV
 have HV := Lib.hid hV
 clear hV c0z t0z t1z t2z hm hw
 go_wp2
 exact ret_row Tryz.results42 w.heap.size 63 _ _ rfl rfl HV.out.at_ Tryz.underlying63 rfl sizeTk ⟨rfl, HV.out.below HBL.out (Nat.le_refl _)⟩
end Go.Proofs.YtfjobnljdkiihaaGreatDoor
