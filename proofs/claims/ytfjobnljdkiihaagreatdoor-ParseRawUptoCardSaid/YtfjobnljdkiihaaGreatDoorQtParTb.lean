/- Lists of fields, and of params. Conditions: each theorem's. -/
import Derived.Test.YtfjobnljdkiihaaGreatDoorQtParSf
namespace Go.Proofs.YtfjobnljdkiihaaGreatDoor
open Go.RowKit Go.Maps
set_option linter.unusedVariables false
set_option linter.unusedSimpArgs false
set_option maxRecDepth 100000
open Lx Pa
structure AllS (f : Nat) : Prop where
 s : StmtC f
 b : BlockC f
 u : UntC f
theorem allS : ∀ f, AllS f := by
 intro f
 induction f using Nat.strongRecOn with
 | _ f ih =>
  have hu : UntC f := unt_step fun g hg => (ih g hg).s
  cases f with
  | zero =>
   refine ⟨?_, ?_, hu⟩
   ·intro R M d s w h hf; have := h.ok.pos; omega
   ·intro R M d s w h hf; have := h.ok.pos; omega
  | succ f =>
   have F := ih f (by omega)
   exact ⟨stmt_walk (allC f).e F.s F.b, block_step F.u, hu⟩
theorem builtFd (x : PFd) : Tryz.prog.built 77 [(0, .string x.nm), (1, .agg #[.int .i64 x.ty.ba, .int .i64 x.ty.st, .string x.ty.rc]), (2, .int .i64 x.at_)] = some (fdL x).toArray := by kernel_rfl
theorem oneFd (x : PFd) : (fdL x).toArray.all (·.oneCell') = true := by simp [Value.oneCell']
theorem oneVa (x : PVa) : (vaL x).toArray.all (·.oneCell') = true := by simp [Value.oneCell']
def fldOf (v : PVa) : PFd := ⟨v.nm, v.ty, v.at_⟩
set_option maxHeartbeats 4000000 in
theorem field_any {R M : Nat} {s : Pa.S} {w : World} (h : RdAt w R M s) :
  Calls Tryz.prog 68 #[.pointer (some ⟨R, 0, none⟩)] w fun e w' => e = .returned (.agg (fdL (fldOf (namedV s).1)).toArray) ∧ RdAt w' R M ((namedV s).2.want ⟨#[59]⟩) ∧ Fr [R] w w' := by
 have hR := h.lt
 have h0 := h.alloc (.cells (fdL ⟨⟨#[]⟩, ty0, 0⟩).toArray 77)
 have HR0 := Lib.hid (heap_alloc_new w (.cells (fdL ⟨⟨#[]⟩, ty0, 0⟩).toArray 77))
 have HS0 := Lib.hid (szA w (.cells (fdL ⟨⟨#[]⟩, ty0, 0⟩).toArray 77))
 have hnm := named_any h0
 generalize (namedV s).1 = v at *
 generalize (namedV s).2 = s1 at *
 go_enter Tryz.func68, Tryz.ntmps68
 go_wp2_with fail
 refine hnm.mono ?_
 rintro e w1 ⟨rfl, h1, f1⟩
 clear hnm
 have z1 : w.heap.size + 1 ≤ w1.heap.size := by have := f1.size; rw [HS0.out] at this; exact this
 have HR1 := Lib.hid (f1.at_ HR0.out (by simp; omega))
 have F1 := ((Fr.refl [R] w).alloc (.cells (fdL ⟨⟨#[]⟩, ty0, 0⟩).toArray 77)).trans f1
 have h2 := h1.alloc (.cells (vaC v) 42)
 have HR2 := Lib.hid (bl1 w1 (.cells (vaC v) 42) HR1.out (by omega))
 have HB2 := Lib.hid (heap_alloc_new w1 (.cells (vaC v) 42))
 have F2 := F1.alloc (.cells (vaC v) 42)
 generalize hb : w1.heap.size = b at *
 go_wp2_with fail
 refine (want_any ⟨#[59]⟩ (by decide) h2).mono ?_
 rintro e w3 ⟨rfl, h3, f3⟩
 have HR3 := Lib.hid (f3.at_ HR2.out (by simp; omega))
 have hb3 := f3.at_ HB2.out (by simp; omega)
 have c0 : w3.cell? ⟨b, 0, none⟩ = some (.string v.nm) := cell_of_row _ _ _ _ _ _ hb3
 have c1 : w3.cell? ⟨b, 1, none⟩ = some (.int .i64 v.ty.ba) := cell_of_row _ _ _ _ _ _ hb3
 have c2 : w3.cell? ⟨b, 2, none⟩ = some (.int .i64 v.ty.st) := cell_of_row _ _ _ _ _ _ hb3
 have c3 : w3.cell? ⟨b, 3, none⟩ = some (.string v.ty.rc) := cell_of_row _ _ _ _ _ _ hb3
 have c5 : w3.cell? ⟨b, 5, none⟩ = some (.int .i64 v.at_) := cell_of_row _ _ _ _ _ _ hb3
 clear hb3
 go_wp2_with (first | ((with_reducible refine bdT 77 _ _ (builtFd (fldOf v)) ?_ ?_); rfl) | ((with_reducible refine stR 77 5 sizeFd w.heap.size (c := fdL (fldOf v)) rfl (oneFd _) HR3.out rfl ?_ ?_ ?_); rfl; rfl; intro Y hY; have HY9 := Lib.hid hY; clear hY))
 refine ret_row Tryz.results68 w.heap.size 77 _ _ rfl rfl HY9.out.at_ Tryz.underlying77 rfl sizeFd ?_
 exact ⟨rfl, h3.up HY9.out HR3.out (by decide) (by decide), (F2.trans f3).up HY9.out (Nat.le_refl _)⟩
abbrev fdZ : Array Value := (fdL ⟨⟨#[]⟩, ty0, 0⟩).toArray
theorem infoFd5 : (Tryz.prog.info? 77).map (fun i => (i.zero, i.size, i.bytes)) = some (some (.agg fdZ), 5, 56) := by kernel_rfl
theorem infoFdz : (Tryz.prog.info? 77).map (fun i => (i.zero, i.size)) = some (some (.agg fdZ), 5) := by kernel_rfl
abbrev vaZ : Array Value := (vaL va0).toArray
theorem infoVa6 : (Tryz.prog.info? 42).map (fun i => (i.zero, i.size, i.bytes)) = some (some (.agg vaZ), 6, 64) := by kernel_rfl
theorem infoVaz : (Tryz.prog.info? 42).map (fun i => (i.zero, i.size)) = some (some (.agg vaZ), 6) := by kernel_rfl
theorem fd_at (w : World) (S : Nat → Prop) (x : PFd) : fdE.At w S x (fdL x) := rfl
theorem va_at (w : World) (S : Nat → Prop) (x : PVa) : vaE.At w S x (vaL x) := rfl
def PostLF (w : World) (R M : Nat) (l : List PFd) (s' : Pa.S) (e : Ending) (w' : World) : Prop :=
 ∃ v : Value, e = .returned v ∧ LAt fdE w' (fun g => w.heap.size ≤ g) l v ∧ RdAt w' R M s' ∧ Fr [R] w w'
def PostLV (w : World) (R M : Nat) (l : List PVa) (s' : Pa.S) (e : Ending) (w' : World) : Prop :=
 ∃ v : Value, e = .returned v ∧ LAt vaE w' (fun g => w.heap.size ≤ g) l v ∧ RdAt w' R M s' ∧ Fr [R] w w'
set_option maxHeartbeats 16000000 in
theorem untF_any {R M : Nat} {s : Pa.S} {w : World} (h : RdAt w R M s) (hn : s.tk.length ≤ 7500) :
  Calls Tryz.prog 67 #[.pointer (some ⟨R, 0, none⟩), .string ⟨#[125]⟩, .func (.func 68) #[.pointer (some ⟨R, 0, none⟩)] #[]] w (PostLF w R M (untF (s.tk.length + 1) [] s).1 (untF (s.tk.length + 1) [] s).2) := by
 have hR := h.lt
 obtain ⟨i0, hi0, hz0, hz1, hz2⟩ := info_parts infoFd5
 go_enter Tryz.func67, Tryz.ntmps67
 go_wp2
 go_loopw [7] (fun v wr => ∃ (g : Nat) (l : List PFd) (s1 : Pa.S), (s1.er = 0 → s1.tk.length + 1 ≤ g ∧ l.length + s1.tk.length ≤ 7500) ∧ Hid (untF (s.tk.length + 1) [] s = untF g l s1) ∧ l.length ≤ 7500 ∧ Own fdE 77 wr w.heap.size l v ∧ RdAt wr R M s1 ∧ Fr [R] w wr) (fun _ wr => rdM wr R)
 case atStart => exact ⟨_, [], s, fun he => ⟨Nat.le_refl _, by simp; omega⟩, Lib.hid rfl, by simp, Own.nil _ _ _ _, h, Fr.refl _ _⟩
 case round =>
  obtain ⟨g, l, s1, hfu, hst, hl6, hown, hrd, hfr⟩ := hrel
  have hpos := hrd.ok.pos
  have HMS := Lib.hid hrd.mz
  have zr := hfr.size
  have cw := hrd.er
  by_cases he : s1.er = 0
  ·obtain ⟨hfu, hl7⟩ := hfu he
   obtain ⟨g, rfl⟩ : ∃ g', g = g' + 1 := ⟨g - 1, by omega⟩
   have hE : untF (g + 1) l s1 = if s1.er ≠ 0 then (l, s1) else if s1.is ⟨#[125]⟩ then (l, s1.tl) else untF g (l ++ [fldOf (namedV s1).1]) ((namedV s1).2.want ⟨#[59]⟩) := by simp only [untF, fldOf]
   rw [if_neg (by simpa using he)] at hE
   have HE0 := Lib.hid hE
   clear hE
   have eb : (s1.er == 0) = true := by rw [he]; rfl
   have HER := Lib.hid he
   clear he
   obtain ⟨A, cap, rfl⟩ := hown.slice
   have hta := take_any ⟨#[125]⟩ (by decide) hrd
   cases hi1 : s1.is ⟨#[125]⟩ with
   | true =>
    rw [hi1, if_pos rfl] at HE0
    rw [hi1, take_tl hi1] at hta
    clear hi1
    go_wp2_with fail
    refine hta.mono ?_
    rintro e w4 ⟨rfl, h4, f4⟩
    clear hta
    have HO7 := hown.fr f4 (by simpa using hR)
    go_wp2
    go_ret
    rw [hst.out, HE0.out]
    exact ⟨_, rfl, HO7.list, h4, hfr.trans f4⟩
   | false =>
    rw [hi1, if_neg (by decide)] at HE0
    rw [hi1, take_no hi1] at hta
    clear hi1
    go_wp2_with fail
    refine hta.mono ?_
    rintro e w4 ⟨rfl, h4, f4⟩
    clear hta
    have z4 := f4.size
    have F4 := hfr.trans f4
    have hlit := field_any h4
    have hnl := named_lt h4.ok
    have hlt := hnl.trans (want_lt hnl.le.ok (x := ⟨#[59]⟩) (by decide)).le
    have hlen := hlt.le.len
    generalize fldOf (namedV s1).1 = y at *
    generalize (namedV s1).2.want ⟨#[59]⟩ = s2 at *
    go_wp2_with fail
    refine hlit.mono ?_
    rintro e w5 ⟨rfl, h5, f5⟩
    clear hlit
    have z5 := f5.size
    have HO6 := ((hown.fr f4 (by simpa using hR)).fr f5 (by simpa using hR)).alloc (.cells (fdL y).toArray 77)
    have h6' := h5.alloc (.cells (fdL y).toArray 77)
    have F6 := (F4.trans f5).alloc (.cells (fdL y).toArray 77)
    obtain ⟨rows, hrl, how, hel⟩ := HO6
    clear hown cw eb
    have HOW := Lib.hid how
    have HNW := Lib.hid (World.news_of_block (cs := (fdL y).toArray) (t := 77) (fr := (0, 0)) (heap_alloc_new w5 (.cells (fdL y).toArray 77)))
    go_wp2_with (first | ((with_reducible refine bs1 73 77 (.agg fdZ) 5 Tryz.underlying73 infoFdz (by decide) (by decide) (fdL y) rfl ?_ ?_); rfl) | (at_builtin; refine wpList_append_lies (o := ⟨some 23, _, _, _, _, _⟩) _ rfl (.tmp 19) (.tmp 22) 73 rfl w.heap.size 77 i0 (.agg fdZ) 5 56 Tryz.underlying73 hi0 hz0 hz1 hz2 rfl (by decide) _ _ _ rfl HOW.out ⟨w5.heap.size, 0, none⟩ 1 1 (fdL y) rfl rfl HNW.out (by simp [Value.oneCell']) (by omega) (by unfold maxLen; omega) (by omega) (by simp only [szA]; omega) _ rfl ?_; intro ga ca w7 hown7 hgrow7 hat7 hlt7))
    have HO7 := Own.push (E := fdE) hrl hel (fd_at _ _ y) rfl hown7 hgrow7 hat7
    have h7 := h6'.own how hgrow7 (by decide) (by decide)
    have F7 := F6.own how hgrow7
    go_wp2
    try simp only [Act.put]
    go_roundw
    case rel => exact ⟨g, l ++ [y], s2, fun he2 => ⟨by have := hlt.lt he2; omega, by have := hlt.lt he2; simp; omega⟩, Lib.hid (hst.out.trans HE0.out), by simp; omega, HO7, h7, F7⟩
    case measure =>
     rw [HMS.out, h7.mz, if_pos HER.out]
     by_cases he2 : s2.er = 0
     ·have := hlt.lt he2; rw [if_pos he2]; omega
     ·rw [if_neg he2]; omega
  ·have HE0 := Lib.hid (show untF g l s1 = (l, s1) by
    cases g with
    | zero => simp only [untF]
    | succ g => simp only [untF]; rw [if_pos he])
   have eb : (s1.er == 0) = false := by simpa using he
   clear he hfu
   obtain ⟨A, cap, rfl⟩ := hown.slice
   go_wp2
   go_ret
   rw [hst.out, HE0.out]
   exact ⟨_, rfl, hown.list, hrd, hfr⟩
set_option maxHeartbeats 16000000 in
theorem betP_any {R M : Nat} {s : Pa.S} {w : World} (h : RdAt w R M s) :
  Calls Tryz.prog 71 #[.pointer (some ⟨R, 0, none⟩), .func (.func 44) #[.pointer (some ⟨R, 0, none⟩)] #[]] w (PostLV w R M (betP s).1 (betP s).2) := by
 have hR := h.lt
 have HRUN := Lib.hid (show betP s = if s.is ⟨#[41]⟩ then ([], s.tl) else betPL ((namedV s).2.tk.length + 1) [(namedV s).1] (namedV s).2 from rfl)
 obtain ⟨i0, hi0, hz0, hz1, hz2⟩ := info_parts infoVa6
 have hta := take_any ⟨#[41]⟩ (by decide) h
 cases hi : s.is ⟨#[41]⟩ with
 | true =>
  rw [hi, if_pos rfl] at HRUN
  rw [hi, take_tl hi] at hta
  clear hi
  go_enter Tryz.func71, Tryz.ntmps71
  go_wp2_with fail
  refine hta.mono ?_
  rintro e w3 ⟨rfl, h3, f3⟩
  clear hta
  go_wp2
  go_ret
  rw [HRUN.out]
  exact ⟨_, rfl, LAt.nil vaE _ _, h3, f3⟩
 | false =>
  rw [hi, if_neg (by decide)] at HRUN
  rw [hi, take_no hi] at hta
  clear hi
  go_enter Tryz.func71, Tryz.ntmps71
  go_wp2_with fail
  refine hta.mono ?_
  rintro e w3 ⟨rfl, h3, f3⟩
  clear hta
  have z3 := f3.size
  have hlit := named_any h3
  generalize (namedV s).1 = x0 at *
  generalize (namedV s).2 = s0 at *
  go_wp2_with fail
  refine hlit.mono ?_
  rintro e w4 ⟨rfl, h4, f4⟩
  clear hlit
  have z4 := f4.size
  have h5 := h4.alloc (.cells (vaL x0).toArray 42)
  have F5 := (f3.trans f4).alloc (.cells (vaL x0).toArray 42)
  have HO5 : Own vaE 42 (w4.alloc (.cells (vaL x0).toArray 42)) w.heap.size [x0] (.slice (some ⟨w4.heap.size, 0, none⟩) 1 1) :=
   Own.made (E := vaE) (by omega) (heap_alloc_new w4 _) (va_at _ _ x0)
  go_wp2_with (((with_reducible refine bs1 24 42 (.agg vaZ) 6 Tryz.underlying24 infoVaz (by decide) (by decide) (vaL x0) rfl ?_ ?_); rfl))
  generalize w4.alloc (.cells (vaL x0).toArray 42) = W at *
  generalize (Value.slice (some ⟨w4.heap.size, 0, none⟩) 1 1) = v0 at *
  try simp only [Act.put]
  go_loopw [5] (fun v wr => ∃ (g : Nat) (l : List PVa) (s1 : Pa.S), s1.tk.length + 1 ≤ g ∧ Hid (betPL (s0.tk.length + 1) [x0] s0 = betPL g l s1) ∧ l.length ≤ 6 ∧ Own vaE 42 wr w.heap.size l v ∧ RdAt wr R M s1 ∧ Fr [R] w wr) (fun _ wr => rdLen wr R)
  case atStart => exact ⟨_, [x0], s0, Nat.le_refl _, Lib.hid rfl, by simp, HO5, h5, F5⟩
  case round =>
   obtain ⟨g, l, s1, hfu, hst, hl6, hown, hrd, hfr⟩ := hrel
   clear HO5 h5 F5 h4 f4 h3 f3
   have hpos := hrd.ok.pos
   obtain ⟨g, rfl⟩ : ∃ g', g = g' + 1 := ⟨g - 1, by omega⟩
   have HMS := Lib.hid hrd.len
   have hE : betPL (g + 1) l s1 = if s1.is ⟨#[44]⟩ then (if l.length = 6 then ([], s1.tl.fail 3) else betPL g (l ++ [(namedV s1.tl).1]) (namedV s1.tl).2) else (l, s1.want ⟨#[41]⟩) := by simp only [betPL]
   have HE0 := Lib.hid hE
   clear hE
   have zr := hfr.size
   obtain ⟨A, cap, rfl⟩ := hown.slice
   have hta := take_any ⟨#[44]⟩ (by decide) hrd
   cases hi1 : s1.is ⟨#[44]⟩ with
   | false =>
    rw [hi1, if_neg (by decide)] at HE0
    rw [hi1, take_no hi1] at hta
    clear hi1
    go_wp2_with fail
    refine hta.mono ?_
    rintro e w4 ⟨rfl, h4, f4⟩
    clear hta
    go_wp2_with fail
    refine (want_any ⟨#[41]⟩ (by decide) h4).mono ?_
    rintro e w7 ⟨rfl, h7, f7⟩
    have HO7 := (hown.fr f4 (by simpa using hR)).fr f7 (by simpa using hR)
    go_wp2
    go_ret
    rw [HRUN.out, hst.out, HE0.out]
    exact ⟨_, rfl, HO7.list, h7, (hfr.trans f4).trans f7⟩
   | true =>
    rw [hi1, if_pos rfl] at HE0
    rw [hi1, take_tl hi1] at hta
    have hne := is_ne hi1 (by decide)
    have htl := (tl_ok hrd.ok hne).2
    clear hi1
    by_cases h6 : l.length = 6
    ·have e6 : ((l.length : Int) == 6) = true := by rw [h6]; rfl
     rw [if_pos h6] at HE0
     clear h6
     go_wp2_with fail
     refine hta.mono ?_
     rintro e w4 ⟨rfl, h4, f4⟩
     clear hta
     go_wp2_with fail
     refine (fail_any 3 (by omega) h4).mono ?_
     rintro e w7 ⟨rfl, h7, f7⟩
     go_wp2
     go_ret
     rw [HRUN.out, hst.out, HE0.out]
     exact ⟨_, rfl, LAt.nil vaE _ _, h7, (hfr.trans f4).trans f7⟩
    ·have e6 : ((l.length : Int) == 6) = false := beq_eq_false_iff_ne.mpr (by omega)
     rw [if_neg h6] at HE0
     go_wp2_with fail
     refine hta.mono ?_
     rintro e w4 ⟨rfl, h4, f4⟩
     clear hta
     have z4 := f4.size
     have F4 := hfr.trans f4
     have hlit := named_any h4
     have hlen := (named_lt h4.ok).le.len
     generalize (namedV s1.tl).1 = y at *
     generalize (namedV s1.tl).2 = s2 at *
     go_wp2_with fail
     refine hlit.mono ?_
     rintro e w5 ⟨rfl, h5, f5⟩
     clear hlit
     have z5 := f5.size
     have HO6 := ((hown.fr f4 (by simpa using hR)).fr f5 (by simpa using hR)).alloc (.cells (vaL y).toArray 42)
     have h6' := h5.alloc (.cells (vaL y).toArray 42)
     have F6 := (F4.trans f5).alloc (.cells (vaL y).toArray 42)
     obtain ⟨rows, hrl, how, hel⟩ := HO6
     clear hown
     have HOW := Lib.hid how
     have HNW := Lib.hid (World.news_of_block (cs := (vaL y).toArray) (t := 42) (fr := (0, 0)) (heap_alloc_new w5 (.cells (vaL y).toArray 42)))
     go_wp2_with (first | ((with_reducible refine bs1 24 42 (.agg vaZ) 6 Tryz.underlying24 infoVaz (by decide) (by decide) (vaL y) rfl ?_ ?_); rfl) | (at_builtin; refine wpList_append_lies (o := ⟨some 22, _, _, _, _, _⟩) _ rfl (.tmp 18) (.tmp 21) 24 rfl w.heap.size 42 i0 (.agg vaZ) 6 64 Tryz.underlying24 hi0 hz0 hz1 hz2 rfl (by decide) _ _ _ rfl HOW.out ⟨w5.heap.size, 0, none⟩ 1 1 (vaL y) rfl rfl HNW.out (by simp [Value.oneCell']) (by omega) (by unfold maxLen; omega) (by omega) (by simp only [szA]; omega) _ rfl ?_; intro ga ca w7 hown7 hgrow7 hat7 hlt7))
     have HO7 := Own.push (E := vaE) hrl hel (va_at _ _ y) rfl hown7 hgrow7 hat7
     have h7 := h6'.own how hgrow7 (by decide) (by decide)
     have F7 := F6.own how hgrow7
     go_wp2
     try simp only [Act.put]
     go_roundw
     case rel => exact ⟨g, l ++ [y], s2, by omega, Lib.hid (hst.out.trans HE0.out), by simp; omega, HO7, h7, F7⟩
     case measure =>
      rw [HMS.out, h7.len]
      omega
end Go.Proofs.YtfjobnljdkiihaaGreatDoor
