/- Indices and fields. Conditions: each theorem's. -/
import Derived.Test.YtfjobnljdkiihaaGreatDoorQtParY
namespace Go.Proofs.YtfjobnljdkiihaaGreatDoor
open Go.RowKit Go.Maps
set_option linter.unusedVariables false
set_option linter.unusedSimpArgs false
set_option maxRecDepth 100000
open Lx Pa
noncomputable def rdLen (w : World) (R : Nat) : Nat := match w.cell? ⟨R, 0, none⟩ with
 | some (.slice _ n _) => n
 | _ => 0
theorem RdAt.len {w : World} {R M : Nat} {s : Pa.S} (h : RdAt w R M s) : rdLen w R = s.tk.length := by
 obtain ⟨g, o, cap, h⟩ := h
 unfold rdLen
 rw [h.cells.1]
theorem str_look {w : World} {M : Nat} (h : StrAt w M) (x : ByteArray) (hx : x.size ≤ 8192) : (Instr.lookup 57 (.map (some M)) (.string x) false).run Tryz.prog w = .ok (.int .i64 (strV x)) w := by
 obtain ⟨D, n, ho, hD⟩ := h
 obtain ⟨c, hrun, hat, -⟩ := ho.lookup_int keyStr Tryz.underlying57 Tryz.underlying3 (by kernel_rfl) (keyOfStr x (by unfold maxLen; omega))
 rw [hrun]
 have := hD x
 rw [hat] at this
 injection this with this
 injection this with _ this
 rw [this]
set_option maxHeartbeats 8000000 in
theorem bin_step {f : Nat} (HU : UnC f) (HB : ∀ g, g < f → BinC g) : BinC (f + 1) := by
 intro R M d l s w h hf hd hl1 hl2
 have hR := h.lt
 have F1T := tf1
 have hen : En (.un (d + 1)) s f := ⟨h.ok, by simp only [rank]; omega, trivial⟩
 have hlen := (runE_le f (.un (d + 1)) s hen).1.len
 have hrun : runE (f + 1) (.bin d l) s = runE f (.binL d l (hd1 (runE f (.un (d + 1)) s))) (runE f (.un (d + 1)) s).2 := by simp only [runE]
 have HRUN := Lib.hid hrun
 have h0 := h.alloc (.cells exZ 39)
 have HR0 := Lib.hid (heap_alloc_new w (.cells exZ 39))
 have HS0 := Lib.hid (szA w (.cells exZ 39))
 have hexp := HU R M (d + 1) s _ h0 (by omega) (by omega)
 rw [show ((d + 1 : Nat) : Int) = (d : Int) + 1 from rfl] at hexp
 clear hrun hen
 generalize hx : hd1 (runE f (.un (d + 1)) s) = x0 at *
 generalize hs1 : (runE f (.un (d + 1)) s).2 = s0 at *
 clear hx hs1
 go_enter Tryz.func133, Tryz.ntmps133
 go_wp2_with fail
 refine hexp.mono ?_
 rintro e w1 ⟨c0, rfl, hc, h1, f1⟩
 clear hexp
 have HR1 := Lib.hid (f1.at_ HR0.out (by simp; omega))
 have z1 : w.heap.size + 1 ≤ w1.heap.size := by have := f1.size; rw [HS0.out] at this; exact this
 have F1 := ((Fr.refl [R] w).alloc (.cells exZ 39)).trans f1
 have HC := Lib.hid hc.len
 have HA := Lib.hid (oneL hc)
 have h2 := h1.alloc (.cells c0.toArray 39)
 have HR2 : RowE (w1.alloc (.cells c0.toArray 39)) w.heap.size := (show RowE w1 w.heap.size from ⟨_, rfl, HR1.out⟩).alloc _
 have HB2 := Lib.hid (heap_alloc_new w1 (.cells c0.toArray 39))
 rw [HS0.out] at hc
 have HC2 := hc.all (.cells c0.toArray 39) (S' := fun g => w.heap.size + 1 ≤ g ∧ g ≠ w1.heap.size) (fun g hg hl => ⟨hg, by omega⟩)
 have F2 := F1.alloc (.cells c0.toArray 39)
 clear hc h1 f1 F1
 go_wp2_with (((with_reducible refine stNE w1.heap.size HC.out HA.out rfl ?_ ?_ ?_ ?_); rfl; rfl; rfl))
 generalize hb7 : w1.heap.size = b at *
 generalize w1.alloc (.cells c0.toArray 39) = W at *
 have HB7 := Lib.hid hb7
 clear hb7
 simp only [Act.put]
 go_loopw [] (fun wr => ∃ (g : Nat) (x : PEx) (c : List Value) (s1 : Pa.S), g ≤ f ∧ 8 * s1.tk.length + 1 ≤ g ∧ Hid (runE f (.binL d l x0) s0 = runE g (.binL d l x) s1) ∧ Hid (wr.heap[b]? = some (.cells c.toArray 39)) ∧ RowE wr w.heap.size ∧ ExAt wr (fun k => w.heap.size + 1 ≤ k ∧ k ≠ b) x c ∧ RdAt wr R M s1 ∧ Fr [R] w wr) (fun wr => rdLen wr R)
 case atStart => exact ⟨f, x0, c0, s0, Nat.le_refl _, by omega, Lib.hid rfl, HB2, HR2, HC2, h2, F2⟩
 case round =>
  obtain ⟨g, x, c, s1, hg, hfu, hst, hkb, hkr, hxc, hrd, hfr⟩ := hrel
  clear HB2 HR2 HC2 h2 F2 HC HA
  have hpos := hrd.ok.pos
  obtain ⟨g, rfl⟩ : ∃ g', g = g' + 1 := ⟨g - 1, by omega⟩
  have HMS := Lib.hid hrd.len
  have hE : runE (g + 1) (.binL d l x) s1 = if strV s1.hd.tx < l then ([x], s1) else runE g (.binL d l (.mk 4 s1.hd.tx eB 0 [x, hd1 (runE g (.bin d (strV s1.hd.tx + 1)) s1.tl)] ty0 x.at_)) (runE g (.bin d (strV s1.hd.tx + 1)) s1.tl).2 := by simp only [runE]
  have HE := Lib.hid hE
  clear hE
  have hnow := now_any hrd
  have hts := hrd.ok.hd.1
  have hsr := str_rg s1.hd.tx
  have HCL := Lib.hid hxc.len
  have HCO := Lib.hid (oneL hxc)
  go_wp2_with fail
  refine hnow.mono ?_
  rintro e w3 ⟨rfl, b3⟩
  clear hnow
  have h3 := hrd.below b3
  have hlook : (Instr.lookup 57 (.map (some M)) (.string s1.hd.tx) false).run Tryz.prog w3 = .ok (.int .i64 (strV s1.hd.tx)) w3 := by
   obtain ⟨_, _, _, hq⟩ := h3
   exact str_look hq.str _ hts
  have hcm : w3.cell? ⟨R, 1, none⟩ = some (.map (some M)) := by obtain ⟨_, _, _, hq⟩ := h3; exact hq.cells.2.1
  have HB3 := Lib.hid ((b3.block b (lt_of_at hkb.out)).trans hkb.out)
  have HR3 := hkr.fr (Fr.below (S := [R]) b3) (by simp; omega)
  have HX3 := hxc.belowS b3 (S' := fun k => w.heap.size + 1 ≤ k ∧ k ≠ b) (fun k hk => hk)
  have F3 := hfr.trans (Fr.below b3)
  by_cases hlt : strV s1.hd.tx < l
  ·have hdec : decide (strV s1.hd.tx < l) = true := decide_eq_true hlt
   obtain ⟨old, ho, hro⟩ := HR3
   have HRO := Lib.hid hro
   clear hro
   go_wp2_with (first | ((with_reducible refine ldE b HCL.out HB3.out ?_ ?_); rfl) | ((with_reducible refine stE w.heap.size HCL.out HCO.out HRO.out ho ?_ ?_ ?_); rfl; rfl; intro Y hY; have HY := Lib.hid hY; clear hY))
   refine ret_row Tryz.results133 w.heap.size 39 _ _ rfl rfl HY.out.at_ Tryz.underlying39 rfl (by rw [List.size_toArray, HCL.out]; exact sizeEx) ?_
   rw [HRUN.out, hst.out, HE.out, if_pos hlt]
   exact ⟨c, rfl, HX3.upd HY.out (fun k hk hl => ⟨by have := hk.1; show w.heap.size ≤ k; omega, by have := hk.1; omega⟩), h3.up HY.out HRO.out (by decide) (by decide), F3.up HY.out (Nat.le_refl _)⟩
  ·have hdec : decide (strV s1.hd.tx < l) = false := decide_eq_false hlt
   have hne := Or.inl (b := s1.hd.kd ≠ 0) (str_ne hlt hl1)
   have htl := (tl_ok hrd.ok hne).2
   rw [if_neg hlt] at HE
   go_wp2_with fail
   refine (step_any h3 hne).mono ?_
   rintro e w4 ⟨rfl, h4, f4, -⟩
   have HB4 := Lib.hid (f4.at_ HB3.out (by have := HB7.out; simp; omega))
   have HR4 := HR3.fr f4 (by simp; omega)
   have HX4 := HX3.fr f4 (S' := fun k => w.heap.size + 1 ≤ k ∧ k ≠ b) (fun k hk hl => ⟨hk, by have := hk.1; simp; omega⟩)
   have F4 := F3.trans f4
   have hbin := HB g (by omega) R M d (strV s1.hd.tx + 1) s1.tl w4 h4 (by omega) (by omega) (by omega) (by omega)
   have hlen2 := (runE_le g (.bin d (strV s1.hd.tx + 1)) s1.tl ⟨h4.ok, by simp only [rank]; omega, by simp only [lOk]; omega⟩).1.len
   generalize hx : hd1 (runE g (.bin d (strV s1.hd.tx + 1)) s1.tl) = y at *
   generalize hs1 : (runE g (.bin d (strV s1.hd.tx + 1)) s1.tl).2 = s2 at *
   clear hx hs1
   go_wp2_with fail
   refine hbin.mono ?_
   rintro e w5 ⟨c5, rfl, hc5, h5, f5⟩
   clear hbin
   have HC5 := Lib.hid hc5.len
   have HA5 := Lib.hid (oneL hc5)
   have H8 := Lib.hid hxc.at8
   have z5 := f5.size
   have hbl := lt_of_at HB4.out
   have HB5 := f5.at_ HB4.out (by have := HB7.out; simp; omega)
   have HR5 := HR4.fr f5 (by simp; omega)
   have HX5 := HX4.fr f5 (S' := fun k => w.heap.size + 1 ≤ k ∧ k ≠ b ∧ k < w5.heap.size) (fun k hk hl => ⟨⟨hk.1, hk.2, by omega⟩, by have := hk.1; simp; omega⟩)
   have HY5 := hc5.keep (w' := w5) (S' := fun k => w.heap.size + 1 ≤ k ∧ k ≠ b ∧ k < w5.heap.size) (fun k hk hl => ⟨⟨by have : w4.heap.size ≤ k := hk; have := HB7.out; omega, by have : w4.heap.size ≤ k := hk; omega, hl⟩, rfl⟩) (Nat.le_refl _)
   have F5 := F4.trans f5
   clear hc5 hxc
   have HB6 := Lib.hid ((Below.heap_alloc w5 (.cells c5.toArray 39) b (by omega)).trans HB5)
   have HN6 := Lib.hid (heap_alloc_new w5 (.cells c5.toArray 39))
   have hB7 := (Below.heap_alloc (w5.alloc (.cells c5.toArray 39)) (.cells (c ++ c5).toArray 39) b (by simp; omega)).trans HB6.out
   have hcell : ((w5.alloc (.cells c5.toArray 39)).alloc (.cells (c ++ c5).toArray 39)).cell? ⟨b, 8, none⟩ = some (.int .i64 x.at_) := row_cell hB7 H8.out
   have HB7A := Lib.hid hB7
   clear hB7 HB5
   go_wp2_with (first | ((with_reducible refine stNE w5.heap.size HC5.out HA5.out rfl ?_ ?_ ?_ ?_); rfl; rfl; rfl) | ((with_reducible refine ldE b HCL.out HB6.out ?_ ?_); rfl) | ((with_reducible refine ldE w5.heap.size HC5.out HN6.out ?_ ?_); rfl) | ((with_reducible refine bsE2 c c5 HCL.out HC5.out ?_ ?_ ?_); rfl; rfl) | ((with_reducible refine stE b (c := exL 4 s1.hd.tx ⟨#[]⟩ 0 (.slice (some ⟨w5.heap.size + 1, 0, none⟩) 2 2) ty0 x.at_) rfl (oneX _ _ _ _ _ _ _ _ _) HB7A.out ?_ ?_ ?_ ?_); (rw [List.size_toArray, HCL.out]); rfl; rfl; intro Y hY; have HY := Lib.hid hY; clear hY))
   have hsz : ((w5.alloc (.cells c5.toArray 39)).alloc (.cells (c ++ c5).toArray 39)).heap.size = w5.heap.size + 2 := by simp
   have HSZ := Lib.hid hsz
   clear hsz
   have hlenT : s2.tk.length < s1.tk.length := by omega
   simp only [Act.put]
   go_roundw
   case rel =>
    refine ⟨g, .mk 4 s1.hd.tx eB 0 [x, y] ty0 x.at_, _, s2, by omega, by omega, Lib.hid (hst.out.trans HE.out), Lib.hid HY.out.at_, ?_, ?_, ?_, ?_⟩
    ·obtain ⟨old, ho, hr⟩ := (HR5.alloc (.cells c5.toArray 39)).alloc (.cells (c ++ c5).toArray 39)
     exact ⟨old, ho, (HY.out.oth _ (by have := HB7.out; omega)).trans hr⟩
    ·refine ExAt.of (ExsAt.two (c := c) (d := c5) (g := w5.heap.size + 1) ?_ ?_ ?_ (by rw [HY.out.size, HSZ.out]; omega) ⟨by omega, by omega⟩)
     ·exact ((HX5.all _ (S' := fun k => w.heap.size + 1 ≤ k ∧ k ≠ b) (fun k hk hl => ⟨hk.1, hk.2.1⟩)).all _ (S' := fun k => w.heap.size + 1 ≤ k ∧ k ≠ b) (fun k hk hl => hk)).upd HY.out (fun k hk hl => ⟨hk, hk.2⟩)
     ·exact ((HY5.all _ (S' := fun k => w.heap.size + 1 ≤ k ∧ k ≠ b) (fun k hk hl => ⟨hk.1, hk.2.1⟩)).all _ (S' := fun k => w.heap.size + 1 ≤ k ∧ k ≠ b) (fun k hk hl => hk)).upd HY.out (fun k hk hl => ⟨hk, hk.2⟩)
     ·have := range_new (w5.alloc (.cells c5.toArray 39)) (c ++ c5) 39
      rw [szA] at this
      exact HY.out.range this (by omega)
    ·exact ((h5.alloc _).alloc _).up HY.out HB7A.out (by decide) (by decide)
    ·exact ((F5.alloc _).alloc _).up HY.out (by have := HB7.out; omega)
   case measure =>
    rw [HMS.out, (((h5.alloc _).alloc _).up HY.out HB7A.out (by decide) (by decide)).len]
    exact hlenT
theorem take_tl {s : Pa.S} {x : ByteArray} (h : s.is x = true) : s.take x = s.tl := by unfold S.take; rw [h]; rfl
theorem take_no {s : Pa.S} {x : ByteArray} (h : s.is x = false) : s.take x = s := by unfold S.take; rw [h]; rfl
set_option maxHeartbeats 8000000 in
theorem post_step {f : Nat} (HA : AtomC f) (HE : ∀ g, g < f → ExprC g) : PostC (f + 1) := by
 intro R M d s w h hf hd
 have hR := h.lt
 have hen : En (.atom d) s f := ⟨h.ok, by simp only [rank]; omega, trivial⟩
 have hlen := (runE_le f (.atom d) s hen).1.len
 have hrun : runE (f + 1) (.post d) s = runE f (.posL d (hd1 (runE f (.atom d) s))) (runE f (.atom d) s).2 := by simp only [runE]
 have HRUN := Lib.hid hrun
 have h0 := h.alloc (.cells exZ 39)
 have HR0 := Lib.hid (heap_alloc_new w (.cells exZ 39))
 have HS0 := Lib.hid (szA w (.cells exZ 39))
 have hexp := HA R M d s _ h0 (by omega) (by omega)
 clear hrun hen
 generalize hx : hd1 (runE f (.atom d) s) = x0 at *
 generalize hs1 : (runE f (.atom d) s).2 = s0 at *
 clear hx hs1
 have hw : IntKind.i64.wrap ((d : Int) + 1) = (d : Int) + 1 := IntWalk.i64_in _ (by omega)
 go_enter Tryz.func140, Tryz.ntmps140
 go_wp2_with fail
 refine hexp.mono ?_
 rintro e w1 ⟨c0, rfl, hc, h1, f1⟩
 clear hexp
 have HR1 := Lib.hid (f1.at_ HR0.out (by simp; omega))
 have z1 : w.heap.size + 1 ≤ w1.heap.size := by have := f1.size; rw [HS0.out] at this; exact this
 have F1 := ((Fr.refl [R] w).alloc (.cells exZ 39)).trans f1
 have HC := Lib.hid hc.len
 have HA := Lib.hid (oneL hc)
 have h2 := h1.alloc (.cells c0.toArray 39)
 have HR2 : RowE (w1.alloc (.cells c0.toArray 39)) w.heap.size := (show RowE w1 w.heap.size from ⟨_, rfl, HR1.out⟩).alloc _
 have HB2 := Lib.hid (heap_alloc_new w1 (.cells c0.toArray 39))
 rw [HS0.out] at hc
 have HC2 := hc.all (.cells c0.toArray 39) (S' := fun g => w.heap.size + 1 ≤ g ∧ g ≠ w1.heap.size) (fun g hg hl => ⟨hg, by omega⟩)
 have F2 := F1.alloc (.cells c0.toArray 39)
 clear hc h1 f1 F1
 go_wp2_with (((with_reducible refine stNE w1.heap.size HC.out HA.out rfl ?_ ?_ ?_ ?_); rfl; rfl; rfl))
 generalize hb7 : w1.heap.size = b at *
 generalize w1.alloc (.cells c0.toArray 39) = W at *
 have HB7 := Lib.hid hb7
 clear hb7
 simp only [Act.put]
 go_loopw [] (fun wr => ∃ (g : Nat) (x : PEx) (c : List Value) (s1 : Pa.S), g ≤ f ∧ 8 * s1.tk.length + 1 ≤ g ∧ Hid (runE f (.posL d x0) s0 = runE g (.posL d x) s1) ∧ Hid (wr.heap[b]? = some (.cells c.toArray 39)) ∧ RowE wr w.heap.size ∧ ExAt wr (fun k => w.heap.size + 1 ≤ k ∧ k ≠ b) x c ∧ RdAt wr R M s1 ∧ Fr [R] w wr) (fun wr => rdLen wr R)
 case atStart => exact ⟨f, x0, c0, s0, Nat.le_refl _, by omega, Lib.hid rfl, HB2, HR2, HC2, h2, F2⟩
 case round =>
  obtain ⟨g, x, c, s1, hg, hfu, hst, hkb, hkr, hxc, hrd, hfr⟩ := hrel
  clear HB2 HR2 HC2 h2 F2 HC HA
  have hpos := hrd.ok.pos
  obtain ⟨g, rfl⟩ : ∃ g', g = g' + 1 := ⟨g - 1, by omega⟩
  have HMS := Lib.hid hrd.len
  have hE : runE (g + 1) (.posL d x) s1 = if s1.is ⟨#[91]⟩ then runE g (.posL d (.mk 7 eB eB 0 [x, hd1 (runE g (.expr (d + 1)) s1.tl)] ty0 x.at_)) ((runE g (.expr (d + 1)) s1.tl).2.want ⟨#[93]⟩)
   else if s1.is ⟨#[46]⟩ then runE g (.posL d (.mk 8 eB (s1.tl.oneT 1) 0 [x] ty0 x.at_)) (s1.tl.one 1)
   else if s1.is ⟨#[45, 62]⟩ then runE g (.posL d (.mk 8 eB (s1.tl.oneT 1) 0 [.mk 3 ⟨#[42]⟩ eB 0 [x] ty0 x.at_] ty0 x.at_)) (s1.tl.one 1)
   else ([x], s1) := by simp only [runE]
  have HE0 := Lib.hid hE
  clear hE
  have HCL := Lib.hid hxc.len
  have HCO := Lib.hid (oneL hxc)
  have H8 := Lib.hid hxc.at8
  have hta := take_any ⟨#[91]⟩ (by decide) hrd
  cases hi1 : s1.is ⟨#[91]⟩ with
  | true =>
   rw [hi1, if_pos rfl] at HE0
   rw [hi1, take_tl hi1] at hta
   have hne := is_ne hi1 (by decide)
   have htl := (tl_ok hrd.ok hne).2
   clear hi1
   go_wp2_with fail
   refine hta.mono ?_
   rintro e w4 ⟨rfl, h4, f4⟩
   clear hta
   have HB4 := Lib.hid (f4.at_ hkb.out (by have := HB7.out; simp; omega))
   have HR4 := hkr.fr f4 (by simp; omega)
   have HX4 := hxc.fr f4 (S' := fun k => w.heap.size + 1 ≤ k ∧ k ≠ b) (fun k hk hl => ⟨hk, by have := hk.1; simp; omega⟩)
   have F4 := hfr.trans f4
   have hexp := HE g (by omega) R M (d + 1) s1.tl w4 h4 (by omega) (by omega)
   rw [show ((d + 1 : Nat) : Int) = (d : Int) + 1 from rfl] at hexp
   have hlen2 := (runE_le g (.expr (d + 1)) s1.tl ⟨h4.ok, by simp only [rank]; omega, trivial⟩).1.len
   generalize hx : hd1 (runE g (.expr (d + 1)) s1.tl) = y at *
   generalize hs1 : (runE g (.expr (d + 1)) s1.tl).2 = s2 at *
   clear hx hs1
   go_wp2_with fail
   refine hexp.mono ?_
   rintro e w5 ⟨c5, rfl, hc5, h5, f5⟩
   clear hexp
   have HC5 := Lib.hid hc5.len
   have HA5 := Lib.hid (oneL hc5)
   have z5 := f5.size
   have hbl := lt_of_at HB4.out
   have HB5 := f5.at_ HB4.out (by have := HB7.out; simp; omega)
   have HR5 := HR4.fr f5 (by simp; omega)
   have HX5 := HX4.fr f5 (S' := fun k => w.heap.size + 1 ≤ k ∧ k ≠ b ∧ k < w5.heap.size) (fun k hk hl => ⟨⟨hk.1, hk.2, by omega⟩, by have := hk.1; simp; omega⟩)
   have HY5 := hc5.keep (w' := w5) (S' := fun k => w.heap.size + 1 ≤ k ∧ k ≠ b ∧ k < w5.heap.size) (fun k hk hl => ⟨⟨by have : w4.heap.size ≤ k := hk; have := HB7.out; omega, by have : w4.heap.size ≤ k := hk; omega, hl⟩, rfl⟩) (Nat.le_refl _)
   have F5 := F4.trans f5
   clear hc5 hxc
   -- the new variable
   have HB6 := (Below.heap_alloc w5 (.cells c5.toArray 39) b (by omega)).trans HB5
   have HN6 := heap_alloc_new w5 (.cells c5.toArray 39)
   have HR6 := HR5.alloc (.cells c5.toArray 39)
   have HX6 := HX5.all (.cells c5.toArray 39) (S' := fun k => w.heap.size + 1 ≤ k ∧ k ≠ b ∧ k ≠ w5.heap.size) (fun k hk hl => ⟨hk.1, hk.2.1, by omega⟩)
   have HY6 := HY5.all (.cells c5.toArray 39) (S' := fun k => w.heap.size + 1 ≤ k ∧ k ≠ b ∧ k ≠ w5.heap.size) (fun k hk hl => ⟨hk.1, hk.2.1, by omega⟩)
   have h6 := h5.alloc (.cells c5.toArray 39)
   have F6 := F5.alloc (.cells c5.toArray 39)
   have hs6 : (w5.alloc (.cells c5.toArray 39)).heap.size = w5.heap.size + 1 := by simp
   go_wp2_with (((with_reducible refine stNE w5.heap.size HC5.out HA5.out rfl ?_ ?_ ?_ ?_); rfl; rfl; rfl))
   refine (want_any ⟨#[93]⟩ (by decide) h6).mono ?_
   rintro e w7 ⟨rfl, h7, f7⟩
   have z7 := f7.size
   have hB7 := Lib.hid (f7.at_ HB6 (by have := HB7.out; simp; omega))
   have hN7 := Lib.hid (f7.at_ HN6 (by have := HB7.out; simp; omega))
   have HR7 := HR6.fr f7 (by simp; omega)
   have HX7 := HX6.fr f7 (S' := fun k => w.heap.size + 1 ≤ k ∧ k ≠ b) (fun k hk hl => ⟨⟨hk.1, hk.2.1⟩, by have := hk.1; simp; omega⟩)
   have HY7 := HY6.fr f7 (S' := fun k => w.heap.size + 1 ≤ k ∧ k ≠ b) (fun k hk hl => ⟨⟨hk.1, hk.2.1⟩, by have := hk.1; simp; omega⟩)
   have F7 := F6.trans f7
   clear HB6 HN6 HR6 HX6 HY6 h6 F6
   have hB8 := (Below.heap_alloc w7 (.cells (c ++ c5).toArray 39) b (by omega)).trans hB7.out
   have hcell : (w7.alloc (.cells (c ++ c5).toArray 39)).cell? ⟨b, 8, none⟩ = some (.int .i64 x.at_) := row_cell hB8 H8.out
   have HB8 := Lib.hid hB8
   clear hB8
   have hwl := (want_lt h5.ok (x := ⟨#[93]⟩) (by decide)).le.len
   go_wp2_with (first | ((with_reducible refine ldE b HCL.out hB7.out ?_ ?_); rfl) | ((with_reducible refine ldE w5.heap.size HC5.out hN7.out ?_ ?_); rfl) | ((with_reducible refine bsE2 c c5 HCL.out HC5.out ?_ ?_ ?_); rfl; rfl) | ((with_reducible refine stE b (c := exL 7 ⟨#[]⟩ ⟨#[]⟩ 0 (.slice (some ⟨w7.heap.size, 0, none⟩) 2 2) ty0 x.at_) rfl (oneX _ _ _ _ _ _ _ _ _) HB8.out ?_ ?_ ?_ ?_); (rw [List.size_toArray, HCL.out]); rfl; rfl; intro Y hY; have HY := Lib.hid hY; clear hY))
   have HSZ := Lib.hid (szA w7 (.cells (c ++ c5).toArray 39))
   simp only [Act.put]
   go_roundw
   case rel =>
    refine ⟨g, .mk 7 eB eB 0 [x, y] ty0 x.at_, _, s2.want ⟨#[93]⟩, by omega, by omega, Lib.hid (hst.out.trans HE0.out), Lib.hid HY.out.at_, ?_, ?_, ?_, ?_⟩
    ·obtain ⟨old, ho, hr⟩ := HR7.alloc (.cells (c ++ c5).toArray 39)
     exact ⟨old, ho, (HY.out.oth _ (by have := HB7.out; omega)).trans hr⟩
    ·refine ExAt.of (ExsAt.two (c := c) (d := c5) (g := w7.heap.size) ?_ ?_ ?_ (by rw [HY.out.size, HSZ.out]; omega) ⟨by omega, by omega⟩)
     ·exact (HX7.all _ (S' := fun k => w.heap.size + 1 ≤ k ∧ k ≠ b) (fun k hk hl => hk)).upd HY.out (fun k hk hl => ⟨hk, hk.2⟩)
     ·exact (HY7.all _ (S' := fun k => w.heap.size + 1 ≤ k ∧ k ≠ b) (fun k hk hl => hk)).upd HY.out (fun k hk hl => ⟨hk, hk.2⟩)
     ·exact HY.out.range (range_new w7 (c ++ c5) 39) (by omega)
    ·exact (h7.alloc _).up HY.out HB8.out (by decide) (by decide)
    ·exact (F7.alloc _).up HY.out (by have := HB7.out; omega)
   case measure =>
    rw [HMS.out, ((h7.alloc _).up HY.out HB8.out (by decide) (by decide)).len]
    omega
  | false =>
   rw [hi1, if_neg (by decide)] at HE0
   rw [hi1, take_no hi1] at hta
   clear hi1
   go_wp2_with fail
   refine hta.mono ?_
   rintro e w3 ⟨rfl, h3, f3⟩
   clear hta
   have HB3 := Lib.hid (f3.at_ hkb.out (by have := HB7.out; simp; omega))
   have HR3 := hkr.fr f3 (by simp; omega)
   have HX3 := hxc.fr f3 (S' := fun k => w.heap.size + 1 ≤ k ∧ k ≠ b) (fun k hk hl => ⟨hk, by have := hk.1; simp; omega⟩)
   have F3 := hfr.trans f3
   have hta := take_any ⟨#[46]⟩ (by decide) h3
   cases hi2 : s1.is ⟨#[46]⟩ with
   | true =>
    rw [hi2, if_pos rfl] at HE0
    rw [hi2, take_tl hi2] at hta
    have hne := is_ne hi2 (by decide)
    have htl := (tl_ok hrd.ok hne).2
    clear hi2
    go_wp2_with fail
    refine hta.mono ?_
    rintro e w4 ⟨rfl, h4, f4⟩
    clear hta
    have HB4 := Lib.hid (f4.at_ HB3.out (by have := HB7.out; simp; omega))
    have HR4 := HR3.fr f4 (by simp; omega)
    have HX4 := HX3.fr f4 (S' := fun k => w.heap.size + 1 ≤ k ∧ k ≠ b) (fun k hk hl => ⟨hk, by have := hk.1; simp; omega⟩)
    have F4 := F3.trans f4
    have hbl := lt_of_at HB4.out
    have hol := (one_lt h4.ok (k := 1) (by decide)).le.len
    have z4 := f4.size
    have z3 := f3.size
    have zr := hfr.size
    have hfo := fieldOf_any h4 HX4 (fun k hk => ⟨by omega, by omega⟩) (fun k hk => by have := hk.1; omega)
    go_wp2_with (((with_reducible refine ldE b HCL.out HB4.out ?_ ?_); rfl))
    refine hfo.mono ?_
    rintro e w5 ⟨c5, rfl, hc5, h5, f5⟩
    clear hfo
    have HC5 := Lib.hid hc5.len
    have HA5 := Lib.hid (oneL hc5)
    have HB5 := Lib.hid (f5.at_ HB4.out (by have := HB7.out; simp; omega))
    have HR5 := HR4.fr f5 (by simp; omega)
    go_wp2_with (((with_reducible refine stE b HC5.out HA5.out HB5.out ?_ ?_ ?_ ?_); (rw [List.size_toArray, HCL.out]); rfl; rfl; intro Y hY; have HY := Lib.hid hY; clear hY))
    simp only [Act.put]
    go_roundw
    case rel =>
     refine ⟨g, .mk 8 eB (s1.tl.oneT 1) 0 [x] ty0 x.at_, c5, s1.tl.one 1, by omega, by omega, Lib.hid (hst.out.trans HE0.out), Lib.hid HY.out.at_, ?_, hc5.upd HY.out (fun k hk hl => ⟨hk, hk.2⟩), h5.up HY.out HB5.out (by decide) (by decide), (F4.trans f5).up HY.out (by have := HB7.out; omega)⟩
     obtain ⟨old, ho, hr⟩ := HR5
     exact ⟨old, ho, (HY.out.oth _ (by have := HB7.out; omega)).trans hr⟩
    case measure =>
     rw [HMS.out, (h5.up HY.out HB5.out (by decide) (by decide)).len]
     omega
   | false =>
    rw [hi2, if_neg (by decide)] at HE0
    rw [hi2, take_no hi2] at hta
    clear hi2
    go_wp2_with fail
    refine hta.mono ?_
    rintro e w8 ⟨rfl, h8, f8⟩
    clear hta
    have HB8 := Lib.hid (f8.at_ HB3.out (by have := HB7.out; simp; omega))
    have HR8 := HR3.fr f8 (by simp; omega)
    have HX8 := HX3.fr f8 (S' := fun k => w.heap.size + 1 ≤ k ∧ k ≠ b) (fun k hk hl => ⟨hk, by have := hk.1; simp; omega⟩)
    have F8 := F3.trans f8
    have hta := take_any ⟨#[45, 62]⟩ (by decide) h8
    cases hi3 : s1.is ⟨#[45, 62]⟩ with
    | true =>
     rw [hi3, if_pos rfl] at HE0
     rw [hi3, take_tl hi3] at hta
     have hne := is_ne hi3 (by decide)
     have htl := (tl_ok hrd.ok hne).2
     clear hi3
     go_wp2_with fail
     refine hta.mono ?_
     rintro e w4 ⟨rfl, h4, f4⟩
     clear hta
     have hb4 := f4.at_ HB8.out (by have := HB7.out; simp; omega)
     have hcell : w4.cell? ⟨b, 8, none⟩ = some (.int .i64 x.at_) := row_cell hb4 H8.out
     have HB4 := Lib.hid hb4
     have HR4 := HR8.fr f4 (by simp; omega)
     have HX4 := HX8.fr f4 (S' := fun k => w.heap.size + 1 ≤ k ∧ k ≠ b) (fun k hk hl => ⟨hk, by have := hk.1; simp; omega⟩)
     have F4 := F8.trans f4
     have hbl := lt_of_at hb4
     have hol := (one_lt h4.ok (k := 1) (by decide)).le.len
     clear hb4
     have hun := unaryOf_any ⟨#[42]⟩ x.at_ HX4 (fun k hk => ⟨by have := HB7.out; omega, by omega⟩)
     go_wp2_with (((with_reducible refine ldE b HCL.out HB4.out ?_ ?_); rfl))
     refine hun.mono ?_
     rintro e w6 ⟨c6, rfl, hc6, b6⟩
     clear hun hcell
     have h6 := h4.below b6
     have HB6 := Lib.hid ((b6.block b hbl).trans HB4.out)
     have HR6 := HR4.fr (Fr.below (S := [R]) b6) (by simp; omega)
     have z6 := b6.size
     have hfo := fieldOf_any h6 hc6 (fun k hk => ⟨by have := HB7.out; omega, by omega⟩) (fun k hk => by have := hk.1; omega)
     go_wp2_with fail
     refine hfo.mono ?_
     rintro e w5 ⟨c5, rfl, hc5, h5, f5⟩
     clear hfo
     have HC5 := Lib.hid hc5.len
     have HA5 := Lib.hid (oneL hc5)
     have HB5 := Lib.hid (f5.at_ HB6.out (by have := HB7.out; simp; omega))
     have HR5 := HR6.fr f5 (by simp; omega)
     have F6 := F4.trans (Fr.below b6)
     go_wp2_with (((with_reducible refine stE b HC5.out HA5.out HB5.out ?_ ?_ ?_ ?_); (rw [List.size_toArray, HCL.out]); rfl; rfl; intro Y hY; have HY := Lib.hid hY; clear hY))
     simp only [Act.put]
     go_roundw
     case rel =>
      refine ⟨g, .mk 8 eB (s1.tl.oneT 1) 0 [.mk 3 ⟨#[42]⟩ eB 0 [x] ty0 x.at_] ty0 x.at_, c5, s1.tl.one 1, by omega, by omega, Lib.hid (hst.out.trans HE0.out), Lib.hid HY.out.at_, ?_, hc5.upd HY.out (fun k hk hl => ⟨hk, hk.2⟩), h5.up HY.out HB5.out (by decide) (by decide), (F6.trans f5).up HY.out (by have := HB7.out; omega)⟩
      obtain ⟨old, ho, hr⟩ := HR5
      exact ⟨old, ho, (HY.out.oth _ (by have := HB7.out; omega)).trans hr⟩
     case measure =>
      rw [HMS.out, (h5.up HY.out HB5.out (by decide) (by decide)).len]
      omega
    | false =>
     rw [hi3, if_neg (by decide)] at HE0
     rw [hi3, take_no hi3] at hta
     clear hi3
     go_wp2_with fail
     refine hta.mono ?_
     rintro e w4 ⟨rfl, h4, f4⟩
     clear hta
     have HB4 := Lib.hid (f4.at_ HB8.out (by have := HB7.out; simp; omega))
     have HX4 := HX8.fr f4 (S' := fun k => w.heap.size + 1 ≤ k ∧ k ≠ b) (fun k hk hl => ⟨hk, by have := hk.1; simp; omega⟩)
     have F4 := F8.trans f4
     obtain ⟨old, ho, hro⟩ := HR8.fr f4 (by simp; omega)
     have HRO := Lib.hid hro
     clear hro
     go_wp2_with (first | ((with_reducible refine ldE b HCL.out HB4.out ?_ ?_); rfl) | ((with_reducible refine stE w.heap.size HCL.out HCO.out HRO.out ho ?_ ?_ ?_); rfl; rfl; intro Y hY; have HY := Lib.hid hY; clear hY))
     refine ret_row Tryz.results140 w.heap.size 39 _ _ rfl rfl HY.out.at_ Tryz.underlying39 rfl (by rw [List.size_toArray, HCL.out]; exact sizeEx) ?_
     rw [HRUN.out, hst.out, HE0.out]
     exact ⟨c, rfl, HX4.upd HY.out (fun k hk hl => ⟨by have := hk.1; show w.heap.size ≤ k; omega, by have := hk.1; omega⟩), h4.up HY.out HRO.out (by decide) (by decide), F4.up HY.out (Nat.le_refl _)⟩
end Go.Proofs.YtfjobnljdkiihaaGreatDoor
