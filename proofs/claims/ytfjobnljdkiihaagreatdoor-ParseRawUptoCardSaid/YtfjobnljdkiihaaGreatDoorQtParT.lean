/- Trees in memory. Conditions: each theorem's. -/
import Derived.Test.YtfjobnljdkiihaaGreatDoorQtParB
namespace Go.Proofs.YtfjobnljdkiihaaGreatDoor
open Go.RowKit Go.Maps
set_option linter.unusedVariables false
set_option linter.unusedSimpArgs false
set_option maxRecDepth 100000
open Lx Pa
theorem Fr.setN {S : List Nat} {a b : World} (h : Fr S a b) {n : Nat} (hn : a.heap.size ≤ n) (o : Nat) (v : Value) : Fr S a (b.setCell ⟨n, o, none⟩ v) :=
 ⟨h.os, h.tape, h.output, by have := h.size; simpa [World.setCell] using this, fun k hk hs => (Below.heap_setCell b _ v k (by show k ≠ n; omega)).trans (h.block k hk hs)⟩
theorem Fr.up {S : List Nat} {a X Y : World} {g : Nat} {cs : Array Value} {t : TypeId} (h : Fr S a X) (u : Up X g cs t Y) (hn : a.heap.size ≤ g) : Fr S a Y :=
 ⟨u.os.trans h.os, u.tape.trans h.tape, u.output.trans h.output, u.size ▸ h.size, fun k hk hs => (u.oth k (by omega)).trans (h.block k hk hs)⟩
abbrev tyC (t : PTy) : Array Value := #[.int .i64 t.ba, .int .i64 t.st, .string t.rc]
noncomputable def starOf (w : World) (b : Nat) : Nat := match w.cell? ⟨b, 1, none⟩ with
 | some (.int _ k) => (4 - k).toNat
 | _ => 0
theorem RdAt.setN {w : World} {R M : Nat} {s : Pa.S} (h : RdAt w R M s) {n : Nat} {cs : Array Value} {t : TypeId} {fr : Nat × Nat} (hn : w.heap[n]? = some (.cells cs t fr)) (h1 : t ≠ 63) (h2 : t ≠ 60) (o : Nat) (v : Value) : RdAt (w.setCell ⟨n, o, none⟩ v) R M s :=
 h.oth hn h1 h2 fun k _ hk => Below.heap_setCell w ⟨n, o, none⟩ v k hk
theorem RdAt.up {X Y : World} {R M : Nat} {s : Pa.S} (h : RdAt X R M s) {g : Nat} {cs old : Array Value} {t t0 : TypeId} (u : Up X g cs t Y) (hn : X.heap[g]? = some (.cells old t0)) (h1 : t0 ≠ 63) (h2 : t0 ≠ 60) : RdAt Y R M s :=
 h.oth hn h1 h2 fun k _ hk => u.oth k hk
theorem RdAt.alloc {w : World} {R M : Nat} {s : Pa.S} (h : RdAt w R M s) (o : Obj) : RdAt (w.alloc o) R M s := h.below ((Below.refl _ _).alloc (Nat.le_refl _) _)
theorem type_none {s : Pa.S} (h : baseV s.hd.tx = none) : typeV s = (ty0, s.fail 11) := by unfold typeV; rw [h]
theorem type_some {s : Pa.S} {b : Int} (h : baseV s.hd.tx = some b) : typeV s = match starsV 4 0 (if b = 4 then s.tl.one 1 else s.tl) with
  | (none, s') => (ty0, s')
  | (some k, s') => (⟨b, k, if b = 4 then s.tl.oneT 1 else ⟨#[]⟩⟩, s') := by unfold typeV; rw [h]; rfl
set_option maxHeartbeats 4000000 in
theorem type_any {w : World} {R M : Nat} {s : Pa.S} (h : RdAt w R M s) :
  Calls Tryz.prog 69 #[.pointer (some ⟨R, 0, none⟩)] w fun e w' => e = .returned (.agg (tyC (typeV s).1)) ∧ RdAt w' R M (typeV s).2 ∧ Fr [R] w w' := by
 have hR := h.lt
 have h0 := h.alloc (.cells #[.int .i64 0, .int .i64 0, .string ⟨#[]⟩] 37)
 have hr0 := heap_alloc_new w (.cells #[.int .i64 0, .int .i64 0, .string ⟨#[]⟩] 37)
 have hsz0 := szA w (.cells #[.int .i64 0, .int .i64 0, .string ⟨#[]⟩] 37)
 cases hb : baseV s.hd.tx with
 | none =>
  rw [type_none hb]
  go_enter Tryz.func69, Tryz.ntmps69
  go_wp2_with fail
  refine (now_any h0).mono ?_
  rintro e w1 ⟨rfl, hb1⟩
  go_wp2_with fail
  refine (baseOf_any w1 _ _ _).mono ?_
  rintro e w2 ⟨rfl, hb2⟩
  rw [hb]
  have hb12 := hb1.trans (hb2.mono hb1.size)
  have h2 := h0.below hb12
  have hr2 := (hb12.block w.heap.size (by omega)).trans hr0
  have HR0 := Lib.hid hr0
  have HS0 := Lib.hid hsz0
  clear hr0 hsz0
  go_wp2_with fail
  refine (fail_any 11 (by omega) h2).mono ?_
  rintro e w3 ⟨rfl, h3, hf3⟩
  have HR3 := Lib.hid (hf3.at_ hr2 (by simp; omega))
  clear hr2
  go_wp2_with ((with_reducible refine stG 37 w.heap.size (tyC ty0) ?_ ?_ HR3.out ?_ ?_ ?_ ?_); rfl; rfl; exact sizeTy; rfl; (simp [Value.oneCell']); intro Y hY; have HY := Lib.hid hY; clear hY)
  refine ret_row Tryz.results69 w.heap.size 37 _ _ rfl rfl HY.out.at_ Tryz.underlying37 rfl sizeTy ?_
  exact ⟨rfl, h3.up HY.out HR3.out (by decide) (by decide), ((((Fr.refl _ _).alloc _).trans (Fr.below hb12)).trans hf3).up HY.out (Nat.le_refl _)⟩
 | some b =>
  have hbr := base_rg hb
  have hne := Or.inl (b := s.hd.kd ≠ 0) (base_ne hb)
  have HT := Lib.hid (type_some hb)
  go_enter Tryz.func69, Tryz.ntmps69
  go_wp2_with fail
  refine (now_any h0).mono ?_
  rintro e w1 ⟨rfl, hb1⟩
  go_wp2_with fail
  refine (baseOf_any w1 _ _ _).mono ?_
  rintro e w2 ⟨rfl, hb2⟩
  rw [hb]
  have hb12 := hb1.trans (hb2.mono hb1.size)
  have h2 := h0.below hb12
  have hz12 := hb12.size
  have hr2 := (hb12.block w.heap.size (by omega)).trans hr0
  have hF2 := (((Fr.refl [R] _).alloc _).trans (Fr.below hb12))
  rw [hsz0] at hz12
  have HR0 := Lib.hid hr0
  clear hr0 hsz0 hb1 hb2 hb12 h0
  go_wp2_with fail
  refine (step_any h2 hne).mono ?_
  rintro e w3 ⟨rfl, h3, hf3, hz3⟩
  have hr3 := hf3.at_ hr2 (by simp; omega)
  have hF3 := hF2.trans hf3
  have hz3' : w.heap.size + 1 ≤ w3.heap.size := by omega
  clear hz3 hr2 hz12 hF2 hf3
  have h4 := h3.alloc (.cells #[.int .i64 b, .int .i64 0, .string ⟨#[]⟩] 37)
  have h5 := heap_alloc_new w3 (.cells #[.int .i64 b, .int .i64 0, .string ⟨#[]⟩] 37)
  have hr := (Below.heap_alloc w3 (.cells #[.int .i64 b, .int .i64 0, .string ⟨#[]⟩] 37) w.heap.size (by omega)).trans hr3
  have hF := hF3.alloc (.cells #[.int .i64 b, .int .i64 0, .string ⟨#[]⟩] 37)
  have h5l := lt_of_at h5
  have hrn : w.heap.size < w3.heap.size := by omega
  have HR3 := Lib.hid hr3
  clear hr3 h3 hF3 hz3'
  by_cases h44 : b = 4
  ·have hk4 : (b == 4) = true := by rw [h44]; rfl
   have hS : (if b = 4 then s.tl.one 1 else s.tl) = s.tl.one 1 := if_pos h44
   have hS2 : (if b = 4 then s.tl.oneT 1 else (⟨#[]⟩ : ByteArray)) = s.tl.oneT 1 := if_pos h44
   rw [hS, hS2] at HT
   have H4 := Lib.hid h4
   have H5 := Lib.hid h5
   have HR := Lib.hid hr
   have HF := Lib.hid hF
   clear hS hS2 h44 h4 h5 hr hF
   go_wp2_with fail
   refine (one_any 1 (.inl rfl) H4.out).mono ?_
   rintro e w5 ⟨rfl, h6, hf6⟩
   have hRl := H4.out.lt
   have g5 := hf6.at_ H5.out (by simp; have := h.lt; omega)
   have gr := hf6.at_ HR.out (by simp; omega)
   have hcc : w5.cell? ⟨w3.heap.size, 2, none⟩ = some (.string ⟨#[]⟩) := cell_of_row _ _ _ _ _ _ g5
   have hff : w5.frozen? ⟨w3.heap.size, 2, none⟩ = false := frozen_of_row _ _ _ _ _ g5
   have hWd := h6.setN g5 (by decide) (by decide) 2 (.string (s.tl.oneT 1))
   have h5 := Lib.hid (heap_setCell_same w5 w3.heap.size 2 _ _ (.string (s.tl.oneT 1)) g5)
   have hr := Lib.hid ((Below.heap_setCell w5 ⟨w3.heap.size, 2, none⟩ (.string (s.tl.oneT 1)) w.heap.size (by show w.heap.size ≠ w3.heap.size; omega)).trans gr)
   have hF := (HF.out.trans hf6).setN (n := w3.heap.size) (by omega) 2 (.string (s.tl.oneT 1))
   have h5l : w3.heap.size < (w5.setCell ⟨w3.heap.size, 2, none⟩ (.string (s.tl.oneT 1))).heap.size := by have := lt_of_at g5; simpa [World.setCell] using this
   clear g5 gr
   generalize hrv : s.tl.oneT 1 = rc at *
   generalize s.tl.one 1 = s1 at *
   have HRV := Lib.hid hrv
   clear hrv
   go_wp2_with fail
   generalize w5.setCell ⟨w3.heap.size, 2, none⟩ (.string rc) = W at *
   generalize hb5 : w3.heap.size = b5 at *
   generalize hrr : w.heap.size = r at *
   have HB5 := Lib.hid hb5
   have HRR := Lib.hid hrr
   clear hb5 hrr
   have HN := Lib.hid hrn
   clear hrn
   go_loopw [] (fun wr => ∃ (n k : Nat) (s' : Pa.S), n + k = 4 ∧ Hid (starsV 4 0 s1 = starsV n k s') ∧ RdAt wr R M s' ∧ Hid (wr.heap[b5]? = some (.cells #[.int .i64 b, .int .i64 k, .string rc] 37)) ∧ Hid (wr.heap[r]? = some (.cells #[.int .i64 0, .int .i64 0, .string ⟨#[]⟩] 37)) ∧ Fr [R] w wr ∧ b5 < wr.heap.size) (fun wr => starOf wr b5)
   case atStart => exact ⟨4, 0, s1, rfl, Lib.hid rfl, hWd, h5, hr, hF, h5l⟩
   case round =>
    obtain ⟨n, k, s', hnk, hst, hrd, hk5, hkr, hfr, hsz⟩ := hrel
    clear hWd h5 hr hF h5l
    have hrR := hrd.lt
    have hk1 : wr.cell? ⟨b5, 1, none⟩ = some (.int .i64 k) := cell_of_row _ _ _ _ _ _ hk5.out
    have hmeas : starOf wr b5 = 4 - k := by unfold starOf; rw [hk1]; simp only []; omega
    have HMS := Lib.hid hmeas
    clear hmeas hk1
    cases hs : s'.is ⟨#[42]⟩ with
    | false =>
     have e : starsV n k s' = (some (k : Int), s') := by cases n <;> (unfold starsV; rw [hs]; rfl)
     have hE := Lib.hid e
     clear e
     have hisb := is_any ⟨#[42]⟩ hrd
     rw [hs] at hisb
     go_wp2_with fail
     refine hisb.mono ?_
     rintro e w8 ⟨rfl, hb8⟩
     have hk8 := (hb8.block b5 hsz).trans hk5.out
     have hr8 := (hb8.block r (lt_of_at hkr.out)).trans hkr.out
     have HK8 := Lib.hid hk8
     have HR8 := Lib.hid hr8
     clear hk8 hr8
     go_wp2_with (first | ((with_reducible refine ldG 37 b5 ?_ HK8.out Tryz.underlying37 ?_ ?_ ?_); rfl; rfl; exact sizeTy) | ((with_reducible refine stG 37 r #[.int .i64 b, .int .i64 k, .string rc] ?_ ?_ HR8.out ?_ ?_ ?_ ?_); rfl; rfl; exact sizeTy; rfl; (simp [Value.oneCell']); intro Y hY; have HY := Lib.hid hY; clear hY))
     refine ret_row Tryz.results69 r 37 _ _ rfl rfl HY.out.at_ Tryz.underlying37 rfl sizeTy ?_
     rw [HT.out, hst.out, hE.out]
     exact ⟨rfl, (hrd.below hb8).up HY.out HR8.out (by decide) (by decide), (hfr.trans (Fr.below hb8)).up HY.out (by have := HRR.out; omega)⟩
    | true =>
     have hne := is_ne hs (by decide)
     have hisb := is_any ⟨#[42]⟩ hrd
     rw [hs] at hisb
     cases n with
     | zero =>
      have hE := Lib.hid (show starsV 0 k s' = (none, s'.fail 1) by unfold starsV; rw [hs]; rfl)
      have hk4 : (k : Int) = 4 := by omega
      go_wp2_with fail
      refine hisb.mono ?_
      rintro e w8 ⟨rfl, hb8⟩
      have hk8 := (hb8.block b5 hsz).trans hk5.out
      have hk81 : w8.cell? ⟨b5, 1, none⟩ = some (.int .i64 k) := cell_of_row _ _ _ _ _ _ hk8
      have hkb : ((k : Int) == 4) = true := by rw [hk4]; rfl
      have hr8 := (hb8.block r (lt_of_at hkr.out)).trans hkr.out
      have HR8 := Lib.hid hr8
      clear hk8 hr8 hk4
      go_wp2_with fail
      refine (fail_any 1 (by omega) (hrd.below hb8)).mono ?_
      rintro e w9 ⟨rfl, h9, hf9⟩
      have HR9 := Lib.hid (hf9.at_ HR8.out (by simp; omega))
      go_wp2_with ((with_reducible refine stG 37 r #[.int .i64 0, .int .i64 0, .string ⟨#[]⟩] ?_ ?_ HR9.out ?_ ?_ ?_ ?_); rfl; rfl; exact sizeTy; rfl; (simp [Value.oneCell']); intro Y hY; have HY := Lib.hid hY; clear hY)
      refine ret_row Tryz.results69 r 37 _ _ rfl rfl HY.out.at_ Tryz.underlying37 rfl sizeTy ?_
      rw [HT.out, hst.out, hE.out]
      exact ⟨rfl, h9.up HY.out HR9.out (by decide) (by decide), ((hfr.trans (Fr.below hb8)).trans hf9).up HY.out (by have := HRR.out; omega)⟩
     | succ n =>
      have hE := Lib.hid (show starsV (n + 1) k s' = starsV n ((k : Int) + 1) s'.tl by rw [starsV, if_pos hs])
      go_wp2_with fail
      refine hisb.mono ?_
      rintro e w8 ⟨rfl, hb8⟩
      have hk8 := (hb8.block b5 hsz).trans hk5.out
      have hk81 : w8.cell? ⟨b5, 1, none⟩ = some (.int .i64 k) := cell_of_row _ _ _ _ _ _ hk8
      have hfz : w8.frozen? ⟨b5, 1, none⟩ = false := frozen_of_row _ _ _ _ _ hk8
      have hkb : ((k : Int) == 4) = false := beq_eq_false_iff_ne.mpr (by omega)
      have hrd8 := hrd.below hb8
      have hrd9 := hrd8.setN hk8 (by decide) (by decide) 1 (.int .i64 ((k : Int) + 1))
      have hk9 := heap_setCell_same w8 b5 1 _ _ (.int .i64 ((k : Int) + 1)) hk8
      have hr9 := (Below.heap_setCell w8 ⟨b5, 1, none⟩ (.int .i64 ((k : Int) + 1)) r (by show r ≠ b5; have := HN.out; omega)).trans ((hb8.block r (lt_of_at hkr.out)).trans hkr.out)
      have hf9 := (hfr.trans (Fr.below hb8)).setN (n := b5) (by have := HN.out; have := HRR.out; omega) 1 (.int .i64 ((k : Int) + 1))
      have hs9 : b5 < (w8.setCell ⟨b5, 1, none⟩ (.int .i64 ((k : Int) + 1))).heap.size := by have := lt_of_at hk8; simpa [World.setCell] using this
      have HK9 := Lib.hid hk9
      have HR9 := Lib.hid hr9
      clear hk9 hr9 hk8
      go_wp2_with fail
      refine (step_any hrd9 hne).mono ?_
      rintro e w10 ⟨rfl, h10, hf10, hz10⟩
      have HZ := Lib.hid hz10
      clear hz10
      go_wp2
      go_roundw
      case rel => exact ⟨n, k + 1, s'.tl, by omega, Lib.hid (hst.out.trans (by rw [hE.out]; rfl)), h10, Lib.hid (hf10.at_ HK9.out (by simp; have := HN.out; omega)), Lib.hid (hf10.at_ HR9.out (by simp; have := HN.out; omega)), hf9.trans hf10, by rw [HZ.out]; exact hs9⟩
      case measure =>
       have := HMS.out
       have hc : w10.cell? ⟨b5, 1, none⟩ = some (.int .i64 ((k : Int) + 1)) := cell_of_row _ _ _ _ _ _ (hf10.at_ HK9.out (by simp; have := HN.out; omega))
       rw [this]
       unfold starOf
       rw [hc]
       simp only []
       omega
  ·have hk4 : (b == 4) = false := beq_eq_false_iff_ne.mpr h44
   have hS : (if b = 4 then s.tl.one 1 else s.tl) = s.tl := if_neg h44
   have hS2 : (if b = 4 then s.tl.oneT 1 else (⟨#[]⟩ : ByteArray)) = ⟨#[]⟩ := if_neg h44
   rw [hS, hS2] at HT
   have hWd := h4
   have h5 := Lib.hid h5
   have hr := Lib.hid hr
   generalize s.tl = s1 at *
   clear hS hS2 h44 h4 h2 hne
   go_wp2_with fail
   generalize w3.alloc (.cells #[.int .i64 b, .int .i64 0, .string ⟨#[]⟩] 37) = W at *
   generalize hb5 : w3.heap.size = b5 at *
   generalize hrr : w.heap.size = r at *
   have HB5 := Lib.hid hb5
   have HRR := Lib.hid hrr
   clear hb5 hrr
   have HN := Lib.hid hrn
   clear hrn
   go_loopw [] (fun wr => ∃ (n k : Nat) (s' : Pa.S), n + k = 4 ∧ Hid (starsV 4 0 s1 = starsV n k s') ∧ RdAt wr R M s' ∧ Hid (wr.heap[b5]? = some (.cells #[.int .i64 b, .int .i64 k, .string ⟨#[]⟩] 37)) ∧ Hid (wr.heap[r]? = some (.cells #[.int .i64 0, .int .i64 0, .string ⟨#[]⟩] 37)) ∧ Fr [R] w wr ∧ b5 < wr.heap.size) (fun wr => starOf wr b5)
   case atStart => exact ⟨4, 0, s1, rfl, Lib.hid rfl, hWd, h5, hr, hF, h5l⟩
   case round =>
    obtain ⟨n, k, s', hnk, hst, hrd, hk5, hkr, hfr, hsz⟩ := hrel
    clear hWd h5 hr hF h5l
    have hrR := hrd.lt
    have hk1 : wr.cell? ⟨b5, 1, none⟩ = some (.int .i64 k) := cell_of_row _ _ _ _ _ _ hk5.out
    have hmeas : starOf wr b5 = 4 - k := by unfold starOf; rw [hk1]; simp only []; omega
    have HMS := Lib.hid hmeas
    clear hmeas hk1
    cases hs : s'.is ⟨#[42]⟩ with
    | false =>
     have e : starsV n k s' = (some (k : Int), s') := by cases n <;> (unfold starsV; rw [hs]; rfl)
     have hE := Lib.hid e
     clear e
     have hisb := is_any ⟨#[42]⟩ hrd
     rw [hs] at hisb
     go_wp2_with fail
     refine hisb.mono ?_
     rintro e w8 ⟨rfl, hb8⟩
     have hk8 := (hb8.block b5 hsz).trans hk5.out
     have hr8 := (hb8.block r (lt_of_at hkr.out)).trans hkr.out
     have HK8 := Lib.hid hk8
     have HR8 := Lib.hid hr8
     clear hk8 hr8
     go_wp2_with (first | ((with_reducible refine ldG 37 b5 ?_ HK8.out Tryz.underlying37 ?_ ?_ ?_); rfl; rfl; exact sizeTy) | ((with_reducible refine stG 37 r #[.int .i64 b, .int .i64 k, .string ⟨#[]⟩] ?_ ?_ HR8.out ?_ ?_ ?_ ?_); rfl; rfl; exact sizeTy; rfl; (simp [Value.oneCell']); intro Y hY; have HY := Lib.hid hY; clear hY))
     refine ret_row Tryz.results69 r 37 _ _ rfl rfl HY.out.at_ Tryz.underlying37 rfl sizeTy ?_
     rw [HT.out, hst.out, hE.out]
     exact ⟨rfl, (hrd.below hb8).up HY.out HR8.out (by decide) (by decide), (hfr.trans (Fr.below hb8)).up HY.out (by have := HRR.out; omega)⟩
    | true =>
     have hne := is_ne hs (by decide)
     have hisb := is_any ⟨#[42]⟩ hrd
     rw [hs] at hisb
     cases n with
     | zero =>
      have hE := Lib.hid (show starsV 0 k s' = (none, s'.fail 1) by unfold starsV; rw [hs]; rfl)
      have hk4 : (k : Int) = 4 := by omega
      go_wp2_with fail
      refine hisb.mono ?_
      rintro e w8 ⟨rfl, hb8⟩
      have hk8 := (hb8.block b5 hsz).trans hk5.out
      have hk81 : w8.cell? ⟨b5, 1, none⟩ = some (.int .i64 k) := cell_of_row _ _ _ _ _ _ hk8
      have hkb : ((k : Int) == 4) = true := by rw [hk4]; rfl
      have hr8 := (hb8.block r (lt_of_at hkr.out)).trans hkr.out
      have HR8 := Lib.hid hr8
      clear hk8 hr8 hk4
      go_wp2_with fail
      refine (fail_any 1 (by omega) (hrd.below hb8)).mono ?_
      rintro e w9 ⟨rfl, h9, hf9⟩
      have HR9 := Lib.hid (hf9.at_ HR8.out (by simp; omega))
      go_wp2_with ((with_reducible refine stG 37 r #[.int .i64 0, .int .i64 0, .string ⟨#[]⟩] ?_ ?_ HR9.out ?_ ?_ ?_ ?_); rfl; rfl; exact sizeTy; rfl; (simp [Value.oneCell']); intro Y hY; have HY := Lib.hid hY; clear hY)
      refine ret_row Tryz.results69 r 37 _ _ rfl rfl HY.out.at_ Tryz.underlying37 rfl sizeTy ?_
      rw [HT.out, hst.out, hE.out]
      exact ⟨rfl, h9.up HY.out HR9.out (by decide) (by decide), ((hfr.trans (Fr.below hb8)).trans hf9).up HY.out (by have := HRR.out; omega)⟩
     | succ n =>
      have hE := Lib.hid (show starsV (n + 1) k s' = starsV n ((k : Int) + 1) s'.tl by rw [starsV, if_pos hs])
      go_wp2_with fail
      refine hisb.mono ?_
      rintro e w8 ⟨rfl, hb8⟩
      have hk8 := (hb8.block b5 hsz).trans hk5.out
      have hk81 : w8.cell? ⟨b5, 1, none⟩ = some (.int .i64 k) := cell_of_row _ _ _ _ _ _ hk8
      have hfz : w8.frozen? ⟨b5, 1, none⟩ = false := frozen_of_row _ _ _ _ _ hk8
      have hkb : ((k : Int) == 4) = false := beq_eq_false_iff_ne.mpr (by omega)
      have hrd8 := hrd.below hb8
      have hrd9 := hrd8.setN hk8 (by decide) (by decide) 1 (.int .i64 ((k : Int) + 1))
      have hk9 := heap_setCell_same w8 b5 1 _ _ (.int .i64 ((k : Int) + 1)) hk8
      have hr9 := (Below.heap_setCell w8 ⟨b5, 1, none⟩ (.int .i64 ((k : Int) + 1)) r (by show r ≠ b5; have := HN.out; omega)).trans ((hb8.block r (lt_of_at hkr.out)).trans hkr.out)
      have hf9 := (hfr.trans (Fr.below hb8)).setN (n := b5) (by have := HN.out; have := HRR.out; omega) 1 (.int .i64 ((k : Int) + 1))
      have hs9 : b5 < (w8.setCell ⟨b5, 1, none⟩ (.int .i64 ((k : Int) + 1))).heap.size := by have := lt_of_at hk8; simpa [World.setCell] using this
      have HK9 := Lib.hid hk9
      have HR9 := Lib.hid hr9
      clear hk9 hr9 hk8
      go_wp2_with fail
      refine (step_any hrd9 hne).mono ?_
      rintro e w10 ⟨rfl, h10, hf10, hz10⟩
      have HZ := Lib.hid hz10
      clear hz10
      go_wp2
      go_roundw
      case rel => exact ⟨n, k + 1, s'.tl, by omega, Lib.hid (hst.out.trans (by rw [hE.out]; rfl)), h10, Lib.hid (hf10.at_ HK9.out (by simp; have := HN.out; omega)), Lib.hid (hf10.at_ HR9.out (by simp; have := HN.out; omega)), hf9.trans hf10, by rw [HZ.out]; exact hs9⟩
      case measure =>
       have := HMS.out
       have hc : w10.cell? ⟨b5, 1, none⟩ = some (.int .i64 ((k : Int) + 1)) := cell_of_row _ _ _ _ _ _ (hf10.at_ HK9.out (by simp; have := HN.out; omega))
       rw [this]
       unfold starOf
       rw [hc]
       simp only []
       omega
theorem up_set {X : World} {g : Nat} {cs : Array Value} {t : TypeId} (hg : X.heap[g]? = some (.cells cs t)) (i : Nat) (v : Value) : Up X g (cs.setIfInBounds i v) t (X.setCell ⟨g, i, none⟩ v) :=
 ⟨heap_setCell_same _ _ _ _ _ _ hg, fun k hk => Below.heap_setCell _ _ _ _ hk, by simp [World.setCell], rfl, rfl, rfl⟩
theorem Up.trans {X Y Z : World} {g : Nat} {cs ds : Array Value} {t : TypeId} (h : Up X g cs t Y) (k : Up Y g ds t Z) : Up X g ds t Z :=
 ⟨k.at_, fun j hj => (k.oth j hj).trans (h.oth j hj), k.size.trans h.size, k.os.trans h.os, k.tape.trans h.tape, k.output.trans h.output⟩
theorem up_set3 {X : World} {g : Nat} {cs : Array Value} {t : TypeId} (hg : X.heap[g]? = some (.cells cs t)) (i j k : Nat) (a b c : Value) : Up X g (((cs.setIfInBounds i a).setIfInBounds j b).setIfInBounds k c) t (((X.setCell ⟨g, i, none⟩ a).setCell ⟨g, j, none⟩ b).setCell ⟨g, k, none⟩ c) := by
 have h1 := up_set hg i a
 have h2 := up_set h1.at_ j b
 exact (h1.trans h2).trans (up_set h2.at_ k c)
abbrev vaC (v : PVa) : Array Value := #[.string v.nm, .int .i64 v.ty.ba, .int .i64 v.ty.st, .string v.ty.rc, .int .i64 v.ln, .int .i64 v.at_]
set_option maxHeartbeats 2000000 in
theorem tyIn_any {w : World} {R M : Nat} {s : Pa.S} (h : RdAt w R M s) :
  Calls Tryz.prog 138 #[.pointer (some ⟨R, 0, none⟩)] w fun e w' => e = .returned (.agg (tyC (typeV s).1)) ∧ RdAt w' R M ((typeV s).2.want ⟨#[41]⟩) ∧ Fr [R] w w' := by
 have hR := h.lt
 have h0 := h.alloc (.cells #[.int .i64 0, .int .i64 0, .string ⟨#[]⟩] 37)
 have hr0 := heap_alloc_new w (.cells #[.int .i64 0, .int .i64 0, .string ⟨#[]⟩] 37)
 have hsz0 := szA w (.cells #[.int .i64 0, .int .i64 0, .string ⟨#[]⟩] 37)
 have HR0 := Lib.hid hr0
 have HS0 := Lib.hid hsz0
 clear hr0 hsz0
 go_enter Tryz.func138, Tryz.ntmps138
 go_wp2_with fail
 refine (type_any h0).mono ?_
 rintro e w1 ⟨rfl, h1, f1⟩
 have HR1 := Lib.hid (f1.at_ HR0.out (by simp; omega))
 have z1 : w.heap.size + 1 ≤ w1.heap.size := by have := f1.size; rw [HS0.out] at this; exact this
 have F1 := ((Fr.refl [R] w).alloc _).trans f1
 have h2 := h1.alloc (.cells (tyC (typeV s).1) 37)
 have HR2 := Lib.hid ((Below.heap_alloc w1 (.cells (tyC (typeV s).1) 37) w.heap.size (by omega)).trans HR1.out)
 have HB2 := Lib.hid (heap_alloc_new w1 (.cells (tyC (typeV s).1) 37))
 go_wp2_with fail
 refine (want_any ⟨#[41]⟩ (by decide) h2).mono ?_
 rintro e w3 ⟨rfl, h3, f3⟩
 have HR3 := Lib.hid (f3.at_ HR2.out (by simp; omega))
 have HB3 := Lib.hid (f3.at_ HB2.out (by simp; omega))
 go_wp2_with (first | ((with_reducible refine ldG 37 w1.heap.size ?_ HB3.out Tryz.underlying37 ?_ ?_ ?_); rfl; rfl; exact sizeTy) | ((with_reducible refine stG 37 w.heap.size (tyC (typeV s).1) ?_ ?_ HR3.out ?_ ?_ ?_ ?_); rfl; rfl; exact sizeTy; rfl; (simp [Value.oneCell']); intro Y hY; have HY := Lib.hid hY; clear hY))
 refine ret_row Tryz.results138 w.heap.size 37 _ _ rfl rfl HY.out.at_ Tryz.underlying37 rfl sizeTy ?_
 exact ⟨rfl, h3.up HY.out HR3.out (by decide) (by decide), ((F1.alloc _).trans f3).up HY.out (Nat.le_refl _)⟩
set_option maxHeartbeats 2000000 in
theorem named_any {w : World} {R M : Nat} {s : Pa.S} (h : RdAt w R M s) :
  Calls Tryz.prog 44 #[.pointer (some ⟨R, 0, none⟩)] w fun e w' => e = .returned (.agg (vaC (namedV s).1)) ∧ RdAt w' R M (namedV s).2 ∧ Fr [R] w w' := by
 have hR := h.lt
 have F2 := tf2
 have h0 := h.alloc (.cells #[.string ⟨#[]⟩, .int .i64 0, .int .i64 0, .string ⟨#[]⟩, .int .i64 0, .int .i64 0] 42)
 have HR0 := Lib.hid (heap_alloc_new w (.cells #[.string ⟨#[]⟩, .int .i64 0, .int .i64 0, .string ⟨#[]⟩, .int .i64 0, .int .i64 0] 42))
 have HS0 := Lib.hid (szA w (.cells #[.string ⟨#[]⟩, .int .i64 0, .int .i64 0, .string ⟨#[]⟩, .int .i64 0, .int .i64 0] 42))
 go_enter Tryz.func44, Tryz.ntmps44
 go_wp2_with fail
 refine (now_any h0).mono ?_
 rintro e w1 ⟨rfl, b1⟩
 have h1 := h0.below b1
 have z1 : w.heap.size + 1 ≤ w1.heap.size := by have := b1.size; rw [HS0.out] at this; exact this
 have HR1 := Lib.hid ((b1.block w.heap.size (by rw [HS0.out]; omega)).trans HR0.out)
 have G1 := ((Fr.refl [R] w).alloc (.cells #[.string ⟨#[]⟩, .int .i64 0, .int .i64 0, .string ⟨#[]⟩, .int .i64 0, .int .i64 0] 42)).trans (Fr.below b1)
 have h2 := h1.alloc (.cells #[.string ⟨#[]⟩, .int .i64 0, .int .i64 0, .string ⟨#[]⟩, .int .i64 0, .int .i64 s.hd.at_] 42)
 have HR2 := Lib.hid ((Below.heap_alloc w1 (.cells #[.string ⟨#[]⟩, .int .i64 0, .int .i64 0, .string ⟨#[]⟩, .int .i64 0, .int .i64 s.hd.at_] 42) w.heap.size (by omega)).trans HR1.out)
 have HB2 := Lib.hid (heap_alloc_new w1 (.cells #[.string ⟨#[]⟩, .int .i64 0, .int .i64 0, .string ⟨#[]⟩, .int .i64 0, .int .i64 s.hd.at_] 42))
 have hne : w.heap.size ≠ w1.heap.size := by omega
 go_wp2_with fail
 refine (type_any h2).mono ?_
 rintro e w3 ⟨rfl, h3, f3⟩
 have HR3 := Lib.hid (f3.at_ HR2.out (by simp; omega))
 have hb3 := f3.at_ HB2.out (by simp; omega)
 have c1 : w3.cell? ⟨w1.heap.size, 1, none⟩ = some (.int .i64 0) := cell_of_row _ _ _ _ _ _ hb3
 have c2 : w3.cell? ⟨w1.heap.size, 2, none⟩ = some (.int .i64 0) := cell_of_row _ _ _ _ _ _ hb3
 have c3 : w3.cell? ⟨w1.heap.size, 3, none⟩ = some (.string ⟨#[]⟩) := cell_of_row _ _ _ _ _ _ hb3
 have e1 : w3.frozen? ⟨w1.heap.size, 1, none⟩ = false := frozen_of_row _ _ _ _ _ hb3
 have e2 : w3.frozen? ⟨w1.heap.size, 2, none⟩ = false := frozen_of_row _ _ _ _ _ hb3
 have e3 : w3.frozen? ⟨w1.heap.size, 3, none⟩ = false := frozen_of_row _ _ _ _ _ hb3
 have u4 := up_set3 hb3 1 2 3 (.int .i64 (typeV s).1.ba) (.int .i64 (typeV s).1.st) (.string (typeV s).1.rc)
 have h4 := h3.up u4 hb3 (by decide) (by decide)
 have HR4 := Lib.hid ((u4.oth _ hne).trans HR3.out)
 have G4 := ((G1.alloc _).trans f3).up u4 (by omega)
 have HB4 := Lib.hid u4.at_
 have HZ4 := Lib.hid u4.size
 clear u4 hb3
 go_wp2_with fail
 refine (one_any 1 (.inl rfl) h4).mono ?_
 rintro e w5 ⟨rfl, h5, f5⟩
 have HR5 := Lib.hid (f5.at_ HR4.out (by simp; omega))
 have hb5 := f5.at_ HB4.out (by simp; omega)
 have c0 : w5.cell? ⟨w1.heap.size, 0, none⟩ = some (.string ⟨#[]⟩) := cell_of_row _ _ _ _ _ _ hb5
 have e0 : w5.frozen? ⟨w1.heap.size, 0, none⟩ = false := frozen_of_row _ _ _ _ _ hb5
 have u6 := up_set hb5 0 (.string ((typeV s).2.oneT 1))
 have h6 := h5.up u6 hb5 (by decide) (by decide)
 have HR6 := Lib.hid ((u6.oth _ hne).trans HR5.out)
 have HB6 := Lib.hid u6.at_
 have G6 := (G4.trans f5).up u6 (by omega)
 clear u6 hb5 c1 c2 c3 e1 e2 e3
 go_wp2_with (first | ((with_reducible refine ldG 42 w1.heap.size ?_ HB6.out Tryz.underlying42 ?_ ?_ ?_); rfl; rfl; exact sizeVa) | ((with_reducible refine stG 42 w.heap.size (vaC (namedV s).1) ?_ ?_ HR6.out ?_ ?_ ?_ ?_); rfl; rfl; exact sizeVa; rfl; (simp [Value.oneCell']); intro Y hY; have HY := Lib.hid hY; clear hY))
 refine ret_row Tryz.results44 w.heap.size 42 _ _ rfl rfl HY.out.at_ Tryz.underlying42 rfl sizeVa ?_
 exact ⟨rfl, h6.up HY.out HR6.out (by decide) (by decide), G6.up HY.out (Nat.le_refl _)⟩
set_option maxHeartbeats 2000000 in
theorem length_any {w : World} {R M : Nat} {s : Pa.S} (h : RdAt w R M s) :
  Calls Tryz.prog 47 #[.pointer (some ⟨R, 0, none⟩)] w fun e w' => e = .returned (.int .i64 (lengthV s).1) ∧ RdAt w' R M (lengthV s).2 ∧ Fr [R] w w' := by
 have hR := h.lt
 have F1 := tf1
 have hta := take_any ⟨#[91]⟩ (by decide) h
 cases hb : s.is ⟨#[91]⟩ with
 | false =>
  have hl : lengthV s = (0, s) := by unfold lengthV; rw [hb]; rfl
  have ht : s.take ⟨#[91]⟩ = s := by unfold S.take; rw [hb]; rfl
  rw [hl]
  rw [hb, ht] at hta
  go_enter Tryz.func47, Tryz.ntmps47
  go_wp2_with fail
  refine hta.mono ?_
  rintro e w1 ⟨rfl, h1, f1⟩
  go_wp2
  go_ret
  exact ⟨rfl, h1, f1⟩
 | true =>
  have hl : lengthV s = (IntKind.i64.wrap ((meanV s.tl.hd.tx.data.toList).getD 0), lenS s.tl) := by unfold lengthV; rw [hb]; rfl
  have ht : s.take ⟨#[91]⟩ = s.tl := by unfold S.take; rw [hb]; rfl
  rw [hl]
  rw [hb, ht] at hta
  clear hl ht
  generalize s.tl = u at *
  unfold lenS
  have hns : (u.hd.tx).size ≤ 1048576 ∨ True := .inr trivial
  have hme := fun (W : World) (hW : u.hd.tx.size ≤ 1048576) => mean_any u.hd.tx W hW
  cases hm : meanV u.hd.tx.data.toList with
  | none =>
   rw [hm] at hme
   have hbad : badLen none = false := rfl
   rw [hbad]
   have hn : (none : Option Int).getD 0 = 0 := rfl
   have he : mnE none = 10 := rfl
   rw [hn, he] at hme
   rw [hn]
   clear hbad hn he hm
   go_enter Tryz.func47, Tryz.ntmps47
   go_wp2_with fail
   refine hta.mono ?_
   rintro e w1 ⟨rfl, h1', f1⟩
   have hts := h1'.ok.hd.1
   go_wp2_with fail
   refine (now_any h1').mono ?_
   rintro e w2 ⟨rfl, b2⟩
   have g2 := h1'.below b2
   have G2 := f1.trans (Fr.below b2)
   clear hta
   go_wp2_with fail
   refine (hme w2 (by omega)).mono ?_
   rintro e w3 ⟨rfl, rfl⟩
   clear hme
   go_wp2_with fail
   refine (one_any 2 (.inr rfl) g2).mono ?_
   rintro e w4 ⟨rfl, g4, f4⟩
   go_wp2_with fail
   refine (want_any ⟨#[93]⟩ (by decide) g4).mono ?_
   rintro e w5 ⟨rfl, g5, f5⟩
   go_wp2
   go_ret
   exact ⟨retI (by rw [IntKind.wrap_i64]; first | rfl | (unfold wrap64; rfl) | (unfold wrap64; omega) | omega), g5, (G2.trans f4).trans f5⟩
  | some n =>
   rw [hm] at hme
   have he : mnE (some n) = 0 := rfl
   rw [show (some n : Option Int).getD 0 = n from rfl, he] at hme
   rw [show (some n : Option Int).getD 0 = n from rfl]
   clear he hm
   by_cases h1 : n < 1
   ·have hbad : badLen (some n) = true := by simp [badLen, h1]
    rw [hbad, if_pos rfl]
    clear hbad
    have d1 : decide (n < 1) = true := decide_eq_true h1
    go_enter Tryz.func47, Tryz.ntmps47
    go_wp2_with fail
    refine hta.mono ?_
    rintro e w1 ⟨rfl, h1', f1⟩
    have hts := h1'.ok.hd.1
    go_wp2_with fail
    refine (now_any h1').mono ?_
    rintro e w2 ⟨rfl, b2⟩
    have g2 := h1'.below b2
    have G2 := f1.trans (Fr.below b2)
    clear hta
    go_wp2_with fail
    refine (hme w2 (by omega)).mono ?_
    rintro e w3 ⟨rfl, rfl⟩
    clear hme
    go_wp2_with fail
    refine (fail_any 1 (by omega) g2).mono ?_
    rintro e w6 ⟨rfl, g6, f6⟩
    go_wp2_with fail
    refine (one_any 2 (.inr rfl) g6).mono ?_
    rintro e w4 ⟨rfl, g4, f4⟩
    go_wp2_with fail
    refine (want_any ⟨#[93]⟩ (by decide) g4).mono ?_
    rintro e w5 ⟨rfl, g5, f5⟩
    go_wp2
    go_ret
    exact ⟨retI (by rw [IntKind.wrap_i64]; first | rfl | (unfold wrap64; rfl) | (unfold wrap64; omega) | omega), g5, ((G2.trans f6).trans f4).trans f5⟩
   ·have d1 : decide (n < 1) = false := decide_eq_false h1
    by_cases h2 : 500 < n
    ·have hbad : badLen (some n) = true := by simp [badLen, h2]
     rw [hbad, if_pos rfl]
     clear hbad
     have d2 : decide (500 < n) = true := decide_eq_true h2
     go_enter Tryz.func47, Tryz.ntmps47
     go_wp2_with fail
     refine hta.mono ?_
     rintro e w1 ⟨rfl, h1', f1⟩
     have hts := h1'.ok.hd.1
     go_wp2_with fail
     refine (now_any h1').mono ?_
     rintro e w2 ⟨rfl, b2⟩
     have g2 := h1'.below b2
     have G2 := f1.trans (Fr.below b2)
     clear hta
     go_wp2_with fail
     refine (hme w2 (by omega)).mono ?_
     rintro e w3 ⟨rfl, rfl⟩
     clear hme
     go_wp2_with fail
     refine (fail_any 1 (by omega) g2).mono ?_
     rintro e w6 ⟨rfl, g6, f6⟩
     go_wp2_with fail
     refine (one_any 2 (.inr rfl) g6).mono ?_
     rintro e w4 ⟨rfl, g4, f4⟩
     go_wp2_with fail
     refine (want_any ⟨#[93]⟩ (by decide) g4).mono ?_
     rintro e w5 ⟨rfl, g5, f5⟩
     go_wp2
     go_ret
     exact ⟨retI (by rw [IntKind.wrap_i64]; first | rfl | (unfold wrap64; rfl) | (unfold wrap64; omega) | omega), g5, ((G2.trans f6).trans f4).trans f5⟩
    ·have hbad : badLen (some n) = false := by simp [badLen]; omega
     rw [hbad]
     clear hbad
     have d2 : decide (500 < n) = false := decide_eq_false h2
     go_enter Tryz.func47, Tryz.ntmps47
     go_wp2_with fail
     refine hta.mono ?_
     rintro e w1 ⟨rfl, h1', f1⟩
     have hts := h1'.ok.hd.1
     go_wp2_with fail
     refine (now_any h1').mono ?_
     rintro e w2 ⟨rfl, b2⟩
     have g2 := h1'.below b2
     have G2 := f1.trans (Fr.below b2)
     clear hta
     go_wp2_with fail
     refine (hme w2 (by omega)).mono ?_
     rintro e w3 ⟨rfl, rfl⟩
     clear hme
     go_wp2_with fail
     refine (one_any 2 (.inr rfl) g2).mono ?_
     rintro e w4 ⟨rfl, g4, f4⟩
     go_wp2_with fail
     refine (want_any ⟨#[93]⟩ (by decide) g4).mono ?_
     rintro e w5 ⟨rfl, g5, f5⟩
     go_wp2
     go_ret
     exact ⟨retI (by rw [IntKind.wrap_i64]; first | rfl | (unfold wrap64; rfl) | (unfold wrap64; omega) | omega), g5, (G2.trans f4).trans f5⟩
theorem keyStr : Keyed Tryz.prog 9 := string_keyed Tryz.underlying9
theorem keyOfStr (x : ByteArray) (hx : x.size ≤ maxLen) : keyOf Tryz.prog 9 (.string x) = some (.string x.toList) := by
 rw [keyOf_string Tryz.underlying9]
 simp [mapKey, Tryz.underlying9, Lib.toList_data, hx]
def StrL (w : World) (b n : Nat) (L : List (ByteArray × Int)) : Prop := ∃ D : DataW Unit, w.ownsMap Tryz.prog 9 (plainElem Tryz.prog 3) b n D ∧ ∀ x : ByteArray, D.atKey (.string x.toList) zI = .lit (.int .i64 (tabV L x))
theorem tab_cons (k : ByteArray) (v : Int) (L : List (ByteArray × Int)) (x : ByteArray) : tabV ((k, v) :: L) x = if k = x then v else tabV L x := by
 unfold tabV
 rw [List.find?_cons]
 by_cases h : k = x
 ·rw [if_pos h]; simp [h]
 ·rw [if_neg h]; simp [h]
theorem insStr {ops : Array Oper} {rest : List Oper} {Q : Exit → Act → World → Prop} {a : Act} {w : World} {dst : Option Tmp} {ty : TypeId} {pos : String} {af : Array Edge} {m : Operand} {k : ByteArray} {v : Int} (b n : Nat) (L : List (ByteArray × Int))
  (hm : a.eval m = .map (some b)) (h : StrL w b n L) (hn : n < 100) (hk : k.size ≤ maxLen) (hv : 0 ≤ v ∧ v ≤ 100)
  (hK : ∀ w', StrL w' b (n + 1) ((k, v) :: L) → w.grownBy w' (some b) → wpList Tryz.prog ops Q rest (a.put dst undef) w') :
  wpList Tryz.prog ops Q (⟨dst, .insert 57 m (.const (.string k)) (.const (.int .i64 v)), ty, pos, af, none⟩ :: rest) a w := by
 refine wpList_plain rfl fun K' hK' => ?_
 obtain ⟨D, ho, hD⟩ := h
 have hwf : (Lit.int .i64 v).wf = true := by
  show (decide (IntKind.i64.min ≤ v) && decide (v ≤ IntKind.i64.max)) = true
  rw [show IntKind.i64.min = -9223372036854775808 from by decide, show IntKind.i64.max = 9223372036854775807 from by decide]
  simp
  omega
 obtain ⟨w', hrun, r1, r2⟩ := ho.update keyStr Tryz.underlying57 (by unfold maxLen; omega) (keyOfStr k hk) (plainElem_int Tryz.underlying3 hwf)
 unfold Oper.wp
 have e1 : a.eval (.const (.string k)) = .string k := rfl
 have e2 : a.eval (.const (.int .i64 v)) = .int .i64 v := rfl
 simp [execOp, hm, e1, e2, hrun, Result.andThen]
 refine hK' _ _ (hK w' ⟨_, r1, fun x => ?_⟩ r2)
 rw [tab_cons]
 by_cases hx : k = x
 ·subst hx
  rw [if_pos rfl]
  exact atKey_put_same ho.isMap (show WideAt.IsKeyLit (.string k.toList) from trivial) _ _
 ·rw [if_neg hx, atKey_put_other]
  ·exact hD x
  ·intro e
   injection e with e
   refine hx ?_
   have := strEq k x
   rw [← e] at this
   simpa using this.symm
theorem run_makeStr (w : World) : (Instr.makeMap 57 none).run Tryz.prog w = .ok (.map (some w.heap.size)) (w.alloc (.map #[] 0)) := by
 simp [Instr.makeMap, Tryz.underlying57]
set_option maxHeartbeats 4000000 in
theorem allStr_any (w : World) : Calls Tryz.prog 13 #[] w fun e w' => e = .returned (.map (some w.heap.size)) ∧ StrAt w' w.heap.size ∧ Below w.heap.size w w' := by
 have h0 : StrL (w.alloc (.map #[] 0)) w.heap.size 0 [] := ⟨.map [], World.ownsMap_made w _ _ _, fun x => rfl⟩
 have b0 : Below w.heap.size w (w.alloc (.map #[] 0)) := (Below.refl _ _).alloc (Nat.le_refl _) _
 have HM := run_makeStr w
 have hS := Lib.hid h0
 have hB := Lib.hid b0
 clear h0 b0
 go_enter Tryz.func13, Tryz.ntmps13
 go_wp2_with ((with_reducible refine insStr w.heap.size _ _ ?_ hS.out ?_ ?_ ?_ ?_); rfl; decide; (unfold maxLen; decide); decide; intro W hS2 hG2; have hB2 := Lib.hid (hB.out.grown hG2 hB.out.size (by intro k hk; cases hk; exact Nat.le_refl _)); clear hS hB hG2; have hS := Lib.hid hS2; have hB := hB2; clear hS2 hB2)
 go_ret
 obtain ⟨D, h1, h2⟩ := hS.out
 exact ⟨rfl, ⟨D, _, h1, h2⟩, hB.out⟩
def RowAt (w : World) (S : Nat → Prop) (v : Value) (n : Nat) (xs : List Value) : Prop :=
 ∃ A cap, v = .slice A n cap ∧ n ≤ cap ∧ cap ≤ maxLen ∧ (0 < n → ∃ g o, A = some ⟨g, o, none⟩ ∧ S g ∧ g < w.heap.size ∧ w.rangeAt g o xs)
theorem RowAt.keep {w w' : World} {S S' : Nat → Prop} {v : Value} {n : Nat} {xs : List Value} (h : RowAt w S v n xs) (hk : ∀ g, S g → g < w.heap.size → S' g ∧ w'.heap[g]? = w.heap[g]?) (hz : w.heap.size ≤ w'.heap.size) : RowAt w' S' v n xs := by
 obtain ⟨A, cap, e, h1, h2, h3⟩ := h
 refine ⟨A, cap, e, h1, h2, fun hn => ?_⟩
 obtain ⟨g, o, e2, hs, hg, hr⟩ := h3 hn
 obtain ⟨k1, k2⟩ := hk g hs hg
 exact ⟨g, o, e2, k1, Nat.lt_of_lt_of_le hg hz, fun j u hu => (World.cell?_of_block (w := w) k2).trans (hr j u hu)⟩
theorem RowAt.nil (w : World) (S : Nat → Prop) : RowAt w S (.slice none 0 0) 0 [] := ⟨none, 0, rfl, Nat.le_refl _, by unfold maxLen; omega, fun h => by omega⟩
abbrev exL (kd : Int) (op nm : ByteArray) (num : Int) (v : Value) (ty : PTy) (at_ : Nat) : List Value := [.int .i64 kd, .string op, .string nm, .int .u64 num, v, .int .i64 ty.ba, .int .i64 ty.st, .string ty.rc, .int .i64 at_]
inductive ExAt (w : World) (S : Nat → Prop) : PEx → List Value → Prop
 | mk {kd : Int} {op nm : ByteArray} {num : Int} {kids : List PEx} {ty : PTy} {at_ : Nat} {v : Value} {rows : List (List Value)} (hl : rows.length = kids.length) (hr : RowAt w S v kids.length rows.flatten)
   (hk : ∀ i, i < kids.length → ExAt w S (kids.getD i ex0) (rows.getD i [])) : ExAt w S (.mk kd op nm num kids ty at_) (exL kd op nm num v ty at_)
theorem ExAt.keep {w w' : World} {S S' : Nat → Prop} (hk : ∀ g, S g → g < w.heap.size → S' g ∧ w'.heap[g]? = w.heap[g]?) (hz : w.heap.size ≤ w'.heap.size) {x : PEx} {c : List Value} (h : ExAt w S x c) : ExAt w' S' x c := by
 induction h with
 | mk hl hr _ ih => exact .mk hl (hr.keep hk hz) ih
def ExsAt (w : World) (S : Nat → Prop) (l : List PEx) (v : Value) : Prop := ∃ rows : List (List Value), rows.length = l.length ∧ RowAt w S v l.length rows.flatten ∧ ∀ i, i < l.length → ExAt w S (l.getD i ex0) (rows.getD i [])
theorem ExsAt.keep {w w' : World} {S S' : Nat → Prop} (hk : ∀ g, S g → g < w.heap.size → S' g ∧ w'.heap[g]? = w.heap[g]?) (hz : w.heap.size ≤ w'.heap.size) {l : List PEx} {v : Value} (h : ExsAt w S l v) : ExsAt w' S' l v := by
 obtain ⟨rows, h1, h2, h3⟩ := h
 exact ⟨rows, h1, h2.keep hk hz, fun i hi => (h3 i hi).keep hk hz⟩
theorem ExsAt.nil (w : World) (S : Nat → Prop) : ExsAt w S [] (.slice none 0 0) := ⟨[], rfl, RowAt.nil w S, fun i hi => by simp at hi⟩
theorem ExsAt.slice {w : World} {S : Nat → Prop} {l : List PEx} {v : Value} (h : ExsAt w S l v) : ∃ A cap, v = .slice A l.length cap := by obtain ⟨_, _, ⟨A, cap, e, _⟩, _⟩ := h; exact ⟨A, cap, e⟩
theorem ExAt.of {w : World} {S : Nat → Prop} {kd : Int} {op nm : ByteArray} {num : Int} {kids : List PEx} {ty : PTy} {at_ : Nat} {v : Value} (h : ExsAt w S kids v) : ExAt w S (.mk kd op nm num kids ty at_) (exL kd op nm num v ty at_) := by
 obtain ⟨rows, h1, h2, h3⟩ := h
 exact .mk h1 h2 h3
theorem ExAt.inv {w : World} {S : Nat → Prop} {x : PEx} {c : List Value} (h : ExAt w S x c) : ∃ kd op nm num kids ty A cap, x = .mk kd op nm num kids ty x.at_ ∧ c = exL kd op nm num (.slice A kids.length cap) ty x.at_ ∧ ExsAt w S kids (.slice A kids.length cap) := by
 cases h with
 | @mk kd op nm num kids ty at_ v rows hl hr hk =>
  have h : ExsAt w S kids v := ⟨rows, hl, hr, hk⟩
  obtain ⟨A, cap, rfl⟩ := h.slice
  exact ⟨kd, op, nm, num, kids, ty, A, cap, rfl, rfl, h⟩
theorem ExAt.len {w : World} {S : Nat → Prop} {x : PEx} {c : List Value} (h : ExAt w S x c) : c.length = 9 := by cases h; rfl
theorem ExAt.one {w : World} {S : Nat → Prop} {x : PEx} {c : List Value} (h : ExAt w S x c) : ∀ u ∈ c, u.oneCell' = true := by
 obtain ⟨kd, op, nm, num, kids, ty, A, cap, _, rfl, _⟩ := h.inv
 simp [Value.oneCell']
theorem ExAt.at8 {w : World} {S : Nat → Prop} {x : PEx} {c : List Value} (h : ExAt w S x c) : c[8]? = some (.int .i64 x.at_) := by
 obtain ⟨kd, op, nm, num, kids, ty, A, cap, _, rfl, _⟩ := h.inv
 rfl
theorem ExAt.ex0 (w : World) (S : Nat → Prop) : ExAt w S ex0 (exL 0 ⟨#[]⟩ ⟨#[]⟩ 0 (.slice none 0 0) ty0 0) := ExAt.of (ExsAt.nil w S)
theorem ExsAt.one' {w : World} {S : Nat → Prop} {x : PEx} {c : List Value} {g : Nat} (h : ExAt w S x c) (hg : w.rangeAt g 0 c) (hl : g < w.heap.size) (hS : S g) : ExsAt w S [x] (.slice (some ⟨g, 0, none⟩) 1 1) :=
 ⟨[c], rfl, ⟨_, 1, rfl, Nat.le_refl _, by unfold maxLen; omega, fun _ => ⟨g, 0, rfl, hS, hl, by simpa using hg⟩⟩, fun i hi => by
  have : i = 0 := by simpa using hi
  subst this
  exact h⟩
theorem ExsAt.two {w : World} {S : Nat → Prop} {x y : PEx} {c d : List Value} {g : Nat} (h : ExAt w S x c) (k : ExAt w S y d) (hg : w.rangeAt g 0 (c ++ d)) (hl : g < w.heap.size) (hS : S g) : ExsAt w S [x, y] (.slice (some ⟨g, 0, none⟩) 2 2) :=
 ⟨[c, d], rfl, ⟨_, 2, rfl, Nat.le_refl _, by unfold maxLen; omega, fun _ => ⟨g, 0, rfl, hS, hl, by simpa using hg⟩⟩, fun i hi => by
  have : i = 0 ∨ i = 1 := by have : i < 2 := hi; omega
  rcases this with rfl | rfl
  ·exact h
  ·exact k⟩
end Go.Proofs.YtfjobnljdkiihaaGreatDoor
