/- Statements: each reader of them answers as the plain reader does. Conditions: each theorem's. -/
import Derived.Test.YtfjobnljdkiihaaGreatDoorQtParSe
namespace Go.Proofs.YtfjobnljdkiihaaGreatDoor
open Go.RowKit Go.Maps
set_option linter.unusedVariables false
set_option linter.unusedSimpArgs false
set_option maxRecDepth 100000
open Lx Pa
def stmV (f d : Nat) (s : Pa.S) : List PSt × Pa.S :=
 if (baseV s.hd.tx).isSome = true then ([(localV f d s).1], (localV f d s).2)
 else if s.is ⟨#[123]⟩ then ([hdS (runS f (.block d) s)], (runS f (.block d) s).2)
 else if s.is ⟨#[105, 102]⟩ then ([(choiceV f d s.hd.at_ s.tl).1], (choiceV f d s.hd.at_ s.tl).2)
 else if s.is ⟨#[119, 104, 105, 108, 101]⟩ then ([.mk 3 (condV f d s.tl).1 [hdS (runS f (.stmt (d + 1)) (condV f d s.tl).2)] va0 s.hd.at_], (runS f (.stmt (d + 1)) (condV f d s.tl).2).2)
 else if s.is ⟨#[114, 101, 116, 117, 114, 110]⟩ then ([.mk 4 (maybeV f d s.tl).1 [] va0 s.hd.at_], (maybeV f d s.tl).2)
 else if s.is ⟨#[98, 114, 101, 97, 107]⟩ then ([.mk 5 [] [] va0 s.hd.at_], s.tl.want ⟨#[59]⟩)
 else if s.is ⟨#[99, 111, 110, 116, 105, 110, 117, 101]⟩ then ([.mk 6 [] [] va0 s.hd.at_], s.tl.want ⟨#[59]⟩)
 else ([.mk 7 (maybeV f d s).1 [] va0 s.hd.at_], (maybeV f d s).2)
theorem run_stmt (f d : Nat) (s : Pa.S) : runS (f + 1) (.stmt d) s = stmV f d (deepS d s) := by
 simp only [runS, stmV]
 generalize deepS d s = s
 by_cases h1 : (baseV s.hd.tx).isSome = true
 ·simp only [if_pos h1]
 simp only [if_neg h1]
 by_cases h2 : s.is ⟨#[123]⟩ = true
 ·simp only [if_pos h2]
 simp only [if_neg h2]
 by_cases h3 : s.is ⟨#[105, 102]⟩ = true
 ·simp only [if_pos h3]
  unfold choiceV
  simp only
  split <;> rfl
 simp only [if_neg h3]
theorem builtWh (k : Int) (A : Option Addr) (n cap : Nat) (B : Option Addr) (m cap2 : Nat) (at_ : Nat) : Tryz.prog.built 44 [(0, .int .i64 k), (1, .slice A n cap), (2, .slice B m cap2), (4, .int .i64 at_)] = some (stL k (.slice A n cap) (.slice B m cap2) va0 at_).toArray := by kernel_rfl
theorem builtBr (k : Int) (at_ : Nat) : Tryz.prog.built 44 [(0, .int .i64 k), (4, .int .i64 at_)] = some (stL k (.slice none 0 0) (.slice none 0 0) va0 at_).toArray := by kernel_rfl
set_option maxHeartbeats 16000000 in
theorem stmt_walk {f : Nat} (HE : ExprC f) (HS : StmtC f) (HB : BlockC f) : StmtC (f + 1) := by
 intro R M d s w h hf hd
 have hR := h.lt
 have hw : IntKind.i64.wrap ((d : Int) + 1) = (d : Int) + 1 := IntWalk.i64_in _ (by omega)
 have TF2 := tf2
 have HRUN := Lib.hid (run_stmt f d s)
 have h0 := h.alloc (.cells stZ 44)
 have HR0 := Lib.hid (heap_alloc_new w (.cells stZ 44))
 have HS0 := Lib.hid (szA w (.cells stZ 44))
 have hdl := (deep_le h.ok d).len
 have FA := (Fr.refl [R] w).alloc (.cells stZ 44)
 by_cases h40 : 40 < d
 ·have hdec : decide ((40 : Int) < (d : Int)) = true := decide_eq_true (by omega)
  have hds : deepS d s = s.fail 12 := if_pos h40
  rw [hds] at HRUN hdl
  go_enter Tryz.func91, Tryz.ntmps91
  go_wp2_with fail
  refine (fail_any 12 (by omega) h0).mono ?_
  rintro e w0 ⟨rfl, hx0, f0⟩
  have HRX := Lib.hid (f0.at_ HR0.out (by simp; omega))
  have zX : w.heap.size + 1 ≤ w0.heap.size := by have := f0.size; rw [HS0.out] at this; exact this
  have FX := FA.trans f0
  generalize s.fail 12 = s0 at *
  clear hds hdec h40 h0 FA f0
  go_wp2_with fail
  refine (now_any hx0).mono ?_
  rintro e w1 ⟨rfl, b1⟩
  have h1 := hx0.below b1
  have HR1 := Lib.hid ((b1.block w.heap.size (by omega)).trans HRX.out)
  have F1 := FX.trans (Fr.below b1)
  have z1 : w.heap.size + 1 ≤ w1.heap.size := by have := b1.size; omega
  go_wp2_with fail
  refine (now_any h1).mono ?_
  rintro e w2 ⟨rfl, b2⟩
  have h2 := h1.below b2
  have HR2 := Lib.hid ((b2.block w.heap.size (by omega)).trans HR1.out)
  have F2 := F1.trans (Fr.below b2)
  have z2 : w.heap.size + 1 ≤ w2.heap.size := by have := b2.size; omega
  have hbo := baseOf_any w2 s0.hd.kd s0.hd.tx s0.hd.at_
  unfold stmV at HRUN
  generalize ht : s0.hd = t at *
  have HT := Lib.hid ht
  clear ht
  cases hbase : (baseV t.tx).isSome with
  | true =>
   rw [hbase] at hbo
   rw [if_pos hbase] at HRUN
   go_wp2_with fail
   refine hbo.mono ?_
   rintro e w3 ⟨rfl, b3⟩
   clear hbo
   have h3 := h2.below b3
   have HR3 := Lib.hid ((b3.block w.heap.size (by omega)).trans HR2.out)
   have F3 := F2.trans (Fr.below b3)
   have z3 : w.heap.size + 1 ≤ w3.heap.size := by have := b3.size; omega
   have hexp := local_any HE (d := d) h3 (by omega) (by omega)
   go_wp2_with fail
   refine hexp.mono ?_
   rintro e w9 ⟨c5, rfl, hc5, h9, f9⟩
   clear hexp
   have HC5 := Lib.hid hc5.len
   have HA5 := Lib.hid (oneS hc5)
   have HRO := Lib.hid (f9.at_ HR3.out (by simp; omega))
   go_wp2_with (((with_reducible refine stR 44 10 sizeSt w.heap.size HC5.out HA5.out HRO.out rfl ?_ ?_ ?_); rfl; rfl; intro Y hY; have HY9 := Lib.hid hY; clear hY))
   refine ret_row Tryz.results91 w.heap.size 44 _ _ rfl rfl HY9.out.at_ Tryz.underlying44 rfl (by rw [List.size_toArray, HC5.out]; exact sizeSt) ?_
   rw [HRUN.out]
   exact ⟨c5, rfl, hc5.upd HY9.out (fun g hg hl => ⟨by have hq : w3.heap.size ≤ g := hg; show w.heap.size ≤ g; omega, by have hq : w3.heap.size ≤ g := hg; omega⟩), h9.up HY9.out HRO.out (by decide) (by decide), (F3.trans f9).up HY9.out (Nat.le_refl _)⟩
  | false =>
   rw [hbase] at hbo
   rw [if_neg (by rw [hbase]; decide)] at HRUN
   go_wp2_with fail
   refine hbo.mono ?_
   rintro e w3 ⟨rfl, b3⟩
   clear hbo
   have h3 := h2.below b3
   have HR3 := Lib.hid ((b3.block w.heap.size (by omega)).trans HR2.out)
   have F3 := F2.trans (Fr.below b3)
   have z3 : w.heap.size + 1 ≤ w3.heap.size := by have := b3.size; omega
   have his := is_any ⟨#[123]⟩ h3
   cases hi : s0.is ⟨#[123]⟩ with
   | true =>
    rw [hi, if_pos rfl] at HRUN
    rw [hi] at his
    clear hi
    go_wp2_with fail
    refine his.mono ?_
    rintro e w4 ⟨rfl, b4⟩
    clear his
    have h4 := h3.below b4
    have HR4 := Lib.hid ((b4.block w.heap.size (by omega)).trans HR3.out)
    have F4 := F3.trans (Fr.below b4)
    have z4 : w.heap.size + 1 ≤ w4.heap.size := by have := b4.size; omega
    have hexp := HB R M d s0 w4 h4 (by omega) (by omega)
    go_wp2_with fail
    refine hexp.mono ?_
    rintro e w9 ⟨c5, rfl, hc5, h9, f9⟩
    clear hexp
    have HC5 := Lib.hid hc5.len
    have HA5 := Lib.hid (oneS hc5)
    have HRO := Lib.hid (f9.at_ HR4.out (by simp; omega))
    go_wp2_with (((with_reducible refine stR 44 10 sizeSt w.heap.size HC5.out HA5.out HRO.out rfl ?_ ?_ ?_); rfl; rfl; intro Y hY; have HY9 := Lib.hid hY; clear hY))
    refine ret_row Tryz.results91 w.heap.size 44 _ _ rfl rfl HY9.out.at_ Tryz.underlying44 rfl (by rw [List.size_toArray, HC5.out]; exact sizeSt) ?_
    rw [HRUN.out]
    exact ⟨c5, rfl, hc5.upd HY9.out (fun g hg hl => ⟨by have hq : w4.heap.size ≤ g := hg; show w.heap.size ≤ g; omega, by have hq : w4.heap.size ≤ g := hg; omega⟩), h9.up HY9.out HRO.out (by decide) (by decide), (F4.trans f9).up HY9.out (Nat.le_refl _)⟩
   | false =>
    rw [hi, if_neg (by decide)] at HRUN
    rw [hi] at his
    clear hi
    go_wp2_with fail
    refine his.mono ?_
    rintro e wA ⟨rfl, b4⟩
    clear his
    have hA := h3.below b4
    have HRA := Lib.hid ((b4.block w.heap.size (by omega)).trans HR3.out)
    have FA := F3.trans (Fr.below b4)
    have zA : w.heap.size + 1 ≤ wA.heap.size := by have := b4.size; omega
    clear h3 HR3 F3 h2 HR2 F2 h1 HR1 F1 b1 b2 b3 b4
    have hta := take_any ⟨#[105, 102]⟩ (by decide) hA
    cases hi : s0.is ⟨#[105, 102]⟩ with
    | true =>
     rw [hi, if_pos rfl] at HRUN
     rw [hi, take_tl hi] at hta
     have hne := is_ne hi (by decide)
     have htl := (tl_ok hA.ok hne).2
     clear hi
     go_wp2_with fail
     refine hta.mono ?_
     rintro e w5 ⟨rfl, h5, f5⟩
     clear hta
     have HR5 := Lib.hid (f5.at_ HRA.out (by simp; omega))
     have F5 := FA.trans f5
     have z5 : w.heap.size + 1 ≤ w5.heap.size := by have := f5.size; omega
     have hexp := choice_any HE HS (a := t.at_) (d := d) h5 (by omega) (by omega)
     go_wp2_with fail
     refine hexp.mono ?_
     rintro e w9 ⟨c5, rfl, hc5, h9, f9⟩
     clear hexp
     have HC5 := Lib.hid hc5.len
     have HA5 := Lib.hid (oneS hc5)
     have HRO := Lib.hid (f9.at_ HR5.out (by simp; omega))
     go_wp2_with (((with_reducible refine stR 44 10 sizeSt w.heap.size HC5.out HA5.out HRO.out rfl ?_ ?_ ?_); rfl; rfl; intro Y hY; have HY9 := Lib.hid hY; clear hY))
     refine ret_row Tryz.results91 w.heap.size 44 _ _ rfl rfl HY9.out.at_ Tryz.underlying44 rfl (by rw [List.size_toArray, HC5.out]; exact sizeSt) ?_
     rw [HRUN.out]
     exact ⟨c5, rfl, hc5.upd HY9.out (fun g hg hl => ⟨by have hq : w5.heap.size ≤ g := hg; show w.heap.size ≤ g; omega, by have hq : w5.heap.size ≤ g := hg; omega⟩), h9.up HY9.out HRO.out (by decide) (by decide), (F5.trans f9).up HY9.out (Nat.le_refl _)⟩
    | false =>
     rw [hi, if_neg (by decide)] at HRUN
     rw [hi, take_no hi] at hta
     clear hi
     go_wp2_with fail
     refine hta.mono ?_
     rintro e wB ⟨rfl, hB, fB⟩
     clear hta
     have HRB := Lib.hid (fB.at_ HRA.out (by simp; omega))
     have FB := FA.trans fB
     have zB : w.heap.size + 1 ≤ wB.heap.size := by have := fB.size; omega
     clear hA HRA FA fB
     have hta := take_any ⟨#[119, 104, 105, 108, 101]⟩ (by decide) hB
     cases hi : s0.is ⟨#[119, 104, 105, 108, 101]⟩ with
     | true =>
      rw [hi, if_pos rfl] at HRUN
      rw [hi, take_tl hi] at hta
      have hne := is_ne hi (by decide)
      have htl := (tl_ok hB.ok hne).2
      clear hi
      go_wp2_with fail
      refine hta.mono ?_
      rintro e w5 ⟨rfl, h5, f5⟩
      clear hta
      have HR5 := Lib.hid (f5.at_ HRB.out (by simp; omega))
      have F5 := FB.trans f5
      have z5 : w.heap.size + 1 ≤ w5.heap.size := by have := f5.size; omega
      have hcl := (cond_lt (f := f) (d := d) (s := s0.tl) h5.ok (by omega)).le
      have hcl2 := hcl.len
      have hexp := cond_any HE (d := d) h5 (by omega) (by omega)
      go_wp2_with fail
      refine hexp.mono ?_
      rintro e w9 ⟨v, rfl, hl9, h9, f9⟩
      clear hexp
      obtain ⟨A, cap, rfl⟩ := hl9.slice
      generalize hL : (condV f d s0.tl).1 = l at *
      generalize hL2 : (condV f d s0.tl).2 = s1 at *
      have z9 := f9.size
      have HR9 := Lib.hid (f9.at_ HR5.out (by simp; omega))
      have F9 := F5.trans f9
      have hexp := HS R M (d + 1) s1 w9 h9 (by omega) (by omega)
      rw [show ((d + 1 : Nat) : Int) = (d : Int) + 1 from rfl] at hexp
      go_wp2_with fail
      refine hexp.mono ?_
      rintro e w10 ⟨c5, rfl, hc5, h10, f10⟩
      clear hexp
      have z10 := f10.size
      have HC5 := Lib.hid hc5.len
      have hl11 := (hl9.fr f10 (S' := fun g => w.heap.size + 1 ≤ g) (fun g hg hl => ⟨by have hq : w5.heap.size ≤ g := hg; show w.heap.size + 1 ≤ g; omega, by have hq : w5.heap.size ≤ g := hg; simp; omega⟩)).all (.cells c5.toArray 44) (S' := fun g => w.heap.size + 1 ≤ g) (fun g hg _ => hg)
      have hk11 := LAt.one' (E := stE') (hc5.all (.cells c5.toArray 44) (S' := fun g => w.heap.size + 1 ≤ g) (fun g hg hl => by have hq : w9.heap.size ≤ g := hg; show w.heap.size + 1 ≤ g; omega)) (range_new w10 c5 _) (by simp) (show w.heap.size + 1 ≤ w10.heap.size by omega)
      have h11 := h10.alloc (.cells c5.toArray 44)
      have F11 := (F9.trans f10).alloc (.cells c5.toArray 44)
      have HRO := Lib.hid (bl1 w10 (.cells c5.toArray 44) (f10.at_ HR9.out (by simp; omega)) (by omega))
      clear hc5 hl9
      go_wp2_with (first | ((with_reducible refine bs1 40 44 (.agg stZ) 10 Tryz.underlying40 infoStz (by decide) (by decide) c5 HC5.out ?_ ?_); rfl) | ((with_reducible refine bdT 44 _ _ (builtWh 3 A l.length cap (some ⟨w10.heap.size, 0, none⟩) 1 1 t.at_) ?_ ?_); rfl) | ((with_reducible refine stR 44 10 sizeSt w.heap.size (c := stL 3 (.slice A l.length cap) (.slice (some ⟨w10.heap.size, 0, none⟩) 1 1) va0 t.at_) rfl (oneT _ _ _ _ _ _ _ _ _) HRO.out rfl ?_ ?_ ?_); rfl; rfl; intro Y hY; have HY9 := Lib.hid hY; clear hY))
      refine ret_row Tryz.results91 w.heap.size 44 _ _ rfl rfl HY9.out.at_ Tryz.underlying44 rfl sizeSt ?_
      rw [HRUN.out]
      exact ⟨_, rfl, StAt.of (hl11.upd HY9.out (fun g hg hl => ⟨by have hq : w.heap.size + 1 ≤ g := hg; show w.heap.size ≤ g; omega, by have hq : w.heap.size + 1 ≤ g := hg; omega⟩)) (hk11.upd HY9.out (fun g hg hl => ⟨by have hq : w.heap.size + 1 ≤ g := hg; show w.heap.size ≤ g; omega, by have hq : w.heap.size + 1 ≤ g := hg; omega⟩)), h11.up HY9.out HRO.out (by decide) (by decide), F11.up HY9.out (Nat.le_refl _)⟩
     | false =>
      rw [hi, if_neg (by decide)] at HRUN
      rw [hi, take_no hi] at hta
      clear hi
      go_wp2_with fail
      refine hta.mono ?_
      rintro e wC ⟨rfl, hC, fC⟩
      clear hta
      have HRC := Lib.hid (fC.at_ HRB.out (by simp; omega))
      have FC := FB.trans fC
      have zC : w.heap.size + 1 ≤ wC.heap.size := by have := fC.size; omega
      clear hB HRB FB fC
      have hta := take_any ⟨#[114, 101, 116, 117, 114, 110]⟩ (by decide) hC
      cases hi : s0.is ⟨#[114, 101, 116, 117, 114, 110]⟩ with
      | true =>
       rw [hi, if_pos rfl] at HRUN
       rw [hi, take_tl hi] at hta
       have hne := is_ne hi (by decide)
       have htl := (tl_ok hC.ok hne).2
       clear hi
       go_wp2_with fail
       refine hta.mono ?_
       rintro e w5 ⟨rfl, h5, f5⟩
       clear hta
       have HR5 := Lib.hid (f5.at_ HRC.out (by simp; omega))
       have F5 := FC.trans f5
       have z5 : w.heap.size + 1 ≤ w5.heap.size := by have := f5.size; omega
       have hexp := maybe_any HE (d := d) h5 (by omega) (by omega)
       go_wp2_with fail
       refine hexp.mono ?_
       rintro e w9 ⟨v, rfl, hl9, h9, f9⟩
       clear hexp
       obtain ⟨A, cap, rfl⟩ := hl9.slice
       generalize hL : (maybeV f d s0.tl).1 = l at *
       have HRO := Lib.hid (f9.at_ HR5.out (by simp; omega))
       go_wp2_with (first | ((with_reducible refine bdT 44 _ _ (builtIf 4 A l.length cap t.at_) ?_ ?_); rfl) | ((with_reducible refine stR 44 10 sizeSt w.heap.size (c := stL 4 (.slice A l.length cap) (.slice none 0 0) va0 t.at_) rfl (oneT _ _ _ _ _ _ _ _ _) HRO.out rfl ?_ ?_ ?_); rfl; rfl; intro Y hY; have HY9 := Lib.hid hY; clear hY))
       refine ret_row Tryz.results91 w.heap.size 44 _ _ rfl rfl HY9.out.at_ Tryz.underlying44 rfl sizeSt ?_
       rw [HRUN.out]
       exact ⟨_, rfl, StAt.of (hl9.upd HY9.out (fun g hg hl => ⟨by have hq : w5.heap.size ≤ g := hg; show w.heap.size ≤ g; omega, by have hq : w5.heap.size ≤ g := hg; omega⟩)) (LAt.nil stE' _ _), h9.up HY9.out HRO.out (by decide) (by decide), (F5.trans f9).up HY9.out (Nat.le_refl _)⟩
      | false =>
       rw [hi, if_neg (by decide)] at HRUN
       rw [hi, take_no hi] at hta
       clear hi
       go_wp2_with fail
       refine hta.mono ?_
       rintro e wD ⟨rfl, hD, fD⟩
       clear hta
       have HRD := Lib.hid (fD.at_ HRC.out (by simp; omega))
       have FD := FC.trans fD
       have zD : w.heap.size + 1 ≤ wD.heap.size := by have := fD.size; omega
       clear hC HRC FC fD
       have hta := take_any ⟨#[98, 114, 101, 97, 107]⟩ (by decide) hD
       cases hi : s0.is ⟨#[98, 114, 101, 97, 107]⟩ with
       | true =>
        rw [hi, if_pos rfl] at HRUN
        rw [hi, take_tl hi] at hta
        have hne := is_ne hi (by decide)
        have htl := (tl_ok hD.ok hne).2
        clear hi
        go_wp2_with fail
        refine hta.mono ?_
        rintro e w5 ⟨rfl, h5, f5⟩
        clear hta
        have HR5 := Lib.hid (f5.at_ HRD.out (by simp; omega))
        have F5 := FD.trans f5
        have z5 : w.heap.size + 1 ≤ w5.heap.size := by have := f5.size; omega
        go_wp2_with fail
        refine (want_any ⟨#[59]⟩ (by decide) h5).mono ?_
        rintro e w9 ⟨rfl, h9, f9⟩
        have HRO := Lib.hid (f9.at_ HR5.out (by simp; omega))
        go_wp2_with (first | ((with_reducible refine bdT 44 _ _ (builtBr 5 t.at_) ?_ ?_); rfl) | ((with_reducible refine stR 44 10 sizeSt w.heap.size (c := stL 5 (.slice none 0 0) (.slice none 0 0) va0 t.at_) rfl (oneT _ _ _ _ _ _ _ _ _) HRO.out rfl ?_ ?_ ?_); rfl; rfl; intro Y hY; have HY9 := Lib.hid hY; clear hY))
        refine ret_row Tryz.results91 w.heap.size 44 _ _ rfl rfl HY9.out.at_ Tryz.underlying44 rfl sizeSt ?_
        rw [HRUN.out]
        exact ⟨_, rfl, StAt.of (LAt.nil exE _ _) (LAt.nil stE' _ _), h9.up HY9.out HRO.out (by decide) (by decide), (F5.trans f9).up HY9.out (Nat.le_refl _)⟩
       | false =>
        rw [hi, if_neg (by decide)] at HRUN
        rw [hi, take_no hi] at hta
        clear hi
        go_wp2_with fail
        refine hta.mono ?_
        rintro e wE ⟨rfl, hE, fE⟩
        clear hta
        have HRE := Lib.hid (fE.at_ HRD.out (by simp; omega))
        have FE := FD.trans fE
        have zE : w.heap.size + 1 ≤ wE.heap.size := by have := fE.size; omega
        clear hD HRD FD fE
        have hta := take_any ⟨#[99, 111, 110, 116, 105, 110, 117, 101]⟩ (by decide) hE
        cases hi : s0.is ⟨#[99, 111, 110, 116, 105, 110, 117, 101]⟩ with
        | true =>
         rw [hi, if_pos rfl] at HRUN
         rw [hi, take_tl hi] at hta
         have hne := is_ne hi (by decide)
         have htl := (tl_ok hE.ok hne).2
         clear hi
         go_wp2_with fail
         refine hta.mono ?_
         rintro e w5 ⟨rfl, h5, f5⟩
         clear hta
         have HR5 := Lib.hid (f5.at_ HRE.out (by simp; omega))
         have F5 := FE.trans f5
         have z5 : w.heap.size + 1 ≤ w5.heap.size := by have := f5.size; omega
         go_wp2_with fail
         refine (want_any ⟨#[59]⟩ (by decide) h5).mono ?_
         rintro e w9 ⟨rfl, h9, f9⟩
         have HRO := Lib.hid (f9.at_ HR5.out (by simp; omega))
         go_wp2_with (first | ((with_reducible refine bdT 44 _ _ (builtBr 6 t.at_) ?_ ?_); rfl) | ((with_reducible refine stR 44 10 sizeSt w.heap.size (c := stL 6 (.slice none 0 0) (.slice none 0 0) va0 t.at_) rfl (oneT _ _ _ _ _ _ _ _ _) HRO.out rfl ?_ ?_ ?_); rfl; rfl; intro Y hY; have HY9 := Lib.hid hY; clear hY))
         refine ret_row Tryz.results91 w.heap.size 44 _ _ rfl rfl HY9.out.at_ Tryz.underlying44 rfl sizeSt ?_
         rw [HRUN.out]
         exact ⟨_, rfl, StAt.of (LAt.nil exE _ _) (LAt.nil stE' _ _), h9.up HY9.out HRO.out (by decide) (by decide), (F5.trans f9).up HY9.out (Nat.le_refl _)⟩
        | false =>
         rw [hi, if_neg (by decide)] at HRUN
         rw [hi, take_no hi] at hta
         clear hi
         go_wp2_with fail
         refine hta.mono ?_
         rintro e wG ⟨rfl, hG, fG⟩
         clear hta
         have HRG := Lib.hid (fG.at_ HRE.out (by simp; omega))
         have FG := FE.trans fG
         have zG : w.heap.size + 1 ≤ wG.heap.size := by have := fG.size; omega
         clear hE HRE FE fG
         have hexp := maybe_any HE (d := d) hG (by omega) (by omega)
         go_wp2_with fail
         refine hexp.mono ?_
         rintro e w9 ⟨v, rfl, hl9, h9, f9⟩
         clear hexp
         obtain ⟨A, cap, rfl⟩ := hl9.slice
         generalize hL : (maybeV f d s0).1 = l at *
         have HRO := Lib.hid (f9.at_ HRG.out (by simp; omega))
         go_wp2_with (first | ((with_reducible refine bdT 44 _ _ (builtIf 7 A l.length cap t.at_) ?_ ?_); rfl) | ((with_reducible refine stR 44 10 sizeSt w.heap.size (c := stL 7 (.slice A l.length cap) (.slice none 0 0) va0 t.at_) rfl (oneT _ _ _ _ _ _ _ _ _) HRO.out rfl ?_ ?_ ?_); rfl; rfl; intro Y hY; have HY9 := Lib.hid hY; clear hY))
         refine ret_row Tryz.results91 w.heap.size 44 _ _ rfl rfl HY9.out.at_ Tryz.underlying44 rfl sizeSt ?_
         rw [HRUN.out]
         exact ⟨_, rfl, StAt.of (hl9.upd HY9.out (fun g hg hl => ⟨by have hq : wG.heap.size ≤ g := hg; show w.heap.size ≤ g; omega, by have hq : wG.heap.size ≤ g := hg; omega⟩)) (LAt.nil stE' _ _), h9.up HY9.out HRO.out (by decide) (by decide), (FG.trans f9).up HY9.out (Nat.le_refl _)⟩
 ·have hdec : decide ((40 : Int) < (d : Int)) = false := decide_eq_false (by omega)
  have hds : deepS d s = s := if_neg h40
  rw [hds] at HRUN hdl
  go_enter Tryz.func91, Tryz.ntmps91
  have hx0 := h0
  have HRX := HR0
  have FX := FA
  have zX : w.heap.size + 1 ≤ (w.alloc (.cells stZ 44)).heap.size := by rw [HS0.out]; omega
  clear hds h40 h0 FA
  go_wp2_with fail
  refine (now_any hx0).mono ?_
  rintro e w1 ⟨rfl, b1⟩
  have h1 := hx0.below b1
  have HR1 := Lib.hid ((b1.block w.heap.size (by omega)).trans HRX.out)
  have F1 := FX.trans (Fr.below b1)
  have z1 : w.heap.size + 1 ≤ w1.heap.size := by have := b1.size; omega
  go_wp2_with fail
  refine (now_any h1).mono ?_
  rintro e w2 ⟨rfl, b2⟩
  have h2 := h1.below b2
  have HR2 := Lib.hid ((b2.block w.heap.size (by omega)).trans HR1.out)
  have F2 := F1.trans (Fr.below b2)
  have z2 : w.heap.size + 1 ≤ w2.heap.size := by have := b2.size; omega
  have hbo := baseOf_any w2 s.hd.kd s.hd.tx s.hd.at_
  unfold stmV at HRUN
  generalize ht : s.hd = t at *
  have HT := Lib.hid ht
  clear ht
  cases hbase : (baseV t.tx).isSome with
  | true =>
   rw [hbase] at hbo
   rw [if_pos hbase] at HRUN
   go_wp2_with fail
   refine hbo.mono ?_
   rintro e w3 ⟨rfl, b3⟩
   clear hbo
   have h3 := h2.below b3
   have HR3 := Lib.hid ((b3.block w.heap.size (by omega)).trans HR2.out)
   have F3 := F2.trans (Fr.below b3)
   have z3 : w.heap.size + 1 ≤ w3.heap.size := by have := b3.size; omega
   have hexp := local_any HE (d := d) h3 (by omega) (by omega)
   go_wp2_with fail
   refine hexp.mono ?_
   rintro e w9 ⟨c5, rfl, hc5, h9, f9⟩
   clear hexp
   have HC5 := Lib.hid hc5.len
   have HA5 := Lib.hid (oneS hc5)
   have HRO := Lib.hid (f9.at_ HR3.out (by simp; omega))
   go_wp2_with (((with_reducible refine stR 44 10 sizeSt w.heap.size HC5.out HA5.out HRO.out rfl ?_ ?_ ?_); rfl; rfl; intro Y hY; have HY9 := Lib.hid hY; clear hY))
   refine ret_row Tryz.results91 w.heap.size 44 _ _ rfl rfl HY9.out.at_ Tryz.underlying44 rfl (by rw [List.size_toArray, HC5.out]; exact sizeSt) ?_
   rw [HRUN.out]
   exact ⟨c5, rfl, hc5.upd HY9.out (fun g hg hl => ⟨by have hq : w3.heap.size ≤ g := hg; show w.heap.size ≤ g; omega, by have hq : w3.heap.size ≤ g := hg; omega⟩), h9.up HY9.out HRO.out (by decide) (by decide), (F3.trans f9).up HY9.out (Nat.le_refl _)⟩
  | false =>
   rw [hbase] at hbo
   rw [if_neg (by rw [hbase]; decide)] at HRUN
   go_wp2_with fail
   refine hbo.mono ?_
   rintro e w3 ⟨rfl, b3⟩
   clear hbo
   have h3 := h2.below b3
   have HR3 := Lib.hid ((b3.block w.heap.size (by omega)).trans HR2.out)
   have F3 := F2.trans (Fr.below b3)
   have z3 : w.heap.size + 1 ≤ w3.heap.size := by have := b3.size; omega
   have his := is_any ⟨#[123]⟩ h3
   cases hi : s.is ⟨#[123]⟩ with
   | true =>
    rw [hi, if_pos rfl] at HRUN
    rw [hi] at his
    clear hi
    go_wp2_with fail
    refine his.mono ?_
    rintro e w4 ⟨rfl, b4⟩
    clear his
    have h4 := h3.below b4
    have HR4 := Lib.hid ((b4.block w.heap.size (by omega)).trans HR3.out)
    have F4 := F3.trans (Fr.below b4)
    have z4 : w.heap.size + 1 ≤ w4.heap.size := by have := b4.size; omega
    have hexp := HB R M d s w4 h4 (by omega) (by omega)
    go_wp2_with fail
    refine hexp.mono ?_
    rintro e w9 ⟨c5, rfl, hc5, h9, f9⟩
    clear hexp
    have HC5 := Lib.hid hc5.len
    have HA5 := Lib.hid (oneS hc5)
    have HRO := Lib.hid (f9.at_ HR4.out (by simp; omega))
    go_wp2_with (((with_reducible refine stR 44 10 sizeSt w.heap.size HC5.out HA5.out HRO.out rfl ?_ ?_ ?_); rfl; rfl; intro Y hY; have HY9 := Lib.hid hY; clear hY))
    refine ret_row Tryz.results91 w.heap.size 44 _ _ rfl rfl HY9.out.at_ Tryz.underlying44 rfl (by rw [List.size_toArray, HC5.out]; exact sizeSt) ?_
    rw [HRUN.out]
    exact ⟨c5, rfl, hc5.upd HY9.out (fun g hg hl => ⟨by have hq : w4.heap.size ≤ g := hg; show w.heap.size ≤ g; omega, by have hq : w4.heap.size ≤ g := hg; omega⟩), h9.up HY9.out HRO.out (by decide) (by decide), (F4.trans f9).up HY9.out (Nat.le_refl _)⟩
   | false =>
    rw [hi, if_neg (by decide)] at HRUN
    rw [hi] at his
    clear hi
    go_wp2_with fail
    refine his.mono ?_
    rintro e wA ⟨rfl, b4⟩
    clear his
    have hA := h3.below b4
    have HRA := Lib.hid ((b4.block w.heap.size (by omega)).trans HR3.out)
    have FA := F3.trans (Fr.below b4)
    have zA : w.heap.size + 1 ≤ wA.heap.size := by have := b4.size; omega
    clear h3 HR3 F3 h2 HR2 F2 h1 HR1 F1 b1 b2 b3 b4
    have hta := take_any ⟨#[105, 102]⟩ (by decide) hA
    cases hi : s.is ⟨#[105, 102]⟩ with
    | true =>
     rw [hi, if_pos rfl] at HRUN
     rw [hi, take_tl hi] at hta
     have hne := is_ne hi (by decide)
     have htl := (tl_ok hA.ok hne).2
     clear hi
     go_wp2_with fail
     refine hta.mono ?_
     rintro e w5 ⟨rfl, h5, f5⟩
     clear hta
     have HR5 := Lib.hid (f5.at_ HRA.out (by simp; omega))
     have F5 := FA.trans f5
     have z5 : w.heap.size + 1 ≤ w5.heap.size := by have := f5.size; omega
     have hexp := choice_any HE HS (a := t.at_) (d := d) h5 (by omega) (by omega)
     go_wp2_with fail
     refine hexp.mono ?_
     rintro e w9 ⟨c5, rfl, hc5, h9, f9⟩
     clear hexp
     have HC5 := Lib.hid hc5.len
     have HA5 := Lib.hid (oneS hc5)
     have HRO := Lib.hid (f9.at_ HR5.out (by simp; omega))
     go_wp2_with (((with_reducible refine stR 44 10 sizeSt w.heap.size HC5.out HA5.out HRO.out rfl ?_ ?_ ?_); rfl; rfl; intro Y hY; have HY9 := Lib.hid hY; clear hY))
     refine ret_row Tryz.results91 w.heap.size 44 _ _ rfl rfl HY9.out.at_ Tryz.underlying44 rfl (by rw [List.size_toArray, HC5.out]; exact sizeSt) ?_
     rw [HRUN.out]
     exact ⟨c5, rfl, hc5.upd HY9.out (fun g hg hl => ⟨by have hq : w5.heap.size ≤ g := hg; show w.heap.size ≤ g; omega, by have hq : w5.heap.size ≤ g := hg; omega⟩), h9.up HY9.out HRO.out (by decide) (by decide), (F5.trans f9).up HY9.out (Nat.le_refl _)⟩
    | false =>
     rw [hi, if_neg (by decide)] at HRUN
     rw [hi, take_no hi] at hta
     clear hi
     go_wp2_with fail
     refine hta.mono ?_
     rintro e wB ⟨rfl, hB, fB⟩
     clear hta
     have HRB := Lib.hid (fB.at_ HRA.out (by simp; omega))
     have FB := FA.trans fB
     have zB : w.heap.size + 1 ≤ wB.heap.size := by have := fB.size; omega
     clear hA HRA FA fB
     have hta := take_any ⟨#[119, 104, 105, 108, 101]⟩ (by decide) hB
     cases hi : s.is ⟨#[119, 104, 105, 108, 101]⟩ with
     | true =>
      rw [hi, if_pos rfl] at HRUN
      rw [hi, take_tl hi] at hta
      have hne := is_ne hi (by decide)
      have htl := (tl_ok hB.ok hne).2
      clear hi
      go_wp2_with fail
      refine hta.mono ?_
      rintro e w5 ⟨rfl, h5, f5⟩
      clear hta
      have HR5 := Lib.hid (f5.at_ HRB.out (by simp; omega))
      have F5 := FB.trans f5
      have z5 : w.heap.size + 1 ≤ w5.heap.size := by have := f5.size; omega
      have hcl := (cond_lt (f := f) (d := d) (s := s.tl) h5.ok (by omega)).le
      have hcl2 := hcl.len
      have hexp := cond_any HE (d := d) h5 (by omega) (by omega)
      go_wp2_with fail
      refine hexp.mono ?_
      rintro e w9 ⟨v, rfl, hl9, h9, f9⟩
      clear hexp
      obtain ⟨A, cap, rfl⟩ := hl9.slice
      generalize hL : (condV f d s.tl).1 = l at *
      generalize hL2 : (condV f d s.tl).2 = s1 at *
      have z9 := f9.size
      have HR9 := Lib.hid (f9.at_ HR5.out (by simp; omega))
      have F9 := F5.trans f9
      have hexp := HS R M (d + 1) s1 w9 h9 (by omega) (by omega)
      rw [show ((d + 1 : Nat) : Int) = (d : Int) + 1 from rfl] at hexp
      go_wp2_with fail
      refine hexp.mono ?_
      rintro e w10 ⟨c5, rfl, hc5, h10, f10⟩
      clear hexp
      have z10 := f10.size
      have HC5 := Lib.hid hc5.len
      have hl11 := (hl9.fr f10 (S' := fun g => w.heap.size + 1 ≤ g) (fun g hg hl => ⟨by have hq : w5.heap.size ≤ g := hg; show w.heap.size + 1 ≤ g; omega, by have hq : w5.heap.size ≤ g := hg; simp; omega⟩)).all (.cells c5.toArray 44) (S' := fun g => w.heap.size + 1 ≤ g) (fun g hg _ => hg)
      have hk11 := LAt.one' (E := stE') (hc5.all (.cells c5.toArray 44) (S' := fun g => w.heap.size + 1 ≤ g) (fun g hg hl => by have hq : w9.heap.size ≤ g := hg; show w.heap.size + 1 ≤ g; omega)) (range_new w10 c5 _) (by simp) (show w.heap.size + 1 ≤ w10.heap.size by omega)
      have h11 := h10.alloc (.cells c5.toArray 44)
      have F11 := (F9.trans f10).alloc (.cells c5.toArray 44)
      have HRO := Lib.hid (bl1 w10 (.cells c5.toArray 44) (f10.at_ HR9.out (by simp; omega)) (by omega))
      clear hc5 hl9
      go_wp2_with (first | ((with_reducible refine bs1 40 44 (.agg stZ) 10 Tryz.underlying40 infoStz (by decide) (by decide) c5 HC5.out ?_ ?_); rfl) | ((with_reducible refine bdT 44 _ _ (builtWh 3 A l.length cap (some ⟨w10.heap.size, 0, none⟩) 1 1 t.at_) ?_ ?_); rfl) | ((with_reducible refine stR 44 10 sizeSt w.heap.size (c := stL 3 (.slice A l.length cap) (.slice (some ⟨w10.heap.size, 0, none⟩) 1 1) va0 t.at_) rfl (oneT _ _ _ _ _ _ _ _ _) HRO.out rfl ?_ ?_ ?_); rfl; rfl; intro Y hY; have HY9 := Lib.hid hY; clear hY))
      refine ret_row Tryz.results91 w.heap.size 44 _ _ rfl rfl HY9.out.at_ Tryz.underlying44 rfl sizeSt ?_
      rw [HRUN.out]
      exact ⟨_, rfl, StAt.of (hl11.upd HY9.out (fun g hg hl => ⟨by have hq : w.heap.size + 1 ≤ g := hg; show w.heap.size ≤ g; omega, by have hq : w.heap.size + 1 ≤ g := hg; omega⟩)) (hk11.upd HY9.out (fun g hg hl => ⟨by have hq : w.heap.size + 1 ≤ g := hg; show w.heap.size ≤ g; omega, by have hq : w.heap.size + 1 ≤ g := hg; omega⟩)), h11.up HY9.out HRO.out (by decide) (by decide), F11.up HY9.out (Nat.le_refl _)⟩
     | false =>
      rw [hi, if_neg (by decide)] at HRUN
      rw [hi, take_no hi] at hta
      clear hi
      go_wp2_with fail
      refine hta.mono ?_
      rintro e wC ⟨rfl, hC, fC⟩
      clear hta
      have HRC := Lib.hid (fC.at_ HRB.out (by simp; omega))
      have FC := FB.trans fC
      have zC : w.heap.size + 1 ≤ wC.heap.size := by have := fC.size; omega
      clear hB HRB FB fC
      have hta := take_any ⟨#[114, 101, 116, 117, 114, 110]⟩ (by decide) hC
      cases hi : s.is ⟨#[114, 101, 116, 117, 114, 110]⟩ with
      | true =>
       rw [hi, if_pos rfl] at HRUN
       rw [hi, take_tl hi] at hta
       have hne := is_ne hi (by decide)
       have htl := (tl_ok hC.ok hne).2
       clear hi
       go_wp2_with fail
       refine hta.mono ?_
       rintro e w5 ⟨rfl, h5, f5⟩
       clear hta
       have HR5 := Lib.hid (f5.at_ HRC.out (by simp; omega))
       have F5 := FC.trans f5
       have z5 : w.heap.size + 1 ≤ w5.heap.size := by have := f5.size; omega
       have hexp := maybe_any HE (d := d) h5 (by omega) (by omega)
       go_wp2_with fail
       refine hexp.mono ?_
       rintro e w9 ⟨v, rfl, hl9, h9, f9⟩
       clear hexp
       obtain ⟨A, cap, rfl⟩ := hl9.slice
       generalize hL : (maybeV f d s.tl).1 = l at *
       have HRO := Lib.hid (f9.at_ HR5.out (by simp; omega))
       go_wp2_with (first | ((with_reducible refine bdT 44 _ _ (builtIf 4 A l.length cap t.at_) ?_ ?_); rfl) | ((with_reducible refine stR 44 10 sizeSt w.heap.size (c := stL 4 (.slice A l.length cap) (.slice none 0 0) va0 t.at_) rfl (oneT _ _ _ _ _ _ _ _ _) HRO.out rfl ?_ ?_ ?_); rfl; rfl; intro Y hY; have HY9 := Lib.hid hY; clear hY))
       refine ret_row Tryz.results91 w.heap.size 44 _ _ rfl rfl HY9.out.at_ Tryz.underlying44 rfl sizeSt ?_
       rw [HRUN.out]
       exact ⟨_, rfl, StAt.of (hl9.upd HY9.out (fun g hg hl => ⟨by have hq : w5.heap.size ≤ g := hg; show w.heap.size ≤ g; omega, by have hq : w5.heap.size ≤ g := hg; omega⟩)) (LAt.nil stE' _ _), h9.up HY9.out HRO.out (by decide) (by decide), (F5.trans f9).up HY9.out (Nat.le_refl _)⟩
      | false =>
       rw [hi, if_neg (by decide)] at HRUN
       rw [hi, take_no hi] at hta
       clear hi
       go_wp2_with fail
       refine hta.mono ?_
       rintro e wD ⟨rfl, hD, fD⟩
       clear hta
       have HRD := Lib.hid (fD.at_ HRC.out (by simp; omega))
       have FD := FC.trans fD
       have zD : w.heap.size + 1 ≤ wD.heap.size := by have := fD.size; omega
       clear hC HRC FC fD
       have hta := take_any ⟨#[98, 114, 101, 97, 107]⟩ (by decide) hD
       cases hi : s.is ⟨#[98, 114, 101, 97, 107]⟩ with
       | true =>
        rw [hi, if_pos rfl] at HRUN
        rw [hi, take_tl hi] at hta
        have hne := is_ne hi (by decide)
        have htl := (tl_ok hD.ok hne).2
        clear hi
        go_wp2_with fail
        refine hta.mono ?_
        rintro e w5 ⟨rfl, h5, f5⟩
        clear hta
        have HR5 := Lib.hid (f5.at_ HRD.out (by simp; omega))
        have F5 := FD.trans f5
        have z5 : w.heap.size + 1 ≤ w5.heap.size := by have := f5.size; omega
        go_wp2_with fail
        refine (want_any ⟨#[59]⟩ (by decide) h5).mono ?_
        rintro e w9 ⟨rfl, h9, f9⟩
        have HRO := Lib.hid (f9.at_ HR5.out (by simp; omega))
        go_wp2_with (first | ((with_reducible refine bdT 44 _ _ (builtBr 5 t.at_) ?_ ?_); rfl) | ((with_reducible refine stR 44 10 sizeSt w.heap.size (c := stL 5 (.slice none 0 0) (.slice none 0 0) va0 t.at_) rfl (oneT _ _ _ _ _ _ _ _ _) HRO.out rfl ?_ ?_ ?_); rfl; rfl; intro Y hY; have HY9 := Lib.hid hY; clear hY))
        refine ret_row Tryz.results91 w.heap.size 44 _ _ rfl rfl HY9.out.at_ Tryz.underlying44 rfl sizeSt ?_
        rw [HRUN.out]
        exact ⟨_, rfl, StAt.of (LAt.nil exE _ _) (LAt.nil stE' _ _), h9.up HY9.out HRO.out (by decide) (by decide), (F5.trans f9).up HY9.out (Nat.le_refl _)⟩
       | false =>
        rw [hi, if_neg (by decide)] at HRUN
        rw [hi, take_no hi] at hta
        clear hi
        go_wp2_with fail
        refine hta.mono ?_
        rintro e wE ⟨rfl, hE, fE⟩
        clear hta
        have HRE := Lib.hid (fE.at_ HRD.out (by simp; omega))
        have FE := FD.trans fE
        have zE : w.heap.size + 1 ≤ wE.heap.size := by have := fE.size; omega
        clear hD HRD FD fE
        have hta := take_any ⟨#[99, 111, 110, 116, 105, 110, 117, 101]⟩ (by decide) hE
        cases hi : s.is ⟨#[99, 111, 110, 116, 105, 110, 117, 101]⟩ with
        | true =>
         rw [hi, if_pos rfl] at HRUN
         rw [hi, take_tl hi] at hta
         have hne := is_ne hi (by decide)
         have htl := (tl_ok hE.ok hne).2
         clear hi
         go_wp2_with fail
         refine hta.mono ?_
         rintro e w5 ⟨rfl, h5, f5⟩
         clear hta
         have HR5 := Lib.hid (f5.at_ HRE.out (by simp; omega))
         have F5 := FE.trans f5
         have z5 : w.heap.size + 1 ≤ w5.heap.size := by have := f5.size; omega
         go_wp2_with fail
         refine (want_any ⟨#[59]⟩ (by decide) h5).mono ?_
         rintro e w9 ⟨rfl, h9, f9⟩
         have HRO := Lib.hid (f9.at_ HR5.out (by simp; omega))
         go_wp2_with (first | ((with_reducible refine bdT 44 _ _ (builtBr 6 t.at_) ?_ ?_); rfl) | ((with_reducible refine stR 44 10 sizeSt w.heap.size (c := stL 6 (.slice none 0 0) (.slice none 0 0) va0 t.at_) rfl (oneT _ _ _ _ _ _ _ _ _) HRO.out rfl ?_ ?_ ?_); rfl; rfl; intro Y hY; have HY9 := Lib.hid hY; clear hY))
         refine ret_row Tryz.results91 w.heap.size 44 _ _ rfl rfl HY9.out.at_ Tryz.underlying44 rfl sizeSt ?_
         rw [HRUN.out]
         exact ⟨_, rfl, StAt.of (LAt.nil exE _ _) (LAt.nil stE' _ _), h9.up HY9.out HRO.out (by decide) (by decide), (F5.trans f9).up HY9.out (Nat.le_refl _)⟩
        | false =>
         rw [hi, if_neg (by decide)] at HRUN
         rw [hi, take_no hi] at hta
         clear hi
         go_wp2_with fail
         refine hta.mono ?_
         rintro e wG ⟨rfl, hG, fG⟩
         clear hta
         have HRG := Lib.hid (fG.at_ HRE.out (by simp; omega))
         have FG := FE.trans fG
         have zG : w.heap.size + 1 ≤ wG.heap.size := by have := fG.size; omega
         clear hE HRE FE fG
         have hexp := maybe_any HE (d := d) hG (by omega) (by omega)
         go_wp2_with fail
         refine hexp.mono ?_
         rintro e w9 ⟨v, rfl, hl9, h9, f9⟩
         clear hexp
         obtain ⟨A, cap, rfl⟩ := hl9.slice
         generalize hL : (maybeV f d s).1 = l at *
         have HRO := Lib.hid (f9.at_ HRG.out (by simp; omega))
         go_wp2_with (first | ((with_reducible refine bdT 44 _ _ (builtIf 7 A l.length cap t.at_) ?_ ?_); rfl) | ((with_reducible refine stR 44 10 sizeSt w.heap.size (c := stL 7 (.slice A l.length cap) (.slice none 0 0) va0 t.at_) rfl (oneT _ _ _ _ _ _ _ _ _) HRO.out rfl ?_ ?_ ?_); rfl; rfl; intro Y hY; have HY9 := Lib.hid hY; clear hY))
         refine ret_row Tryz.results91 w.heap.size 44 _ _ rfl rfl HY9.out.at_ Tryz.underlying44 rfl sizeSt ?_
         rw [HRUN.out]
         exact ⟨_, rfl, StAt.of (hl9.upd HY9.out (fun g hg hl => ⟨by have hq : wG.heap.size ≤ g := hg; show w.heap.size ≤ g; omega, by have hq : wG.heap.size ≤ g := hg; omega⟩)) (LAt.nil stE' _ _), h9.up HY9.out HRO.out (by decide) (by decide), (FG.trans f9).up HY9.out (Nat.le_refl _)⟩
end Go.Proofs.YtfjobnljdkiihaaGreatDoor
