/- A reader of types, names and lengths. Conditions: each theorem's. -/
import Derived.Test.YtlobphanodhcoaaParB
namespace Go.Proofs.Ytlobphanodhcoaa
open Go.RowKit Go.Maps
set_option linter.unusedVariables false
set_option linter.unusedSimpArgs false
set_option maxRecDepth 100000
open Lx Pa
theorem Fr.setN {S : List Nat} {a b : World} (h : Fr S a b) {n : Nat} (hn : a.heap.size ≤ n) (o : Nat) (v : Value) : Fr S a (b.setCell ⟨n, o, none⟩ v) :=
  ⟨h.os, h.tape, h.output, by have := h.size; simpa [World.setCell] using this, fun k hk hs => (Below.heap_setCell b _ v k (by show k ≠ n; omega)).trans (h.block k hk hs)⟩
theorem Fr.up {S : List Nat} {a X Y : World} {g : Nat} {cs : Array Value} {t : TypeId} (h : Fr S a X) (u : Up X g cs t Y) (hn : a.heap.size ≤ g) : Fr S a Y :=
  ⟨u.os.trans h.os, u.tape.trans h.tape, u.output.trans h.output, u.size ▸ h.size, fun k hk hs => (u.oth k (by omega)).trans (h.block k hk hs)⟩
abbrev tyC (t : PTy) : Array Value := #[.int .i64 t.ba, .int .i64 t.st, .string t.rc]
noncomputable def starOf (w : World) (b : Nat) : Nat := match w.cell? ⟨b, 1, none⟩ with
  | some (.int _ k) => (4 - k).toNat
  | _ => 0
theorem RdAt.setN {w : World} {R M : Nat} {s : Pa.S} (h : RdAt w R M s) {n : Nat} {cs : Array Value} {t : TypeId} {fr : Nat × Nat} (hn : w.heap[n]? = some (.cells cs t fr)) (h1 : t ≠ 56) (h2 : t ≠ 53) (o : Nat) (v : Value) : RdAt (w.setCell ⟨n, o, none⟩ v) R M s :=
  h.oth hn h1 h2 fun k _ hk => Below.heap_setCell w ⟨n, o, none⟩ v k hk
theorem RdAt.up {X Y : World} {R M : Nat} {s : Pa.S} (h : RdAt X R M s) {g : Nat} {cs old : Array Value} {t t0 : TypeId} (u : Up X g cs t Y) (hn : X.heap[g]? = some (.cells old t0)) (h1 : t0 ≠ 56) (h2 : t0 ≠ 53) : RdAt Y R M s :=
  h.oth hn h1 h2 fun k _ hk => u.oth k hk
theorem RdAt.alloc {w : World} {R M : Nat} {s : Pa.S} (h : RdAt w R M s) (o : Obj) : RdAt (w.alloc o) R M s := h.below ((Below.refl _ _).alloc (Nat.le_refl _) _)
theorem type_none {s : Pa.S} (h : baseV s.hd.tx = none) : typeV s = (ty0, s.fail 11) := by unfold typeV; rw [h]
theorem type_some {s : Pa.S} {b : Int} (h : baseV s.hd.tx = some b) : typeV s = match starsV 4 0 (if b = 4 then s.tl.one 1 else s.tl) with
    | (none, s') => (ty0, s')
    | (some k, s') => (⟨b, k, if b = 4 then s.tl.oneT 1 else ⟨#[]⟩⟩, s') := by unfold typeV; rw [h]; rfl
set_option maxHeartbeats 4000000 in
theorem type_any {w : World} {R M : Nat} {s : Pa.S} (h : RdAt w R M s) :
    Calls Try.prog 44 #[.pointer (some ⟨R, 0, none⟩)] w fun e w' => e = .returned (.agg (tyC (typeV s).1)) ∧ RdAt w' R M (typeV s).2 ∧ Fr [R] w w' := by
  have hR := h.lt
  have h0 := h.alloc (.cells #[.int .i64 0, .int .i64 0, .string ⟨#[]⟩] 36)
  have hr0 := heap_alloc_new w (.cells #[.int .i64 0, .int .i64 0, .string ⟨#[]⟩] 36)
  have hsz0 := szA w (.cells #[.int .i64 0, .int .i64 0, .string ⟨#[]⟩] 36)
  cases hb : baseV s.hd.tx with
  | none =>
    rw [type_none hb]
    go_enter Try.func44, Try.ntmps44
    go_wp2_with fail
    refine (now_any h0).mono ?_
    rintro e w1 ⟨rfl, hb1⟩
    go_wp2_with fail
    refine (baseOf_any w1 _ _ _).mono ?_
    rintro e w2 ⟨rfl, hb2⟩
    rw [hb]
    have hb12 := hb1.trans (hb2.mono hb1.size)
    have h2 := h0.below hb12
    have hr2 := (hb12.block w.heap.size (by omega)).trans hr0
    have HR0 := Lib.hid hr0
    have HS0 := Lib.hid hsz0
    clear hr0 hsz0
    go_wp2_with fail
    refine (fail_any 11 (by omega) h2).mono ?_
    rintro e w3 ⟨rfl, h3, hf3⟩
    have HR3 := Lib.hid (hf3.at_ hr2 (by simp; omega))
    clear hr2
    go_wp2_with ((with_reducible refine stG 36 w.heap.size (tyC ty0) ?_ ?_ HR3.out ?_ ?_ ?_ ?_); rfl; rfl; exact sizeTy; rfl; (simp [Value.oneCell']); intro Y hY; have HY := Lib.hid hY; clear hY)
    refine ret_row Try.results44 w.heap.size 36 _ _ rfl rfl HY.out.at_ Try.underlying36 rfl sizeTy ?_
    exact ⟨rfl, h3.up HY.out HR3.out (by decide) (by decide), ((((Fr.refl _ _).alloc _).trans (Fr.below hb12)).trans hf3).up HY.out (Nat.le_refl _)⟩
  | some b =>
    have hbr := base_rg hb
    have hne := Or.inl (b := s.hd.kd ≠ 0) (base_ne hb)
    have HT := Lib.hid (type_some hb)
    go_enter Try.func44, Try.ntmps44
    go_wp2_with fail
    refine (now_any h0).mono ?_
    rintro e w1 ⟨rfl, hb1⟩
    go_wp2_with fail
    refine (baseOf_any w1 _ _ _).mono ?_
    rintro e w2 ⟨rfl, hb2⟩
    rw [hb]
    have hb12 := hb1.trans (hb2.mono hb1.size)
    have h2 := h0.below hb12
    have hz12 := hb12.size
    have hr2 := (hb12.block w.heap.size (by omega)).trans hr0
    have hF2 := (((Fr.refl [R] _).alloc _).trans (Fr.below hb12))
    rw [hsz0] at hz12
    have HR0 := Lib.hid hr0
    clear hr0 hsz0 hb1 hb2 hb12 h0
    go_wp2_with fail
    refine (step_any h2 hne).mono ?_
    rintro e w3 ⟨rfl, h3, hf3, hz3⟩
    have hr3 := hf3.at_ hr2 (by simp; omega)
    have hF3 := hF2.trans hf3
    have hz3' : w.heap.size + 1 ≤ w3.heap.size := by omega
    clear hz3 hr2 hz12 hF2 hf3
    have h4 := h3.alloc (.cells #[.int .i64 b, .int .i64 0, .string ⟨#[]⟩] 36)
    have h5 := heap_alloc_new w3 (.cells #[.int .i64 b, .int .i64 0, .string ⟨#[]⟩] 36)
    have hr := (Below.heap_alloc w3 (.cells #[.int .i64 b, .int .i64 0, .string ⟨#[]⟩] 36) w.heap.size (by omega)).trans hr3
    have hF := hF3.alloc (.cells #[.int .i64 b, .int .i64 0, .string ⟨#[]⟩] 36)
    have h5l := lt_of_at h5
    have hrn : w.heap.size < w3.heap.size := by omega
    have HR3 := Lib.hid hr3
    clear hr3 h3 hF3 hz3'
    by_cases h44 : b = 4
    · have hk4 : (b == 4) = true := by rw [h44]; rfl
      have hS : (if b = 4 then s.tl.one 1 else s.tl) = s.tl.one 1 := if_pos h44
      have hS2 : (if b = 4 then s.tl.oneT 1 else (⟨#[]⟩ : ByteArray)) = s.tl.oneT 1 := if_pos h44
      rw [hS, hS2] at HT
      have H4 := Lib.hid h4
      have H5 := Lib.hid h5
      have HR := Lib.hid hr
      have HF := Lib.hid hF
      clear hS hS2 h44 h4 h5 hr hF
      go_wp2_with fail
      refine (one_any 1 (.inl rfl) H4.out).mono ?_
      rintro e w5 ⟨rfl, h6, hf6⟩
      have hRl := H4.out.lt
      have g5 := hf6.at_ H5.out (by simp; have := h.lt; omega)
      have gr := hf6.at_ HR.out (by simp; omega)
      have hcc : w5.cell? ⟨w3.heap.size, 2, none⟩ = some (.string ⟨#[]⟩) := cell_of_row _ _ _ _ _ _ g5
      have hff : w5.frozen? ⟨w3.heap.size, 2, none⟩ = false := frozen_of_row _ _ _ _ _ g5
      have hWd := h6.setN g5 (by decide) (by decide) 2 (.string (s.tl.oneT 1))
      have h5 := Lib.hid (heap_setCell_same w5 w3.heap.size 2 _ _ (.string (s.tl.oneT 1)) g5)
      have hr := Lib.hid ((Below.heap_setCell w5 ⟨w3.heap.size, 2, none⟩ (.string (s.tl.oneT 1)) w.heap.size (by show w.heap.size ≠ w3.heap.size; omega)).trans gr)
      have hF := (HF.out.trans hf6).setN (n := w3.heap.size) (by omega) 2 (.string (s.tl.oneT 1))
      have h5l : w3.heap.size < (w5.setCell ⟨w3.heap.size, 2, none⟩ (.string (s.tl.oneT 1))).heap.size := by have := lt_of_at g5; simpa [World.setCell] using this
      clear g5 gr
      generalize hrv : s.tl.oneT 1 = rc at *
      generalize s.tl.one 1 = s1 at *
      have HRV := Lib.hid hrv
      clear hrv
      go_wp2_with fail
      generalize w5.setCell ⟨w3.heap.size, 2, none⟩ (.string rc) = W at *
      generalize hb5 : w3.heap.size = b5 at *
      generalize hrr : w.heap.size = r at *
      have HB5 := Lib.hid hb5
      have HRR := Lib.hid hrr
      clear hb5 hrr
      have HN := Lib.hid hrn
      clear hrn
      go_loopw [] (fun wr => ∃ (n k : Nat) (s' : Pa.S), n + k = 4 ∧ Hid (starsV 4 0 s1 = starsV n k s') ∧ RdAt wr R M s' ∧ Hid (wr.heap[b5]? = some (.cells #[.int .i64 b, .int .i64 k, .string rc] 36)) ∧ Hid (wr.heap[r]? = some (.cells #[.int .i64 0, .int .i64 0, .string ⟨#[]⟩] 36)) ∧ Fr [R] w wr ∧ b5 < wr.heap.size) (fun wr => starOf wr b5)
      case atStart => exact ⟨4, 0, s1, rfl, Lib.hid rfl, hWd, h5, hr, hF, h5l⟩
      case round =>
        obtain ⟨n, k, s', hnk, hst, hrd, hk5, hkr, hfr, hsz⟩ := hrel
        clear hWd h5 hr hF h5l
        have hrR := hrd.lt
        have hk1 : wr.cell? ⟨b5, 1, none⟩ = some (.int .i64 k) := cell_of_row _ _ _ _ _ _ hk5.out
        have hmeas : starOf wr b5 = 4 - k := by unfold starOf; rw [hk1]; simp only []; omega
        have HMS := Lib.hid hmeas
        clear hmeas hk1
        cases hs : s'.is ⟨#[42]⟩ with
        | false =>
          have e : starsV n k s' = (some (k : Int), s') := by cases n <;> (unfold starsV; rw [hs]; rfl)
          have hE := Lib.hid e
          clear e
          have hisb := is_any ⟨#[42]⟩ hrd
          rw [hs] at hisb
          go_wp2_with fail
          refine hisb.mono ?_
          rintro e w8 ⟨rfl, hb8⟩
          have hk8 := (hb8.block b5 hsz).trans hk5.out
          have hr8 := (hb8.block r (lt_of_at hkr.out)).trans hkr.out
          have HK8 := Lib.hid hk8
          have HR8 := Lib.hid hr8
          clear hk8 hr8
          go_wp2_with (first | ((with_reducible refine ldG 36 b5 ?_ HK8.out Try.underlying36 ?_ ?_ ?_); rfl; rfl; exact sizeTy) | ((with_reducible refine stG 36 r #[.int .i64 b, .int .i64 k, .string rc] ?_ ?_ HR8.out ?_ ?_ ?_ ?_); rfl; rfl; exact sizeTy; rfl; (simp [Value.oneCell']); intro Y hY; have HY := Lib.hid hY; clear hY))
          refine ret_row Try.results44 r 36 _ _ rfl rfl HY.out.at_ Try.underlying36 rfl sizeTy ?_
          rw [HT.out, hst.out, hE.out]
          exact ⟨rfl, (hrd.below hb8).up HY.out HR8.out (by decide) (by decide), (hfr.trans (Fr.below hb8)).up HY.out (by have := HRR.out; omega)⟩
        | true =>
          have hne := is_ne hs (by decide)
          have hisb := is_any ⟨#[42]⟩ hrd
          rw [hs] at hisb
          cases n with
          | zero =>
            have hE := Lib.hid (show starsV 0 k s' = (none, s'.fail 1) by unfold starsV; rw [hs]; rfl)
            have hk4 : (k : Int) = 4 := by omega
            go_wp2_with fail
            refine hisb.mono ?_
            rintro e w8 ⟨rfl, hb8⟩
            have hk8 := (hb8.block b5 hsz).trans hk5.out
            have hk81 : w8.cell? ⟨b5, 1, none⟩ = some (.int .i64 k) := cell_of_row _ _ _ _ _ _ hk8
            have hkb : ((k : Int) == 4) = true := by rw [hk4]; rfl
            have hr8 := (hb8.block r (lt_of_at hkr.out)).trans hkr.out
            have HR8 := Lib.hid hr8
            clear hk8 hr8 hk4
            go_wp2_with fail
            refine (fail_any 1 (by omega) (hrd.below hb8)).mono ?_
            rintro e w9 ⟨rfl, h9, hf9⟩
            have HR9 := Lib.hid (hf9.at_ HR8.out (by simp; omega))
            go_wp2_with ((with_reducible refine stG 36 r #[.int .i64 0, .int .i64 0, .string ⟨#[]⟩] ?_ ?_ HR9.out ?_ ?_ ?_ ?_); rfl; rfl; exact sizeTy; rfl; (simp [Value.oneCell']); intro Y hY; have HY := Lib.hid hY; clear hY)
            refine ret_row Try.results44 r 36 _ _ rfl rfl HY.out.at_ Try.underlying36 rfl sizeTy ?_
            rw [HT.out, hst.out, hE.out]
            exact ⟨rfl, h9.up HY.out HR9.out (by decide) (by decide), ((hfr.trans (Fr.below hb8)).trans hf9).up HY.out (by have := HRR.out; omega)⟩
          | succ n =>
            have hE := Lib.hid (show starsV (n + 1) k s' = starsV n ((k : Int) + 1) s'.tl by rw [starsV, if_pos hs])
            go_wp2_with fail
            refine hisb.mono ?_
            rintro e w8 ⟨rfl, hb8⟩
            have hk8 := (hb8.block b5 hsz).trans hk5.out
            have hk81 : w8.cell? ⟨b5, 1, none⟩ = some (.int .i64 k) := cell_of_row _ _ _ _ _ _ hk8
            have hfz : w8.frozen? ⟨b5, 1, none⟩ = false := frozen_of_row _ _ _ _ _ hk8
            have hkb : ((k : Int) == 4) = false := beq_eq_false_iff_ne.mpr (by omega)
            have hrd8 := hrd.below hb8
            have hrd9 := hrd8.setN hk8 (by decide) (by decide) 1 (.int .i64 ((k : Int) + 1))
            have hk9 := heap_setCell_same w8 b5 1 _ _ (.int .i64 ((k : Int) + 1)) hk8
            have hr9 := (Below.heap_setCell w8 ⟨b5, 1, none⟩ (.int .i64 ((k : Int) + 1)) r (by show r ≠ b5; have := HN.out; omega)).trans ((hb8.block r (lt_of_at hkr.out)).trans hkr.out)
            have hf9 := (hfr.trans (Fr.below hb8)).setN (n := b5) (by have := HN.out; have := HRR.out; omega) 1 (.int .i64 ((k : Int) + 1))
            have hs9 : b5 < (w8.setCell ⟨b5, 1, none⟩ (.int .i64 ((k : Int) + 1))).heap.size := by have := lt_of_at hk8; simpa [World.setCell] using this
            have HK9 := Lib.hid hk9
            have HR9 := Lib.hid hr9
            clear hk9 hr9 hk8
            go_wp2_with fail
            refine (step_any hrd9 hne).mono ?_
            rintro e w10 ⟨rfl, h10, hf10, hz10⟩
            have HZ := Lib.hid hz10
            clear hz10
            go_wp2
            go_roundw
            case rel => exact ⟨n, k + 1, s'.tl, by omega, Lib.hid (hst.out.trans (by rw [hE.out]; rfl)), h10, Lib.hid (hf10.at_ HK9.out (by simp; have := HN.out; omega)), Lib.hid (hf10.at_ HR9.out (by simp; have := HN.out; omega)), hf9.trans hf10, by rw [HZ.out]; exact hs9⟩
            case measure =>
              have := HMS.out
              have hc : w10.cell? ⟨b5, 1, none⟩ = some (.int .i64 ((k : Int) + 1)) := cell_of_row _ _ _ _ _ _ (hf10.at_ HK9.out (by simp; have := HN.out; omega))
              rw [this]
              unfold starOf
              rw [hc]
              simp only []
              omega
    · have hk4 : (b == 4) = false := beq_eq_false_iff_ne.mpr h44
      have hS : (if b = 4 then s.tl.one 1 else s.tl) = s.tl := if_neg h44
      have hS2 : (if b = 4 then s.tl.oneT 1 else (⟨#[]⟩ : ByteArray)) = ⟨#[]⟩ := if_neg h44
      rw [hS, hS2] at HT
      have hWd := h4
      have h5 := Lib.hid h5
      have hr := Lib.hid hr
      generalize s.tl = s1 at *
      clear hS hS2 h44 h4 h2 hne
      go_wp2_with fail
      generalize w3.alloc (.cells #[.int .i64 b, .int .i64 0, .string ⟨#[]⟩] 36) = W at *
      generalize hb5 : w3.heap.size = b5 at *
      generalize hrr : w.heap.size = r at *
      have HB5 := Lib.hid hb5
      have HRR := Lib.hid hrr
      clear hb5 hrr
      have HN := Lib.hid hrn
      clear hrn
      go_loopw [] (fun wr => ∃ (n k : Nat) (s' : Pa.S), n + k = 4 ∧ Hid (starsV 4 0 s1 = starsV n k s') ∧ RdAt wr R M s' ∧ Hid (wr.heap[b5]? = some (.cells #[.int .i64 b, .int .i64 k, .string ⟨#[]⟩] 36)) ∧ Hid (wr.heap[r]? = some (.cells #[.int .i64 0, .int .i64 0, .string ⟨#[]⟩] 36)) ∧ Fr [R] w wr ∧ b5 < wr.heap.size) (fun wr => starOf wr b5)
      case atStart => exact ⟨4, 0, s1, rfl, Lib.hid rfl, hWd, h5, hr, hF, h5l⟩
      case round =>
        obtain ⟨n, k, s', hnk, hst, hrd, hk5, hkr, hfr, hsz⟩ := hrel
        clear hWd h5 hr hF h5l
        have hrR := hrd.lt
        have hk1 : wr.cell? ⟨b5, 1, none⟩ = some (.int .i64 k) := cell_of_row _ _ _ _ _ _ hk5.out
        have hmeas : starOf wr b5 = 4 - k := by unfold starOf; rw [hk1]; simp only []; omega
        have HMS := Lib.hid hmeas
        clear hmeas hk1
        cases hs : s'.is ⟨#[42]⟩ with
        | false =>
          have e : starsV n k s' = (some (k : Int), s') := by cases n <;> (unfold starsV; rw [hs]; rfl)
          have hE := Lib.hid e
          clear e
          have hisb := is_any ⟨#[42]⟩ hrd
          rw [hs] at hisb
          go_wp2_with fail
          refine hisb.mono ?_
          rintro e w8 ⟨rfl, hb8⟩
          have hk8 := (hb8.block b5 hsz).trans hk5.out
          have hr8 := (hb8.block r (lt_of_at hkr.out)).trans hkr.out
          have HK8 := Lib.hid hk8
          have HR8 := Lib.hid hr8
          clear hk8 hr8
          go_wp2_with (first | ((with_reducible refine ldG 36 b5 ?_ HK8.out Try.underlying36 ?_ ?_ ?_); rfl; rfl; exact sizeTy) | ((with_reducible refine stG 36 r #[.int .i64 b, .int .i64 k, .string ⟨#[]⟩] ?_ ?_ HR8.out ?_ ?_ ?_ ?_); rfl; rfl; exact sizeTy; rfl; (simp [Value.oneCell']); intro Y hY; have HY := Lib.hid hY; clear hY))
          refine ret_row Try.results44 r 36 _ _ rfl rfl HY.out.at_ Try.underlying36 rfl sizeTy ?_
          rw [HT.out, hst.out, hE.out]
          exact ⟨rfl, (hrd.below hb8).up HY.out HR8.out (by decide) (by decide), (hfr.trans (Fr.below hb8)).up HY.out (by have := HRR.out; omega)⟩
        | true =>
          have hne := is_ne hs (by decide)
          have hisb := is_any ⟨#[42]⟩ hrd
          rw [hs] at hisb
          cases n with
          | zero =>
            have hE := Lib.hid (show starsV 0 k s' = (none, s'.fail 1) by unfold starsV; rw [hs]; rfl)
            have hk4 : (k : Int) = 4 := by omega
            go_wp2_with fail
            refine hisb.mono ?_
            rintro e w8 ⟨rfl, hb8⟩
            have hk8 := (hb8.block b5 hsz).trans hk5.out
            have hk81 : w8.cell? ⟨b5, 1, none⟩ = some (.int .i64 k) := cell_of_row _ _ _ _ _ _ hk8
            have hkb : ((k : Int) == 4) = true := by rw [hk4]; rfl
            have hr8 := (hb8.block r (lt_of_at hkr.out)).trans hkr.out
            have HR8 := Lib.hid hr8
            clear hk8 hr8 hk4
            go_wp2_with fail
            refine (fail_any 1 (by omega) (hrd.below hb8)).mono ?_
            rintro e w9 ⟨rfl, h9, hf9⟩
            have HR9 := Lib.hid (hf9.at_ HR8.out (by simp; omega))
            go_wp2_with ((with_reducible refine stG 36 r #[.int .i64 0, .int .i64 0, .string ⟨#[]⟩] ?_ ?_ HR9.out ?_ ?_ ?_ ?_); rfl; rfl; exact sizeTy; rfl; (simp [Value.oneCell']); intro Y hY; have HY := Lib.hid hY; clear hY)
            refine ret_row Try.results44 r 36 _ _ rfl rfl HY.out.at_ Try.underlying36 rfl sizeTy ?_
            rw [HT.out, hst.out, hE.out]
            exact ⟨rfl, h9.up HY.out HR9.out (by decide) (by decide), ((hfr.trans (Fr.below hb8)).trans hf9).up HY.out (by have := HRR.out; omega)⟩
          | succ n =>
            have hE := Lib.hid (show starsV (n + 1) k s' = starsV n ((k : Int) + 1) s'.tl by rw [starsV, if_pos hs])
            go_wp2_with fail
            refine hisb.mono ?_
            rintro e w8 ⟨rfl, hb8⟩
            have hk8 := (hb8.block b5 hsz).trans hk5.out
            have hk81 : w8.cell? ⟨b5, 1, none⟩ = some (.int .i64 k) := cell_of_row _ _ _ _ _ _ hk8
            have hfz : w8.frozen? ⟨b5, 1, none⟩ = false := frozen_of_row _ _ _ _ _ hk8
            have hkb : ((k : Int) == 4) = false := beq_eq_false_iff_ne.mpr (by omega)
            have hrd8 := hrd.below hb8
            have hrd9 := hrd8.setN hk8 (by decide) (by decide) 1 (.int .i64 ((k : Int) + 1))
            have hk9 := heap_setCell_same w8 b5 1 _ _ (.int .i64 ((k : Int) + 1)) hk8
            have hr9 := (Below.heap_setCell w8 ⟨b5, 1, none⟩ (.int .i64 ((k : Int) + 1)) r (by show r ≠ b5; have := HN.out; omega)).trans ((hb8.block r (lt_of_at hkr.out)).trans hkr.out)
            have hf9 := (hfr.trans (Fr.below hb8)).setN (n := b5) (by have := HN.out; have := HRR.out; omega) 1 (.int .i64 ((k : Int) + 1))
            have hs9 : b5 < (w8.setCell ⟨b5, 1, none⟩ (.int .i64 ((k : Int) + 1))).heap.size := by have := lt_of_at hk8; simpa [World.setCell] using this
            have HK9 := Lib.hid hk9
            have HR9 := Lib.hid hr9
            clear hk9 hr9 hk8
            go_wp2_with fail
            refine (step_any hrd9 hne).mono ?_
            rintro e w10 ⟨rfl, h10, hf10, hz10⟩
            have HZ := Lib.hid hz10
            clear hz10
            go_wp2
            go_roundw
            case rel => exact ⟨n, k + 1, s'.tl, by omega, Lib.hid (hst.out.trans (by rw [hE.out]; rfl)), h10, Lib.hid (hf10.at_ HK9.out (by simp; have := HN.out; omega)), Lib.hid (hf10.at_ HR9.out (by simp; have := HN.out; omega)), hf9.trans hf10, by rw [HZ.out]; exact hs9⟩
            case measure =>
              have := HMS.out
              have hc : w10.cell? ⟨b5, 1, none⟩ = some (.int .i64 ((k : Int) + 1)) := cell_of_row _ _ _ _ _ _ (hf10.at_ HK9.out (by simp; have := HN.out; omega))
              rw [this]
              unfold starOf
              rw [hc]
              simp only []
              omega
end Go.Proofs.Ytlobphanodhcoaa
