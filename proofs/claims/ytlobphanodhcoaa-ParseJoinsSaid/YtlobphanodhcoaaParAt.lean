/- Atoms. Conditions: each theorem's. -/
import Derived.Test.YtlobphanodhcoaaParUn
import Derived.Test.YtlobphanodhcoaaParCa
namespace Go.Proofs.Ytlobphanodhcoaa
open Go.RowKit Go.Maps
set_option linter.unusedVariables false
set_option linter.unusedSimpArgs false
set_option maxRecDepth 100000
open Lx Pa
abbrev tkA (t : Tk) : Array Value := #[.int .i64 t.kd, .string t.tx, .int .i64 t.at_]
theorem tk_cells {W : World} {b : Nat} {t : Tk} (h : W.heap[b]? = some (.cells (tkA t) 56)) : W.cell? ⟨b, 0, none⟩ = some (.int .i64 t.kd) ∧ W.cell? ⟨b, 1, none⟩ = some (.string t.tx) ∧ W.cell? ⟨b, 2, none⟩ = some (.int .i64 t.at_) :=
  ⟨cell_of_row _ _ _ _ _ _ h, cell_of_row _ _ _ _ _ _ h, cell_of_row _ _ _ _ _ _ h⟩
set_option maxHeartbeats 16000000 in
theorem atom_step {f : Nat} (HI : InsideC f) (HU : UseC f) : AtomC (f + 1) := by
  intro R M d s w h hf hd
  have hR := h.lt
  have hrun : runE (f + 1) (.atom d) s = if s.hd.kd = 2 then ([.mk 1 eB eB ((meanV s.hd.tx.data.toList).getD 0) [] ty0 s.hd.at_], s.tl)
    else if s.hd.kd = 1 then runE f (.use s.hd.tx s.hd.at_ d) s.tl
    else if s.is ⟨#[40]⟩ then runE f (.inside d) s.tl
    else ([ex0], s.fail 11) := by simp only [runE]
  have HRUN := Lib.hid hrun
  have h0 := h.alloc (.cells exZ 45)
  have HR0 := Lib.hid (heap_alloc_new w (.cells exZ 45))
  have HS0 := Lib.hid (szA w (.cells exZ 45))
  clear hrun
  go_enter Try.func80, Try.ntmps80
  go_wp2_with fail
  refine (now_any h0).mono ?_
  rintro e w1 ⟨rfl, b1⟩
  have h1 := h0.below b1
  have HR1 := Lib.hid ((b1.block w.heap.size (by rw [HS0.out]; omega)).trans HR0.out)
  have F1 := ((Fr.refl [R] w).alloc (.cells exZ 45)).trans (Fr.below b1)
  have z1 : w.heap.size + 1 ≤ w1.heap.size := by have := b1.size; rw [HS0.out] at this; exact this
  have hts := h.ok.hd.1
  generalize ht : s.hd = t at *
  have HT := Lib.hid ht
  have h2 := h1.alloc (.cells (tkA t) 56)
  have HR2 := (show RowE w1 w.heap.size from ⟨_, rfl, HR1.out⟩).alloc (.cells (tkA t) 56)
  have HB2 := Lib.hid (heap_alloc_new w1 (.cells (tkA t) 56))
  have F2 := F1.alloc (.cells (tkA t) 56)
  obtain ⟨k0, k1, k2⟩ := tk_cells HB2.out
  clear ht
  by_cases q2 : t.kd = 2
  · rw [if_pos q2] at HRUN
    have hne : s.hd.tx ≠ ⟨#[]⟩ ∨ s.hd.kd ≠ 0 := .inr (by rw [HT.out]; omega)
    have e2 : (t.kd == 2) = true := by rw [q2]; rfl
    clear q2
    go_wp2_with fail
    refine (step_any h2 hne).mono ?_
    rintro e w3 ⟨rfl, h3, f3, -⟩
    have HB3 := f3.at_ HB2.out (by simp; omega)
    clear k0 k1 k2
    obtain ⟨k0, k1, k2⟩ := tk_cells HB3
    obtain ⟨old, ho, hro⟩ := HR2.fr f3 (by simp; omega)
    have HRO := Lib.hid hro
    clear hro
    go_wp2_with fail
    refine (mean_any t.tx w3 (by omega)).mono ?_
    rintro e w4 ⟨rfl, rfl⟩
    generalize (meanV t.tx.data.toList).getD 0 = n at *
    go_wp2_with (((with_reducible refine stE w.heap.size (c := exL 1 ⟨#[]⟩ ⟨#[]⟩ n (.slice none 0 0) ty0 t.at_) rfl (oneX _ _ _ _ _ _ _ _ _) HRO.out ho ?_ ?_ ?_); rfl; rfl; intro Y hY; have HY := Lib.hid hY; clear hY))
    refine ret_row Try.results80 w.heap.size 45 _ _ rfl rfl HY.out.at_ Try.underlying45 rfl sizeEx ?_
    rw [HRUN.out]
    exact ⟨_, rfl, ExAt.of (ExsAt.nil _ _), h3.up HY.out HRO.out (by decide) (by decide), (F2.trans f3).up HY.out (Nat.le_refl _)⟩
  · have e2 : (t.kd == 2) = false := by simpa using q2
    rw [if_neg q2] at HRUN
    clear q2
    by_cases q1 : t.kd = 1
    · rw [if_pos q1] at HRUN
      have hne : s.hd.tx ≠ ⟨#[]⟩ ∨ s.hd.kd ≠ 0 := .inr (by rw [HT.out]; omega)
      have htl := (tl_ok h.ok hne).2
      have e1 : (t.kd == 1) = true := by rw [q1]; rfl
      clear q1
      go_wp2_with fail
      refine (step_any h2 hne).mono ?_
      rintro e w3 ⟨rfl, h3, f3, -⟩
      have HB3 := Lib.hid (f3.at_ HB2.out (by simp; omega))
      clear k0 k1 k2
      have HR3 := HR2.fr f3 (by simp; omega)
      have hexp := HU R M d t.kd t.tx t.at_ s.tl w3 h3 (by omega) (by omega)
      go_wp2_with (((with_reducible refine ldG 56 w1.heap.size ?_ HB3.out Try.underlying56 ?_ ?_ ?_); rfl; rfl; exact sizeTk))
      refine hexp.mono ?_
      rintro e w5 ⟨c5, rfl, hc5, h5, f5⟩
      clear hexp
      have HC5 := Lib.hid hc5.len
      have HA5 := Lib.hid (oneL hc5)
      obtain ⟨old, ho, hro⟩ := HR3.fr f5 (by simp; omega)
      have HRO := Lib.hid hro
      clear hro
      go_wp2_with (((with_reducible refine stE w.heap.size HC5.out HA5.out HRO.out ho ?_ ?_ ?_); rfl; rfl; intro Y hY; have HY := Lib.hid hY; clear hY))
      refine ret_row Try.results80 w.heap.size 45 _ _ rfl rfl HY.out.at_ Try.underlying45 rfl (by rw [List.size_toArray, HC5.out]; exact sizeEx) ?_
      rw [HRUN.out]
      exact ⟨c5, rfl, hc5.upd HY.out (fun g hg hl => ⟨by have hq1 : w3.heap.size ≤ g := hg; have hq2 := lt_of_at HB3.out; show w.heap.size ≤ g; omega, by have hq1 : w3.heap.size ≤ g := hg; have hq2 := lt_of_at HB3.out; omega⟩), h5.up HY.out HRO.out (by decide) (by decide), ((F2.trans f3).trans f5).up HY.out (Nat.le_refl _)⟩
    · have e1 : (t.kd == 1) = false := by simpa using q1
      rw [if_neg q1] at HRUN
      clear q1
      have hta := take_any ⟨#[40]⟩ (by decide) h2
      cases hi : s.is ⟨#[40]⟩ with
      | true =>
        rw [hi, if_pos rfl] at HRUN
        rw [hi, take_tl hi] at hta
        have hne := is_ne hi (by decide)
        have htl := (tl_ok h.ok hne).2
        clear hi hne
        go_wp2_with fail
        refine hta.mono ?_
        rintro e w3 ⟨rfl, h3, f3⟩
        clear hta
        have HB3 := Lib.hid (f3.at_ HB2.out (by simp; omega))
        clear k0 k1 k2
        have HR3 := HR2.fr f3 (by simp; omega)
        have hexp := HI R M d s.tl w3 h3 (by omega) (by omega)
        go_wp2_with fail
        refine hexp.mono ?_
        rintro e w5 ⟨c5, rfl, hc5, h5, f5⟩
        clear hexp
        have HC5 := Lib.hid hc5.len
        have HA5 := Lib.hid (oneL hc5)
        obtain ⟨old, ho, hro⟩ := HR3.fr f5 (by simp; omega)
        have HRO := Lib.hid hro
        clear hro
        go_wp2_with (((with_reducible refine stE w.heap.size HC5.out HA5.out HRO.out ho ?_ ?_ ?_); rfl; rfl; intro Y hY; have HY := Lib.hid hY; clear hY))
        refine ret_row Try.results80 w.heap.size 45 _ _ rfl rfl HY.out.at_ Try.underlying45 rfl (by rw [List.size_toArray, HC5.out]; exact sizeEx) ?_
        rw [HRUN.out]
        exact ⟨c5, rfl, hc5.upd HY.out (fun g hg hl => ⟨by have hq1 : w3.heap.size ≤ g := hg; have hq2 := lt_of_at HB3.out; show w.heap.size ≤ g; omega, by have hq1 : w3.heap.size ≤ g := hg; have hq2 := lt_of_at HB3.out; omega⟩), h5.up HY.out HRO.out (by decide) (by decide), ((F2.trans f3).trans f5).up HY.out (Nat.le_refl _)⟩
      | false =>
        rw [hi, if_neg (by decide)] at HRUN
        rw [hi, take_no hi] at hta
        clear hi
        go_wp2_with fail
        refine hta.mono ?_
        rintro e w3 ⟨rfl, h3, f3⟩
        clear hta k0 k1 k2
        have HR3 := HR2.fr f3 (by simp; omega)
        go_wp2_with fail
        refine (fail_any 11 (by omega) h3).mono ?_
        rintro e w5 ⟨rfl, h5, f5⟩
        obtain ⟨old, ho, hro⟩ := HR3.fr f5 (by simp; omega)
        have HRO := Lib.hid hro
        clear hro
        go_wp2_with (((with_reducible refine stE w.heap.size (c := exL 0 ⟨#[]⟩ ⟨#[]⟩ 0 (.slice none 0 0) ty0 0) rfl (oneX _ _ _ _ _ _ _ _ _) HRO.out ho ?_ ?_ ?_); rfl; rfl; intro Y hY; have HY := Lib.hid hY; clear hY))
        refine ret_row Try.results80 w.heap.size 45 _ _ rfl rfl HY.out.at_ Try.underlying45 rfl sizeEx ?_
        rw [HRUN.out]
        exact ⟨_, rfl, ExAt.ex0 _ _, h5.up HY.out HRO.out (by decide) (by decide), ((F2.trans f3).trans f5).up HY.out (Nat.le_refl _)⟩
end Go.Proofs.Ytlobphanodhcoaa
