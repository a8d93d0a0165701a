/- Names: of variables, of functions that are called. Conditions: each theorem's. -/
import Derived.Test.YtlobphanodhcoaaParUs
import Derived.Test.YtlobphanodhcoaaParAt
namespace Go.Proofs.Ytlobphanodhcoaa
open Go.RowKit Go.Maps
set_option linter.unusedVariables false
set_option linter.unusedSimpArgs false
set_option maxRecDepth 100000
open Lx Pa
theorem bl1 (w : World) (o : Obj) {k : Nat} {x : Option Obj} (h : w.heap[k]? = x) (hk : k < w.heap.size) : (w.alloc o).heap[k]? = x := (Below.heap_alloc w o k hk).trans h
theorem bn (w : World) (o : Obj) {k : Nat} (hk : w.heap.size = k) : (w.alloc o).heap[k]? = some o := by subst hk; exact heap_alloc_new w o
set_option maxHeartbeats 16000000 in
theorem use_step {f : Nat} (HB : BetC f) : UseC (f + 1) := by
  intro R M d k nm a s w h hf hd
  have hR := h.lt
  have hrun : runE (f + 1) (.use nm a d) s = if s.is ⟨#[40]⟩ then ([.mk 6 eB nm 0 (runE f (.betE (d + 1)) s.tl).1 ty0 a], (runE f (.betE (d + 1)) s.tl).2) else ([.mk 2 eB nm 0 [] ty0 a], s) := by simp only [runE]
  have HRUN := Lib.hid hrun
  clear hrun
  obtain ⟨B, hB⟩ : ∃ B, w.heap.size = B := ⟨_, rfl⟩
  have h1 := h.alloc (.cells (ptR R) 73)
  have s1 := szA w (.cells (ptR R) 73)
  have x1 := bn w (.cells (ptR R) 73) hB
  have F1 := (Fr.refl [R] w).alloc (.cells (ptR R) 73)
  have hW1 : w.alloc (.cells (ptR R) 73) = w.alloc (.cells (ptR R) 73) := rfl
  generalize hw1 : w.alloc (.cells (ptR R) 73) = w1 at *
  have h2 := h1.alloc (.cells (tkA ⟨k, nm, a⟩) 56)
  have s2 := szA w1 (.cells (tkA ⟨k, nm, a⟩) 56)
  have x2 := bl1 w1 (.cells (tkA ⟨k, nm, a⟩) 56) x1 (by omega)
  have F2 := F1.alloc (.cells (tkA ⟨k, nm, a⟩) 56)
  generalize hw2 : w1.alloc (.cells (tkA ⟨k, nm, a⟩) 56) = w2 at *
  have h3 := h2.alloc (.cells #[.int .i64 d] 3)
  have s3 := szA w2 (.cells #[.int .i64 d] 3)
  have x3 := bl1 w2 (.cells #[.int .i64 d] 3) x2 (by omega)
  have y3 := bn w2 (.cells #[.int .i64 d] 3) (k := B + 2) (by omega)
  have F3 := F2.alloc (.cells #[.int .i64 d] 3)
  generalize hw3 : w2.alloc (.cells #[.int .i64 d] 3) = w3 at *
  have h4 := h3.alloc (.cells exZ 45)
  have s4 := szA w3 (.cells exZ 45)
  have x4 := bl1 w3 (.cells exZ 45) x3 (by omega)
  have y4 := bl1 w3 (.cells exZ 45) y3 (by omega)
  have r4 := bn w3 (.cells exZ 45) (k := B + 3) (by omega)
  have F4 := F3.alloc (.cells exZ 45)
  generalize hw4 : w3.alloc (.cells exZ 45) = w4 at *
  have h5 := h4.alloc (.cells (exL 2 ⟨#[]⟩ nm 0 (.slice none 0 0) ty0 a).toArray 45)
  have s5 := szA w4 (.cells (exL 2 ⟨#[]⟩ nm 0 (.slice none 0 0) ty0 a).toArray 45)
  have x5 := bl1 w4 (.cells (exL 2 ⟨#[]⟩ nm 0 (.slice none 0 0) ty0 a).toArray 45) x4 (by omega)
  have y5 := bl1 w4 (.cells (exL 2 ⟨#[]⟩ nm 0 (.slice none 0 0) ty0 a).toArray 45) y4 (by omega)
  have r5 := bl1 w4 (.cells (exL 2 ⟨#[]⟩ nm 0 (.slice none 0 0) ty0 a).toArray 45) r4 (by omega)
  have t5 := bn w4 (.cells (exL 2 ⟨#[]⟩ nm 0 (.slice none 0 0) ty0 a).toArray 45) (k := B + 4) (by omega)
  have F5 := F4.alloc (.cells (exL 2 ⟨#[]⟩ nm 0 (.slice none 0 0) ty0 a).toArray 45)
  subst hw4 hw3 hw2 hw1
  have hz5 : ((((((w.alloc (.cells (ptR R) 73)).alloc (.cells (tkA ⟨k, nm, a⟩) 56)).alloc (.cells #[.int .i64 d] 3)).alloc (.cells exZ 45)).alloc (.cells (exL 2 ⟨#[]⟩ nm 0 (.slice none 0 0) ty0 a).toArray 45))).heap.size = B + 5 := by omega
  clear s1 s2 s3 s4 s5 x1 x2 x3 x4 y3 y4 r4 F1 F2 F3 F4 h1 h2 h3 h4 hW1
  subst hB
  have HX := Lib.hid x5
  have HY := Lib.hid y5
  have HRR := Lib.hid r5
  have HT := Lib.hid t5
  have HZ := Lib.hid hz5
  clear x5 y5 r5 t5 hz5
  have hta := take_any ⟨#[40]⟩ (by decide) h5
  cases hi : s.is ⟨#[40]⟩ with
  | false =>
    rw [hi, if_neg (by decide)] at HRUN
    rw [hi, take_no hi] at hta
    clear hi
    go_enter Try.func82, Try.ntmps82
    go_wp2_with fail
    refine hta.mono ?_
    rintro e w6 ⟨rfl, h6, f6⟩
    clear hta
    have HT6 := Lib.hid (f6.at_ HT.out (by simp; omega))
    have HR6 := Lib.hid (f6.at_ HRR.out (by simp; omega))
    have F6 := F5.trans f6
    go_wp2_with (first | ((with_reducible refine ldE (w.heap.size + 1 + 1 + 1 + 1) (c := exL 2 ⟨#[]⟩ nm 0 (.slice none 0 0) ty0 a) rfl HT6.out ?_ ?_); rfl) | ((with_reducible refine stE (w.heap.size + 1 + 1 + 1) (c := exL 2 ⟨#[]⟩ nm 0 (.slice none 0 0) ty0 a) rfl (oneX _ _ _ _ _ _ _ _ _) HR6.out rfl ?_ ?_ ?_); rfl; rfl; intro Y hY; have HY9 := Lib.hid hY; clear hY))
    refine ret_row Try.results82 (w.heap.size + 1 + 1 + 1) 45 _ _ rfl rfl HY9.out.at_ Try.underlying45 rfl sizeEx ?_
    rw [HRUN.out]
    exact ⟨_, rfl, ExAt.of (ExsAt.nil _ _), h6.up HY9.out HR6.out (by decide) (by decide), F6.up HY9.out (by omega)⟩
  | true =>
    rw [hi, if_pos rfl] at HRUN
    rw [hi, take_tl hi] at hta
    have hne := is_ne hi (by decide)
    have htl := (tl_ok h.ok hne).2
    clear hi
    go_enter Try.func82, Try.ntmps82
    go_wp2_with fail
    refine hta.mono ?_
    rintro e w6 ⟨rfl, h6, f6⟩
    clear hta
    have ht6 := f6.at_ HT.out (by simp; omega)
    have hr6 := f6.at_ HRR.out (by simp; omega)
    have hx6 := f6.at_ HX.out (by simp; omega)
    have hy6 := f6.at_ HY.out (by simp; omega)
    have z6 : w.heap.size + 5 ≤ w6.heap.size := by have := f6.size; rw [HZ.out] at this; exact this
    have F6 := F5.trans f6
    have c0 : w6.cell? ⟨w.heap.size + 1 + 1 + 1 + 1, 0, none⟩ = some (.int .i64 2) := cell_of_row _ _ _ _ _ _ ht6
    have e0 : w6.frozen? ⟨w.heap.size + 1 + 1 + 1 + 1, 0, none⟩ = false := frozen_of_row _ _ _ _ _ ht6
    have u7 := up_set ht6 0 (.int .i64 6)
    have hx7 := (u7.oth (w.heap.size) (by omega)).trans hx6
    have hy7 := (u7.oth (w.heap.size + 1 + 1) (by omega)).trans hy6
    have hr7 := (u7.oth (w.heap.size + 1 + 1 + 1) (by omega)).trans hr6
    have k0 : (w6.setCell ⟨w.heap.size + 1 + 1 + 1 + 1, 0, none⟩ (.int .i64 6)).cell? ⟨w.heap.size, 0, none⟩ = some (.pointer (some ⟨R, 0, none⟩)) := cell_of_row _ _ _ _ _ _ hx7
    have h7 := h6.up u7 ht6 (by decide) (by decide)
    have F7 := F6.up u7 (by omega)
    have hbet := HB R M d s.tl _ w.heap.size (w.heap.size + 1 + 1) h7 hx7 hy7 (by omega) (by omega)
    have HT7 := Lib.hid u7.at_
    have HR7 := Lib.hid hr7
    have HZ7 := Lib.hid u7.size
    generalize (runE f (.betE (d + 1)) s.tl).1 = l at *
    generalize (runE f (.betE (d + 1)) s.tl).2 = s2 at *
    clear u7 hx7 hy7 hr7 ht6 hr6 hx6 hy6
    have hmf := makeFn
    go_wp2_with fail
    refine hbet.mono ?_
    rintro e w8 ⟨v, rfl, hl8, h8, f8⟩
    clear hbet
    obtain ⟨A, cap, rfl⟩ := hl8.slice
    have ht8 := f8.at_ HT7.out (by simp; omega)
    have hr8 := f8.at_ HR7.out (by simp; omega)
    have z8 : w6.heap.size ≤ w8.heap.size := by have := f8.size; rw [HZ7.out] at this; exact this
    have c4 : w8.cell? ⟨w.heap.size + 1 + 1 + 1 + 1, 4, none⟩ = some (.slice none 0 0) := cell_of_row _ _ _ _ _ _ ht8
    have e4 : w8.frozen? ⟨w.heap.size + 1 + 1 + 1 + 1, 4, none⟩ = false := frozen_of_row _ _ _ _ _ ht8
    have u9 := up_set ht8 4 (.slice A l.length cap)
    have hr9 := (u9.oth (w.heap.size + 1 + 1 + 1) (by omega)).trans hr8
    have h9 := h8.up u9 ht8 (by decide) (by decide)
    have F9 := (F7.trans f8).up u9 (by omega)
    have hl9 := hl8.keep (w' := w8.setCell ⟨w.heap.size + 1 + 1 + 1 + 1, 4, none⟩ (.slice A l.length cap)) (S' := fun g => w.heap.size + 5 ≤ g) (fun g hg hl => by
      have hg' : (w6.setCell ⟨w.heap.size + 1 + 1 + 1 + 1, 0, none⟩ (.int .i64 6)).heap.size ≤ g := hg
      rw [HZ7.out] at hg'
      exact ⟨by omega, u9.oth g (by omega)⟩) (Nat.le_of_eq u9.size.symm)
    have HT9 : Hid ((w8.setCell ⟨w.heap.size + 1 + 1 + 1 + 1, 4, none⟩ (.slice A l.length cap)).heap[w.heap.size + 1 + 1 + 1 + 1]? = some (.cells (exL 6 ⟨#[]⟩ nm 0 (.slice A l.length cap) ty0 a).toArray 45)) := Lib.hid u9.at_
    have HR9 := Lib.hid hr9
    clear u9 hr9 ht8 hr8 c0 e0 k0 hl8
    go_wp2_with (first | ((with_reducible refine ldE (w.heap.size + 1 + 1 + 1 + 1) (c := exL 6 ⟨#[]⟩ nm 0 (.slice A l.length cap) ty0 a) rfl HT9.out ?_ ?_); rfl) | ((with_reducible refine stE (w.heap.size + 1 + 1 + 1) (c := exL 6 ⟨#[]⟩ nm 0 (.slice A l.length cap) ty0 a) rfl (oneX _ _ _ _ _ _ _ _ _) HR9.out rfl ?_ ?_ ?_); rfl; rfl; intro Y hY; have HY9 := Lib.hid hY; clear hY))
    refine ret_row Try.results82 (w.heap.size + 1 + 1 + 1) 45 _ _ rfl rfl HY9.out.at_ Try.underlying45 rfl sizeEx ?_
    rw [HRUN.out]
    exact ⟨_, rfl, ExAt.of (exs_list (hl9.keep (fun g hg hl => ⟨by show w.heap.size ≤ g; have hg' : w.heap.size + 5 ≤ g := hg; omega, HY9.out.oth g (by have hg' : w.heap.size + 5 ≤ g := hg; omega)⟩) (Nat.le_of_eq HY9.out.size.symm))), h9.up HY9.out HR9.out (by decide) (by decide), F9.up HY9.out (by omega)⟩
end Go.Proofs.Ytlobphanodhcoaa
