/- A reader of types in brackets, of names with a type, of lengths. Conditions: each theorem's. -/
import Derived.Test.YtlobphanodhcoaaParC
namespace Go.Proofs.Ytlobphanodhcoaa
open Go.RowKit Go.Maps
set_option linter.unusedVariables false
set_option linter.unusedSimpArgs false
set_option maxRecDepth 100000
open Lx Pa
theorem up_set {X : World} {g : Nat} {cs : Array Value} {t : TypeId} (hg : X.heap[g]? = some (.cells cs t)) (i : Nat) (v : Value) : Up X g (cs.setIfInBounds i v) t (X.setCell ⟨g, i, none⟩ v) :=
  ⟨heap_setCell_same _ _ _ _ _ _ hg, fun k hk => Below.heap_setCell _ _ _ _ hk, by simp [World.setCell], rfl, rfl, rfl⟩
theorem Up.trans {X Y Z : World} {g : Nat} {cs ds : Array Value} {t : TypeId} (h : Up X g cs t Y) (k : Up Y g ds t Z) : Up X g ds t Z :=
  ⟨k.at_, fun j hj => (k.oth j hj).trans (h.oth j hj), k.size.trans h.size, k.os.trans h.os, k.tape.trans h.tape, k.output.trans h.output⟩
theorem up_set3 {X : World} {g : Nat} {cs : Array Value} {t : TypeId} (hg : X.heap[g]? = some (.cells cs t)) (i j k : Nat) (a b c : Value) : Up X g (((cs.setIfInBounds i a).setIfInBounds j b).setIfInBounds k c) t (((X.setCell ⟨g, i, none⟩ a).setCell ⟨g, j, none⟩ b).setCell ⟨g, k, none⟩ c) := by
  have h1 := up_set hg i a
  have h2 := up_set h1.at_ j b
  exact (h1.trans h2).trans (up_set h2.at_ k c)
abbrev vaC (v : PVa) : Array Value := #[.string v.nm, .int .i64 v.ty.ba, .int .i64 v.ty.st, .string v.ty.rc, .int .i64 v.ln, .int .i64 v.at_]
set_option maxHeartbeats 2000000 in
theorem tyIn_any {w : World} {R M : Nat} {s : Pa.S} (h : RdAt w R M s) :
    Calls Try.prog 76 #[.pointer (some ⟨R, 0, none⟩)] w fun e w' => e = .returned (.agg (tyC (typeV s).1)) ∧ RdAt w' R M ((typeV s).2.want ⟨#[41]⟩) ∧ Fr [R] w w' := by
  have hR := h.lt
  have h0 := h.alloc (.cells #[.int .i64 0, .int .i64 0, .string ⟨#[]⟩] 36)
  have hr0 := heap_alloc_new w (.cells #[.int .i64 0, .int .i64 0, .string ⟨#[]⟩] 36)
  have hsz0 := szA w (.cells #[.int .i64 0, .int .i64 0, .string ⟨#[]⟩] 36)
  have HR0 := Lib.hid hr0
  have HS0 := Lib.hid hsz0
  clear hr0 hsz0
  go_enter Try.func76, Try.ntmps76
  go_wp2_with fail
  refine (type_any h0).mono ?_
  rintro e w1 ⟨rfl, h1, f1⟩
  have HR1 := Lib.hid (f1.at_ HR0.out (by simp; omega))
  have z1 : w.heap.size + 1 ≤ w1.heap.size := by have := f1.size; rw [HS0.out] at this; exact this
  have F1 := ((Fr.refl [R] w).alloc _).trans f1
  have h2 := h1.alloc (.cells (tyC (typeV s).1) 36)
  have HR2 := Lib.hid ((Below.heap_alloc w1 (.cells (tyC (typeV s).1) 36) w.heap.size (by omega)).trans HR1.out)
  have HB2 := Lib.hid (heap_alloc_new w1 (.cells (tyC (typeV s).1) 36))
  go_wp2_with fail
  refine (want_any ⟨#[41]⟩ (by decide) h2).mono ?_
  rintro e w3 ⟨rfl, h3, f3⟩
  have HR3 := Lib.hid (f3.at_ HR2.out (by simp; omega))
  have HB3 := Lib.hid (f3.at_ HB2.out (by simp; omega))
  go_wp2_with (first | ((with_reducible refine ldG 36 w1.heap.size ?_ HB3.out Try.underlying36 ?_ ?_ ?_); rfl; rfl; exact sizeTy) | ((with_reducible refine stG 36 w.heap.size (tyC (typeV s).1) ?_ ?_ HR3.out ?_ ?_ ?_ ?_); rfl; rfl; exact sizeTy; rfl; (simp [Value.oneCell']); intro Y hY; have HY := Lib.hid hY; clear hY))
  refine ret_row Try.results76 w.heap.size 36 _ _ rfl rfl HY.out.at_ Try.underlying36 rfl sizeTy ?_
  exact ⟨rfl, h3.up HY.out HR3.out (by decide) (by decide), ((F1.alloc _).trans f3).up HY.out (Nat.le_refl _)⟩
set_option maxHeartbeats 2000000 in
theorem named_any {w : World} {R M : Nat} {s : Pa.S} (h : RdAt w R M s) :
    Calls Try.prog 29 #[.pointer (some ⟨R, 0, none⟩)] w fun e w' => e = .returned (.agg (vaC (namedV s).1)) ∧ RdAt w' R M (namedV s).2 ∧ Fr [R] w w' := by
  have hR := h.lt
  have F2 := tf2
  have h0 := h.alloc (.cells #[.string ⟨#[]⟩, .int .i64 0, .int .i64 0, .string ⟨#[]⟩, .int .i64 0, .int .i64 0] 38)
  have HR0 := Lib.hid (heap_alloc_new w (.cells #[.string ⟨#[]⟩, .int .i64 0, .int .i64 0, .string ⟨#[]⟩, .int .i64 0, .int .i64 0] 38))
  have HS0 := Lib.hid (szA w (.cells #[.string ⟨#[]⟩, .int .i64 0, .int .i64 0, .string ⟨#[]⟩, .int .i64 0, .int .i64 0] 38))
  go_enter Try.func29, Try.ntmps29
  go_wp2_with fail
  refine (now_any h0).mono ?_
  rintro e w1 ⟨rfl, b1⟩
  have h1 := h0.below b1
  have z1 : w.heap.size + 1 ≤ w1.heap.size := by have := b1.size; rw [HS0.out] at this; exact this
  have HR1 := Lib.hid ((b1.block w.heap.size (by rw [HS0.out]; omega)).trans HR0.out)
  have G1 := ((Fr.refl [R] w).alloc (.cells #[.string ⟨#[]⟩, .int .i64 0, .int .i64 0, .string ⟨#[]⟩, .int .i64 0, .int .i64 0] 38)).trans (Fr.below b1)
  have h2 := h1.alloc (.cells #[.string ⟨#[]⟩, .int .i64 0, .int .i64 0, .string ⟨#[]⟩, .int .i64 0, .int .i64 s.hd.at_] 38)
  have HR2 := Lib.hid ((Below.heap_alloc w1 (.cells #[.string ⟨#[]⟩, .int .i64 0, .int .i64 0, .string ⟨#[]⟩, .int .i64 0, .int .i64 s.hd.at_] 38) w.heap.size (by omega)).trans HR1.out)
  have HB2 := Lib.hid (heap_alloc_new w1 (.cells #[.string ⟨#[]⟩, .int .i64 0, .int .i64 0, .string ⟨#[]⟩, .int .i64 0, .int .i64 s.hd.at_] 38))
  have hne : w.heap.size ≠ w1.heap.size := by omega
  go_wp2_with fail
  refine (type_any h2).mono ?_
  rintro e w3 ⟨rfl, h3, f3⟩
  have HR3 := Lib.hid (f3.at_ HR2.out (by simp; omega))
  have hb3 := f3.at_ HB2.out (by simp; omega)
  have c1 : w3.cell? ⟨w1.heap.size, 1, none⟩ = some (.int .i64 0) := cell_of_row _ _ _ _ _ _ hb3
  have c2 : w3.cell? ⟨w1.heap.size, 2, none⟩ = some (.int .i64 0) := cell_of_row _ _ _ _ _ _ hb3
  have c3 : w3.cell? ⟨w1.heap.size, 3, none⟩ = some (.string ⟨#[]⟩) := cell_of_row _ _ _ _ _ _ hb3
  have e1 : w3.frozen? ⟨w1.heap.size, 1, none⟩ = false := frozen_of_row _ _ _ _ _ hb3
  have e2 : w3.frozen? ⟨w1.heap.size, 2, none⟩ = false := frozen_of_row _ _ _ _ _ hb3
  have e3 : w3.frozen? ⟨w1.heap.size, 3, none⟩ = false := frozen_of_row _ _ _ _ _ hb3
  have u4 := up_set3 hb3 1 2 3 (.int .i64 (typeV s).1.ba) (.int .i64 (typeV s).1.st) (.string (typeV s).1.rc)
  have h4 := h3.up u4 hb3 (by decide) (by decide)
  have HR4 := Lib.hid ((u4.oth _ hne).trans HR3.out)
  have G4 := ((G1.alloc _).trans f3).up u4 (by omega)
  have HB4 := Lib.hid u4.at_
  have HZ4 := Lib.hid u4.size
  clear u4 hb3
  go_wp2_with fail
  refine (one_any 1 (.inl rfl) h4).mono ?_
  rintro e w5 ⟨rfl, h5, f5⟩
  have HR5 := Lib.hid (f5.at_ HR4.out (by simp; omega))
  have hb5 := f5.at_ HB4.out (by simp; omega)
  have c0 : w5.cell? ⟨w1.heap.size, 0, none⟩ = some (.string ⟨#[]⟩) := cell_of_row _ _ _ _ _ _ hb5
  have e0 : w5.frozen? ⟨w1.heap.size, 0, none⟩ = false := frozen_of_row _ _ _ _ _ hb5
  have u6 := up_set hb5 0 (.string ((typeV s).2.oneT 1))
  have h6 := h5.up u6 hb5 (by decide) (by decide)
  have HR6 := Lib.hid ((u6.oth _ hne).trans HR5.out)
  have HB6 := Lib.hid u6.at_
  have G6 := (G4.trans f5).up u6 (by omega)
  clear u6 hb5 c1 c2 c3 e1 e2 e3
  go_wp2_with (first | ((with_reducible refine ldG 38 w1.heap.size ?_ HB6.out Try.underlying38 ?_ ?_ ?_); rfl; rfl; exact sizeVa) | ((with_reducible refine stG 38 w.heap.size (vaC (namedV s).1) ?_ ?_ HR6.out ?_ ?_ ?_ ?_); rfl; rfl; exact sizeVa; rfl; (simp [Value.oneCell']); intro Y hY; have HY := Lib.hid hY; clear hY))
  refine ret_row Try.results29 w.heap.size 38 _ _ rfl rfl HY.out.at_ Try.underlying38 rfl sizeVa ?_
  exact ⟨rfl, h6.up HY.out HR6.out (by decide) (by decide), G6.up HY.out (Nat.le_refl _)⟩
end Go.Proofs.Ytlobphanodhcoaa
