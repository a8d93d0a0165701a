/- An expression told: the closure of expr; expr. Conditions: each theorem's. -/
import Derived.Test.YtfjobnljdkiihaaGreatDoorQtTwJ
import Derived.Deep.RegionHeld3
namespace Go.Proofs.YtfjobnljdkiihaaGreatDoor
open Go.RowKit Go.Maps
set_option linter.unusedVariables false
set_option linter.unusedSimpArgs false
set_option maxRecDepth 100000
open Lx Pa Go.Lib Qi
theorem lineT_eq (T : PrintTabs) (kd : Int) (op nm : ByteArray) (num : Int) (ty : PTy) (n : Nat) : lineT [⟨#[101, 120, 112, 114]⟩, numT kd, quoZ T op, quoZ T nm, numT num, typZ T ty.ba ty.st ty.rc, numT n] = exLine T kd op nm num ty n := by
 unfold lineT exLine numT
 rw [quoZ_qt, quoZ_qt, typZ_eq]
 simp [Lib.join]
set_option maxHeartbeats 16000000 in
theorem tellE (T : PrintTabs) (B b bw : Nat) : TellE T B b bw := by
 intro x p X w hW hbw hp hf hlen
 obtain ⟨g, o, c, rfl, hS, hg, hx, hr⟩ := hp
 obtain ⟨kd, op, nm, num, kids, ty, a, z, A, cap, rfl, rfl, hk⟩ := hx.inv
 obtain ⟨⟨f1, f2, ⟨f3, f4, f5⟩, f6, f7⟩, f8⟩ := hf
 have c0 : w.cell? ⟨g, o, none⟩ = some (.int .i64 kd) := hr 0 _ rfl
 have c1 : w.cell? ⟨g, o + 1, none⟩ = some (.string op) := hr 1 _ rfl
 have c2 : w.cell? ⟨g, o + 2, none⟩ = some (.string nm) := hr 2 _ rfl
 have c3 : w.cell? ⟨g, o + 3, none⟩ = some (.int .u64 num) := hr 3 _ rfl
 have c4 : w.cell? ⟨g, o + 4, none⟩ = some (.slice A kids.length cap) := hr 4 _ rfl
 have c5 : w.cell? ⟨g, o + 5, none⟩ = some (.int .i64 ty.ba) := hr 5 _ rfl
 have c6 : w.cell? ⟨g, o + 6, none⟩ = some (.int .i64 ty.st) := hr 6 _ rfl
 have c7 : w.cell? ⟨g, o + 7, none⟩ = some (.string ty.rc) := hr 7 _ rfl
 have cw : w.cell? ⟨bw, 0, none⟩ = some (.pointer (some ⟨b, 0, none⟩)) := by simp [World.cell?, hbw]
 have hbl : bw < w.heap.size := (Array.getElem?_eq_some_iff.1 hbw).1
 have hBw := hW.bw
 have hne : bw ≠ b := fun e => by
  obtain ⟨_, cc, hc⟩ := hW.at_
  rw [← e, hbw] at hc
  injection hc with hc
  injection hc with _ hc _
  revert hc; decide
 have hkl : (kids.length : Int) ≤ 9223372036854775807 := by
  obtain ⟨_, _, ⟨_, _, e, h1, h2, _⟩, _⟩ := hk
  injection e with _ e1 e2
  subst e2
  unfold maxLen at h2
  omega
 have hTb : ∀ V, Below w.heap.size w V → Tb T B V := fun V hV => hW.tb.keep (hV.mono hBw)
 have C1 : ∀ V, Below w.heap.size w V → Calls Tryz.prog 52 #[.int .i64 kd] V fun e w' => e = .returned (.string (numT kd)) ∧ Below V.heap.size V w' := fun V hV => itoa_any kd f6.1 f6.2 V (hTb V hV).get.1
 have C2 : ∀ V, Below w.heap.size w V → Calls Tryz.prog 29 #[.string op] V fun e w' => e = .returned (.string (quoZ T op)) ∧ Below V.heap.size V w' := fun V hV => quo_any op f1 V (hTb V hV)
 have C3 : ∀ V, Below w.heap.size w V → Calls Tryz.prog 29 #[.string nm] V fun e w' => e = .returned (.string (quoZ T nm)) ∧ Below V.heap.size V w' := fun V hV => quo_any nm f2 V (hTb V hV)
 have C4 : ∀ V, Below w.heap.size w V → Calls Tryz.prog 81 #[.int .u64 num, .int .i64 10] V fun e w' => e = .returned (.string (numT num)) ∧ Below V.heap.size V w' := fun V hV => fmt_any num f7.1 f7.2 V (hTb V hV).get.1
 have C5 : ∀ V, Below w.heap.size w V → Calls Tryz.prog 31 #[.agg #[.int .i64 ty.ba, .int .i64 ty.st, .string ty.rc]] V fun e w' => e = .returned (.string (typZ T ty.ba ty.st ty.rc)) ∧ Below V.heap.size V w' := fun V hV => typeText_w ty.ba ty.st ty.rc f4 f5 f3 V (hTb V hV) (Nat.le_trans hBw hV.size)
 have C6 : ∀ V, Below w.heap.size w V → Calls Tryz.prog 56 #[.slice A kids.length cap] V fun e w' => e = .returned (.string (numT kids.length)) ∧ Below V.heap.size V w' := fun V hV => (count_Expr A kids.length cap (by omega) V (hTb V hV).get.1).mono fun e w' h => ⟨h.1, below_gr h.2⟩
 have hL := lineT_eq T kd op nm num ty kids.length
 have hlen2 : X.length + (exLine T kd op nm num ty kids.length).length ≤ 1000000000000 := hlen
 rw [← hL] at hlen2
 unfold ownE
 dsimp only [kidsE]
 rw [← hL]
 generalize numT kd = N1 at *
 generalize quoZ T op = N2 at *
 generalize quoZ T nm = N3 at *
 generalize numT num = N4 at *
 generalize typZ T ty.ba ty.st ty.rc = N5 at *
 generalize numT kids.length = N6 at *
 have CL : ∀ (V V' : World), Below w.heap.size w V' → V'.heap[V.heap.size]? = some (.cells #[.string ⟨#[101, 120, 112, 114]⟩, .string N1, .string N2, .string N3, .string N4, .string N5, .string N6] 9) → Calls Tryz.prog 25 #[.pointer (some ⟨b, 0, none⟩), .slice (some ⟨V.heap.size, 0, none⟩) 7 7] V' fun e w' => e = .returned (.tuple #[]) ∧ Wr T B b (X ++ lineT [⟨#[101, 120, 112, 114]⟩, N1, N2, N3, N4, N5, N6]) w' ∧ Below B V' w' ∧ Tq b V' w' := fun V V' hV hc => by
  have hWV := hW.below hV
  refine (show Calls _ _ _ _ _ from tline_any B b V.heap.size 0 7 [⟨#[101, 120, 112, 114]⟩, N1, N2, N3, N4, N5, N6] X V' hWV.bl (fun j x hj => ?_) (Array.getElem?_eq_some_iff.1 hc).1 (by simp) (by simp) (by omega) hWV.bw).mono ?_
  ·rw [Nat.zero_add, cell_of_row _ _ _ _ _ _ hc]
   have := List.getElem?_map (f := Value.string) (l := [(⟨#[101, 120, 112, 114]⟩ : ByteArray), N1, N2, N3, N4, N5, N6]) (i := j)
   rw [hj] at this
   simpa using this
  ·rintro e w' ⟨rfl, h1, h2, h3⟩
   exact ⟨rfl, ⟨h1, hWV.tb.keep h2, Nat.le_trans hWV.bw h2.size⟩, h2, h3⟩
 have HW := Lib.hid hW
 have C1 := Lib.hid C1
 have C2 := Lib.hid C2
 have C3 := Lib.hid C3
 have C4 := Lib.hid C4
 have C5 := Lib.hid C5
 have C6 := Lib.hid C6
 have CL := Lib.hid CL
 clear hW hL hlen2 hlen hTb hr hx
 go_enter Tryz.func80, Tryz.ntmps80
 go_wp2
 refine wp_region_held_drew (S := fun W : World => Below B w W ∧ W.heap[bw]? = w.heap[bw]?) (by kernel_rfl) ⟨(Below.refl _ _).drew, rfl⟩ (fun hHeld => ?_)
 have HV0 : Below w.heap.size w w.drew := (Below.refl _ _).drew
 refine wpAnyH_take (i := 0) (oi := ⟨some 4, .load 90 (.tmp 1), 90, "writer.go:51", #[], none⟩) (v := .pointer (some ⟨b, 0, none⟩)) rfl (by kernel_rfl) (by kernel_rfl) (by kernel_rfl) (fun _ _ _ h => h) (Or.inl ⟨by rfl, ?hy1⟩) (by assumption) ?_
 case hy1 => ((intro W hSW; obtain ⟨s0, s1⟩ := hSW; have e0 : W.cell? ⟨bw, 0, none⟩ = _ := (World.cell?_of_block (w := w) (a := ⟨bw, 0, none⟩) s1).trans cw; go_simp); (try with_reducible rfl); (try exact ⟨rfl, rfl, rfl⟩))
 simp only [Act.put, sZa, sZb, sZc]
 refine wpAnyH_take (i := 1) (oi := ⟨some 5, .move (.tmp 0), 125, "writer.go:51", #[], none⟩) (v := .pointer (some ⟨g, o, none⟩)) rfl (by kernel_rfl) (by kernel_rfl) (by kernel_rfl) (fun _ _ _ h => h) (Or.inl ⟨by rfl, ?hy2⟩) (by assumption) ?_
 case hy2 => ((intro W hSW; obtain ⟨s0, s1⟩ := hSW; go_simp); (try with_reducible rfl); (try exact ⟨rfl, rfl, rfl⟩))
 simp only [Act.put, sZa, sZb, sZc]
 refine wpAnyH_take (i := 2) (oi := ⟨some 6, .nilCheck (.tmp 5), 0, "writer.go:51", #[⟨1, .data⟩], none⟩) (v := .pointer (some ⟨g, o, none⟩)) rfl (by kernel_rfl) (by kernel_rfl) (by kernel_rfl) (fun _ _ _ h => h) (Or.inl ⟨by rfl, ?hy3⟩) (by assumption) ?_
 case hy3 => ((intro W hSW; obtain ⟨s0, s1⟩ := hSW; go_simp); (try with_reducible rfl); (try exact ⟨rfl, rfl, rfl⟩))
 simp only [Act.put, sZa, sZb, sZc]
 refine wpAnyH_take (i := 3) (oi := ⟨some 7, .fieldAddr 39 (.tmp 6) 0, 0, "writer.go:51", #[⟨2, .data⟩], none⟩) (v := .pointer (some ⟨g, o, none⟩)) rfl (by kernel_rfl) (by kernel_rfl) (by kernel_rfl) (fun _ _ _ h => h) (Or.inl ⟨by rfl, ?hy4⟩) (by assumption) ?_
 case hy4 => ((intro W hSW; obtain ⟨s0, s1⟩ := hSW; go_simp); (try with_reducible rfl); (try exact ⟨rfl, rfl, rfl⟩))
 simp only [Act.put, sZa, sZb, sZc]
 refine wpAnyH_take (i := 4) (oi := ⟨some 8, .load 3 (.tmp 7), 3, "writer.go:51", #[⟨3, .data⟩], none⟩) (v := .int .i64 kd) rfl (by kernel_rfl) (by kernel_rfl) (by kernel_rfl) (fun _ _ _ h => h) (Or.inl ⟨by rfl, ?hy5⟩) (by assumption) ?_
 case hy5 => ((intro W hSW; obtain ⟨s0, s1⟩ := hSW; have e0 : W.cell? ⟨g, o, none⟩ = _ := (s0.cell (p := ⟨g, o, none⟩) hS).trans c0; go_simp); (try with_reducible rfl); (try exact ⟨rfl, rfl, rfl⟩))
 simp only [Act.put, sZa, sZb, sZc]
 refine wpAnyH_take (i := 6) (oi := ⟨some 10, .move (.tmp 0), 125, "writer.go:51", #[], none⟩) (v := .pointer (some ⟨g, o, none⟩)) rfl (by kernel_rfl) (by kernel_rfl) (by kernel_rfl) (fun _ _ _ h => h) (Or.inl ⟨by rfl, ?hy6⟩) (by assumption) ?_
 case hy6 => ((intro W hSW; obtain ⟨s0, s1⟩ := hSW; go_simp); (try with_reducible rfl); (try exact ⟨rfl, rfl, rfl⟩))
 simp only [Act.put, sZa, sZb, sZc]
 refine wpAnyH_take (i := 7) (oi := ⟨some 11, .nilCheck (.tmp 10), 0, "writer.go:51", #[⟨6, .data⟩], none⟩) (v := .pointer (some ⟨g, o, none⟩)) rfl (by kernel_rfl) (by kernel_rfl) (by kernel_rfl) (fun _ _ _ h => h) (Or.inl ⟨by rfl, ?hy7⟩) (by assumption) ?_
 case hy7 => ((intro W hSW; obtain ⟨s0, s1⟩ := hSW; go_simp); (try with_reducible rfl); (try exact ⟨rfl, rfl, rfl⟩))
 simp only [Act.put, sZa, sZb, sZc]
 refine wpAnyH_take (i := 8) (oi := ⟨some 12, .fieldAddr 39 (.tmp 11) 1, 0, "writer.go:51", #[⟨7, .data⟩], none⟩) (v := .pointer (some ⟨g, o + 1, none⟩)) rfl (by kernel_rfl) (by kernel_rfl) (by kernel_rfl) (fun _ _ _ h => h) (Or.inl ⟨by rfl, ?hy8⟩) (by assumption) ?_
 case hy8 => ((intro W hSW; obtain ⟨s0, s1⟩ := hSW; go_simp); (try with_reducible rfl); (try exact ⟨rfl, rfl, rfl⟩))
 simp only [Act.put, sZa, sZb, sZc]
 refine wpAnyH_take (i := 9) (oi := ⟨some 13, .load 9 (.tmp 12), 9, "writer.go:51", #[⟨8, .data⟩], none⟩) (v := .string op) rfl (by kernel_rfl) (by kernel_rfl) (by kernel_rfl) (fun _ _ _ h => h) (Or.inl ⟨by rfl, ?hy9⟩) (by assumption) ?_
 case hy9 => ((intro W hSW; obtain ⟨s0, s1⟩ := hSW; have e1 : W.cell? ⟨g, o + 1, none⟩ = _ := (s0.cell (p := ⟨g, o + 1, none⟩) hS).trans c1; go_simp); (try with_reducible rfl); (try exact ⟨rfl, rfl, rfl⟩))
 simp only [Act.put, sZa, sZb, sZc]
 refine wpAnyH_take (i := 11) (oi := ⟨some 15, .move (.tmp 0), 125, "writer.go:51", #[], none⟩) (v := .pointer (some ⟨g, o, none⟩)) rfl (by kernel_rfl) (by kernel_rfl) (by kernel_rfl) (fun _ _ _ h => h) (Or.inl ⟨by rfl, ?hy10⟩) (by assumption) ?_
 case hy10 => ((intro W hSW; obtain ⟨s0, s1⟩ := hSW; go_simp); (try with_reducible rfl); (try exact ⟨rfl, rfl, rfl⟩))
 simp only [Act.put, sZa, sZb, sZc]
 refine wpAnyH_take (i := 12) (oi := ⟨some 16, .nilCheck (.tmp 15), 0, "writer.go:51", #[⟨11, .data⟩], none⟩) (v := .pointer (some ⟨g, o, none⟩)) rfl (by kernel_rfl) (by kernel_rfl) (by kernel_rfl) (fun _ _ _ h => h) (Or.inl ⟨by rfl, ?hy11⟩) (by assumption) ?_
 case hy11 => ((intro W hSW; obtain ⟨s0, s1⟩ := hSW; go_simp); (try with_reducible rfl); (try exact ⟨rfl, rfl, rfl⟩))
 simp only [Act.put, sZa, sZb, sZc]
 refine wpAnyH_take (i := 13) (oi := ⟨some 17, .fieldAddr 39 (.tmp 16) 2, 0, "writer.go:51", #[⟨12, .data⟩], none⟩) (v := .pointer (some ⟨g, o + 2, none⟩)) rfl (by kernel_rfl) (by kernel_rfl) (by kernel_rfl) (fun _ _ _ h => h) (Or.inl ⟨by rfl, ?hy12⟩) (by assumption) ?_
 case hy12 => ((intro W hSW; obtain ⟨s0, s1⟩ := hSW; go_simp); (try with_reducible rfl); (try exact ⟨rfl, rfl, rfl⟩))
 simp only [Act.put, sZa, sZb, sZc]
 refine wpAnyH_take (i := 14) (oi := ⟨some 18, .load 9 (.tmp 17), 9, "writer.go:51", #[⟨13, .data⟩], none⟩) (v := .string nm) rfl (by kernel_rfl) (by kernel_rfl) (by kernel_rfl) (fun _ _ _ h => h) (Or.inl ⟨by rfl, ?hy13⟩) (by assumption) ?_
 case hy13 => ((intro W hSW; obtain ⟨s0, s1⟩ := hSW; have e2 : W.cell? ⟨g, o + 2, none⟩ = _ := (s0.cell (p := ⟨g, o + 2, none⟩) hS).trans c2; go_simp); (try with_reducible rfl); (try exact ⟨rfl, rfl, rfl⟩))
 simp only [Act.put, sZa, sZb, sZc]
 refine wpAnyH_take (i := 16) (oi := ⟨some 20, .move (.tmp 0), 125, "writer.go:51", #[], none⟩) (v := .pointer (some ⟨g, o, none⟩)) rfl (by kernel_rfl) (by kernel_rfl) (by kernel_rfl) (fun _ _ _ h => h) (Or.inl ⟨by rfl, ?hy14⟩) (by assumption) ?_
 case hy14 => ((intro W hSW; obtain ⟨s0, s1⟩ := hSW; go_simp); (try with_reducible rfl); (try exact ⟨rfl, rfl, rfl⟩))
 simp only [Act.put, sZa, sZb, sZc]
 refine wpAnyH_take (i := 17) (oi := ⟨some 21, .nilCheck (.tmp 20), 0, "writer.go:51", #[⟨16, .data⟩], none⟩) (v := .pointer (some ⟨g, o, none⟩)) rfl (by kernel_rfl) (by kernel_rfl) (by kernel_rfl) (fun _ _ _ h => h) (Or.inl ⟨by rfl, ?hy15⟩) (by assumption) ?_
 case hy15 => ((intro W hSW; obtain ⟨s0, s1⟩ := hSW; go_simp); (try with_reducible rfl); (try exact ⟨rfl, rfl, rfl⟩))
 simp only [Act.put, sZa, sZb, sZc]
 refine wpAnyH_take (i := 18) (oi := ⟨some 22, .fieldAddr 39 (.tmp 21) 3, 0, "writer.go:51", #[⟨17, .data⟩], none⟩) (v := .pointer (some ⟨g, o + 3, none⟩)) rfl (by kernel_rfl) (by kernel_rfl) (by kernel_rfl) (fun _ _ _ h => h) (Or.inl ⟨by rfl, ?hy16⟩) (by assumption) ?_
 case hy16 => ((intro W hSW; obtain ⟨s0, s1⟩ := hSW; go_simp); (try with_reducible rfl); (try exact ⟨rfl, rfl, rfl⟩))
 simp only [Act.put, sZa, sZb, sZc]
 refine wpAnyH_take (i := 19) (oi := ⟨some 23, .load 34 (.tmp 22), 34, "writer.go:51", #[⟨18, .data⟩], none⟩) (v := .int .u64 num) rfl (by kernel_rfl) (by kernel_rfl) (by kernel_rfl) (fun _ _ _ h => h) (Or.inl ⟨by rfl, ?hy17⟩) (by assumption) ?_
 case hy17 => ((intro W hSW; obtain ⟨s0, s1⟩ := hSW; have e3 : W.cell? ⟨g, o + 3, none⟩ = _ := (s0.cell (p := ⟨g, o + 3, none⟩) hS).trans c3; go_simp); (try with_reducible rfl); (try exact ⟨rfl, rfl, rfl⟩))
 simp only [Act.put, sZa, sZb, sZc]
 refine wpAnyH_take (i := 21) (oi := ⟨some 25, .move (.tmp 0), 125, "writer.go:51", #[], none⟩) (v := .pointer (some ⟨g, o, none⟩)) rfl (by kernel_rfl) (by kernel_rfl) (by kernel_rfl) (fun _ _ _ h => h) (Or.inl ⟨by rfl, ?hy18⟩) (by assumption) ?_
 case hy18 => ((intro W hSW; obtain ⟨s0, s1⟩ := hSW; go_simp); (try with_reducible rfl); (try exact ⟨rfl, rfl, rfl⟩))
 simp only [Act.put, sZa, sZb, sZc]
 refine wpAnyH_take (i := 22) (oi := ⟨some 26, .nilCheck (.tmp 25), 0, "writer.go:51", #[⟨21, .data⟩], none⟩) (v := .pointer (some ⟨g, o, none⟩)) rfl (by kernel_rfl) (by kernel_rfl) (by kernel_rfl) (fun _ _ _ h => h) (Or.inl ⟨by rfl, ?hy19⟩) (by assumption) ?_
 case hy19 => ((intro W hSW; obtain ⟨s0, s1⟩ := hSW; go_simp); (try with_reducible rfl); (try exact ⟨rfl, rfl, rfl⟩))
 simp only [Act.put, sZa, sZb, sZc]
 refine wpAnyH_take (i := 23) (oi := ⟨some 27, .fieldAddr 39 (.tmp 26) 5, 0, "writer.go:51", #[⟨22, .data⟩], none⟩) (v := .pointer (some ⟨g, o + 5, none⟩)) rfl (by kernel_rfl) (by kernel_rfl) (by kernel_rfl) (fun _ _ _ h => h) (Or.inl ⟨by rfl, ?hy20⟩) (by assumption) ?_
 case hy20 => ((intro W hSW; obtain ⟨s0, s1⟩ := hSW; go_simp); (try with_reducible rfl); (try exact ⟨rfl, rfl, rfl⟩))
 simp only [Act.put, sZa, sZb, sZc]
 refine wpAnyH_take (i := 24) (oi := ⟨some 28, .load 37 (.tmp 27), 37, "writer.go:51", #[⟨23, .data⟩], none⟩) (v := .agg #[.int .i64 ty.ba, .int .i64 ty.st, .string ty.rc]) rfl (by kernel_rfl) (by kernel_rfl) (by kernel_rfl) (fun _ _ _ h => h) (Or.inl ⟨by rfl, ?hy21⟩) (by assumption) ?_
 case hy21 => ((intro W hSW; obtain ⟨s0, s1⟩ := hSW; have e5 : W.cell? ⟨g, o + 5, none⟩ = _ := (s0.cell (p := ⟨g, o + 5, none⟩) hS).trans c5; have e6 : W.cell? ⟨g, o + 6, none⟩ = _ := (s0.cell (p := ⟨g, o + 6, none⟩) hS).trans c6; have e7 : W.cell? ⟨g, o + 7, none⟩ = _ := (s0.cell (p := ⟨g, o + 7, none⟩) hS).trans c7; have e6b := e6; have e7b := e7; rw [show o + 6 = o + 5 + 1 from rfl] at e6b; rw [show o + 7 = o + 5 + 2 from rfl] at e7b; go_simp); (try with_reducible rfl); (try exact ⟨rfl, rfl, rfl⟩))
 simp only [Act.put, sZa, sZb, sZc]
 refine wpAnyH_take (i := 26) (oi := ⟨some 30, .move (.tmp 0), 125, "writer.go:51", #[], none⟩) (v := .pointer (some ⟨g, o, none⟩)) rfl (by kernel_rfl) (by kernel_rfl) (by kernel_rfl) (fun _ _ _ h => h) (Or.inl ⟨by rfl, ?hy22⟩) (by assumption) ?_
 case hy22 => ((intro W hSW; obtain ⟨s0, s1⟩ := hSW; go_simp); (try with_reducible rfl); (try exact ⟨rfl, rfl, rfl⟩))
 simp only [Act.put, sZa, sZb, sZc]
 refine wpAnyH_take (i := 27) (oi := ⟨some 31, .nilCheck (.tmp 30), 0, "writer.go:51", #[⟨26, .data⟩], none⟩) (v := .pointer (some ⟨g, o, none⟩)) rfl (by kernel_rfl) (by kernel_rfl) (by kernel_rfl) (fun _ _ _ h => h) (Or.inl ⟨by rfl, ?hy23⟩) (by assumption) ?_
 case hy23 => ((intro W hSW; obtain ⟨s0, s1⟩ := hSW; go_simp); (try with_reducible rfl); (try exact ⟨rfl, rfl, rfl⟩))
 simp only [Act.put, sZa, sZb, sZc]
 refine wpAnyH_take (i := 28) (oi := ⟨some 32, .fieldAddr 39 (.tmp 31) 4, 0, "writer.go:51", #[⟨27, .data⟩], none⟩) (v := .pointer (some ⟨g, o + 4, none⟩)) rfl (by kernel_rfl) (by kernel_rfl) (by kernel_rfl) (fun _ _ _ h => h) (Or.inl ⟨by rfl, ?hy24⟩) (by assumption) ?_
 case hy24 => ((intro W hSW; obtain ⟨s0, s1⟩ := hSW; go_simp); (try with_reducible rfl); (try exact ⟨rfl, rfl, rfl⟩))
 simp only [Act.put, sZa, sZb, sZc]
 refine wpAnyH_take (i := 29) (oi := ⟨some 33, .load 35 (.tmp 32), 35, "writer.go:51", #[⟨28, .data⟩], none⟩) (v := .slice A kids.length cap) rfl (by kernel_rfl) (by kernel_rfl) (by kernel_rfl) (fun _ _ _ h => h) (Or.inl ⟨by rfl, ?hy25⟩) (by assumption) ?_
 case hy25 => ((intro W hSW; obtain ⟨s0, s1⟩ := hSW; have e4 : W.cell? ⟨g, o + 4, none⟩ = _ := (s0.cell (p := ⟨g, o + 4, none⟩) hS).trans c4; go_simp); (try with_reducible rfl); (try exact ⟨rfl, rfl, rfl⟩))
 simp only [Act.put, sZa, sZb, sZc]
 refine wpAnyH_ready (rs := [5]) (by kernel_rfl) (by simp) ?_
 refine (AllReadyH.cons (i := 5) (o := ⟨some 9, .call { callee := .value (.func 52), args := #[.tmp 8], argTypes := #[3] }, 9, "writer.go:51", #[⟨4, .data⟩], none⟩) rfl (fun K hK => ?_) AllReadyH.nil)
 rw [if_pos (by rfl)]
 go_simp
 refine (C1.out _ HV0).mono ?_
 rintro e V1 ⟨rfl, hb⟩
 have HV1 := HV0.trans (hb.mono HV0.size)
 clear hb
 go_simp
 refine hK.out _ _ (⟨HV1.mono hBw, HV1.block bw hbl⟩) (fun hHeld => ?_)
 clear hK K
 try simp only [Act.put, sZa, sZb, sZc]
 refine wpAnyH_ready (rs := [10]) (by kernel_rfl) (by simp) ?_
 refine (AllReadyH.cons (i := 10) (o := ⟨some 14, .call { callee := .value (.func 29), args := #[.tmp 13], argTypes := #[9] }, 9, "writer.go:51", #[⟨9, .data⟩, ⟨5, .chain⟩], none⟩) rfl (fun K hK => ?_) AllReadyH.nil)
 rw [if_pos (by rfl)]
 go_simp
 refine (C2.out _ HV1).mono ?_
 rintro e V2 ⟨rfl, hb⟩
 have HV2 := HV1.trans (hb.mono HV1.size)
 clear HV1 hb
 go_simp
 refine hK.out _ _ (⟨HV2.mono hBw, HV2.block bw hbl⟩) (fun hHeld => ?_)
 clear hK K
 try simp only [Act.put, sZa, sZb, sZc]
 refine wpAnyH_ready (rs := [15]) (by kernel_rfl) (by simp) ?_
 refine (AllReadyH.cons (i := 15) (o := ⟨some 19, .call { callee := .value (.func 29), args := #[.tmp 18], argTypes := #[9] }, 9, "writer.go:51", #[⟨14, .data⟩, ⟨10, .chain⟩], none⟩) rfl (fun K hK => ?_) AllReadyH.nil)
 rw [if_pos (by rfl)]
 go_simp
 refine (C3.out _ HV2).mono ?_
 rintro e V3 ⟨rfl, hb⟩
 have HV3 := HV2.trans (hb.mono HV2.size)
 clear HV2 hb
 go_simp
 refine hK.out _ _ (⟨HV3.mono hBw, HV3.block bw hbl⟩) (fun hHeld => ?_)
 clear hK K
 try simp only [Act.put, sZa, sZb, sZc]
 refine wpAnyH_ready (rs := [20]) (by kernel_rfl) (by simp) ?_
 refine (AllReadyH.cons (i := 20) (o := ⟨some 24, .call { callee := .value (.func 81), args := #[.tmp 23, .const (Go.Value.int Go.IntKind.i64 10)], argTypes := #[34, 3] }, 9, "writer.go:51", #[⟨19, .data⟩, ⟨15, .chain⟩], none⟩) rfl (fun K hK => ?_) AllReadyH.nil)
 rw [if_pos (by rfl)]
 go_simp
 refine (C4.out _ HV3).mono ?_
 rintro e V4 ⟨rfl, hb⟩
 have HV4 := HV3.trans (hb.mono HV3.size)
 clear HV3 hb
 go_simp
 refine hK.out _ _ (⟨HV4.mono hBw, HV4.block bw hbl⟩) (fun hHeld => ?_)
 clear hK K
 try simp only [Act.put, sZa, sZb, sZc]
 refine wpAnyH_ready (rs := [25]) (by kernel_rfl) (by simp) ?_
 refine (AllReadyH.cons (i := 25) (o := ⟨some 29, .call { callee := .value (.func 31), args := #[.tmp 28], argTypes := #[37] }, 9, "writer.go:51", #[⟨24, .data⟩, ⟨20, .chain⟩], none⟩) rfl (fun K hK => ?_) AllReadyH.nil)
 rw [if_pos (by rfl)]
 go_simp
 refine (C5.out _ HV4).mono ?_
 rintro e V5 ⟨rfl, hb⟩
 have HV5 := HV4.trans (hb.mono HV4.size)
 clear HV4 hb
 go_simp
 refine hK.out _ _ (⟨HV5.mono hBw, HV5.block bw hbl⟩) (fun hHeld => ?_)
 clear hK K
 try simp only [Act.put, sZa, sZb, sZc]
 refine wpAnyH_ready (rs := [30]) (by kernel_rfl) (by simp) ?_
 refine (AllReadyH.cons (i := 30) (o := ⟨some 34, .call { callee := .value (.func 56), args := #[.tmp 33], argTypes := #[35] }, 9, "writer.go:51", #[⟨29, .data⟩, ⟨25, .chain⟩], none⟩) rfl (fun K hK => ?_) AllReadyH.nil)
 rw [if_pos (by rfl)]
 go_simp
 refine (C6.out _ HV5).mono ?_
 rintro e V6 ⟨rfl, hb⟩
 have HV6 := HV5.trans (hb.mono HV5.size)
 clear HV5 hb
 go_simp
 refine hK.out _ _ (⟨HV6.mono hBw, HV6.block bw hbl⟩) (fun hHeld => ?_)
 clear hK K
 try simp only [Act.put, sZa, sZb, sZc]
 refine wpAnyH_ready (rs := [31]) (by kernel_rfl) (by simp) ?_
 refine (AllReadyH.cons (i := 31) (o := ⟨some 35, .buildSlice 111 7 #[(0, .const (Go.Value.string { data := #[101, 120, 112, 114] })), (1, .tmp 9), (2, .tmp 14), (3, .tmp 19), (4, .tmp 24), (5, .tmp 29), (6, .tmp 34)], 111, "writer.go:51", #[⟨5, .data⟩, ⟨10, .data⟩, ⟨15, .data⟩, ⟨20, .data⟩, ⟨25, .data⟩, ⟨30, .data⟩], none⟩) rfl (fun K hK => ?_) AllReadyH.nil)
 rw [if_pos (by rfl)]
 go_simp
 have HC := Lib.hid (heap_new V6 (.cells #[.string ⟨#[101, 120, 112, 114]⟩, .string N1, .string N2, .string N3, .string N4, .string N5, .string N6] 9))
 have HV7 : Below w.heap.size w (V6.alloc (.cells #[.string ⟨#[101, 120, 112, 114]⟩, .string N1, .string N2, .string N3, .string N4, .string N5, .string N6] 9)) := HV6.alloc HV6.size _
 refine hK.out _ _ (⟨HV7.mono hBw, HV7.block bw hbl⟩) (fun hHeld => ?_)
 clear hK K
 try simp only [Act.put, sZa, sZb, sZc]
 refine wpAnyH_ready (rs := [32]) (by kernel_rfl) (by simp) ?_
 refine (AllReadyH.cons (i := 32) (o := ⟨some 36, .call { callee := .value (.func 25), args := #[.tmp 4, .tmp 35], argTypes := #[90, 111] }, 0, "writer.go:51", #[⟨0, .data⟩, ⟨31, .data⟩, ⟨30, .chain⟩], none⟩) rfl (fun K hK => ?_) AllReadyH.nil)
 rw [if_pos (by rfl)]
 go_simp
 refine (CL.out _ _ HV7 HC.out).mono ?_
 rintro e W9 ⟨rfl, hW9, hb9, tq9⟩
 go_simp
 refine hK.out _ _ (⟨hHeld.1.trans hb9, (tq9.block bw _ (hHeld.2.trans hbw) hne (fun c z e => by cases e)).trans hbw.symm⟩) (fun hHeld => ?_)
 clear hK K
 try simp only [Act.put, sZa, sZb, sZc]
 refine wpAnyH_done (by kernel_rfl) ?_ _
 have e4 : W9.cell? ⟨g, o + 4, none⟩ = some (.slice A kids.length cap) := (hHeld.1.cell (p := ⟨g, o + 4, none⟩) hS).trans c4
 have HH := Lib.hid hHeld
 clear hHeld
 go_wp2
 go_ret
 exact ⟨_, rfl, hk.keep (bl_keep HH.out.1) HH.out.1.size, hW9, HH.out.1, (Tq.of_below HV7).trans tq9⟩
set_option maxHeartbeats 4000000 in
theorem expr_any (T : PrintTabs) (B b : Nat) (x : PEx) (p : Value) (X : List UInt8) (w : World) (h : Wr T B b X w) (hp : PtA exA w (Bl B) p x) (hf : fE x) (hlen : X.length + (exT T x).length ≤ 1000000000000) :
  Calls Tryz.prog 58 #[.pointer (some ⟨b, 0, none⟩), p] w fun e w' => e = .returned (.tuple #[]) ∧ Wr T B b (X ++ exT T x) w' ∧ Below B w w' ∧ Tq b w w' := by
 have hb : Below w.heap.size w (w.alloc (.cells #[.pointer (some ⟨b, 0, none⟩)] 90)) := (Below.refl _ w).alloc (Nat.le_refl _) _
 have hc := walkE_any T B b w.heap.size x p X (w.alloc (.cells #[.pointer (some ⟨b, 0, none⟩)] 90)) (tellE T B b w.heap.size) (h.below hb) (heap_new w _) (hp.keep (bl_keep (hb.mono h.bw)) hb.size) hf hlen
 obtain ⟨g, o, c, rfl, _⟩ := hp
 have HB := Lib.hid (hb.mono h.bw)
 have HB2 := Lib.hid hb
 clear hb
 go_enter Tryz.func58, Tryz.ntmps58
 go_wp2_with (go_at_call 79; refine hc.mono ?_)
 rintro e w' ⟨rfl, h1, h2, h3⟩
 go_wp2
 go_end0
 exact ⟨rfl, h1, HB.out.trans h2, (Tq.of_below HB2.out).trans h3⟩
end Go.Proofs.YtfjobnljdkiihaaGreatDoor
