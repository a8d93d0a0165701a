/- A statement told: the closure of function. Conditions: each theorem's. -/
import Derived.Test.YtfjobnljdkiihaaGreatDoorQtTwK
import Derived.StillTailTactics
namespace Go.Proofs.YtfjobnljdkiihaaGreatDoor
open Go.RowKit Go.Maps
set_option linter.unusedVariables false
set_option linter.unusedSimpArgs false
set_option maxRecDepth 100000
open Lx Pa Go.Lib Qi
theorem lineS_eq (T : PrintTabs) (kd : Int) (v : PVa) (n m : Nat) : lineT [⟨#[115, 116, 109, 116]⟩, numT kd, varZ T v.nm v.ty.ba v.ty.st v.ty.rc v.ln, numT n, numT m] = stLine T kd v n m := by
 unfold lineT stLine numT
 rw [varZ_eq]
 simp [Lib.join]
set_option maxHeartbeats 16000000 in
theorem tellS (T : PrintTabs) (B b bw : Nat) : TellS T B b bw := by
 intro x p X w hW hbw hp hf hlen
 obtain ⟨g, o, c, rfl, hS, hg, hx, hr⟩ := hp
 obtain ⟨kd, exprs, kids, vr, a, za, z, A, cap, A2, cap2, rfl, rfl, hx1, hx2⟩ := hx.inv
 obtain ⟨⟨f1, ⟨f2, ⟨f3, f4, f5⟩, f6⟩, f7⟩, f8⟩ := hf
 have c0 : w.cell? ⟨g, o, none⟩ = some (.int .i64 kd) := hr 0 _ rfl
 have c1 : w.cell? ⟨g, o + 1, none⟩ = some (.slice A exprs.length cap) := hr 1 _ rfl
 have c2 : w.cell? ⟨g, o + 2, none⟩ = some (.slice A2 kids.length cap2) := hr 2 _ rfl
 have c3 : w.cell? ⟨g, o + 3, none⟩ = some (.string vr.nm) := hr 3 _ rfl
 have c4 : w.cell? ⟨g, o + 4, none⟩ = some (.int .i64 vr.ty.ba) := hr 4 _ rfl
 have c5 : w.cell? ⟨g, o + 5, none⟩ = some (.int .i64 vr.ty.st) := hr 5 _ rfl
 have c6 : w.cell? ⟨g, o + 6, none⟩ = some (.string vr.ty.rc) := hr 6 _ rfl
 have c7 : w.cell? ⟨g, o + 7, none⟩ = some (.int .i64 vr.ln) := hr 7 _ rfl
 have c8 : w.cell? ⟨g, o + 8, none⟩ = some (.int .i64 za) := hr 8 _ rfl
 have cw : w.cell? ⟨bw, 0, none⟩ = some (.pointer (some ⟨b, 0, none⟩)) := by simp [World.cell?, hbw]
 have hbl : bw < w.heap.size := (Array.getElem?_eq_some_iff.1 hbw).1
 have hBw := hW.bw
 have hne : bw ≠ b := fun e => by
  obtain ⟨_, cc, hc⟩ := hW.at_
  rw [← e, hbw] at hc
  injection hc with hc
  injection hc with _ hc _
  revert hc; decide
 have hkl : (exprs.length : Int) ≤ 9223372036854775807 := by
  obtain ⟨_, _, ⟨_, _, e, h1, h2, _⟩, _⟩ := hx1
  injection e with _ e1 e2
  subst e2
  unfold maxLen at h2
  omega
 have hkm : (kids.length : Int) ≤ 9223372036854775807 := by
  obtain ⟨_, _, ⟨_, _, e, h1, h2, _⟩, _⟩ := hx2
  injection e with _ e1 e2
  subst e2
  unfold maxLen at h2
  omega
 have hTb : ∀ V, Below w.heap.size w V → Tb T B V := fun V hV => hW.tb.keep (hV.mono hBw)
 have C1 : ∀ V, Below w.heap.size w V → Calls Tryz.prog 52 #[.int .i64 kd] V fun e w' => e = .returned (.string (numT kd)) ∧ Below V.heap.size V w' := fun V hV => itoa_any kd f7.1 f7.2 V (hTb V hV).get.1
 have C2 : ∀ V, Below w.heap.size w V → Calls Tryz.prog 32 #[.agg #[.string vr.nm, .int .i64 vr.ty.ba, .int .i64 vr.ty.st, .string vr.ty.rc, .int .i64 vr.ln, .int .i64 za]] V fun e w' => e = .returned (.string (varZ T vr.nm vr.ty.ba vr.ty.st vr.ty.rc vr.ln)) ∧ Below V.heap.size V w' := fun V hV => varText_w vr.nm vr.ty.ba vr.ty.st vr.ty.rc vr.ln za f2 f4 f5 f3 f6 V (hTb V hV) (Nat.le_trans hBw hV.size)
 have C3 : ∀ V, Below w.heap.size w V → Calls Tryz.prog 56 #[.slice A exprs.length cap] V fun e w' => e = .returned (.string (numT exprs.length)) ∧ Below V.heap.size V w' := fun V hV => (count_Expr A exprs.length cap (by omega) V (hTb V hV).get.1).mono fun e w' h => ⟨h.1, below_gr h.2⟩
 have C4 : ∀ V, Below w.heap.size w V → Calls Tryz.prog 57 #[.slice A2 kids.length cap2] V fun e w' => e = .returned (.string (numT kids.length)) ∧ Below V.heap.size V w' := fun V hV => (count_Stmt A2 kids.length cap2 (by omega) V (hTb V hV).get.1).mono fun e w' h => ⟨h.1, below_gr h.2⟩
 have hL := lineS_eq T kd vr exprs.length kids.length
 have hlen2 : X.length + (stLine T kd vr exprs.length kids.length).length + (exprs.flatMap (exT T)).length ≤ 1000000000000 := by
  simp only [ownS, List.length_append, exs_flat] at hlen
  omega
 unfold ownS
 dsimp only [kidsS]
 rw [← hL] at hlen2 ⊢
 clear hL hlen
 generalize numT kd = N1 at *
 generalize varZ T vr.nm vr.ty.ba vr.ty.st vr.ty.rc vr.ln = N2 at *
 generalize numT exprs.length = N3 at *
 generalize numT kids.length = N4 at *
 have CL : ∀ (V V' : World), Below w.heap.size w V' → V'.heap[V.heap.size]? = some (.cells #[.string ⟨#[115, 116, 109, 116]⟩, .string N1, .string N2, .string N3, .string N4] 9) → Calls Tryz.prog 25 #[.pointer (some ⟨b, 0, none⟩), .slice (some ⟨V.heap.size, 0, none⟩) 5 5] V' fun e w' => e = .returned (.tuple #[]) ∧ Wr T B b (X ++ lineT [⟨#[115, 116, 109, 116]⟩, N1, N2, N3, N4]) w' ∧ Below B V' w' ∧ Tq b V' w' := fun V V' hV hc => by
  have hWV := hW.below hV
  refine (show Calls _ _ _ _ _ from tline_any B b V.heap.size 0 5 [⟨#[115, 116, 109, 116]⟩, N1, N2, N3, N4] (X) V' hWV.bl (fun j x hj => ?_) (Array.getElem?_eq_some_iff.1 hc).1 (by simp) (by simp) (by first | omega | (simp only [List.length_append] at *; omega)) hWV.bw).mono ?_
  ·rw [Nat.zero_add, cell_of_row _ _ _ _ _ _ hc]
   have := List.getElem?_map (f := Value.string) (l := [(⟨#[115, 116, 109, 116]⟩ : ByteArray), N1, N2, N3, N4]) (i := j)
   rw [hj] at this
   simpa using this
  ·rintro e w' ⟨rfl, h1, h2, h3⟩
   exact ⟨rfl, ⟨h1, hWV.tb.keep h2, Nat.le_trans hWV.bw h2.size⟩, h2, h3⟩
 generalize lineT [⟨#[115, 116, 109, 116]⟩, N1, N2, N3, N4] = L at *
 have HW := Lib.hid hW
 have C1 := Lib.hid C1
 have C2 := Lib.hid C2
 have C3 := Lib.hid C3
 have C4 := Lib.hid C4
 have CL := Lib.hid CL
 clear hW hTb hr hx
 go_enter Tryz.func55, Tryz.ntmps55
 go_wp2
 refine wp_region_held_drew (S := fun W : World => Below B w W ∧ W.heap[bw]? = w.heap[bw]?) (by kernel_rfl) ⟨(Below.refl _ _).drew, rfl⟩ (fun hHeld => ?_)
 have HV0 : Below w.heap.size w w.drew := (Below.refl _ _).drew
 refine wpAnyH_take (i := 0) (oi := ⟨some 5, .load 90 (.tmp 1), 90, "writer.go:41", #[], none⟩) (v := .pointer (some ⟨b, 0, none⟩)) rfl (by kernel_rfl) (by kernel_rfl) (by kernel_rfl) (fun _ _ _ h => h) (Or.inl ⟨by rfl, ?hy1⟩) (by assumption) ?_
 case hy1 => ((intro W hSW; obtain ⟨s0, s1⟩ := hSW; have e0 : W.cell? ⟨bw, 0, none⟩ = _ := (World.cell?_of_block (w := w) (a := ⟨bw, 0, none⟩) s1).trans cw; go_simp); (try with_reducible rfl); (try exact ⟨rfl, rfl, rfl⟩))
 simp only [Act.put, sZa, sZb, sZc]
 refine wpAnyH_take (i := 1) (oi := ⟨some 6, .move (.tmp 0), 121, "writer.go:41", #[], none⟩) (v := .pointer (some ⟨g, o, none⟩)) rfl (by kernel_rfl) (by kernel_rfl) (by kernel_rfl) (fun _ _ _ h => h) (Or.inl ⟨by rfl, ?hy2⟩) (by assumption) ?_
 case hy2 => ((intro W hSW; obtain ⟨s0, s1⟩ := hSW; go_simp); (try with_reducible rfl); (try exact ⟨rfl, rfl, rfl⟩))
 simp only [Act.put, sZa, sZb, sZc]
 refine wpAnyH_take (i := 2) (oi := ⟨some 7, .nilCheck (.tmp 6), 0, "writer.go:41", #[⟨1, .data⟩], none⟩) (v := .pointer (some ⟨g, o, none⟩)) rfl (by kernel_rfl) (by kernel_rfl) (by kernel_rfl) (fun _ _ _ h => h) (Or.inl ⟨by rfl, ?hy3⟩) (by assumption) ?_
 case hy3 => ((intro W hSW; obtain ⟨s0, s1⟩ := hSW; go_simp); (try with_reducible rfl); (try exact ⟨rfl, rfl, rfl⟩))
 simp only [Act.put, sZa, sZb, sZc]
 refine wpAnyH_take (i := 3) (oi := ⟨some 8, .fieldAddr 44 (.tmp 7) 0, 0, "writer.go:41", #[⟨2, .data⟩], none⟩) (v := .pointer (some ⟨g, o, none⟩)) rfl (by kernel_rfl) (by kernel_rfl) (by kernel_rfl) (fun _ _ _ h => h) (Or.inl ⟨by rfl, ?hy4⟩) (by assumption) ?_
 case hy4 => ((intro W hSW; obtain ⟨s0, s1⟩ := hSW; go_simp); (try with_reducible rfl); (try exact ⟨rfl, rfl, rfl⟩))
 simp only [Act.put, sZa, sZb, sZc]
 refine wpAnyH_take (i := 4) (oi := ⟨some 9, .load 3 (.tmp 8), 3, "writer.go:41", #[⟨3, .data⟩], none⟩) (v := .int .i64 kd) rfl (by kernel_rfl) (by kernel_rfl) (by kernel_rfl) (fun _ _ _ h => h) (Or.inl ⟨by rfl, ?hy5⟩) (by assumption) ?_
 case hy5 => ((intro W hSW; obtain ⟨s0, s1⟩ := hSW; have e0 : W.cell? ⟨g, o, none⟩ = _ := (s0.cell (p := ⟨g, o, none⟩) hS).trans c0; go_simp); (try with_reducible rfl); (try exact ⟨rfl, rfl, rfl⟩))
 simp only [Act.put, sZa, sZb, sZc]
 refine wpAnyH_take (i := 6) (oi := ⟨some 11, .move (.tmp 0), 121, "writer.go:41", #[], none⟩) (v := .pointer (some ⟨g, o, none⟩)) rfl (by kernel_rfl) (by kernel_rfl) (by kernel_rfl) (fun _ _ _ h => h) (Or.inl ⟨by rfl, ?hy6⟩) (by assumption) ?_
 case hy6 => ((intro W hSW; obtain ⟨s0, s1⟩ := hSW; go_simp); (try with_reducible rfl); (try exact ⟨rfl, rfl, rfl⟩))
 simp only [Act.put, sZa, sZb, sZc]
 refine wpAnyH_take (i := 7) (oi := ⟨some 12, .nilCheck (.tmp 11), 0, "writer.go:41", #[⟨6, .data⟩], none⟩) (v := .pointer (some ⟨g, o, none⟩)) rfl (by kernel_rfl) (by kernel_rfl) (by kernel_rfl) (fun _ _ _ h => h) (Or.inl ⟨by rfl, ?hy7⟩) (by assumption) ?_
 case hy7 => ((intro W hSW; obtain ⟨s0, s1⟩ := hSW; go_simp); (try with_reducible rfl); (try exact ⟨rfl, rfl, rfl⟩))
 simp only [Act.put, sZa, sZb, sZc]
 refine wpAnyH_take (i := 8) (oi := ⟨some 13, .fieldAddr 44 (.tmp 12) 3, 0, "writer.go:41", #[⟨7, .data⟩], none⟩) (v := .pointer (some ⟨g, o + 3, none⟩)) rfl (by kernel_rfl) (by kernel_rfl) (by kernel_rfl) (fun _ _ _ h => h) (Or.inl ⟨by rfl, ?hy8⟩) (by assumption) ?_
 case hy8 => ((intro W hSW; obtain ⟨s0, s1⟩ := hSW; go_simp); (try with_reducible rfl); (try exact ⟨rfl, rfl, rfl⟩))
 simp only [Act.put, sZa, sZb, sZc]
 refine wpAnyH_take (i := 9) (oi := ⟨some 14, .load 42 (.tmp 13), 42, "writer.go:41", #[⟨8, .data⟩], none⟩) (v := .agg #[.string vr.nm, .int .i64 vr.ty.ba, .int .i64 vr.ty.st, .string vr.ty.rc, .int .i64 vr.ln, .int .i64 za]) rfl (by kernel_rfl) (by kernel_rfl) (by kernel_rfl) (fun _ _ _ h => h) (Or.inl ⟨by rfl, ?hy9⟩) (by assumption) ?_
 case hy9 => ((intro W hSW; obtain ⟨s0, s1⟩ := hSW; have e3 : W.cell? ⟨g, o + 3, none⟩ = _ := (s0.cell (p := ⟨g, o + 3, none⟩) hS).trans c3; have e4 : W.cell? ⟨g, o + 4, none⟩ = _ := (s0.cell (p := ⟨g, o + 4, none⟩) hS).trans c4; have e4b := e4; rw [show o + 4 = o + 3 + 1 from rfl] at e4b; have e5 : W.cell? ⟨g, o + 5, none⟩ = _ := (s0.cell (p := ⟨g, o + 5, none⟩) hS).trans c5; have e5b := e5; rw [show o + 5 = o + 3 + 2 from rfl] at e5b; have e6 : W.cell? ⟨g, o + 6, none⟩ = _ := (s0.cell (p := ⟨g, o + 6, none⟩) hS).trans c6; have e6b := e6; rw [show o + 6 = o + 3 + 3 from rfl] at e6b; have e7 : W.cell? ⟨g, o + 7, none⟩ = _ := (s0.cell (p := ⟨g, o + 7, none⟩) hS).trans c7; have e7b := e7; rw [show o + 7 = o + 3 + 4 from rfl] at e7b; have e8 : W.cell? ⟨g, o + 8, none⟩ = _ := (s0.cell (p := ⟨g, o + 8, none⟩) hS).trans c8; have e8b := e8; rw [show o + 8 = o + 3 + 5 from rfl] at e8b; go_simp); (try with_reducible rfl); (try exact ⟨rfl, rfl, rfl⟩))
 simp only [Act.put, sZa, sZb, sZc]
 refine wpAnyH_take (i := 11) (oi := ⟨some 16, .move (.tmp 0), 121, "writer.go:41", #[], none⟩) (v := .pointer (some ⟨g, o, none⟩)) rfl (by kernel_rfl) (by kernel_rfl) (by kernel_rfl) (fun _ _ _ h => h) (Or.inl ⟨by rfl, ?hy10⟩) (by assumption) ?_
 case hy10 => ((intro W hSW; obtain ⟨s0, s1⟩ := hSW; go_simp); (try with_reducible rfl); (try exact ⟨rfl, rfl, rfl⟩))
 simp only [Act.put, sZa, sZb, sZc]
 refine wpAnyH_take (i := 12) (oi := ⟨some 17, .nilCheck (.tmp 16), 0, "writer.go:41", #[⟨11, .data⟩], none⟩) (v := .pointer (some ⟨g, o, none⟩)) rfl (by kernel_rfl) (by kernel_rfl) (by kernel_rfl) (fun _ _ _ h => h) (Or.inl ⟨by rfl, ?hy11⟩) (by assumption) ?_
 case hy11 => ((intro W hSW; obtain ⟨s0, s1⟩ := hSW; go_simp); (try with_reducible rfl); (try exact ⟨rfl, rfl, rfl⟩))
 simp only [Act.put, sZa, sZb, sZc]
 refine wpAnyH_take (i := 13) (oi := ⟨some 18, .fieldAddr 44 (.tmp 17) 1, 0, "writer.go:41", #[⟨12, .data⟩], none⟩) (v := .pointer (some ⟨g, o + 1, none⟩)) rfl (by kernel_rfl) (by kernel_rfl) (by kernel_rfl) (fun _ _ _ h => h) (Or.inl ⟨by rfl, ?hy12⟩) (by assumption) ?_
 case hy12 => ((intro W hSW; obtain ⟨s0, s1⟩ := hSW; go_simp); (try with_reducible rfl); (try exact ⟨rfl, rfl, rfl⟩))
 simp only [Act.put, sZa, sZb, sZc]
 refine wpAnyH_take (i := 14) (oi := ⟨some 19, .load 35 (.tmp 18), 35, "writer.go:41", #[⟨13, .data⟩], none⟩) (v := .slice A exprs.length cap) rfl (by kernel_rfl) (by kernel_rfl) (by kernel_rfl) (fun _ _ _ h => h) (Or.inl ⟨by rfl, ?hy13⟩) (by assumption) ?_
 case hy13 => ((intro W hSW; obtain ⟨s0, s1⟩ := hSW; have e1 : W.cell? ⟨g, o + 1, none⟩ = _ := (s0.cell (p := ⟨g, o + 1, none⟩) hS).trans c1; go_simp); (try with_reducible rfl); (try exact ⟨rfl, rfl, rfl⟩))
 simp only [Act.put, sZa, sZb, sZc]
 refine wpAnyH_take (i := 16) (oi := ⟨some 21, .move (.tmp 0), 121, "writer.go:41", #[], none⟩) (v := .pointer (some ⟨g, o, none⟩)) rfl (by kernel_rfl) (by kernel_rfl) (by kernel_rfl) (fun _ _ _ h => h) (Or.inl ⟨by rfl, ?hy14⟩) (by assumption) ?_
 case hy14 => ((intro W hSW; obtain ⟨s0, s1⟩ := hSW; go_simp); (try with_reducible rfl); (try exact ⟨rfl, rfl, rfl⟩))
 simp only [Act.put, sZa, sZb, sZc]
 refine wpAnyH_take (i := 17) (oi := ⟨some 22, .nilCheck (.tmp 21), 0, "writer.go:41", #[⟨16, .data⟩], none⟩) (v := .pointer (some ⟨g, o, none⟩)) rfl (by kernel_rfl) (by kernel_rfl) (by kernel_rfl) (fun _ _ _ h => h) (Or.inl ⟨by rfl, ?hy15⟩) (by assumption) ?_
 case hy15 => ((intro W hSW; obtain ⟨s0, s1⟩ := hSW; go_simp); (try with_reducible rfl); (try exact ⟨rfl, rfl, rfl⟩))
 simp only [Act.put, sZa, sZb, sZc]
 refine wpAnyH_take (i := 18) (oi := ⟨some 23, .fieldAddr 44 (.tmp 22) 2, 0, "writer.go:41", #[⟨17, .data⟩], none⟩) (v := .pointer (some ⟨g, o + 2, none⟩)) rfl (by kernel_rfl) (by kernel_rfl) (by kernel_rfl) (fun _ _ _ h => h) (Or.inl ⟨by rfl, ?hy16⟩) (by assumption) ?_
 case hy16 => ((intro W hSW; obtain ⟨s0, s1⟩ := hSW; go_simp); (try with_reducible rfl); (try exact ⟨rfl, rfl, rfl⟩))
 simp only [Act.put, sZa, sZb, sZc]
 refine wpAnyH_take (i := 19) (oi := ⟨some 24, .load 40 (.tmp 23), 40, "writer.go:41", #[⟨18, .data⟩], none⟩) (v := .slice A2 kids.length cap2) rfl (by kernel_rfl) (by kernel_rfl) (by kernel_rfl) (fun _ _ _ h => h) (Or.inl ⟨by rfl, ?hy17⟩) (by assumption) ?_
 case hy17 => ((intro W hSW; obtain ⟨s0, s1⟩ := hSW; have e2 : W.cell? ⟨g, o + 2, none⟩ = _ := (s0.cell (p := ⟨g, o + 2, none⟩) hS).trans c2; go_simp); (try with_reducible rfl); (try exact ⟨rfl, rfl, rfl⟩))
 simp only [Act.put, sZa, sZb, sZc]
 refine wpAnyH_ready (rs := [5]) (by kernel_rfl) (by simp) ?_
 refine (AllReadyH.cons (i := 5) (o := ⟨some 10, .call { callee := .value (.func 52), args := #[.tmp 9], argTypes := #[3] }, 9, "writer.go:41", #[⟨4, .data⟩], none⟩) rfl (fun K hK => ?_) AllReadyH.nil)
 rw [if_pos (by rfl)]
 go_simp
 refine (C1.out _ HV0).mono ?_
 rintro e V1 ⟨rfl, hb⟩
 have HV1 := HV0.trans (hb.mono HV0.size)
 clear hb
 go_simp
 refine hK.out _ _ (⟨HV1.mono hBw, HV1.block bw hbl⟩) (fun hHeld => ?_)
 clear hK K
 try simp only [Act.put, sZa, sZb, sZc]
 refine wpAnyH_ready (rs := [10]) (by kernel_rfl) (by simp) ?_
 refine (AllReadyH.cons (i := 10) (o := ⟨some 15, .call { callee := .value (.func 32), args := #[.tmp 14], argTypes := #[42] }, 9, "writer.go:41", #[⟨9, .data⟩, ⟨5, .chain⟩], none⟩) rfl (fun K hK => ?_) AllReadyH.nil)
 rw [if_pos (by rfl)]
 go_simp
 refine (C2.out _ HV1).mono ?_
 rintro e V2 ⟨rfl, hb⟩
 have HV2 := HV1.trans (hb.mono HV1.size)
 clear HV1 hb
 go_simp
 refine hK.out _ _ (⟨HV2.mono hBw, HV2.block bw hbl⟩) (fun hHeld => ?_)
 clear hK K
 try simp only [Act.put, sZa, sZb, sZc]
 refine wpAnyH_ready (rs := [15]) (by kernel_rfl) (by simp) ?_
 refine (AllReadyH.cons (i := 15) (o := ⟨some 20, .call { callee := .value (.func 56), args := #[.tmp 19], argTypes := #[35] }, 9, "writer.go:41", #[⟨14, .data⟩, ⟨10, .chain⟩], none⟩) rfl (fun K hK => ?_) AllReadyH.nil)
 rw [if_pos (by rfl)]
 go_simp
 refine (C3.out _ HV2).mono ?_
 rintro e V3 ⟨rfl, hb⟩
 have HV3 := HV2.trans (hb.mono HV2.size)
 clear HV2 hb
 go_simp
 refine hK.out _ _ (⟨HV3.mono hBw, HV3.block bw hbl⟩) (fun hHeld => ?_)
 clear hK K
 try simp only [Act.put, sZa, sZb, sZc]
 refine wpAnyH_ready (rs := [20]) (by kernel_rfl) (by simp) ?_
 refine (AllReadyH.cons (i := 20) (o := ⟨some 25, .call { callee := .value (.func 57), args := #[.tmp 24], argTypes := #[40] }, 9, "writer.go:41", #[⟨19, .data⟩, ⟨15, .chain⟩], none⟩) rfl (fun K hK => ?_) AllReadyH.nil)
 rw [if_pos (by rfl)]
 go_simp
 refine (C4.out _ HV3).mono ?_
 rintro e V4 ⟨rfl, hb⟩
 have HV4 := HV3.trans (hb.mono HV3.size)
 clear HV3 hb
 go_simp
 refine hK.out _ _ (⟨HV4.mono hBw, HV4.block bw hbl⟩) (fun hHeld => ?_)
 clear hK K
 try simp only [Act.put, sZa, sZb, sZc]
 refine wpAnyH_ready (rs := [21]) (by kernel_rfl) (by simp) ?_
 refine (AllReadyH.cons (i := 21) (o := ⟨some 26, .buildSlice 111 5 #[(0, .const (Go.Value.string { data := #[115, 116, 109, 116] })), (1, .tmp 10), (2, .tmp 15), (3, .tmp 20), (4, .tmp 25)], 111, "writer.go:41", #[⟨5, .data⟩, ⟨10, .data⟩, ⟨15, .data⟩, ⟨20, .data⟩], none⟩) rfl (fun K hK => ?_) AllReadyH.nil)
 rw [if_pos (by rfl)]
 go_simp
 have HC := Lib.hid (heap_new V4 (.cells #[.string ⟨#[115, 116, 109, 116]⟩, .string N1, .string N2, .string N3, .string N4] 9))
 have HV5 : Below w.heap.size w (V4.alloc (.cells #[.string ⟨#[115, 116, 109, 116]⟩, .string N1, .string N2, .string N3, .string N4] 9)) := HV4.alloc HV4.size _
 refine hK.out _ _ (⟨HV5.mono hBw, HV5.block bw hbl⟩) (fun hHeld => ?_)
 clear hK K
 try simp only [Act.put, sZa, sZb, sZc]
 refine wpAnyH_ready (rs := [22]) (by kernel_rfl) (by simp) ?_
 refine (AllReadyH.cons (i := 22) (o := ⟨some 27, .call { callee := .value (.func 25), args := #[.tmp 5, .tmp 26], argTypes := #[90, 111] }, 0, "writer.go:41", #[⟨0, .data⟩, ⟨21, .data⟩, ⟨20, .chain⟩], none⟩) rfl (fun K hK => ?_) AllReadyH.nil)
 rw [if_pos (by rfl)]
 go_simp
 refine (CL.out _ _ HV5 HC.out).mono ?_
 rintro e W9 ⟨rfl, hW9, hb9, tq9⟩
 go_simp
 refine hK.out _ _ (⟨hHeld.1.trans hb9, (tq9.block bw _ (hHeld.2.trans hbw) hne (fun c z e => by cases e)).trans hbw.symm⟩) (fun hHeld => ?_)
 clear hK K
 try simp only [Act.put, sZa, sZb, sZc]
 refine wpAnyH_done (by kernel_rfl) ?_ _
 have HH := Lib.hid hHeld
 have TQ9 := Lib.hid ((Tq.of_below HV5).trans tq9)
 clear hHeld tq9
 have e1 : W9.cell? ⟨g, o + 1, none⟩ = some (.slice A exprs.length cap) := (HH.out.1.cell (p := ⟨g, o + 1, none⟩) hS).trans c1
 have hk9 := hx1.keep (bl_keep HH.out.1) HH.out.1.size
 obtain ⟨gk, ok, cs, hgk, hA, -⟩ := hk9.fin g (Nat.lt_of_lt_of_le hg HH.out.1.size)
 have hbw9 : W9.heap[bw]? = some (.cells #[.pointer (some ⟨b, 0, none⟩)] 90) := HH.out.2.trans hbw
 go_wp2
 go_loopw [33] (fun i wr => ∃ j : Nat, j ≤ exprs.length ∧ i = .int .i64 j ∧ Hid (Wr T B b (X ++ L ++ (exprs.take j).flatMap (exT T)) wr ∧ Below B W9 wr ∧ Tq b W9 wr)) (fun i _ => exprs.length - (RowKit.intOf i).toNat)
 case atStart => exact ⟨0, Nat.zero_le _, rfl, Lib.hid ⟨by simpa using hW9, Below.refl _ _, Tq.refl _ _⟩⟩
 case round =>
  obtain ⟨j, hj, rfl, hR⟩ := hrel
  by_cases hlt : j < exprs.length
  ·obtain ⟨rfl, hgB⟩ := hA (by omega)
   have hkr := hk9.keep (bl_keep hR.out.2.1) hR.out.2.1.size
   have hjx : exprs[j]? = some exprs[j] := List.getElem?_eq_getElem hlt
   have hpt := hkr.pt j hjx
   have htk : (exprs.take (j + 1)).flatMap (exT T) = (exprs.take j).flatMap (exT T) ++ exT T exprs[j] := by rw [List.take_add_one, hjx, List.flatMap_append]; simp
   have hle : X.length + L.length + ((exprs.take j).flatMap (exT T)).length + (exT T exprs[j]).length ≤ 1000000000000 := by
    have h1 : ((exprs.take (j + 1)).flatMap (exT T)).length ≤ (exprs.flatMap (exT T)).length := by
     have := congrArg List.length (congrArg (List.flatMap (exT T)) (List.take_append_drop (j + 1) exprs))
     rw [List.flatMap_append, List.length_append] at this
     omega
    rw [htk, List.length_append] at h1
    omega
   have hdr : Below wr.heap.size wr wr.drew := (Below.refl _ _).drew
   have hcl := expr_any T B b exprs[j] _ (X ++ L ++ (exprs.take j).flatMap (exT T)) wr.drew (hR.out.1.below hdr) (hpt.keep (bl_keep (hdr.mono hR.out.1.bw)) hdr.size) (skE_all f1 _ (List.getElem_mem hlt)) (by simp only [List.length_append]; omega)
   have e1r : wr.cell? ⟨g, o + 1, none⟩ = some (.slice (some ⟨gk, ok, none⟩) exprs.length cap) := (hR.out.2.1.cell (p := ⟨g, o + 1, none⟩) hS).trans e1
   have hbr := hR.out.2.2.block bw _ hbw9 hne (fun c z e => by cases e)
   have cwr : wr.cell? ⟨bw, 0, none⟩ = some (.pointer (some ⟨b, 0, none⟩)) := by simp [World.cell?, hbr]
   have hj1 : (j : Int) < (exprs.length : Int) := by omega
   have hj0 : (0 : Int) ≤ (j : Int) := by omega
   have HCL := Lib.hid hcl
   clear hcl hpt hkr hbr hle hjx
   have ez : exA.z = 9 := rfl
   rw [ez] at HCL
   go_wp2
   go_still_tail 7, (by kernel_rfl)
   change wpList _ _ _ _ _ wr.drew
   go_wp2_with (go_at_call 58; refine HCL.out.mono ?_)
   rintro e w' ⟨rfl, h1, h2, h3⟩
   have hn1 : IntKind.i64.wrap ((j : Int) + 1) = (j : Int) + 1 := IntWalk.i64_in _ (by omega)
   go_wp2
   go_roundw
   case rel => exact ⟨j + 1, hlt, by simp, Lib.hid ⟨by rw [htk, ← List.append_assoc]; exact h1, (hR.out.2.1.trans (Below.drew (Below.refl B wr))).trans h2, (hR.out.2.2.drew).trans h3⟩⟩
   case measure => simp [RowKit.intOf]; omega
  ·obtain rfl : j = exprs.length := by omega
   have hWr := hR.out.1
   rw [List.take_length] at hWr
   have e2 : wr.cell? ⟨g, o + 2, none⟩ = some (.slice A2 kids.length cap2) := ((HH.out.1.trans hR.out.2.1).cell (p := ⟨g, o + 2, none⟩) hS).trans c2
   go_wp2
   go_ret
   exact ⟨_, rfl, hx2.keep (bl_keep (HH.out.1.trans hR.out.2.1)) (Nat.le_trans HH.out.1.size hR.out.2.1.size), by rw [← exs_flat] at hWr; simpa [List.append_assoc] using hWr, HH.out.1.trans hR.out.2.1, TQ9.out.trans hR.out.2.2⟩
end Go.Proofs.YtfjobnljdkiihaaGreatDoor
