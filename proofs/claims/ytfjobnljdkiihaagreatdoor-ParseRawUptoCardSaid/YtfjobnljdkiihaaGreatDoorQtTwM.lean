/- A function told. Conditions: each theorem's. -/
import Derived.Test.YtfjobnljdkiihaaGreatDoorQtTwL
namespace Go.Proofs.YtfjobnljdkiihaaGreatDoor
open Go.RowKit Go.Maps
set_option linter.unusedVariables false
set_option linter.unusedSimpArgs false
set_option maxRecDepth 100000
open Lx Pa Go.Lib Qi
abbrev fnQ (x : PFn) (v : Value) (c : List Value) (z : Int) : List Value := [.string x.nm, .int .i64 x.ty.ba, .int .i64 x.ty.st, .string x.ty.rc, v] ++ c ++ [.int .i64 z]
def fnA : Elem PFn := ⟨16, fun w S x c => ∃ v d z, LAt vaE w S x.params v ∧ StA w S x.body d ∧ c = fnQ x v d z, fun h hk hz => by obtain ⟨v, d, z, h1, h2, h3⟩ := h; exact ⟨v, d, z, h1.keep hk hz, h2.keep hk hz, h3⟩, fun h => by obtain ⟨v, d, z, h1, h2, rfl⟩ := h; simp [h2.len], fun h => by
 obtain ⟨v, d, z, h1, h2, rfl⟩ := h
 obtain ⟨A, cap, rfl⟩ := h1.slice
 intro u hu
 simp only [fnQ, List.mem_append, List.mem_cons, List.not_mem_nil, or_false] at hu
 rcases hu with (hu | hu) | hu
 ·rcases hu with rfl | rfl | rfl | rfl | rfl <;> rfl
 ·exact h2.one u hu
 ·subst hu; rfl⟩
theorem fnE_toA {w : World} {S : Nat → Prop} {x : PFn} {c : List Value} (h : fnE.At w S x c) : fnA.At w S x c := by
 obtain ⟨v, d, h1, h2, h3⟩ := h
 exact ⟨v, d, _, h1, StAt.toA h2, h3⟩
def fV (v : PVa) : Prop := v.nm.size ≤ 1048576 ∧ (v.ty.rc.size ≤ 1048576 ∧ fitI v.ty.ba ∧ fitI v.ty.st) ∧ fitI v.ln
def fF (f : PFn) : Prop := (f.nm.size ≤ 1048576 ∧ (f.ty.rc.size ≤ 1048576 ∧ fitI f.ty.ba ∧ fitI f.ty.st)) ∧ (∀ v ∈ f.params, fV v) ∧ fS f.body
def fnL1 (T : PrintTabs) (nm : ByteArray) (ty : PTy) (n : Nat) : List UInt8 := [102, 117, 110, 99] ++ 32 :: (qt T nm ++ 32 :: (typT T ty ++ 32 :: (itoa n ++ [10])))
theorem lineF_eq (T : PrintTabs) (nm : ByteArray) (ty : PTy) (n : Nat) : lineT [⟨#[102, 117, 110, 99]⟩, quoZ T nm, typZ T ty.ba ty.st ty.rc, numT n] = fnL1 T nm ty n := by
 unfold lineT fnL1 numT
 rw [quoZ_qt, typZ_eq]
 simp [Lib.join]
theorem linePa_eq (T : PrintTabs) (v : PVa) : lineT [⟨#[112, 97, 114, 97, 109]⟩, varZ T v.nm v.ty.ba v.ty.st v.ty.rc v.ln] = paT T v := by
 unfold lineT paT
 rw [varZ_eq]
 simp [Lib.join]
theorem fnT_eq (T : PrintTabs) (f : PFn) : fnT T f = fnL1 T f.nm f.ty f.params.length ++ (f.params.flatMap (paT T) ++ stT T f.body) := by
 unfold fnT fnL1
 simp
set_option maxHeartbeats 16000000 in
theorem function_any (T : PrintTabs) (B b : Nat) (f : PFn) (p : Value) (X : List UInt8) (w0 : World) (h0 : Wr T B b X w0) (hp0 : PtA fnA w0 (Bl B) p f) (hf : fF f) (hlen : X.length + (fnT T f).length ≤ 1000000000000) :
  Calls Tryz.prog 33 #[.pointer (some ⟨b, 0, none⟩), p] w0 fun e w' => e = .returned (.tuple #[]) ∧ Wr T B b (X ++ fnT T f) w' ∧ Below B w0 w' ∧ Tq b w0 w' := by
 obtain ⟨w, hw, hb0, hbw, hbl⟩ : ∃ w, w0.alloc (.cells #[.pointer (some ⟨b, 0, none⟩)] 90) = w ∧ Below w0.heap.size w0 w ∧ w.heap[w0.heap.size]? = some (.cells #[.pointer (some ⟨b, 0, none⟩)] 90) ∧ w0.heap.size < w.heap.size := ⟨_, rfl, (Below.refl _ _).alloc (Nat.le_refl _) _, heap_new w0 _, by simp⟩
 have hW := h0.below hb0
 have hp := hp0.keep (bl_keep (hb0.mono h0.bw)) hb0.size
 have HBZ := Lib.hid hb0
 have hne : w0.heap.size ≠ b := by have := h0.lt; omega
 rw [fnT_eq] at hlen ⊢
 obtain ⟨nm, ty, params, body, fa⟩ := f
 dsimp only at hlen ⊢
 obtain ⟨g, o, c, rfl, hS, hg, ⟨v, d, z, hx1, hx2, rfl⟩, hr⟩ := hp
 obtain ⟨⟨f1, f2a, f2b, f2c⟩, f3, f4⟩ := hf
 dsimp only at f1 f2a f2b f2c f3 f4 hx1 hx2 hr
 obtain ⟨A, cap, rfl⟩ := hx1.slice
 have c0 : w.cell? ⟨g, o, none⟩ = some (.string nm) := hr 0 _ rfl
 have c1 : w.cell? ⟨g, o + 1, none⟩ = some (.int .i64 ty.ba) := hr 1 _ rfl
 have c2 : w.cell? ⟨g, o + 2, none⟩ = some (.int .i64 ty.st) := hr 2 _ rfl
 have c3 : w.cell? ⟨g, o + 3, none⟩ = some (.string ty.rc) := hr 3 _ rfl
 have c4 : w.cell? ⟨g, o + 4, none⟩ = some (.slice A params.length cap) := hr 4 _ rfl
 have hpb : PtA stA w (Bl B) (.pointer (some ⟨g, o + 5, none⟩)) body := ⟨g, o + 5, d, rfl, hS, hg, hx2, fun i u hu => by
  rw [Nat.add_assoc]
  refine hr (5 + i) u ?_
  have hi := (List.getElem?_eq_some_iff.1 hu).1
  rw [List.getElem?_append_left (by simp; omega), List.getElem?_append_right (by simp)]
  simpa using hu⟩
 have hBw := hW.bw
 have hkl : (params.length : Int) ≤ 9223372036854775807 := by
  obtain ⟨_, _, ⟨_, _, e, h1, h2, _⟩, _⟩ := hx1
  injection e with _ e1 e2
  subst e2
  unfold maxLen at h2
  omega
 generalize hbwd : w0.heap.size = bw at hbw hbl hne ⊢
 have cw : w.cell? ⟨bw, 0, none⟩ = some (.pointer (some ⟨b, 0, none⟩)) := by simp [World.cell?, hbw]
 have hTb : ∀ V, Below w.heap.size w V → Tb T B V := fun V hV => hW.tb.keep (hV.mono hBw)
 have C1 : ∀ V, Below w.heap.size w V → Calls Tryz.prog 29 #[.string nm] V fun e w' => e = .returned (.string (quoZ T nm)) ∧ Below V.heap.size V w' := fun V hV => quo_any nm f1 V (hTb V hV)
 have C2 : ∀ V, Below w.heap.size w V → Calls Tryz.prog 31 #[.agg #[.int .i64 ty.ba, .int .i64 ty.st, .string ty.rc]] V fun e w' => e = .returned (.string (typZ T ty.ba ty.st ty.rc)) ∧ Below V.heap.size V w' := fun V hV => typeText_w ty.ba ty.st ty.rc f2b f2c f2a V (hTb V hV) (Nat.le_trans hBw hV.size)
 have C3 : ∀ V, Below w.heap.size w V → Calls Tryz.prog 27 #[.slice A params.length cap] V fun e w' => e = .returned (.string (numT params.length)) ∧ Below V.heap.size V w' := fun V hV => (count_Var A params.length cap (by omega) V (hTb V hV).get.1).mono fun e w' h => ⟨h.1, below_gr h.2⟩
 have hL := lineF_eq T nm ty params.length
 have hlen2 : X.length + (fnL1 T nm ty params.length).length + (params.flatMap (paT T)).length + (stT T body).length ≤ 1000000000000 := by
  simp only [List.length_append] at hlen
  omega
 rw [← hL] at hlen2 ⊢
 clear hL hlen
 generalize quoZ T nm = N1 at *
 generalize typZ T ty.ba ty.st ty.rc = N2 at *
 generalize numT params.length = N3 at *
 have CL : ∀ (V V' : World), Below w.heap.size w V' → V'.heap[V.heap.size]? = some (.cells #[.string ⟨#[102, 117, 110, 99]⟩, .string N1, .string N2, .string N3] 9) → Calls Tryz.prog 25 #[.pointer (some ⟨b, 0, none⟩), .slice (some ⟨V.heap.size, 0, none⟩) 4 4] V' fun e w' => e = .returned (.tuple #[]) ∧ Wr T B b (X ++ lineT [⟨#[102, 117, 110, 99]⟩, N1, N2, N3]) w' ∧ Below B V' w' ∧ Tq b V' w' := fun V V' hV hc => by
  have hWV := hW.below hV
  refine (show Calls _ _ _ _ _ from tline_any B b V.heap.size 0 4 [⟨#[102, 117, 110, 99]⟩, N1, N2, N3] (X) V' hWV.bl (fun j x hj => ?_) (Array.getElem?_eq_some_iff.1 hc).1 (by simp) (by simp) (by first | omega | (simp only [List.length_append] at *; omega)) hWV.bw).mono ?_
  ·rw [Nat.zero_add, cell_of_row _ _ _ _ _ _ hc]
   have := List.getElem?_map (f := Value.string) (l := [(⟨#[102, 117, 110, 99]⟩ : ByteArray), N1, N2, N3]) (i := j)
   rw [hj] at this
   simpa using this
  ·rintro e w' ⟨rfl, h1, h2, h3⟩
   exact ⟨rfl, ⟨h1, hWV.tb.keep h2, Nat.le_trans hWV.bw h2.size⟩, h2, h3⟩
 generalize lineT [⟨#[102, 117, 110, 99]⟩, N1, N2, N3] = L at *
 have HW := Lib.hid hW
 have HD := Lib.hid hw
 have HN := Lib.hid hbwd
 have C1 := Lib.hid C1
 have C2 := Lib.hid C2
 have C3 := Lib.hid C3
 have CL := Lib.hid CL
 clear hW hTb hr hw hbwd hb0
 go_enter Tryz.func33, Tryz.ntmps33
 go_wp2
 rw [HD.out, HN.out]
 refine wp_region_held_drew (S := fun W : World => Below B w W ∧ W.heap[bw]? = w.heap[bw]?) (by kernel_rfl) ⟨(Below.refl _ _).drew, rfl⟩ (fun hHeld => ?_)
 have HV0 : Below w.heap.size w w.drew := (Below.refl _ _).drew
 refine wpAnyH_take (i := 0) (oi := ⟨some 6, .load 90 (.tmp 2), 90, "writer.go:36", #[], none⟩) (v := .pointer (some ⟨b, 0, none⟩)) rfl (by kernel_rfl) (by kernel_rfl) (by kernel_rfl) (fun _ _ _ h => h) (Or.inl ⟨by rfl, ?hy1⟩) (by assumption) ?_
 case hy1 => ((intro W hSW; obtain ⟨s0, s1⟩ := hSW; have e0 : W.cell? ⟨bw, 0, none⟩ = _ := (World.cell?_of_block (w := w) (a := ⟨bw, 0, none⟩) s1).trans cw; go_simp); (try with_reducible rfl); (try exact ⟨rfl, rfl, rfl⟩))
 simp only [Act.put, sZa, sZb, sZc]
 refine wpAnyH_take (i := 1) (oi := ⟨some 7, .move (.tmp 1), 99, "writer.go:36", #[], none⟩) (v := .pointer (some ⟨g, o, none⟩)) rfl (by kernel_rfl) (by kernel_rfl) (by kernel_rfl) (fun _ _ _ h => h) (Or.inl ⟨by rfl, ?hy2⟩) (by assumption) ?_
 case hy2 => ((intro W hSW; obtain ⟨s0, s1⟩ := hSW; go_simp); (try with_reducible rfl); (try exact ⟨rfl, rfl, rfl⟩))
 simp only [Act.put, sZa, sZb, sZc]
 refine wpAnyH_take (i := 2) (oi := ⟨some 8, .nilCheck (.tmp 7), 0, "writer.go:36", #[⟨1, .data⟩], none⟩) (v := .pointer (some ⟨g, o, none⟩)) rfl (by kernel_rfl) (by kernel_rfl) (by kernel_rfl) (fun _ _ _ h => h) (Or.inl ⟨by rfl, ?hy3⟩) (by assumption) ?_
 case hy3 => ((intro W hSW; obtain ⟨s0, s1⟩ := hSW; go_simp); (try with_reducible rfl); (try exact ⟨rfl, rfl, rfl⟩))
 simp only [Act.put, sZa, sZb, sZc]
 refine wpAnyH_take (i := 3) (oi := ⟨some 9, .fieldAddr 46 (.tmp 8) 0, 0, "writer.go:36", #[⟨2, .data⟩], none⟩) (v := .pointer (some ⟨g, o, none⟩)) rfl (by kernel_rfl) (by kernel_rfl) (by kernel_rfl) (fun _ _ _ h => h) (Or.inl ⟨by rfl, ?hy4⟩) (by assumption) ?_
 case hy4 => ((intro W hSW; obtain ⟨s0, s1⟩ := hSW; go_simp); (try with_reducible rfl); (try exact ⟨rfl, rfl, rfl⟩))
 simp only [Act.put, sZa, sZb, sZc]
 refine wpAnyH_take (i := 4) (oi := ⟨some 10, .load 9 (.tmp 9), 9, "writer.go:36", #[⟨3, .data⟩], none⟩) (v := .string nm) rfl (by kernel_rfl) (by kernel_rfl) (by kernel_rfl) (fun _ _ _ h => h) (Or.inl ⟨by rfl, ?hy5⟩) (by assumption) ?_
 case hy5 => ((intro W hSW; obtain ⟨s0, s1⟩ := hSW; have e0 : W.cell? ⟨g, o, none⟩ = _ := (s0.cell (p := ⟨g, o, none⟩) hS).trans c0; go_simp); (try with_reducible rfl); (try exact ⟨rfl, rfl, rfl⟩))
 simp only [Act.put, sZa, sZb, sZc]
 refine wpAnyH_take (i := 6) (oi := ⟨some 12, .move (.tmp 1), 99, "writer.go:36", #[], none⟩) (v := .pointer (some ⟨g, o, none⟩)) rfl (by kernel_rfl) (by kernel_rfl) (by kernel_rfl) (fun _ _ _ h => h) (Or.inl ⟨by rfl, ?hy6⟩) (by assumption) ?_
 case hy6 => ((intro W hSW; obtain ⟨s0, s1⟩ := hSW; go_simp); (try with_reducible rfl); (try exact ⟨rfl, rfl, rfl⟩))
 simp only [Act.put, sZa, sZb, sZc]
 refine wpAnyH_take (i := 7) (oi := ⟨some 13, .nilCheck (.tmp 12), 0, "writer.go:36", #[⟨6, .data⟩], none⟩) (v := .pointer (some ⟨g, o, none⟩)) rfl (by kernel_rfl) (by kernel_rfl) (by kernel_rfl) (fun _ _ _ h => h) (Or.inl ⟨by rfl, ?hy7⟩) (by assumption) ?_
 case hy7 => ((intro W hSW; obtain ⟨s0, s1⟩ := hSW; go_simp); (try with_reducible rfl); (try exact ⟨rfl, rfl, rfl⟩))
 simp only [Act.put, sZa, sZb, sZc]
 refine wpAnyH_take (i := 8) (oi := ⟨some 14, .fieldAddr 46 (.tmp 13) 1, 0, "writer.go:36", #[⟨7, .data⟩], none⟩) (v := .pointer (some ⟨g, o + 1, none⟩)) rfl (by kernel_rfl) (by kernel_rfl) (by kernel_rfl) (fun _ _ _ h => h) (Or.inl ⟨by rfl, ?hy8⟩) (by assumption) ?_
 case hy8 => ((intro W hSW; obtain ⟨s0, s1⟩ := hSW; go_simp); (try with_reducible rfl); (try exact ⟨rfl, rfl, rfl⟩))
 simp only [Act.put, sZa, sZb, sZc]
 refine wpAnyH_take (i := 9) (oi := ⟨some 15, .load 37 (.tmp 14), 37, "writer.go:36", #[⟨8, .data⟩], none⟩) (v := .agg #[.int .i64 ty.ba, .int .i64 ty.st, .string ty.rc]) rfl (by kernel_rfl) (by kernel_rfl) (by kernel_rfl) (fun _ _ _ h => h) (Or.inl ⟨by rfl, ?hy9⟩) (by assumption) ?_
 case hy9 => ((intro W hSW; obtain ⟨s0, s1⟩ := hSW; have e1 : W.cell? ⟨g, o + 1, none⟩ = _ := (s0.cell (p := ⟨g, o + 1, none⟩) hS).trans c1; have e2 : W.cell? ⟨g, o + 2, none⟩ = _ := (s0.cell (p := ⟨g, o + 2, none⟩) hS).trans c2; have e2b := e2; rw [show o + 2 = o + 1 + 1 from rfl] at e2b; have e3 : W.cell? ⟨g, o + 3, none⟩ = _ := (s0.cell (p := ⟨g, o + 3, none⟩) hS).trans c3; have e3b := e3; rw [show o + 3 = o + 1 + 2 from rfl] at e3b; go_simp); (try with_reducible rfl); (try exact ⟨rfl, rfl, rfl⟩))
 simp only [Act.put, sZa, sZb, sZc]
 refine wpAnyH_take (i := 11) (oi := ⟨some 17, .move (.tmp 1), 99, "writer.go:36", #[], none⟩) (v := .pointer (some ⟨g, o, none⟩)) rfl (by kernel_rfl) (by kernel_rfl) (by kernel_rfl) (fun _ _ _ h => h) (Or.inl ⟨by rfl, ?hy10⟩) (by assumption) ?_
 case hy10 => ((intro W hSW; obtain ⟨s0, s1⟩ := hSW; go_simp); (try with_reducible rfl); (try exact ⟨rfl, rfl, rfl⟩))
 simp only [Act.put, sZa, sZb, sZc]
 refine wpAnyH_take (i := 12) (oi := ⟨some 18, .nilCheck (.tmp 17), 0, "writer.go:36", #[⟨11, .data⟩], none⟩) (v := .pointer (some ⟨g, o, none⟩)) rfl (by kernel_rfl) (by kernel_rfl) (by kernel_rfl) (fun _ _ _ h => h) (Or.inl ⟨by rfl, ?hy11⟩) (by assumption) ?_
 case hy11 => ((intro W hSW; obtain ⟨s0, s1⟩ := hSW; go_simp); (try with_reducible rfl); (try exact ⟨rfl, rfl, rfl⟩))
 simp only [Act.put, sZa, sZb, sZc]
 refine wpAnyH_take (i := 13) (oi := ⟨some 19, .fieldAddr 46 (.tmp 18) 2, 0, "writer.go:36", #[⟨12, .data⟩], none⟩) (v := .pointer (some ⟨g, o + 4, none⟩)) rfl (by kernel_rfl) (by kernel_rfl) (by kernel_rfl) (fun _ _ _ h => h) (Or.inl ⟨by rfl, ?hy12⟩) (by assumption) ?_
 case hy12 => ((intro W hSW; obtain ⟨s0, s1⟩ := hSW; go_simp); (try with_reducible rfl); (try exact ⟨rfl, rfl, rfl⟩))
 simp only [Act.put, sZa, sZb, sZc]
 refine wpAnyH_take (i := 14) (oi := ⟨some 20, .load 24 (.tmp 19), 24, "writer.go:36", #[⟨13, .data⟩], none⟩) (v := .slice A params.length cap) rfl (by kernel_rfl) (by kernel_rfl) (by kernel_rfl) (fun _ _ _ h => h) (Or.inl ⟨by rfl, ?hy13⟩) (by assumption) ?_
 case hy13 => ((intro W hSW; obtain ⟨s0, s1⟩ := hSW; have e4 : W.cell? ⟨g, o + 4, none⟩ = _ := (s0.cell (p := ⟨g, o + 4, none⟩) hS).trans c4; go_simp); (try with_reducible rfl); (try exact ⟨rfl, rfl, rfl⟩))
 simp only [Act.put, sZa, sZb, sZc]
 refine wpAnyH_ready (rs := [5]) (by kernel_rfl) (by simp) ?_
 refine (AllReadyH.cons (i := 5) (o := ⟨some 11, .call { callee := .value (.func 29), args := #[.tmp 10], argTypes := #[9] }, 9, "writer.go:36", #[⟨4, .data⟩], none⟩) rfl (fun K hK => ?_) AllReadyH.nil)
 rw [if_pos (by rfl)]
 go_simp
 refine (C1.out _ HV0).mono ?_
 rintro e V1 ⟨rfl, hb⟩
 have HV1 := HV0.trans (hb.mono HV0.size)
 clear hb
 go_simp
 refine hK.out _ _ (⟨HV1.mono hBw, HV1.block bw hbl⟩) (fun hHeld => ?_)
 clear hK K
 try simp only [Act.put, sZa, sZb, sZc]
 refine wpAnyH_ready (rs := [10]) (by kernel_rfl) (by simp) ?_
 refine (AllReadyH.cons (i := 10) (o := ⟨some 16, .call { callee := .value (.func 31), args := #[.tmp 15], argTypes := #[37] }, 9, "writer.go:36", #[⟨9, .data⟩, ⟨5, .chain⟩], none⟩) rfl (fun K hK => ?_) AllReadyH.nil)
 rw [if_pos (by rfl)]
 go_simp
 refine (C2.out _ HV1).mono ?_
 rintro e V2 ⟨rfl, hb⟩
 have HV2 := HV1.trans (hb.mono HV1.size)
 clear HV1 hb
 go_simp
 refine hK.out _ _ (⟨HV2.mono hBw, HV2.block bw hbl⟩) (fun hHeld => ?_)
 clear hK K
 try simp only [Act.put, sZa, sZb, sZc]
 refine wpAnyH_ready (rs := [15]) (by kernel_rfl) (by simp) ?_
 refine (AllReadyH.cons (i := 15) (o := ⟨some 21, .call { callee := .value (.func 27), args := #[.tmp 20], argTypes := #[24] }, 9, "writer.go:36", #[⟨14, .data⟩, ⟨10, .chain⟩], none⟩) rfl (fun K hK => ?_) AllReadyH.nil)
 rw [if_pos (by rfl)]
 go_simp
 refine (C3.out _ HV2).mono ?_
 rintro e V3 ⟨rfl, hb⟩
 have HV3 := HV2.trans (hb.mono HV2.size)
 clear HV2 hb
 go_simp
 refine hK.out _ _ (⟨HV3.mono hBw, HV3.block bw hbl⟩) (fun hHeld => ?_)
 clear hK K
 try simp only [Act.put, sZa, sZb, sZc]
 refine wpAnyH_ready (rs := [16]) (by kernel_rfl) (by simp) ?_
 refine (AllReadyH.cons (i := 16) (o := ⟨some 22, .buildSlice 111 4 #[(0, .const (Go.Value.string { data := #[102, 117, 110, 99] })), (1, .tmp 11), (2, .tmp 16), (3, .tmp 21)], 111, "writer.go:36", #[⟨5, .data⟩, ⟨10, .data⟩, ⟨15, .data⟩], none⟩) rfl (fun K hK => ?_) AllReadyH.nil)
 rw [if_pos (by rfl)]
 go_simp
 have HC := Lib.hid (heap_new V3 (.cells #[.string ⟨#[102, 117, 110, 99]⟩, .string N1, .string N2, .string N3] 9))
 have HV4 : Below w.heap.size w (V3.alloc (.cells #[.string ⟨#[102, 117, 110, 99]⟩, .string N1, .string N2, .string N3] 9)) := HV3.alloc HV3.size _
 refine hK.out _ _ (⟨HV4.mono hBw, HV4.block bw hbl⟩) (fun hHeld => ?_)
 clear hK K
 try simp only [Act.put, sZa, sZb, sZc]
 refine wpAnyH_ready (rs := [17]) (by kernel_rfl) (by simp) ?_
 refine (AllReadyH.cons (i := 17) (o := ⟨some 23, .call { callee := .value (.func 25), args := #[.tmp 6, .tmp 22], argTypes := #[90, 111] }, 0, "writer.go:36", #[⟨0, .data⟩, ⟨16, .data⟩, ⟨15, .chain⟩], none⟩) rfl (fun K hK => ?_) AllReadyH.nil)
 rw [if_pos (by rfl)]
 go_simp
 refine (CL.out _ _ HV4 HC.out).mono ?_
 rintro e W9 ⟨rfl, hW9, hb9, tq9⟩
 go_simp
 refine hK.out _ _ (⟨hHeld.1.trans hb9, (tq9.block bw _ (hHeld.2.trans hbw) hne (fun c z e => by injection e with _ e _; revert e; decide)).trans hbw.symm⟩) (fun hHeld => ?_)
 clear hK K
 try simp only [Act.put, sZa, sZb, sZc]
 refine wpAnyH_done (by kernel_rfl) ?_ _
 have HH := Lib.hid hHeld
 have TQ9 := Lib.hid ((Tq.of_below HV4).trans tq9)
 clear hHeld tq9
 have e4 : W9.cell? ⟨g, o + 4, none⟩ = some (.slice A params.length cap) := (HH.out.1.cell (p := ⟨g, o + 4, none⟩) hS).trans c4
 have hk9 := hx1.keep (bl_keep HH.out.1) HH.out.1.size
 have hbw9 : W9.heap[bw]? = some (.cells #[.pointer (some ⟨b, 0, none⟩)] 90) := HH.out.2.trans hbw
 have hp9 := hpb.keep (bl_keep HH.out.1) HH.out.1.size
 go_wp2
 go_loopw [29] (fun i wr => ∃ j : Nat, j ≤ params.length ∧ i = .int .i64 j ∧ Hid (Wr T B b (X ++ L ++ (params.take j).flatMap (paT T)) wr ∧ Below B W9 wr ∧ Tq b W9 wr)) (fun i _ => params.length - (RowKit.intOf i).toNat)
 case atStart => exact ⟨0, Nat.zero_le _, rfl, Lib.hid ⟨by simpa using hW9, Below.refl _ _, Tq.refl _ _⟩⟩
 case round =>
  obtain ⟨j, hj, rfl, hR⟩ := hrel
  by_cases hlt : j < params.length
  ·have hkr := hk9.keep (bl_keep hR.out.2.1) hR.out.2.1.size
   have hjx : params[j]? = some params[j] := List.getElem?_eq_getElem hlt
   have htk : (params.take (j + 1)).flatMap (paT T) = (params.take j).flatMap (paT T) ++ paT T params[j] := by rw [List.take_add_one, hjx, List.flatMap_append]; simp
   have hle : X.length + L.length + ((params.take j).flatMap (paT T)).length + (paT T params[j]).length ≤ 1000000000000 := by
    have h1 : ((params.take (j + 1)).flatMap (paT T)).length ≤ (params.flatMap (paT T)).length := by
     have := congrArg List.length (congrArg (List.flatMap (paT T)) (List.take_append_drop (j + 1) params))
     rw [List.flatMap_append, List.length_append] at this
     omega
    rw [htk, List.length_append] at h1
    omega
   obtain ⟨gk, ok, cap', cs, e, -, -, hgB, hgl, hcs, hcell⟩ := hkr.get j hjx
   injection e with e1 e3 e2
   subst e1
   subst e2
   obtain ⟨fv1, ⟨fv2, fv3, fv4⟩, fv5⟩ := f3 _ (List.getElem_mem hlt)
   generalize params[j] = pv at *
   subst hcs
   have ez : vaE.z = 6 := rfl
   rw [ez] at hcell
   have q0 : wr.cell? ⟨gk, ok + j * 6, none⟩ = some (.string pv.nm) := hcell 0 _ rfl
   have q1 : wr.cell? ⟨gk, ok + j * 6 + 1, none⟩ = some (.int .i64 pv.ty.ba) := by rw [Nat.add_assoc]; exact hcell 1 _ rfl
   have q2 : wr.cell? ⟨gk, ok + j * 6 + 2, none⟩ = some (.int .i64 pv.ty.st) := by rw [Nat.add_assoc]; exact hcell 2 _ rfl
   have q3 : wr.cell? ⟨gk, ok + j * 6 + 3, none⟩ = some (.string pv.ty.rc) := by rw [Nat.add_assoc]; exact hcell 3 _ rfl
   have q4 : wr.cell? ⟨gk, ok + j * 6 + 4, none⟩ = some (.int .i64 pv.ln) := by rw [Nat.add_assoc]; exact hcell 4 _ rfl
   have q5 : wr.cell? ⟨gk, ok + j * 6 + 5, none⟩ = some (.int .i64 (pv.at_ : Int)) := by rw [Nat.add_assoc]; exact hcell 5 _ rfl
   have hj1 : (j : Int) < (params.length : Int) := by omega
   have hj0 : (0 : Int) ≤ (j : Int) := by omega
   have hbr := hR.out.2.2.block bw _ hbw9 hne (fun c z e => by injection e with _ e _; revert e; decide)
   have hlB := Lib.hid hle
   clear hkr hjx hle hcell
   go_wp2
   obtain ⟨Wv, hWvd, HBv, hvc, hvl⟩ : ∃ Wv, wr.alloc (.cells #[.string pv.nm, .int .i64 pv.ty.ba, .int .i64 pv.ty.st, .string pv.ty.rc, .int .i64 pv.ln, .int .i64 (pv.at_ : Int)] 42) = Wv ∧ Hid (Below wr.heap.size wr Wv) ∧ Wv.heap[wr.heap.size]? = some (.cells #[.string pv.nm, .int .i64 pv.ty.ba, .int .i64 pv.ty.st, .string pv.ty.rc, .int .i64 pv.ln, .int .i64 (pv.at_ : Int)] 42) ∧ wr.heap.size < Wv.heap.size := ⟨_, rfl, Lib.hid ((Below.refl _ _).alloc (Nat.le_refl _) _), heap_new wr _, by simp⟩
   rw [hWvd]
   clear hWvd q0 q1 q2 q3 q4 q5
   have hWv := hR.out.1.below HBv.out
   have hbl2' := (Array.getElem?_eq_some_iff.1 hbr).1
   have hbv : Wv.heap[bw]? = _ := (HBv.out.block bw hbl2').trans hbr
   have hbl2 := (Array.getElem?_eq_some_iff.1 hbv).1
   have hvb : wr.heap.size ≠ b := by have := hR.out.1.lt; omega
   have HBv0 := HBv
   generalize hvbd : wr.heap.size = vb at HBv hvc hvl hvb ⊢
   have D1 : ∀ V, Below Wv.heap.size Wv V → Calls Tryz.prog 32 #[.agg #[.string pv.nm, .int .i64 pv.ty.ba, .int .i64 pv.ty.st, .string pv.ty.rc, .int .i64 pv.ln, .int .i64 (pv.at_ : Int)]] V fun e w' => e = .returned (.string (varZ T pv.nm pv.ty.ba pv.ty.st pv.ty.rc pv.ln)) ∧ Below V.heap.size V w' := fun V hV => varText_w pv.nm pv.ty.ba pv.ty.st pv.ty.rc pv.ln pv.at_ fv1 fv3 fv4 fv2 fv5 V (hWv.tb.keep (hV.mono hWv.bw)) (Nat.le_trans hWv.bw hV.size)
   have hP := linePa_eq T pv
   rw [← hP] at hlB htk
   clear hP
   generalize varZ T pv.nm pv.ty.ba pv.ty.st pv.ty.rc pv.ln = M1 at *
   have hlB2 := hlB.out
   have CL2 : ∀ (V V' : World), Below Wv.heap.size Wv V' → V'.heap[V.heap.size]? = some (.cells #[.string ⟨#[112, 97, 114, 97, 109]⟩, .string M1] 9) → Calls Tryz.prog 25 #[.pointer (some ⟨b, 0, none⟩), .slice (some ⟨V.heap.size, 0, none⟩) 2 2] V' fun e w' => e = .returned (.tuple #[]) ∧ Wr T B b (X ++ L ++ (params.take j).flatMap (paT T) ++ lineT [⟨#[112, 97, 114, 97, 109]⟩, M1]) w' ∧ Below B V' w' ∧ Tq b V' w' := fun V V' hV hc => by
    have hWV := hWv.below hV
    refine (show Calls _ _ _ _ _ from tline_any B b V.heap.size 0 2 [⟨#[112, 97, 114, 97, 109]⟩, M1] (X ++ L ++ (params.take j).flatMap (paT T)) V' hWV.bl (fun j x hj => ?_) (Array.getElem?_eq_some_iff.1 hc).1 (by simp) (by simp) (by first | omega | (simp only [List.length_append] at *; omega)) hWV.bw).mono ?_
    ·rw [Nat.zero_add, cell_of_row _ _ _ _ _ _ hc]
     have := List.getElem?_map (f := Value.string) (l := [(⟨#[112, 97, 114, 97, 109]⟩ : ByteArray), M1]) (i := j)
     rw [hj] at this
     simpa using this
    ·rintro e w' ⟨rfl, h1, h2, h3⟩
     exact ⟨rfl, ⟨h1, hWV.tb.keep h2, Nat.le_trans hWV.bw h2.size⟩, h2, h3⟩
   have D1 := Lib.hid D1
   have CL2 := Lib.hid CL2
   have hWv := Lib.hid hWv
   clear hlB2
   refine wp_region_held_drew (S := fun W : World => Below B Wv W ∧ W.heap[bw]? = some (.cells #[.pointer (some ⟨b, 0, none⟩)] 90) ∧ W.heap[vb]? = some (.cells #[.string pv.nm, .int .i64 pv.ty.ba, .int .i64 pv.ty.st, .string pv.ty.rc, .int .i64 pv.ln, .int .i64 (pv.at_ : Int)] 42)) (by kernel_rfl) ⟨(Below.refl _ _).drew, hbv, hvc⟩ (fun hHeld => ?_)
   have HU0 : Below Wv.heap.size Wv Wv.drew := (Below.refl _ _).drew
   refine wpAnyH_take (i := 0) (oi := ⟨some 33, .load 90 (.tmp 2), 90, "writer.go:38", #[], none⟩) (v := .pointer (some ⟨b, 0, none⟩)) rfl (by kernel_rfl) (by kernel_rfl) (by kernel_rfl) (fun _ _ _ h => h) (Or.inl ⟨by rfl, ?hy1⟩) (by assumption) ?_
   case hy1 => ((intro W hSW; obtain ⟨s0, s1, s2⟩ := hSW; have e0 : W.cell? ⟨bw, 0, none⟩ = some (.pointer (some ⟨b, 0, none⟩)) := cell_of_row _ _ _ _ _ _ s1; go_simp); (try with_reducible rfl); (try exact ⟨rfl, rfl, rfl⟩))
   simp only [Act.put, sZa, sZb, sZc]
   refine wpAnyH_take (i := 1) (oi := ⟨some 34, .load 42 (.tmp 5), 42, "writer.go:38", #[], none⟩) (v := .agg #[.string pv.nm, .int .i64 pv.ty.ba, .int .i64 pv.ty.st, .string pv.ty.rc, .int .i64 pv.ln, .int .i64 (pv.at_ : Int)]) rfl (by kernel_rfl) (by kernel_rfl) (by kernel_rfl) (fun _ _ _ h => h) (Or.inl ⟨by rfl, ?hy2⟩) (by assumption) ?_
   case hy2 => ((intro W hSW; obtain ⟨s0, s1, s2⟩ := hSW; have e0 : W.cell? ⟨vb, 0, none⟩ = _ := cell_of_row _ _ _ _ _ _ s2; have e1 : W.cell? ⟨vb, 1, none⟩ = _ := cell_of_row _ _ _ _ _ _ s2; have e2 : W.cell? ⟨vb, 2, none⟩ = _ := cell_of_row _ _ _ _ _ _ s2; have e3 : W.cell? ⟨vb, 3, none⟩ = _ := cell_of_row _ _ _ _ _ _ s2; have e4 : W.cell? ⟨vb, 4, none⟩ = _ := cell_of_row _ _ _ _ _ _ s2; have e5 : W.cell? ⟨vb, 5, none⟩ = _ := cell_of_row _ _ _ _ _ _ s2; go_simp); (try with_reducible rfl); (try exact ⟨rfl, rfl, rfl⟩))
   simp only [Act.put, sZa, sZb, sZc]
   refine wpAnyH_ready (rs := [2]) (by kernel_rfl) (by simp) ?_
   refine (AllReadyH.cons (i := 2) (o := ⟨some 35, .call { callee := .value (.func 32), args := #[.tmp 34], argTypes := #[42] }, 9, "writer.go:38", #[⟨1, .data⟩], none⟩) rfl (fun K hK => ?_) AllReadyH.nil)
   rw [if_pos (by rfl)]
   go_simp
   refine (D1.out _ HU0).mono ?_
   rintro e U1 ⟨rfl, hb⟩
   have HU1 := HU0.trans (hb.mono HU0.size)
   clear hb
   go_simp
   refine hK.out _ _ (⟨HU1.mono hWv.out.bw, (HU1.block bw hbl2).trans hbv, (HU1.block vb hvl).trans hvc⟩) (fun hHeld => ?_)
   clear hK K
   try simp only [Act.put, sZa, sZb, sZc]
   refine wpAnyH_ready (rs := [3]) (by kernel_rfl) (by simp) ?_
   refine (AllReadyH.cons (i := 3) (o := ⟨some 36, .buildSlice 111 2 #[(0, .const (Go.Value.string { data := #[112, 97, 114, 97, 109] })), (1, .tmp 35)], 111, "writer.go:38", #[⟨2, .data⟩], none⟩) rfl (fun K hK => ?_) AllReadyH.nil)
   rw [if_pos (by rfl)]
   go_simp
   have HC := Lib.hid (heap_new U1 (.cells #[.string ⟨#[112, 97, 114, 97, 109]⟩, .string M1] 9))
   have HU2 : Below Wv.heap.size Wv (U1.alloc (.cells #[.string ⟨#[112, 97, 114, 97, 109]⟩, .string M1] 9)) := HU1.alloc HU1.size _
   refine hK.out _ _ (⟨HU2.mono hWv.out.bw, (HU2.block bw hbl2).trans hbv, (HU2.block vb hvl).trans hvc⟩) (fun hHeld => ?_)
   clear hK K
   try simp only [Act.put, sZa, sZb, sZc]
   refine wpAnyH_ready (rs := [4]) (by kernel_rfl) (by simp) ?_
   refine (AllReadyH.cons (i := 4) (o := ⟨some 37, .call { callee := .value (.func 25), args := #[.tmp 33, .tmp 36], argTypes := #[90, 111] }, 0, "writer.go:38", #[⟨0, .data⟩, ⟨3, .data⟩, ⟨2, .chain⟩], none⟩) rfl (fun K hK => ?_) AllReadyH.nil)
   rw [if_pos (by rfl)]
   go_simp
   refine (CL2.out _ _ HU2 HC.out).mono ?_
   rintro e W8 ⟨rfl, hW8, hb8, tq8⟩
   go_simp
   refine hK.out _ _ (⟨hHeld.1.trans hb8, tq8.block bw _ hHeld.2.1 hne (fun c z e => by injection e with _ e _; revert e; decide), tq8.block vb _ hHeld.2.2 hvb (fun c z e => by injection e with _ e _; revert e; decide)⟩) (fun hHeld => ?_)
   clear hK K
   try simp only [Act.put, sZa, sZb, sZc]
   refine wpAnyH_done (by kernel_rfl) ?_ _
   have HH8 := Lib.hid hHeld
   have TQ8 := Lib.hid ((Tq.of_below HU2).trans tq8)
   clear hHeld tq8
   have hn1 : IntKind.i64.wrap ((j : Int) + 1) = (j : Int) + 1 := IntWalk.i64_in _ (by omega)
   go_wp2
   go_roundw
   case rel => exact ⟨j + 1, hlt, by simp, Lib.hid ⟨by rw [htk, ← List.append_assoc]; exact hW8, (hR.out.2.1.trans (HBv0.out.mono hR.out.1.bw)).trans HH8.out.1, (hR.out.2.2.trans (Tq.of_below HBv0.out)).trans TQ8.out⟩⟩
   case measure => simp [RowKit.intOf]; omega
  ·obtain rfl : j = params.length := by omega
   have hWr := hR.out.1
   rw [List.take_length] at hWr
   have hbr := hR.out.2.2.block bw _ hbw9 hne (fun c z e => by injection e with _ e _; revert e; decide)
   have hpr := hp9.keep (bl_keep hR.out.2.1) hR.out.2.1.size
   have hcl := walkS_any T B b bw body _ (X ++ L ++ params.flatMap (paT T)) wr (tellS T B b bw) hWr hbr hpr f4 (by simp only [List.length_append]; omega)
   have HCL := Lib.hid hcl
   clear hcl hpr hWr
   go_wp2_with (go_at_call 54; refine HCL.out.mono ?_)
   rintro e w' ⟨rfl, h1, h2, h3⟩
   go_wp2
   go_end0
   exact ⟨rfl, by simpa [List.append_assoc] using h1, (HBZ.out.mono h0.bw).trans (HH.out.1.trans (hR.out.2.1.trans h2)), (Tq.of_below HBZ.out).trans (TQ9.out.trans (hR.out.2.2.trans h3))⟩
end Go.Proofs.YtfjobnljdkiihaaGreatDoor
