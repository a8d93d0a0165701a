/- A program's tops. Conditions: each theorem's. -/
import Derived.Test.YtfjobnljdkiihaaGreatDoorQtParTd
namespace Go.Proofs.YtfjobnljdkiihaaGreatDoor
open Go.RowKit Go.Maps
set_option linter.unusedVariables false
set_option linter.unusedSimpArgs false
set_option maxRecDepth 100000
open Lx Pa
theorem infoSr3 : (Tryz.prog.info? 75).map (fun i => (i.zero, i.size, i.bytes)) = some (some (.agg srZ), 3, 48) := by kernel_rfl
theorem infoSrz : (Tryz.prog.info? 75).map (fun i => (i.zero, i.size)) = some (some (.agg srZ), 3) := by kernel_rfl
theorem infoFn16 : (Tryz.prog.info? 46).map (fun i => (i.zero, i.size, i.bytes)) = some (some (.agg fnZ), 16, 208) := by kernel_rfl
theorem infoFnz : (Tryz.prog.info? 46).map (fun i => (i.zero, i.size)) = some (some (.agg fnZ), 16) := by kernel_rfl
def TopP (w0 : World) (R M b : Nat) (p : PPr) (s : Pa.S) (e : Ending) (w' : World) : Prop := e = .returned (.tuple #[]) ∧ ∃ vs vv vf, PrR w0 w' R M b p s vs vv vf
set_option maxHeartbeats 32000000 in
theorem top_any {w0 w : World} {R M b : Nat} {p : PPr} {s : Pa.S} {vs vv vf : Value} (h : PrR w0 w R M b p s vs vv vf) (hn : s.tk.length ≤ 7000) (hl : p.ss.length ≤ 7000 ∧ p.vs.length ≤ 7000 ∧ p.fs.length ≤ 7000) :
  Calls Tryz.prog 24 #[.pointer (some ⟨R, 0, none⟩), .pointer (some ⟨b, 0, none⟩)] w (TopP w0 R M b (topV p s).1 (topV p s).2) := by
 have hR := h.rl
 have hbl := h.bl
 have F1 := tf1
 have hbw := lt_of_at h.row
 have hV : topV p s = if s.is ⟨#[115, 116, 114, 117, 99, 116]⟩ = true ∧ (s.ahead 2).tx = ⟨#[123]⟩ then (⟨p.ss ++ [(structV s).1], p.vs, p.fs⟩, (structV s).2)
  else if (namedV s).2.is ⟨#[40]⟩ then (⟨p.ss, p.vs, p.fs ++ [(funcV (namedV s).1 (namedV s).2.tl).1]⟩, (funcV (namedV s).1 (namedV s).2.tl).2)
  else (⟨p.ss, p.vs ++ [⟨(namedV s).1.nm, (namedV s).1.ty, (lengthV (namedV s).2).1, (namedV s).1.at_⟩], p.fs⟩, (lengthV (namedV s).2).2.want ⟨#[59]⟩) := rfl
 have HV := Lib.hid hV
 clear hV
 have his := is_any ⟨#[115, 116, 114, 117, 99, 116]⟩ h.rd
 go_enter Tryz.func24, Tryz.ntmps24
 go_wp2_with fail
 cases hi : s.is ⟨#[115, 116, 114, 117, 99, 116]⟩
 case' true =>
  rw [hi] at his
  refine his.mono ?_
  rintro e w1 ⟨rfl, b1⟩
  clear his
  have P1 := h.step (Fr.below b1) (h.rd.below b1)
  have hah := ahead_any 2 (by omega) P1.rd
  by_cases ha : (s.ahead 2).tx = ⟨#[123]⟩
  ·rw [if_pos ⟨hi, ha⟩] at HV
   have q1 : ((s.ahead 2).tx.toList == [123]) = true := strYes [123] ha
   clear hi ha
   generalize s.ahead 2 = t at *
   go_wp2_with fail
   refine hah.mono ?_
   rintro e w2 ⟨rfl, b2⟩
   clear hah
   have P2 := P1.step (Fr.below b2) (P1.rd.below b2)
   have hexp := struct_any (w := w2.drew) (P2.rd.below ((Below.refl _ _).drew)) hn
   generalize (structV s).1 = x at *
   generalize (structV s).2 = s2 at *
   have HEXP := Lib.hid hexp
   have hb2 := lt_of_at P2.row
   obtain ⟨i0, hi0, hz0, hz1, hz2⟩ := info_parts infoSr3
   clear hexp h P1 b1 b2 hbw
   have PD := P2.step (w' := w2.drew) ((Fr.refl _ _).drew) (P2.rd.below ((Below.refl _ _).drew))
   go_wp2_with fail
   refine wp_any_drew (by kernel_rfl) ?_
   refine wpAny_take (i := 0) (oi := ⟨some 13, .move (.tmp 1), 89, "tops.go:20", #[], none⟩) (v := .pointer (some ⟨b, 0, none⟩)) rfl (by kernel_rfl) (by kernel_rfl) (by kernel_rfl) (fun _ _ _ h => h) (Or.inl ⟨by rfl, ?hz1⟩) ?_
   case hz1 => ((intro W; go_simp); (try with_reducible rfl); (try exact ⟨rfl, rfl, rfl⟩))
   simp only [Act.put, sZa, sZb, sZc]
   refine wpAny_take (i := 1) (oi := ⟨some 14, .move (.tmp 1), 89, "tops.go:20", #[], none⟩) (v := .pointer (some ⟨b, 0, none⟩)) rfl (by kernel_rfl) (by kernel_rfl) (by kernel_rfl) (fun _ _ _ h => h) (Or.inl ⟨by rfl, ?hz2⟩) ?_
   case hz2 => ((intro W; go_simp); (try with_reducible rfl); (try exact ⟨rfl, rfl, rfl⟩))
   simp only [Act.put, sZa, sZb, sZc]
   refine wpAny_take (i := 2) (oi := ⟨some 15, .nilCheck (.tmp 14), 0, "tops.go:20", #[⟨1, .data⟩], none⟩) (v := .pointer (some ⟨b, 0, none⟩)) rfl (by kernel_rfl) (by kernel_rfl) (by kernel_rfl) (fun _ _ _ h => h) (Or.inl ⟨by rfl, ?hz3⟩) ?_
   case hz3 => ((intro W; go_simp); (try with_reducible rfl); (try exact ⟨rfl, rfl, rfl⟩))
   simp only [Act.put, sZa, sZb, sZc]
   refine wpAny_take (i := 3) (oi := ⟨some 16, .fieldAddr 27 (.tmp 15) 0, 0, "tops.go:20", #[⟨2, .data⟩], none⟩) (v := .pointer (some ⟨b, 0, none⟩)) rfl (by kernel_rfl) (by kernel_rfl) (by kernel_rfl) (fun _ _ _ h => h) (Or.inl ⟨by rfl, ?hz4⟩) ?_
   case hz4 => ((intro W; go_simp); (try with_reducible rfl); (try exact ⟨rfl, rfl, rfl⟩))
   simp only [Act.put, sZa, sZb, sZc]
   refine wpAny_take (i := 5) (oi := ⟨some 18, .move (.tmp 0), 87, "tops.go:20", #[], none⟩) (v := .pointer (some ⟨R, 0, none⟩)) rfl (by kernel_rfl) (by kernel_rfl) (by kernel_rfl) (fun _ _ _ h => h) (Or.inl ⟨by rfl, ?hz5⟩) ?_
   case hz5 => ((intro W; go_simp); (try with_reducible rfl); (try exact ⟨rfl, rfl, rfl⟩))
   simp only [Act.put, sZa, sZb, sZc]
   refine wpAny_ready (rs := [4, 6]) (by kernel_rfl) (by simp) ?_
   refine (AllReady.cons (o := ⟨some 17, .load 23 (.tmp 16), 23, "tops.go:20", #[⟨3, .data⟩], none⟩) rfl (fun K hK => ?_) (AllReady.cons (o := ⟨some 19, .call { callee := .value (.func 43), args := #[.tmp 18], argTypes := #[87] }, 75, "tops.go:20", #[⟨5, .data⟩], none⟩) rfl (fun K hK => ?_) AllReady.nil))
   ·have HK := Lib.hid hK
    clear hK
    have hcc : (w2.drew).cell? ⟨b, 0, none⟩ = some vs := cell_of_row _ _ _ _ _ _ PD.row
    have hcd : (w2).cell? ⟨b, 0, none⟩ = some vs := hcc
    go_simp
    try clear hcc hcd
    refine HK.out _ _ ?_
    clear HK K
    try simp only [Act.put, sZa, sZb, sZc]
    refine wpAny_ready (rs := [6]) (by kernel_rfl) (by simp) ?_
    refine (AllReady.cons (o := ⟨some 19, .call { callee := .value (.func 43), args := #[.tmp 18], argTypes := #[87] }, 75, "tops.go:20", #[⟨5, .data⟩], none⟩) rfl (fun K hK => ?_) AllReady.nil)
    have HK := Lib.hid hK
    clear hK
    go_simp
    refine HEXP.out.mono ?_
    rintro e w7 ⟨c7, rfl, hc7, h7, f7⟩
    have z7 : w2.heap.size ≤ w7.heap.size := f7.size
    have HC7 : Hid (c7.length = 3) := Lib.hid (srE.len hc7)
    have HN7 := Lib.hid (srE.one hc7)
    have P7 := PD.step f7 h7
    have HX7 := Lib.hid hc7
    clear hc7 h7
    try go_wp2_with fail
    refine HK.out _ _ ?_
    clear HK K
    try simp only [Act.put, sZa, sZb, sZc]
    refine wpAny_ready (rs := [7]) (by kernel_rfl) (by simp) ?_
    refine (AllReady.cons (o := ⟨some 20, .buildSlice 23 1 #[(0, .tmp 19)], 23, "tops.go:20", #[⟨6, .data⟩], none⟩) rfl (fun K hK => ?_) AllReady.nil)
    have HK := Lib.hid hK
    clear hK
    rw [if_pos (by rfl)]
    refine wp_bs1 23 75 (.agg srZ) 3 Tryz.underlying23 infoSrz (by decide) (by decide) (c := c7) HC7.out (by rfl) ?_
    have P8 := P7.alloc (.cells (c7).toArray 75)
    have HX8 := Lib.hid (srE.keep HX7.out (w' := w7.alloc (.cells (c7).toArray 75)) (S' := fun k => w2.heap.size ≤ k ∧ k < (w7.alloc (.cells (c7).toArray 75)).heap.size) (fun k hk hl => ⟨⟨hk, by simp only [szA]; omega⟩, Below.heap_alloc _ _ _ hl⟩) (by simp))
    refine HK.out _ _ ?_
    clear HK K
    try simp only [Act.put, sZa, sZb, sZc]
    refine wpAny_ready (rs := [8]) (by kernel_rfl) (by simp) ?_
    refine (AllReady.cons (o := ⟨some 21, .call { callee := .builtin .append, args := #[.tmp 17, .tmp 20], argTypes := #[23, 23] }, 23, "tops.go:20", #[⟨4, .data⟩, ⟨7, .data⟩, ⟨6, .chain⟩], none⟩) rfl (fun K hK => ?_) AllReady.nil)
    have HK := Lib.hid hK
    clear hK
    obtain ⟨N, hN⟩ := P8.own
    obtain ⟨rows, hrl, how, hel⟩ := hN.s
    refine step_append_lies _ (by rfl) _ _ _ (by rfl) (b + 1) 75 i0 (.agg srZ) 3 48 Tryz.underlying23 hi0 hz0 hz1 hz2 rfl (by decide) vs p.ss.length rows.flatten (by rfl) how ⟨w7.heap.size, 0, none⟩ 1 1 (c7) (by rfl) (by rw [HC7.out]) (World.news_of_block (cs := (c7).toArray) (t := 75) (fr := (0, 0)) (heap_alloc_new (w7) _)) (HN7.out) (by omega) (by unfold maxLen; omega) (by omega) (Nat.succ_le_of_lt (lt_of_at P8.row)) _ rfl ?_
    intro ga ca w9 hown9 hgrow9 hat9 hlt9
    have hp := hN.pushS hrl hel how HX8.out (by omega) (fun k hk => P2.lt k hk) rfl hown9 hgrow9 hat9
    obtain ⟨hrow9, P9⟩ := P8.app (v' := .slice (some ⟨ga, 0, none⟩) (p.ss.length + 1) ca) how hgrow9 (by decide) (by decide) hp 0 rfl
    have HROW9 := Lib.hid hrow9
    clear hel how hrl hown9 hgrow9 hrow9 hp hN
    refine HK.out _ _ ?_
    clear HK K
    try simp only [Act.put, sZa, sZb, sZc]
    refine wpAny_take (i := 9) (oi := ⟨some 22, .nilCheck (.tmp 13), 0, "tops.go:20", #[⟨0, .data⟩, ⟨0, .phase⟩, ⟨1, .phase⟩, ⟨2, .phase⟩, ⟨3, .phase⟩, ⟨4, .phase⟩, ⟨5, .phase⟩, ⟨6, .phase⟩, ⟨7, .phase⟩, ⟨8, .phase⟩], none⟩) (v := .pointer (some ⟨b, 0, none⟩)) rfl (by kernel_rfl) (by kernel_rfl) (by kernel_rfl) (fun _ _ _ h => h) (Or.inl ⟨by rfl, ?hz6⟩) ?_
    case hz6 => ((intro W; go_simp); (try with_reducible rfl); (try exact ⟨rfl, rfl, rfl⟩))
    simp only [Act.put, sZa, sZb, sZc]
    refine wpAny_take (i := 10) (oi := ⟨some 23, .fieldAddr 27 (.tmp 22) 0, 0, "tops.go:20", #[⟨9, .data⟩, ⟨0, .phase⟩, ⟨1, .phase⟩, ⟨2, .phase⟩, ⟨3, .phase⟩, ⟨4, .phase⟩, ⟨5, .phase⟩, ⟨6, .phase⟩, ⟨7, .phase⟩, ⟨8, .phase⟩], none⟩) (v := .pointer (some ⟨b, 0, none⟩)) rfl (by kernel_rfl) (by kernel_rfl) (by kernel_rfl) (fun _ _ _ h => h) (Or.inl ⟨by rfl, ?hz7⟩) ?_
    case hz7 => ((intro W; go_simp); (try with_reducible rfl); (try exact ⟨rfl, rfl, rfl⟩))
    simp only [Act.put, sZa, sZb, sZc]
    refine wpAny_ready (rs := [11]) (by kernel_rfl) (by simp) ?_
    refine (AllReady.cons (o := ⟨none, .store 23 (.tmp 23) (.tmp 21), 0, "tops.go:20", #[⟨10, .data⟩, ⟨8, .data⟩, ⟨8, .chain⟩, ⟨0, .phase⟩, ⟨1, .phase⟩, ⟨2, .phase⟩, ⟨3, .phase⟩, ⟨4, .phase⟩, ⟨5, .phase⟩, ⟨6, .phase⟩, ⟨7, .phase⟩, ⟨8, .phase⟩], none⟩) rfl (fun K hK => ?_) AllReady.nil)
    have HK := Lib.hid hK
    clear hK
    have hcc : w9.cell? ⟨b, 0, none⟩ = some vs := cell_of_row _ _ _ _ _ _ HROW9.out
    have hff : w9.frozen? ⟨b, 0, none⟩ = false := frozen_of_row _ _ _ _ _ HROW9.out
    go_simp
    try clear hcc hff
    refine HK.out _ _ ?_
    clear HK K
    try simp only [Act.put, sZa, sZb, sZc]
    refine wpAny_done (by kernel_rfl) ?_ _
    go_wp2
    go_end0
    rw [HV.out]
    exact ⟨rfl, _, _, _, P9⟩
   ·have HK := Lib.hid hK
    clear hK
    go_simp
    refine HEXP.out.mono ?_
    rintro e w7 ⟨c7, rfl, hc7, h7, f7⟩
    have z7 : w2.heap.size ≤ w7.heap.size := f7.size
    have HC7 : Hid (c7.length = 3) := Lib.hid (srE.len hc7)
    have HN7 := Lib.hid (srE.one hc7)
    have P7 := PD.step f7 h7
    have HX7 := Lib.hid hc7
    clear hc7 h7
    try go_wp2_with fail
    refine HK.out _ _ ?_
    clear HK K
    try simp only [Act.put, sZa, sZb, sZc]
    refine wpAny_ready (rs := [4, 7]) (by kernel_rfl) (by simp) ?_
    refine (AllReady.cons (o := ⟨some 17, .load 23 (.tmp 16), 23, "tops.go:20", #[⟨3, .data⟩], none⟩) rfl (fun K hK => ?_) (AllReady.cons (o := ⟨some 20, .buildSlice 23 1 #[(0, .tmp 19)], 23, "tops.go:20", #[⟨6, .data⟩], none⟩) rfl (fun K hK => ?_) AllReady.nil))
    ·have HK := Lib.hid hK
     clear hK
     have hcc : (w7).cell? ⟨b, 0, none⟩ = some vs := cell_of_row _ _ _ _ _ _ P7.row
     have hcd : (w7).cell? ⟨b, 0, none⟩ = some vs := hcc
     go_simp
     try clear hcc hcd
     refine HK.out _ _ ?_
     clear HK K
     try simp only [Act.put, sZa, sZb, sZc]
     refine wpAny_ready (rs := [7]) (by kernel_rfl) (by simp) ?_
     refine (AllReady.cons (o := ⟨some 20, .buildSlice 23 1 #[(0, .tmp 19)], 23, "tops.go:20", #[⟨6, .data⟩], none⟩) rfl (fun K hK => ?_) AllReady.nil)
     have HK := Lib.hid hK
     clear hK
     rw [if_pos (by rfl)]
     refine wp_bs1 23 75 (.agg srZ) 3 Tryz.underlying23 infoSrz (by decide) (by decide) (c := c7) HC7.out (by rfl) ?_
     have P8 := P7.alloc (.cells (c7).toArray 75)
     have HX8 := Lib.hid (srE.keep HX7.out (w' := w7.alloc (.cells (c7).toArray 75)) (S' := fun k => w2.heap.size ≤ k ∧ k < (w7.alloc (.cells (c7).toArray 75)).heap.size) (fun k hk hl => ⟨⟨hk, by simp only [szA]; omega⟩, Below.heap_alloc _ _ _ hl⟩) (by simp))
     refine HK.out _ _ ?_
     clear HK K
     try simp only [Act.put, sZa, sZb, sZc]
     refine wpAny_ready (rs := [8]) (by kernel_rfl) (by simp) ?_
     refine (AllReady.cons (o := ⟨some 21, .call { callee := .builtin .append, args := #[.tmp 17, .tmp 20], argTypes := #[23, 23] }, 23, "tops.go:20", #[⟨4, .data⟩, ⟨7, .data⟩, ⟨6, .chain⟩], none⟩) rfl (fun K hK => ?_) AllReady.nil)
     have HK := Lib.hid hK
     clear hK
     obtain ⟨N, hN⟩ := P8.own
     obtain ⟨rows, hrl, how, hel⟩ := hN.s
     refine step_append_lies _ (by rfl) _ _ _ (by rfl) (b + 1) 75 i0 (.agg srZ) 3 48 Tryz.underlying23 hi0 hz0 hz1 hz2 rfl (by decide) vs p.ss.length rows.flatten (by rfl) how ⟨w7.heap.size, 0, none⟩ 1 1 (c7) (by rfl) (by rw [HC7.out]) (World.news_of_block (cs := (c7).toArray) (t := 75) (fr := (0, 0)) (heap_alloc_new (w7) _)) (HN7.out) (by omega) (by unfold maxLen; omega) (by omega) (Nat.succ_le_of_lt (lt_of_at P8.row)) _ rfl ?_
     intro ga ca w9 hown9 hgrow9 hat9 hlt9
     have hp := hN.pushS hrl hel how HX8.out (by omega) (fun k hk => P2.lt k hk) rfl hown9 hgrow9 hat9
     obtain ⟨hrow9, P9⟩ := P8.app (v' := .slice (some ⟨ga, 0, none⟩) (p.ss.length + 1) ca) how hgrow9 (by decide) (by decide) hp 0 rfl
     have HROW9 := Lib.hid hrow9
     clear hel how hrl hown9 hgrow9 hrow9 hp hN
     refine HK.out _ _ ?_
     clear HK K
     try simp only [Act.put, sZa, sZb, sZc]
     refine wpAny_take (i := 9) (oi := ⟨some 22, .nilCheck (.tmp 13), 0, "tops.go:20", #[⟨0, .data⟩, ⟨0, .phase⟩, ⟨1, .phase⟩, ⟨2, .phase⟩, ⟨3, .phase⟩, ⟨4, .phase⟩, ⟨5, .phase⟩, ⟨6, .phase⟩, ⟨7, .phase⟩, ⟨8, .phase⟩], none⟩) (v := .pointer (some ⟨b, 0, none⟩)) rfl (by kernel_rfl) (by kernel_rfl) (by kernel_rfl) (fun _ _ _ h => h) (Or.inl ⟨by rfl, ?hz8⟩) ?_
     case hz8 => ((intro W; go_simp); (try with_reducible rfl); (try exact ⟨rfl, rfl, rfl⟩))
     simp only [Act.put, sZa, sZb, sZc]
     refine wpAny_take (i := 10) (oi := ⟨some 23, .fieldAddr 27 (.tmp 22) 0, 0, "tops.go:20", #[⟨9, .data⟩, ⟨0, .phase⟩, ⟨1, .phase⟩, ⟨2, .phase⟩, ⟨3, .phase⟩, ⟨4, .phase⟩, ⟨5, .phase⟩, ⟨6, .phase⟩, ⟨7, .phase⟩, ⟨8, .phase⟩], none⟩) (v := .pointer (some ⟨b, 0, none⟩)) rfl (by kernel_rfl) (by kernel_rfl) (by kernel_rfl) (fun _ _ _ h => h) (Or.inl ⟨by rfl, ?hz9⟩) ?_
     case hz9 => ((intro W; go_simp); (try with_reducible rfl); (try exact ⟨rfl, rfl, rfl⟩))
     simp only [Act.put, sZa, sZb, sZc]
     refine wpAny_ready (rs := [11]) (by kernel_rfl) (by simp) ?_
     refine (AllReady.cons (o := ⟨none, .store 23 (.tmp 23) (.tmp 21), 0, "tops.go:20", #[⟨10, .data⟩, ⟨8, .data⟩, ⟨8, .chain⟩, ⟨0, .phase⟩, ⟨1, .phase⟩, ⟨2, .phase⟩, ⟨3, .phase⟩, ⟨4, .phase⟩, ⟨5, .phase⟩, ⟨6, .phase⟩, ⟨7, .phase⟩, ⟨8, .phase⟩], none⟩) rfl (fun K hK => ?_) AllReady.nil)
     have HK := Lib.hid hK
     clear hK
     have hcc : w9.cell? ⟨b, 0, none⟩ = some vs := cell_of_row _ _ _ _ _ _ HROW9.out
     have hff : w9.frozen? ⟨b, 0, none⟩ = false := frozen_of_row _ _ _ _ _ HROW9.out
     go_simp
     try clear hcc hff
     refine HK.out _ _ ?_
     clear HK K
     try simp only [Act.put, sZa, sZb, sZc]
     refine wpAny_done (by kernel_rfl) ?_ _
     go_wp2
     go_end0
     rw [HV.out]
     exact ⟨rfl, _, _, _, P9⟩
    ·have HK := Lib.hid hK
     clear hK
     rw [if_pos (by rfl)]
     refine wp_bs1 23 75 (.agg srZ) 3 Tryz.underlying23 infoSrz (by decide) (by decide) (c := c7) HC7.out (by rfl) ?_
     have P8 := P7.alloc (.cells (c7).toArray 75)
     have HX8 := Lib.hid (srE.keep HX7.out (w' := w7.alloc (.cells (c7).toArray 75)) (S' := fun k => w2.heap.size ≤ k ∧ k < (w7.alloc (.cells (c7).toArray 75)).heap.size) (fun k hk hl => ⟨⟨hk, by simp only [szA]; omega⟩, Below.heap_alloc _ _ _ hl⟩) (by simp))
     refine HK.out _ _ ?_
     clear HK K
     try simp only [Act.put, sZa, sZb, sZc]
     refine wpAny_ready (rs := [4]) (by kernel_rfl) (by simp) ?_
     refine (AllReady.cons (o := ⟨some 17, .load 23 (.tmp 16), 23, "tops.go:20", #[⟨3, .data⟩], none⟩) rfl (fun K hK => ?_) AllReady.nil)
     have HK := Lib.hid hK
     clear hK
     have hcc : ((w7).alloc (.cells (c7).toArray 75)).cell? ⟨b, 0, none⟩ = some vs := cell_of_row _ _ _ _ _ _ P8.row
     have hcd : ((w7).alloc (.cells (c7).toArray 75)).cell? ⟨b, 0, none⟩ = some vs := hcc
     go_simp
     try clear hcc hcd
     refine HK.out _ _ ?_
     clear HK K
     try simp only [Act.put, sZa, sZb, sZc]
     refine wpAny_ready (rs := [8]) (by kernel_rfl) (by simp) ?_
     refine (AllReady.cons (o := ⟨some 21, .call { callee := .builtin .append, args := #[.tmp 17, .tmp 20], argTypes := #[23, 23] }, 23, "tops.go:20", #[⟨4, .data⟩, ⟨7, .data⟩, ⟨6, .chain⟩], none⟩) rfl (fun K hK => ?_) AllReady.nil)
     have HK := Lib.hid hK
     clear hK
     obtain ⟨N, hN⟩ := P8.own
     obtain ⟨rows, hrl, how, hel⟩ := hN.s
     refine step_append_lies _ (by rfl) _ _ _ (by rfl) (b + 1) 75 i0 (.agg srZ) 3 48 Tryz.underlying23 hi0 hz0 hz1 hz2 rfl (by decide) vs p.ss.length rows.flatten (by rfl) how ⟨w7.heap.size, 0, none⟩ 1 1 (c7) (by rfl) (by rw [HC7.out]) (World.news_of_block (cs := (c7).toArray) (t := 75) (fr := (0, 0)) (heap_alloc_new (w7) _)) (HN7.out) (by omega) (by unfold maxLen; omega) (by omega) (Nat.succ_le_of_lt (lt_of_at P8.row)) _ rfl ?_
     intro ga ca w9 hown9 hgrow9 hat9 hlt9
     have hp := hN.pushS hrl hel how HX8.out (by omega) (fun k hk => P2.lt k hk) rfl hown9 hgrow9 hat9
     obtain ⟨hrow9, P9⟩ := P8.app (v' := .slice (some ⟨ga, 0, none⟩) (p.ss.length + 1) ca) how hgrow9 (by decide) (by decide) hp 0 rfl
     have HROW9 := Lib.hid hrow9
     clear hel how hrl hown9 hgrow9 hrow9 hp hN
     refine HK.out _ _ ?_
     clear HK K
     try simp only [Act.put, sZa, sZb, sZc]
     refine wpAny_take (i := 9) (oi := ⟨some 22, .nilCheck (.tmp 13), 0, "tops.go:20", #[⟨0, .data⟩, ⟨0, .phase⟩, ⟨1, .phase⟩, ⟨2, .phase⟩, ⟨3, .phase⟩, ⟨4, .phase⟩, ⟨5, .phase⟩, ⟨6, .phase⟩, ⟨7, .phase⟩, ⟨8, .phase⟩], none⟩) (v := .pointer (some ⟨b, 0, none⟩)) rfl (by kernel_rfl) (by kernel_rfl) (by kernel_rfl) (fun _ _ _ h => h) (Or.inl ⟨by rfl, ?hz10⟩) ?_
     case hz10 => ((intro W; go_simp); (try with_reducible rfl); (try exact ⟨rfl, rfl, rfl⟩))
     simp only [Act.put, sZa, sZb, sZc]
     refine wpAny_take (i := 10) (oi := ⟨some 23, .fieldAddr 27 (.tmp 22) 0, 0, "tops.go:20", #[⟨9, .data⟩, ⟨0, .phase⟩, ⟨1, .phase⟩, ⟨2, .phase⟩, ⟨3, .phase⟩, ⟨4, .phase⟩, ⟨5, .phase⟩, ⟨6, .phase⟩, ⟨7, .phase⟩, ⟨8, .phase⟩], none⟩) (v := .pointer (some ⟨b, 0, none⟩)) rfl (by kernel_rfl) (by kernel_rfl) (by kernel_rfl) (fun _ _ _ h => h) (Or.inl ⟨by rfl, ?hz11⟩) ?_
     case hz11 => ((intro W; go_simp); (try with_reducible rfl); (try exact ⟨rfl, rfl, rfl⟩))
     simp only [Act.put, sZa, sZb, sZc]
     refine wpAny_ready (rs := [11]) (by kernel_rfl) (by simp) ?_
     refine (AllReady.cons (o := ⟨none, .store 23 (.tmp 23) (.tmp 21), 0, "tops.go:20", #[⟨10, .data⟩, ⟨8, .data⟩, ⟨8, .chain⟩, ⟨0, .phase⟩, ⟨1, .phase⟩, ⟨2, .phase⟩, ⟨3, .phase⟩, ⟨4, .phase⟩, ⟨5, .phase⟩, ⟨6, .phase⟩, ⟨7, .phase⟩, ⟨8, .phase⟩], none⟩) rfl (fun K hK => ?_) AllReady.nil)
     have HK := Lib.hid hK
     clear hK
     have hcc : w9.cell? ⟨b, 0, none⟩ = some vs := cell_of_row _ _ _ _ _ _ HROW9.out
     have hff : w9.frozen? ⟨b, 0, none⟩ = false := frozen_of_row _ _ _ _ _ HROW9.out
     go_simp
     try clear hcc hff
     refine HK.out _ _ ?_
     clear HK K
     try simp only [Act.put, sZa, sZb, sZc]
     refine wpAny_done (by kernel_rfl) ?_ _
     go_wp2
     go_end0
     rw [HV.out]
     exact ⟨rfl, _, _, _, P9⟩
  rw [if_neg (fun hh => ha hh.2)] at HV
  have q1 : ((s.ahead 2).tx.toList == [123]) = false := strNe [123] ha
  clear hi ha
  generalize s.ahead 2 = t at *
  go_wp2_with fail
  refine hah.mono ?_
  rintro e w2 ⟨rfl, b2⟩
  clear hah
  have P2 := P1.step (Fr.below b2) (P1.rd.below b2)
  have hb2 := lt_of_at P2.row
  clear h P1 b1 b2 hbw
 case' false =>
  rw [hi] at his
  refine his.mono ?_
  rintro e w2 ⟨rfl, b1⟩
  clear his
  have P2 := h.step (Fr.below b1) (h.rd.below b1)
  have hb2 := lt_of_at P2.row
  rw [if_neg (by rw [hi]; exact fun hh => by cases hh.1)] at HV
  clear h b1 hbw hi
 all_goals
  have hnm := named_any P2.rd
  have hnl := (named_lt P2.rd.ok).le
  have hnlen := hnl.len
  generalize (namedV s).1 = v at *
  generalize (namedV s).2 = s1 at *
  go_wp2_with fail
  refine hnm.mono ?_
  rintro e w3 ⟨rfl, h3, f3⟩
  clear hnm
  have P3 := P2.step f3 h3
  have h4 := h3.alloc (.cells (vaC v) 42)
  have FF4 := (Fr.refl [R] w3).alloc (.cells (vaC v) 42)
  have HB4 := Lib.hid (heap_alloc_new w3 (.cells (vaC v) 42))
  have z3 := f3.size
  have HZ4 := Lib.hid (szA w3 (.cells (vaC v) 42))
  clear f3 P2
  generalize hbv : w3.heap.size = bv at *
  have hta := take_any ⟨#[40]⟩ (by decide) h4
  cases hi : s1.is ⟨#[40]⟩ with
  | true =>
   rw [hi, if_pos rfl] at HV
   rw [hi, take_tl hi] at hta
   have hne := is_ne hi (by decide)
   have htl := (tl_ok hnl.ok hne).2
   clear hi
   go_wp2_with fail
   refine hta.mono ?_
   rintro e w5 ⟨rfl, h5, f5⟩
   clear hta
   have P5 := P3.step (FF4.trans f5) h5
   have HB5 := Lib.hid (f5.at_ HB4.out (by simp; omega))
   have z5 : bv + 1 ≤ w5.heap.size := by have := f5.size; rw [HZ4.out] at this; exact this
   have hexp := func_any (w := w5.drew) v (P5.rd.below ((Below.refl _ _).drew)) (by omega)
   generalize (funcV v s1.tl).1 = x at *
   generalize (funcV v s1.tl).2 = s2 at *
   have HEXP := Lib.hid hexp
   obtain ⟨i0, hi0, hz0, hz1, hz2⟩ := info_parts infoFn16
   clear hexp h5 f5 h4 FF4 P3 h3
   have PD := P5.step (w' := w5.drew) ((Fr.refl _ _).drew) (P5.rd.below ((Below.refl _ _).drew))
   go_wp2_with fail
   refine wp_any_drew (by kernel_rfl) ?_
   refine wpAny_take (i := 0) (oi := ⟨some 28, .move (.tmp 1), 89, "tops.go:25", #[], none⟩) (v := .pointer (some ⟨b, 0, none⟩)) rfl (by kernel_rfl) (by kernel_rfl) (by kernel_rfl) (fun _ _ _ h => h) (Or.inl ⟨by rfl, ?hz1⟩) ?_
   case hz1 => ((intro W; go_simp); (try with_reducible rfl); (try exact ⟨rfl, rfl, rfl⟩))
   simp only [Act.put, sZa, sZb, sZc]
   refine wpAny_take (i := 1) (oi := ⟨some 29, .move (.tmp 1), 89, "tops.go:25", #[], none⟩) (v := .pointer (some ⟨b, 0, none⟩)) rfl (by kernel_rfl) (by kernel_rfl) (by kernel_rfl) (fun _ _ _ h => h) (Or.inl ⟨by rfl, ?hz2⟩) ?_
   case hz2 => ((intro W; go_simp); (try with_reducible rfl); (try exact ⟨rfl, rfl, rfl⟩))
   simp only [Act.put, sZa, sZb, sZc]
   refine wpAny_take (i := 2) (oi := ⟨some 30, .nilCheck (.tmp 29), 0, "tops.go:25", #[⟨1, .data⟩], none⟩) (v := .pointer (some ⟨b, 0, none⟩)) rfl (by kernel_rfl) (by kernel_rfl) (by kernel_rfl) (fun _ _ _ h => h) (Or.inl ⟨by rfl, ?hz3⟩) ?_
   case hz3 => ((intro W; go_simp); (try with_reducible rfl); (try exact ⟨rfl, rfl, rfl⟩))
   simp only [Act.put, sZa, sZb, sZc]
   refine wpAny_take (i := 3) (oi := ⟨some 31, .fieldAddr 27 (.tmp 30) 2, 0, "tops.go:25", #[⟨2, .data⟩], none⟩) (v := .pointer (some ⟨b, 2, none⟩)) rfl (by kernel_rfl) (by kernel_rfl) (by kernel_rfl) (fun _ _ _ h => h) (Or.inl ⟨by rfl, ?hz4⟩) ?_
   case hz4 => ((intro W; go_simp); (try with_reducible rfl); (try exact ⟨rfl, rfl, rfl⟩))
   simp only [Act.put, sZa, sZb, sZc]
   refine wpAny_take (i := 5) (oi := ⟨some 33, .move (.tmp 0), 87, "tops.go:25", #[], none⟩) (v := .pointer (some ⟨R, 0, none⟩)) rfl (by kernel_rfl) (by kernel_rfl) (by kernel_rfl) (fun _ _ _ h => h) (Or.inl ⟨by rfl, ?hz5⟩) ?_
   case hz5 => ((intro W; go_simp); (try with_reducible rfl); (try exact ⟨rfl, rfl, rfl⟩))
   simp only [Act.put, sZa, sZb, sZc]
   refine wpAny_ready (rs := [4, 6]) (by kernel_rfl) (by simp) ?_
   refine (AllReady.cons (o := ⟨some 32, .load 25 (.tmp 31), 25, "tops.go:25", #[⟨3, .data⟩], none⟩) rfl (fun K hK => ?_) (AllReady.cons (o := ⟨some 34, .load 42 (.tmp 4), 42, "tops.go:25", #[], none⟩) rfl (fun K hK => ?_) AllReady.nil))
   ·have HK := Lib.hid hK
    clear hK
    have hcc : (w5.drew).cell? ⟨b, 2, none⟩ = some vf := cell_of_row _ _ _ _ _ _ PD.row
    have hcd : (w5).cell? ⟨b, 2, none⟩ = some vf := hcc
    go_simp
    try clear hcc hcd
    refine HK.out _ _ ?_
    clear HK K
    try simp only [Act.put, sZa, sZb, sZc]
    refine wpAny_ready (rs := [6]) (by kernel_rfl) (by simp) ?_
    refine (AllReady.cons (o := ⟨some 34, .load 42 (.tmp 4), 42, "tops.go:25", #[], none⟩) rfl (fun K hK => ?_) AllReady.nil)
    have HK := Lib.hid hK
    clear hK
    rw [if_pos (by rfl)]
    refine wp_load_row 42 _ rfl bv (by rfl) 42 (vaC v) (0, 0) _ HB5.out Tryz.underlying42 rfl sizeVa ?_
    refine HK.out _ _ ?_
    clear HK K
    try simp only [Act.put, sZa, sZb, sZc]
    refine wpAny_ready (rs := [7]) (by kernel_rfl) (by simp) ?_
    refine (AllReady.cons (o := ⟨some 35, .call { callee := .value (.func 46), args := #[.tmp 33, .tmp 34], argTypes := #[87, 42] }, 46, "tops.go:25", #[⟨5, .data⟩, ⟨6, .data⟩], none⟩) rfl (fun K hK => ?_) AllReady.nil)
    have HK := Lib.hid hK
    clear hK
    go_simp
    refine HEXP.out.mono ?_
    rintro e w7 ⟨c7, rfl, hc7, h7, f7⟩
    have z7 : w5.heap.size ≤ w7.heap.size := f7.size
    have HC7 : Hid (c7.length = 16) := Lib.hid (fnE.len hc7)
    have HN7 := Lib.hid (fnE.one hc7)
    have P7 := PD.step f7 h7
    have HX7 := Lib.hid hc7
    clear hc7 h7
    have HBV7 := Lib.hid (f7.at_ HB5.out (by simp; omega))
    try go_wp2_with fail
    refine HK.out _ _ ?_
    clear HK K
    try simp only [Act.put, sZa, sZb, sZc]
    refine wpAny_ready (rs := [8]) (by kernel_rfl) (by simp) ?_
    refine (AllReady.cons (o := ⟨some 36, .buildSlice 25 1 #[(0, .tmp 35)], 25, "tops.go:25", #[⟨7, .data⟩], none⟩) rfl (fun K hK => ?_) AllReady.nil)
    have HK := Lib.hid hK
    clear hK
    rw [if_pos (by rfl)]
    refine wp_bs1 25 46 (.agg fnZ) 16 Tryz.underlying25 infoFnz (by decide) (by decide) (c := c7) HC7.out (by rfl) ?_
    have P8 := P7.alloc (.cells (c7).toArray 46)
    have HX8 := Lib.hid (fnE.keep HX7.out (w' := w7.alloc (.cells (c7).toArray 46)) (S' := fun k => w5.heap.size ≤ k ∧ k < (w7.alloc (.cells (c7).toArray 46)).heap.size) (fun k hk hl => ⟨⟨hk, by simp only [szA]; omega⟩, Below.heap_alloc _ _ _ hl⟩) (by simp))
    refine HK.out _ _ ?_
    clear HK K
    try simp only [Act.put, sZa, sZb, sZc]
    refine wpAny_ready (rs := [9]) (by kernel_rfl) (by simp) ?_
    refine (AllReady.cons (o := ⟨some 37, .call { callee := .builtin .append, args := #[.tmp 32, .tmp 36], argTypes := #[25, 25] }, 25, "tops.go:25", #[⟨4, .data⟩, ⟨8, .data⟩, ⟨7, .chain⟩], none⟩) rfl (fun K hK => ?_) AllReady.nil)
    have HK := Lib.hid hK
    clear hK
    obtain ⟨N, hN⟩ := P8.own
    obtain ⟨rows, hrl, how, hel⟩ := hN.f
    refine step_append_lies _ (by rfl) _ _ _ (by rfl) (b + 1) 46 i0 (.agg fnZ) 16 208 Tryz.underlying25 hi0 hz0 hz1 hz2 rfl (by decide) vf p.fs.length rows.flatten (by rfl) how ⟨w7.heap.size, 0, none⟩ 1 1 (c7) (by rfl) (by rw [HC7.out]) (World.news_of_block (cs := (c7).toArray) (t := 46) (fr := (0, 0)) (heap_alloc_new (w7) _)) (HN7.out) (by omega) (by unfold maxLen; omega) (by omega) (Nat.succ_le_of_lt (lt_of_at P8.row)) _ rfl ?_
    intro ga ca w9 hown9 hgrow9 hat9 hlt9
    have hp := hN.pushF hrl hel how HX8.out (by omega) (fun k hk => P5.lt k hk) rfl hown9 hgrow9 hat9
    obtain ⟨hrow9, P9⟩ := P8.app (v' := .slice (some ⟨ga, 0, none⟩) (p.fs.length + 1) ca) how hgrow9 (by decide) (by decide) hp 2 rfl
    have HROW9 := Lib.hid hrow9
    clear hel how hrl hown9 hgrow9 hrow9 hp hN
    refine HK.out _ _ ?_
    clear HK K
    try simp only [Act.put, sZa, sZb, sZc]
    refine wpAny_take (i := 10) (oi := ⟨some 38, .nilCheck (.tmp 28), 0, "tops.go:25", #[⟨0, .data⟩, ⟨0, .phase⟩, ⟨1, .phase⟩, ⟨2, .phase⟩, ⟨3, .phase⟩, ⟨4, .phase⟩, ⟨5, .phase⟩, ⟨6, .phase⟩, ⟨7, .phase⟩, ⟨8, .phase⟩, ⟨9, .phase⟩], none⟩) (v := .pointer (some ⟨b, 0, none⟩)) rfl (by kernel_rfl) (by kernel_rfl) (by kernel_rfl) (fun _ _ _ h => h) (Or.inl ⟨by rfl, ?hz6⟩) ?_
    case hz6 => ((intro W; go_simp); (try with_reducible rfl); (try exact ⟨rfl, rfl, rfl⟩))
    simp only [Act.put, sZa, sZb, sZc]
    refine wpAny_take (i := 11) (oi := ⟨some 39, .fieldAddr 27 (.tmp 38) 2, 0, "tops.go:25", #[⟨10, .data⟩, ⟨0, .phase⟩, ⟨1, .phase⟩, ⟨2, .phase⟩, ⟨3, .phase⟩, ⟨4, .phase⟩, ⟨5, .phase⟩, ⟨6, .phase⟩, ⟨7, .phase⟩, ⟨8, .phase⟩, ⟨9, .phase⟩], none⟩) (v := .pointer (some ⟨b, 2, none⟩)) rfl (by kernel_rfl) (by kernel_rfl) (by kernel_rfl) (fun _ _ _ h => h) (Or.inl ⟨by rfl, ?hz7⟩) ?_
    case hz7 => ((intro W; go_simp); (try with_reducible rfl); (try exact ⟨rfl, rfl, rfl⟩))
    simp only [Act.put, sZa, sZb, sZc]
    refine wpAny_ready (rs := [12]) (by kernel_rfl) (by simp) ?_
    refine (AllReady.cons (o := ⟨none, .store 25 (.tmp 39) (.tmp 37), 0, "tops.go:25", #[⟨11, .data⟩, ⟨9, .data⟩, ⟨9, .chain⟩, ⟨0, .phase⟩, ⟨1, .phase⟩, ⟨2, .phase⟩, ⟨3, .phase⟩, ⟨4, .phase⟩, ⟨5, .phase⟩, ⟨6, .phase⟩, ⟨7, .phase⟩, ⟨8, .phase⟩, ⟨9, .phase⟩], none⟩) rfl (fun K hK => ?_) AllReady.nil)
    have HK := Lib.hid hK
    clear hK
    have hcc : w9.cell? ⟨b, 2, none⟩ = some vf := cell_of_row _ _ _ _ _ _ HROW9.out
    have hff : w9.frozen? ⟨b, 2, none⟩ = false := frozen_of_row _ _ _ _ _ HROW9.out
    go_simp
    try clear hcc hff
    refine HK.out _ _ ?_
    clear HK K
    try simp only [Act.put, sZa, sZb, sZc]
    refine wpAny_done (by kernel_rfl) ?_ _
    go_wp2
    go_end0
    rw [HV.out]
    exact ⟨rfl, _, _, _, P9⟩
   ·have HK := Lib.hid hK
    clear hK
    rw [if_pos (by rfl)]
    refine wp_load_row 42 _ rfl bv (by rfl) 42 (vaC v) (0, 0) _ HB5.out Tryz.underlying42 rfl sizeVa ?_
    refine HK.out _ _ ?_
    clear HK K
    try simp only [Act.put, sZa, sZb, sZc]
    refine wpAny_ready (rs := [4, 7]) (by kernel_rfl) (by simp) ?_
    refine (AllReady.cons (o := ⟨some 32, .load 25 (.tmp 31), 25, "tops.go:25", #[⟨3, .data⟩], none⟩) rfl (fun K hK => ?_) (AllReady.cons (o := ⟨some 35, .call { callee := .value (.func 46), args := #[.tmp 33, .tmp 34], argTypes := #[87, 42] }, 46, "tops.go:25", #[⟨5, .data⟩, ⟨6, .data⟩], none⟩) rfl (fun K hK => ?_) AllReady.nil))
    ·have HK := Lib.hid hK
     clear hK
     have hcc : (w5.drew).cell? ⟨b, 2, none⟩ = some vf := cell_of_row _ _ _ _ _ _ PD.row
     have hcd : (w5).cell? ⟨b, 2, none⟩ = some vf := hcc
     go_simp
     try clear hcc hcd
     refine HK.out _ _ ?_
     clear HK K
     try simp only [Act.put, sZa, sZb, sZc]
     refine wpAny_ready (rs := [7]) (by kernel_rfl) (by simp) ?_
     refine (AllReady.cons (o := ⟨some 35, .call { callee := .value (.func 46), args := #[.tmp 33, .tmp 34], argTypes := #[87, 42] }, 46, "tops.go:25", #[⟨5, .data⟩, ⟨6, .data⟩], none⟩) rfl (fun K hK => ?_) AllReady.nil)
     have HK := Lib.hid hK
     clear hK
     go_simp
     refine HEXP.out.mono ?_
     rintro e w7 ⟨c7, rfl, hc7, h7, f7⟩
     have z7 : w5.heap.size ≤ w7.heap.size := f7.size
     have HC7 : Hid (c7.length = 16) := Lib.hid (fnE.len hc7)
     have HN7 := Lib.hid (fnE.one hc7)
     have P7 := PD.step f7 h7
     have HX7 := Lib.hid hc7
     clear hc7 h7
     have HBV7 := Lib.hid (f7.at_ HB5.out (by simp; omega))
     try go_wp2_with fail
     refine HK.out _ _ ?_
     clear HK K
     try simp only [Act.put, sZa, sZb, sZc]
     refine wpAny_ready (rs := [8]) (by kernel_rfl) (by simp) ?_
     refine (AllReady.cons (o := ⟨some 36, .buildSlice 25 1 #[(0, .tmp 35)], 25, "tops.go:25", #[⟨7, .data⟩], none⟩) rfl (fun K hK => ?_) AllReady.nil)
     have HK := Lib.hid hK
     clear hK
     rw [if_pos (by rfl)]
     refine wp_bs1 25 46 (.agg fnZ) 16 Tryz.underlying25 infoFnz (by decide) (by decide) (c := c7) HC7.out (by rfl) ?_
     have P8 := P7.alloc (.cells (c7).toArray 46)
     have HX8 := Lib.hid (fnE.keep HX7.out (w' := w7.alloc (.cells (c7).toArray 46)) (S' := fun k => w5.heap.size ≤ k ∧ k < (w7.alloc (.cells (c7).toArray 46)).heap.size) (fun k hk hl => ⟨⟨hk, by simp only [szA]; omega⟩, Below.heap_alloc _ _ _ hl⟩) (by simp))
     refine HK.out _ _ ?_
     clear HK K
     try simp only [Act.put, sZa, sZb, sZc]
     refine wpAny_ready (rs := [9]) (by kernel_rfl) (by simp) ?_
     refine (AllReady.cons (o := ⟨some 37, .call { callee := .builtin .append, args := #[.tmp 32, .tmp 36], argTypes := #[25, 25] }, 25, "tops.go:25", #[⟨4, .data⟩, ⟨8, .data⟩, ⟨7, .chain⟩], none⟩) rfl (fun K hK => ?_) AllReady.nil)
     have HK := Lib.hid hK
     clear hK
     obtain ⟨N, hN⟩ := P8.own
     obtain ⟨rows, hrl, how, hel⟩ := hN.f
     refine step_append_lies _ (by rfl) _ _ _ (by rfl) (b + 1) 46 i0 (.agg fnZ) 16 208 Tryz.underlying25 hi0 hz0 hz1 hz2 rfl (by decide) vf p.fs.length rows.flatten (by rfl) how ⟨w7.heap.size, 0, none⟩ 1 1 (c7) (by rfl) (by rw [HC7.out]) (World.news_of_block (cs := (c7).toArray) (t := 46) (fr := (0, 0)) (heap_alloc_new (w7) _)) (HN7.out) (by omega) (by unfold maxLen; omega) (by omega) (Nat.succ_le_of_lt (lt_of_at P8.row)) _ rfl ?_
     intro ga ca w9 hown9 hgrow9 hat9 hlt9
     have hp := hN.pushF hrl hel how HX8.out (by omega) (fun k hk => P5.lt k hk) rfl hown9 hgrow9 hat9
     obtain ⟨hrow9, P9⟩ := P8.app (v' := .slice (some ⟨ga, 0, none⟩) (p.fs.length + 1) ca) how hgrow9 (by decide) (by decide) hp 2 rfl
     have HROW9 := Lib.hid hrow9
     clear hel how hrl hown9 hgrow9 hrow9 hp hN
     refine HK.out _ _ ?_
     clear HK K
     try simp only [Act.put, sZa, sZb, sZc]
     refine wpAny_take (i := 10) (oi := ⟨some 38, .nilCheck (.tmp 28), 0, "tops.go:25", #[⟨0, .data⟩, ⟨0, .phase⟩, ⟨1, .phase⟩, ⟨2, .phase⟩, ⟨3, .phase⟩, ⟨4, .phase⟩, ⟨5, .phase⟩, ⟨6, .phase⟩, ⟨7, .phase⟩, ⟨8, .phase⟩, ⟨9, .phase⟩], none⟩) (v := .pointer (some ⟨b, 0, none⟩)) rfl (by kernel_rfl) (by kernel_rfl) (by kernel_rfl) (fun _ _ _ h => h) (Or.inl ⟨by rfl, ?hz8⟩) ?_
     case hz8 => ((intro W; go_simp); (try with_reducible rfl); (try exact ⟨rfl, rfl, rfl⟩))
     simp only [Act.put, sZa, sZb, sZc]
     refine wpAny_take (i := 11) (oi := ⟨some 39, .fieldAddr 27 (.tmp 38) 2, 0, "tops.go:25", #[⟨10, .data⟩, ⟨0, .phase⟩, ⟨1, .phase⟩, ⟨2, .phase⟩, ⟨3, .phase⟩, ⟨4, .phase⟩, ⟨5, .phase⟩, ⟨6, .phase⟩, ⟨7, .phase⟩, ⟨8, .phase⟩, ⟨9, .phase⟩], none⟩) (v := .pointer (some ⟨b, 2, none⟩)) rfl (by kernel_rfl) (by kernel_rfl) (by kernel_rfl) (fun _ _ _ h => h) (Or.inl ⟨by rfl, ?hz9⟩) ?_
     case hz9 => ((intro W; go_simp); (try with_reducible rfl); (try exact ⟨rfl, rfl, rfl⟩))
     simp only [Act.put, sZa, sZb, sZc]
     refine wpAny_ready (rs := [12]) (by kernel_rfl) (by simp) ?_
     refine (AllReady.cons (o := ⟨none, .store 25 (.tmp 39) (.tmp 37), 0, "tops.go:25", #[⟨11, .data⟩, ⟨9, .data⟩, ⟨9, .chain⟩, ⟨0, .phase⟩, ⟨1, .phase⟩, ⟨2, .phase⟩, ⟨3, .phase⟩, ⟨4, .phase⟩, ⟨5, .phase⟩, ⟨6, .phase⟩, ⟨7, .phase⟩, ⟨8, .phase⟩, ⟨9, .phase⟩], none⟩) rfl (fun K hK => ?_) AllReady.nil)
     have HK := Lib.hid hK
     clear hK
     have hcc : w9.cell? ⟨b, 2, none⟩ = some vf := cell_of_row _ _ _ _ _ _ HROW9.out
     have hff : w9.frozen? ⟨b, 2, none⟩ = false := frozen_of_row _ _ _ _ _ HROW9.out
     go_simp
     try clear hcc hff
     refine HK.out _ _ ?_
     clear HK K
     try simp only [Act.put, sZa, sZb, sZc]
     refine wpAny_done (by kernel_rfl) ?_ _
     go_wp2
     go_end0
     rw [HV.out]
     exact ⟨rfl, _, _, _, P9⟩
    ·have HK := Lib.hid hK
     clear hK
     go_simp
     refine HEXP.out.mono ?_
     rintro e w7 ⟨c7, rfl, hc7, h7, f7⟩
     have z7 : w5.heap.size ≤ w7.heap.size := f7.size
     have HC7 : Hid (c7.length = 16) := Lib.hid (fnE.len hc7)
     have HN7 := Lib.hid (fnE.one hc7)
     have P7 := PD.step f7 h7
     have HX7 := Lib.hid hc7
     clear hc7 h7
     have HBV7 := Lib.hid (f7.at_ HB5.out (by simp; omega))
     try go_wp2_with fail
     refine HK.out _ _ ?_
     clear HK K
     try simp only [Act.put, sZa, sZb, sZc]
     refine wpAny_ready (rs := [4, 8]) (by kernel_rfl) (by simp) ?_
     refine (AllReady.cons (o := ⟨some 32, .load 25 (.tmp 31), 25, "tops.go:25", #[⟨3, .data⟩], none⟩) rfl (fun K hK => ?_) (AllReady.cons (o := ⟨some 36, .buildSlice 25 1 #[(0, .tmp 35)], 25, "tops.go:25", #[⟨7, .data⟩], none⟩) rfl (fun K hK => ?_) AllReady.nil))
     ·have HK := Lib.hid hK
      clear hK
      have hcc : (w7).cell? ⟨b, 2, none⟩ = some vf := cell_of_row _ _ _ _ _ _ P7.row
      have hcd : (w7).cell? ⟨b, 2, none⟩ = some vf := hcc
      go_simp
      try clear hcc hcd
      refine HK.out _ _ ?_
      clear HK K
      try simp only [Act.put, sZa, sZb, sZc]
      refine wpAny_ready (rs := [8]) (by kernel_rfl) (by simp) ?_
      refine (AllReady.cons (o := ⟨some 36, .buildSlice 25 1 #[(0, .tmp 35)], 25, "tops.go:25", #[⟨7, .data⟩], none⟩) rfl (fun K hK => ?_) AllReady.nil)
      have HK := Lib.hid hK
      clear hK
      rw [if_pos (by rfl)]
      refine wp_bs1 25 46 (.agg fnZ) 16 Tryz.underlying25 infoFnz (by decide) (by decide) (c := c7) HC7.out (by rfl) ?_
      have P8 := P7.alloc (.cells (c7).toArray 46)
      have HX8 := Lib.hid (fnE.keep HX7.out (w' := w7.alloc (.cells (c7).toArray 46)) (S' := fun k => w5.heap.size ≤ k ∧ k < (w7.alloc (.cells (c7).toArray 46)).heap.size) (fun k hk hl => ⟨⟨hk, by simp only [szA]; omega⟩, Below.heap_alloc _ _ _ hl⟩) (by simp))
      refine HK.out _ _ ?_
      clear HK K
      try simp only [Act.put, sZa, sZb, sZc]
      refine wpAny_ready (rs := [9]) (by kernel_rfl) (by simp) ?_
      refine (AllReady.cons (o := ⟨some 37, .call { callee := .builtin .append, args := #[.tmp 32, .tmp 36], argTypes := #[25, 25] }, 25, "tops.go:25", #[⟨4, .data⟩, ⟨8, .data⟩, ⟨7, .chain⟩], none⟩) rfl (fun K hK => ?_) AllReady.nil)
      have HK := Lib.hid hK
      clear hK
      obtain ⟨N, hN⟩ := P8.own
      obtain ⟨rows, hrl, how, hel⟩ := hN.f
      refine step_append_lies _ (by rfl) _ _ _ (by rfl) (b + 1) 46 i0 (.agg fnZ) 16 208 Tryz.underlying25 hi0 hz0 hz1 hz2 rfl (by decide) vf p.fs.length rows.flatten (by rfl) how ⟨w7.heap.size, 0, none⟩ 1 1 (c7) (by rfl) (by rw [HC7.out]) (World.news_of_block (cs := (c7).toArray) (t := 46) (fr := (0, 0)) (heap_alloc_new (w7) _)) (HN7.out) (by omega) (by unfold maxLen; omega) (by omega) (Nat.succ_le_of_lt (lt_of_at P8.row)) _ rfl ?_
      intro ga ca w9 hown9 hgrow9 hat9 hlt9
      have hp := hN.pushF hrl hel how HX8.out (by omega) (fun k hk => P5.lt k hk) rfl hown9 hgrow9 hat9
      obtain ⟨hrow9, P9⟩ := P8.app (v' := .slice (some ⟨ga, 0, none⟩) (p.fs.length + 1) ca) how hgrow9 (by decide) (by decide) hp 2 rfl
      have HROW9 := Lib.hid hrow9
      clear hel how hrl hown9 hgrow9 hrow9 hp hN
      refine HK.out _ _ ?_
      clear HK K
      try simp only [Act.put, sZa, sZb, sZc]
      refine wpAny_take (i := 10) (oi := ⟨some 38, .nilCheck (.tmp 28), 0, "tops.go:25", #[⟨0, .data⟩, ⟨0, .phase⟩, ⟨1, .phase⟩, ⟨2, .phase⟩, ⟨3, .phase⟩, ⟨4, .phase⟩, ⟨5, .phase⟩, ⟨6, .phase⟩, ⟨7, .phase⟩, ⟨8, .phase⟩, ⟨9, .phase⟩], none⟩) (v := .pointer (some ⟨b, 0, none⟩)) rfl (by kernel_rfl) (by kernel_rfl) (by kernel_rfl) (fun _ _ _ h => h) (Or.inl ⟨by rfl, ?hz10⟩) ?_
      case hz10 => ((intro W; go_simp); (try with_reducible rfl); (try exact ⟨rfl, rfl, rfl⟩))
      simp only [Act.put, sZa, sZb, sZc]
      refine wpAny_take (i := 11) (oi := ⟨some 39, .fieldAddr 27 (.tmp 38) 2, 0, "tops.go:25", #[⟨10, .data⟩, ⟨0, .phase⟩, ⟨1, .phase⟩, ⟨2, .phase⟩, ⟨3, .phase⟩, ⟨4, .phase⟩, ⟨5, .phase⟩, ⟨6, .phase⟩, ⟨7, .phase⟩, ⟨8, .phase⟩, ⟨9, .phase⟩], none⟩) (v := .pointer (some ⟨b, 2, none⟩)) rfl (by kernel_rfl) (by kernel_rfl) (by kernel_rfl) (fun _ _ _ h => h) (Or.inl ⟨by rfl, ?hz11⟩) ?_
      case hz11 => ((intro W; go_simp); (try with_reducible rfl); (try exact ⟨rfl, rfl, rfl⟩))
      simp only [Act.put, sZa, sZb, sZc]
      refine wpAny_ready (rs := [12]) (by kernel_rfl) (by simp) ?_
      refine (AllReady.cons (o := ⟨none, .store 25 (.tmp 39) (.tmp 37), 0, "tops.go:25", #[⟨11, .data⟩, ⟨9, .data⟩, ⟨9, .chain⟩, ⟨0, .phase⟩, ⟨1, .phase⟩, ⟨2, .phase⟩, ⟨3, .phase⟩, ⟨4, .phase⟩, ⟨5, .phase⟩, ⟨6, .phase⟩, ⟨7, .phase⟩, ⟨8, .phase⟩, ⟨9, .phase⟩], none⟩) rfl (fun K hK => ?_) AllReady.nil)
      have HK := Lib.hid hK
      clear hK
      have hcc : w9.cell? ⟨b, 2, none⟩ = some vf := cell_of_row _ _ _ _ _ _ HROW9.out
      have hff : w9.frozen? ⟨b, 2, none⟩ = false := frozen_of_row _ _ _ _ _ HROW9.out
      go_simp
      try clear hcc hff
      refine HK.out _ _ ?_
      clear HK K
      try simp only [Act.put, sZa, sZb, sZc]
      refine wpAny_done (by kernel_rfl) ?_ _
      go_wp2
      go_end0
      rw [HV.out]
      exact ⟨rfl, _, _, _, P9⟩
     ·have HK := Lib.hid hK
      clear hK
      rw [if_pos (by rfl)]
      refine wp_bs1 25 46 (.agg fnZ) 16 Tryz.underlying25 infoFnz (by decide) (by decide) (c := c7) HC7.out (by rfl) ?_
      have P8 := P7.alloc (.cells (c7).toArray 46)
      have HX8 := Lib.hid (fnE.keep HX7.out (w' := w7.alloc (.cells (c7).toArray 46)) (S' := fun k => w5.heap.size ≤ k ∧ k < (w7.alloc (.cells (c7).toArray 46)).heap.size) (fun k hk hl => ⟨⟨hk, by simp only [szA]; omega⟩, Below.heap_alloc _ _ _ hl⟩) (by simp))
      refine HK.out _ _ ?_
      clear HK K
      try simp only [Act.put, sZa, sZb, sZc]
      refine wpAny_ready (rs := [4]) (by kernel_rfl) (by simp) ?_
      refine (AllReady.cons (o := ⟨some 32, .load 25 (.tmp 31), 25, "tops.go:25", #[⟨3, .data⟩], none⟩) rfl (fun K hK => ?_) AllReady.nil)
      have HK := Lib.hid hK
      clear hK
      have hcc : ((w7).alloc (.cells (c7).toArray 46)).cell? ⟨b, 2, none⟩ = some vf := cell_of_row _ _ _ _ _ _ P8.row
      have hcd : ((w7).alloc (.cells (c7).toArray 46)).cell? ⟨b, 2, none⟩ = some vf := hcc
      go_simp
      try clear hcc hcd
      refine HK.out _ _ ?_
      clear HK K
      try simp only [Act.put, sZa, sZb, sZc]
      refine wpAny_ready (rs := [9]) (by kernel_rfl) (by simp) ?_
      refine (AllReady.cons (o := ⟨some 37, .call { callee := .builtin .append, args := #[.tmp 32, .tmp 36], argTypes := #[25, 25] }, 25, "tops.go:25", #[⟨4, .data⟩, ⟨8, .data⟩, ⟨7, .chain⟩], none⟩) rfl (fun K hK => ?_) AllReady.nil)
      have HK := Lib.hid hK
      clear hK
      obtain ⟨N, hN⟩ := P8.own
      obtain ⟨rows, hrl, how, hel⟩ := hN.f
      refine step_append_lies _ (by rfl) _ _ _ (by rfl) (b + 1) 46 i0 (.agg fnZ) 16 208 Tryz.underlying25 hi0 hz0 hz1 hz2 rfl (by decide) vf p.fs.length rows.flatten (by rfl) how ⟨w7.heap.size, 0, none⟩ 1 1 (c7) (by rfl) (by rw [HC7.out]) (World.news_of_block (cs := (c7).toArray) (t := 46) (fr := (0, 0)) (heap_alloc_new (w7) _)) (HN7.out) (by omega) (by unfold maxLen; omega) (by omega) (Nat.succ_le_of_lt (lt_of_at P8.row)) _ rfl ?_
      intro ga ca w9 hown9 hgrow9 hat9 hlt9
      have hp := hN.pushF hrl hel how HX8.out (by omega) (fun k hk => P5.lt k hk) rfl hown9 hgrow9 hat9
      obtain ⟨hrow9, P9⟩ := P8.app (v' := .slice (some ⟨ga, 0, none⟩) (p.fs.length + 1) ca) how hgrow9 (by decide) (by decide) hp 2 rfl
      have HROW9 := Lib.hid hrow9
      clear hel how hrl hown9 hgrow9 hrow9 hp hN
      refine HK.out _ _ ?_
      clear HK K
      try simp only [Act.put, sZa, sZb, sZc]
      refine wpAny_take (i := 10) (oi := ⟨some 38, .nilCheck (.tmp 28), 0, "tops.go:25", #[⟨0, .data⟩, ⟨0, .phase⟩, ⟨1, .phase⟩, ⟨2, .phase⟩, ⟨3, .phase⟩, ⟨4, .phase⟩, ⟨5, .phase⟩, ⟨6, .phase⟩, ⟨7, .phase⟩, ⟨8, .phase⟩, ⟨9, .phase⟩], none⟩) (v := .pointer (some ⟨b, 0, none⟩)) rfl (by kernel_rfl) (by kernel_rfl) (by kernel_rfl) (fun _ _ _ h => h) (Or.inl ⟨by rfl, ?hz12⟩) ?_
      case hz12 => ((intro W; go_simp); (try with_reducible rfl); (try exact ⟨rfl, rfl, rfl⟩))
      simp only [Act.put, sZa, sZb, sZc]
      refine wpAny_take (i := 11) (oi := ⟨some 39, .fieldAddr 27 (.tmp 38) 2, 0, "tops.go:25", #[⟨10, .data⟩, ⟨0, .phase⟩, ⟨1, .phase⟩, ⟨2, .phase⟩, ⟨3, .phase⟩, ⟨4, .phase⟩, ⟨5, .phase⟩, ⟨6, .phase⟩, ⟨7, .phase⟩, ⟨8, .phase⟩, ⟨9, .phase⟩], none⟩) (v := .pointer (some ⟨b, 2, none⟩)) rfl (by kernel_rfl) (by kernel_rfl) (by kernel_rfl) (fun _ _ _ h => h) (Or.inl ⟨by rfl, ?hz13⟩) ?_
      case hz13 => ((intro W; go_simp); (try with_reducible rfl); (try exact ⟨rfl, rfl, rfl⟩))
      simp only [Act.put, sZa, sZb, sZc]
      refine wpAny_ready (rs := [12]) (by kernel_rfl) (by simp) ?_
      refine (AllReady.cons (o := ⟨none, .store 25 (.tmp 39) (.tmp 37), 0, "tops.go:25", #[⟨11, .data⟩, ⟨9, .data⟩, ⟨9, .chain⟩, ⟨0, .phase⟩, ⟨1, .phase⟩, ⟨2, .phase⟩, ⟨3, .phase⟩, ⟨4, .phase⟩, ⟨5, .phase⟩, ⟨6, .phase⟩, ⟨7, .phase⟩, ⟨8, .phase⟩, ⟨9, .phase⟩], none⟩) rfl (fun K hK => ?_) AllReady.nil)
      have HK := Lib.hid hK
      clear hK
      have hcc : w9.cell? ⟨b, 2, none⟩ = some vf := cell_of_row _ _ _ _ _ _ HROW9.out
      have hff : w9.frozen? ⟨b, 2, none⟩ = false := frozen_of_row _ _ _ _ _ HROW9.out
      go_simp
      try clear hcc hff
      refine HK.out _ _ ?_
      clear HK K
      try simp only [Act.put, sZa, sZb, sZc]
      refine wpAny_done (by kernel_rfl) ?_ _
      go_wp2
      go_end0
      rw [HV.out]
      exact ⟨rfl, _, _, _, P9⟩
  | false =>
   rw [hi, if_neg (by decide)] at HV
   rw [hi, take_no hi] at hta
   clear hi
   go_wp2_with fail
   refine hta.mono ?_
   rintro e w5 ⟨rfl, h5, f5⟩
   clear hta
   have P5 := P3.step (FF4.trans f5) h5
   have HB5 := Lib.hid (f5.at_ HB4.out (by simp; omega))
   have z5 : bv + 1 ≤ w5.heap.size := by have := f5.size; rw [HZ4.out] at this; exact this
   have hlg := length_any h5
   generalize (lengthV s1).1 = n at *
   generalize (lengthV s1).2 = s2 at *
   have FF5 := FF4.trans f5
   clear h4 FF4 h3 f5
   go_wp2_with fail
   refine hlg.mono ?_
   rintro e w6 ⟨rfl, h6, f6⟩
   clear hlg
   have FF6 := FF5.trans f6
   have z6 := f6.size
   have hb6 := f6.at_ HB5.out (by simp; omega)
   have c4 : w6.cell? ⟨bv, 4, none⟩ = some (.int .i64 v.ln) := cell_of_row _ _ _ _ _ _ hb6
   have e4 : w6.frozen? ⟨bv, 4, none⟩ = false := frozen_of_row _ _ _ _ _ hb6
   have u7 := up_set hb6 4 (.int .i64 n)
   have P7 : PrR w0 (w6.setCell ⟨bv, 4, none⟩ (.int .i64 n)) R M b p s2 vs vv vf := P3.step (FF6.up u7 (by omega)) (h6.up u7 hb6 (by decide) (by decide))
   have HB7 : Hid ((w6.setCell ⟨bv, 4, none⟩ (.int .i64 n)).heap[bv]? = some (.cells (vaC ⟨v.nm, v.ty, n, v.at_⟩) 42)) := Lib.hid u7.at_
   have HZ7 := Lib.hid u7.size
   clear u7 hb6 h6 f6 P5 FF5 FF6 P3 h5
   go_wp2_with fail
   refine (want_any ⟨#[59]⟩ (by decide) P7.rd).mono ?_
   rintro e w8 ⟨rfl, h8, f8⟩
   have P8v := P7.step f8 h8
   have HB8 := Lib.hid (f8.at_ HB7.out (by simp; omega))
   have z8 : w6.heap.size ≤ w8.heap.size := by have := f8.size; rw [HZ7.out] at this; exact this
   obtain ⟨i0, hi0, hz0, hz1, hz2⟩ := info_parts infoVa6
   clear P7 h8 f8 c4 e4
   have PD := P8v.step (w' := w8.drew) ((Fr.refl _ _).drew) (P8v.rd.below ((Below.refl _ _).drew))
   go_wp2_with fail
   refine wp_any_drew (by kernel_rfl) ?_
   refine wpAny_take (i := 0) (oi := ⟨some 45, .move (.tmp 1), 89, "tops.go:30", #[], none⟩) (v := .pointer (some ⟨b, 0, none⟩)) rfl (by kernel_rfl) (by kernel_rfl) (by kernel_rfl) (fun _ _ _ h => h) (Or.inl ⟨by rfl, ?hz1⟩) ?_
   case hz1 => ((intro W; go_simp); (try with_reducible rfl); (try exact ⟨rfl, rfl, rfl⟩))
   simp only [Act.put, sZa, sZb, sZc]
   refine wpAny_take (i := 1) (oi := ⟨some 46, .move (.tmp 1), 89, "tops.go:30", #[], none⟩) (v := .pointer (some ⟨b, 0, none⟩)) rfl (by kernel_rfl) (by kernel_rfl) (by kernel_rfl) (fun _ _ _ h => h) (Or.inl ⟨by rfl, ?hz2⟩) ?_
   case hz2 => ((intro W; go_simp); (try with_reducible rfl); (try exact ⟨rfl, rfl, rfl⟩))
   simp only [Act.put, sZa, sZb, sZc]
   refine wpAny_take (i := 2) (oi := ⟨some 47, .nilCheck (.tmp 46), 0, "tops.go:30", #[⟨1, .data⟩], none⟩) (v := .pointer (some ⟨b, 0, none⟩)) rfl (by kernel_rfl) (by kernel_rfl) (by kernel_rfl) (fun _ _ _ h => h) (Or.inl ⟨by rfl, ?hz3⟩) ?_
   case hz3 => ((intro W; go_simp); (try with_reducible rfl); (try exact ⟨rfl, rfl, rfl⟩))
   simp only [Act.put, sZa, sZb, sZc]
   refine wpAny_take (i := 3) (oi := ⟨some 48, .fieldAddr 27 (.tmp 47) 1, 0, "tops.go:30", #[⟨2, .data⟩], none⟩) (v := .pointer (some ⟨b, 1, none⟩)) rfl (by kernel_rfl) (by kernel_rfl) (by kernel_rfl) (fun _ _ _ h => h) (Or.inl ⟨by rfl, ?hz4⟩) ?_
   case hz4 => ((intro W; go_simp); (try with_reducible rfl); (try exact ⟨rfl, rfl, rfl⟩))
   simp only [Act.put, sZa, sZb, sZc]
   refine wpAny_ready (rs := [4, 5]) (by kernel_rfl) (by simp) ?_
   refine (AllReady.cons (o := ⟨some 49, .load 24 (.tmp 48), 24, "tops.go:30", #[⟨3, .data⟩], none⟩) rfl (fun K hK => ?_) (AllReady.cons (o := ⟨some 50, .load 42 (.tmp 4), 42, "tops.go:30", #[], none⟩) rfl (fun K hK => ?_) AllReady.nil))
   ·have HK := Lib.hid hK
    clear hK
    have hcc : (w8.drew).cell? ⟨b, 1, none⟩ = some vv := cell_of_row _ _ _ _ _ _ PD.row
    have hcd : (w8).cell? ⟨b, 1, none⟩ = some vv := hcc
    go_simp
    try clear hcc hcd
    refine HK.out _ _ ?_
    clear HK K
    try simp only [Act.put, sZa, sZb, sZc]
    refine wpAny_ready (rs := [5]) (by kernel_rfl) (by simp) ?_
    refine (AllReady.cons (o := ⟨some 50, .load 42 (.tmp 4), 42, "tops.go:30", #[], none⟩) rfl (fun K hK => ?_) AllReady.nil)
    have HK := Lib.hid hK
    clear hK
    rw [if_pos (by rfl)]
    refine wp_load_row 42 _ rfl bv (by rfl) 42 (vaC ⟨v.nm, v.ty, n, v.at_⟩) (0, 0) _ HB8.out Tryz.underlying42 rfl sizeVa ?_
    refine HK.out _ _ ?_
    clear HK K
    try simp only [Act.put, sZa, sZb, sZc]
    refine wpAny_ready (rs := [6]) (by kernel_rfl) (by simp) ?_
    refine (AllReady.cons (o := ⟨some 51, .buildSlice 24 1 #[(0, .tmp 50)], 24, "tops.go:30", #[⟨5, .data⟩], none⟩) rfl (fun K hK => ?_) AllReady.nil)
    have HK := Lib.hid hK
    clear hK
    rw [if_pos (by rfl)]
    refine wp_bs1 24 42 (.agg vaZ) 6 Tryz.underlying24 infoVaz (by decide) (by decide) (c := vaL ⟨v.nm, v.ty, n, v.at_⟩) rfl (by rfl) ?_
    have P8 := PD.alloc (.cells (vaL ⟨v.nm, v.ty, n, v.at_⟩).toArray 42)
    have HX8 : Hid (vaE.At ((w8.drew).alloc (.cells (vaL ⟨v.nm, v.ty, n, v.at_⟩).toArray 42)) (fun k => w8.heap.size ≤ k ∧ k < ((w8.drew).alloc (.cells (vaL ⟨v.nm, v.ty, n, v.at_⟩).toArray 42)).heap.size) ⟨v.nm, v.ty, n, v.at_⟩ (vaL ⟨v.nm, v.ty, n, v.at_⟩)) := Lib.hid rfl
    refine HK.out _ _ ?_
    clear HK K
    try simp only [Act.put, sZa, sZb, sZc]
    refine wpAny_ready (rs := [7]) (by kernel_rfl) (by simp) ?_
    refine (AllReady.cons (o := ⟨some 52, .call { callee := .builtin .append, args := #[.tmp 49, .tmp 51], argTypes := #[24, 24] }, 24, "tops.go:30", #[⟨4, .data⟩, ⟨6, .data⟩], none⟩) rfl (fun K hK => ?_) AllReady.nil)
    have HK := Lib.hid hK
    clear hK
    obtain ⟨N, hN⟩ := P8.own
    obtain ⟨rows, hrl, how, hel⟩ := hN.v
    refine step_append_lies _ (by rfl) _ _ _ (by rfl) (b + 1) 42 i0 (.agg vaZ) 6 64 Tryz.underlying24 hi0 hz0 hz1 hz2 rfl (by decide) vv p.vs.length rows.flatten (by rfl) how ⟨w8.drew.heap.size, 0, none⟩ 1 1 (vaL ⟨v.nm, v.ty, n, v.at_⟩) (by rfl) (rfl) (World.news_of_block (cs := (vaL ⟨v.nm, v.ty, n, v.at_⟩).toArray) (t := 42) (fr := (0, 0)) (heap_alloc_new (w8.drew) _)) (by simp [Value.oneCell']) (by omega) (by unfold maxLen; omega) (by omega) (Nat.succ_le_of_lt (lt_of_at P8.row)) _ rfl ?_
    intro ga ca w9 hown9 hgrow9 hat9 hlt9
    have hp := hN.pushV hrl hel how HX8.out (by omega) (fun k hk => P8v.lt k hk) rfl hown9 hgrow9 hat9
    obtain ⟨hrow9, P9⟩ := P8.app (v' := .slice (some ⟨ga, 0, none⟩) (p.vs.length + 1) ca) how hgrow9 (by decide) (by decide) hp 1 rfl
    have HROW9 := Lib.hid hrow9
    clear hel how hrl hown9 hgrow9 hrow9 hp hN
    refine HK.out _ _ ?_
    clear HK K
    try simp only [Act.put, sZa, sZb, sZc]
    refine wpAny_take (i := 8) (oi := ⟨some 53, .nilCheck (.tmp 45), 0, "tops.go:30", #[⟨0, .data⟩, ⟨0, .phase⟩, ⟨1, .phase⟩, ⟨2, .phase⟩, ⟨3, .phase⟩, ⟨4, .phase⟩, ⟨5, .phase⟩, ⟨6, .phase⟩, ⟨7, .phase⟩], none⟩) (v := .pointer (some ⟨b, 0, none⟩)) rfl (by kernel_rfl) (by kernel_rfl) (by kernel_rfl) (fun _ _ _ h => h) (Or.inl ⟨by rfl, ?hz5⟩) ?_
    case hz5 => ((intro W; go_simp); (try with_reducible rfl); (try exact ⟨rfl, rfl, rfl⟩))
    simp only [Act.put, sZa, sZb, sZc]
    refine wpAny_take (i := 9) (oi := ⟨some 54, .fieldAddr 27 (.tmp 53) 1, 0, "tops.go:30", #[⟨8, .data⟩, ⟨0, .phase⟩, ⟨1, .phase⟩, ⟨2, .phase⟩, ⟨3, .phase⟩, ⟨4, .phase⟩, ⟨5, .phase⟩, ⟨6, .phase⟩, ⟨7, .phase⟩], none⟩) (v := .pointer (some ⟨b, 1, none⟩)) rfl (by kernel_rfl) (by kernel_rfl) (by kernel_rfl) (fun _ _ _ h => h) (Or.inl ⟨by rfl, ?hz6⟩) ?_
    case hz6 => ((intro W; go_simp); (try with_reducible rfl); (try exact ⟨rfl, rfl, rfl⟩))
    simp only [Act.put, sZa, sZb, sZc]
    refine wpAny_ready (rs := [10]) (by kernel_rfl) (by simp) ?_
    refine (AllReady.cons (o := ⟨none, .store 24 (.tmp 54) (.tmp 52), 0, "tops.go:30", #[⟨9, .data⟩, ⟨7, .data⟩, ⟨7, .chain⟩, ⟨0, .phase⟩, ⟨1, .phase⟩, ⟨2, .phase⟩, ⟨3, .phase⟩, ⟨4, .phase⟩, ⟨5, .phase⟩, ⟨6, .phase⟩, ⟨7, .phase⟩], none⟩) rfl (fun K hK => ?_) AllReady.nil)
    have HK := Lib.hid hK
    clear hK
    have hcc : w9.cell? ⟨b, 1, none⟩ = some vv := cell_of_row _ _ _ _ _ _ HROW9.out
    have hff : w9.frozen? ⟨b, 1, none⟩ = false := frozen_of_row _ _ _ _ _ HROW9.out
    go_simp
    try clear hcc hff
    refine HK.out _ _ ?_
    clear HK K
    try simp only [Act.put, sZa, sZb, sZc]
    refine wpAny_done (by kernel_rfl) ?_ _
    go_wp2
    go_end0
    rw [HV.out]
    exact ⟨rfl, _, _, _, P9⟩
   ·have HK := Lib.hid hK
    clear hK
    rw [if_pos (by rfl)]
    refine wp_load_row 42 _ rfl bv (by rfl) 42 (vaC ⟨v.nm, v.ty, n, v.at_⟩) (0, 0) _ HB8.out Tryz.underlying42 rfl sizeVa ?_
    refine HK.out _ _ ?_
    clear HK K
    try simp only [Act.put, sZa, sZb, sZc]
    refine wpAny_ready (rs := [4, 6]) (by kernel_rfl) (by simp) ?_
    refine (AllReady.cons (o := ⟨some 49, .load 24 (.tmp 48), 24, "tops.go:30", #[⟨3, .data⟩], none⟩) rfl (fun K hK => ?_) (AllReady.cons (o := ⟨some 51, .buildSlice 24 1 #[(0, .tmp 50)], 24, "tops.go:30", #[⟨5, .data⟩], none⟩) rfl (fun K hK => ?_) AllReady.nil))
    ·have HK := Lib.hid hK
     clear hK
     have hcc : (w8.drew).cell? ⟨b, 1, none⟩ = some vv := cell_of_row _ _ _ _ _ _ PD.row
     have hcd : (w8).cell? ⟨b, 1, none⟩ = some vv := hcc
     go_simp
     try clear hcc hcd
     refine HK.out _ _ ?_
     clear HK K
     try simp only [Act.put, sZa, sZb, sZc]
     refine wpAny_ready (rs := [6]) (by kernel_rfl) (by simp) ?_
     refine (AllReady.cons (o := ⟨some 51, .buildSlice 24 1 #[(0, .tmp 50)], 24, "tops.go:30", #[⟨5, .data⟩], none⟩) rfl (fun K hK => ?_) AllReady.nil)
     have HK := Lib.hid hK
     clear hK
     rw [if_pos (by rfl)]
     refine wp_bs1 24 42 (.agg vaZ) 6 Tryz.underlying24 infoVaz (by decide) (by decide) (c := vaL ⟨v.nm, v.ty, n, v.at_⟩) rfl (by rfl) ?_
     have P8 := PD.alloc (.cells (vaL ⟨v.nm, v.ty, n, v.at_⟩).toArray 42)
     have HX8 : Hid (vaE.At ((w8.drew).alloc (.cells (vaL ⟨v.nm, v.ty, n, v.at_⟩).toArray 42)) (fun k => w8.heap.size ≤ k ∧ k < ((w8.drew).alloc (.cells (vaL ⟨v.nm, v.ty, n, v.at_⟩).toArray 42)).heap.size) ⟨v.nm, v.ty, n, v.at_⟩ (vaL ⟨v.nm, v.ty, n, v.at_⟩)) := Lib.hid rfl
     refine HK.out _ _ ?_
     clear HK K
     try simp only [Act.put, sZa, sZb, sZc]
     refine wpAny_ready (rs := [7]) (by kernel_rfl) (by simp) ?_
     refine (AllReady.cons (o := ⟨some 52, .call { callee := .builtin .append, args := #[.tmp 49, .tmp 51], argTypes := #[24, 24] }, 24, "tops.go:30", #[⟨4, .data⟩, ⟨6, .data⟩], none⟩) rfl (fun K hK => ?_) AllReady.nil)
     have HK := Lib.hid hK
     clear hK
     obtain ⟨N, hN⟩ := P8.own
     obtain ⟨rows, hrl, how, hel⟩ := hN.v
     refine step_append_lies _ (by rfl) _ _ _ (by rfl) (b + 1) 42 i0 (.agg vaZ) 6 64 Tryz.underlying24 hi0 hz0 hz1 hz2 rfl (by decide) vv p.vs.length rows.flatten (by rfl) how ⟨w8.drew.heap.size, 0, none⟩ 1 1 (vaL ⟨v.nm, v.ty, n, v.at_⟩) (by rfl) (rfl) (World.news_of_block (cs := (vaL ⟨v.nm, v.ty, n, v.at_⟩).toArray) (t := 42) (fr := (0, 0)) (heap_alloc_new (w8.drew) _)) (by simp [Value.oneCell']) (by omega) (by unfold maxLen; omega) (by omega) (Nat.succ_le_of_lt (lt_of_at P8.row)) _ rfl ?_
     intro ga ca w9 hown9 hgrow9 hat9 hlt9
     have hp := hN.pushV hrl hel how HX8.out (by omega) (fun k hk => P8v.lt k hk) rfl hown9 hgrow9 hat9
     obtain ⟨hrow9, P9⟩ := P8.app (v' := .slice (some ⟨ga, 0, none⟩) (p.vs.length + 1) ca) how hgrow9 (by decide) (by decide) hp 1 rfl
     have HROW9 := Lib.hid hrow9
     clear hel how hrl hown9 hgrow9 hrow9 hp hN
     refine HK.out _ _ ?_
     clear HK K
     try simp only [Act.put, sZa, sZb, sZc]
     refine wpAny_take (i := 8) (oi := ⟨some 53, .nilCheck (.tmp 45), 0, "tops.go:30", #[⟨0, .data⟩, ⟨0, .phase⟩, ⟨1, .phase⟩, ⟨2, .phase⟩, ⟨3, .phase⟩, ⟨4, .phase⟩, ⟨5, .phase⟩, ⟨6, .phase⟩, ⟨7, .phase⟩], none⟩) (v := .pointer (some ⟨b, 0, none⟩)) rfl (by kernel_rfl) (by kernel_rfl) (by kernel_rfl) (fun _ _ _ h => h) (Or.inl ⟨by rfl, ?hz7⟩) ?_
     case hz7 => ((intro W; go_simp); (try with_reducible rfl); (try exact ⟨rfl, rfl, rfl⟩))
     simp only [Act.put, sZa, sZb, sZc]
     refine wpAny_take (i := 9) (oi := ⟨some 54, .fieldAddr 27 (.tmp 53) 1, 0, "tops.go:30", #[⟨8, .data⟩, ⟨0, .phase⟩, ⟨1, .phase⟩, ⟨2, .phase⟩, ⟨3, .phase⟩, ⟨4, .phase⟩, ⟨5, .phase⟩, ⟨6, .phase⟩, ⟨7, .phase⟩], none⟩) (v := .pointer (some ⟨b, 1, none⟩)) rfl (by kernel_rfl) (by kernel_rfl) (by kernel_rfl) (fun _ _ _ h => h) (Or.inl ⟨by rfl, ?hz8⟩) ?_
     case hz8 => ((intro W; go_simp); (try with_reducible rfl); (try exact ⟨rfl, rfl, rfl⟩))
     simp only [Act.put, sZa, sZb, sZc]
     refine wpAny_ready (rs := [10]) (by kernel_rfl) (by simp) ?_
     refine (AllReady.cons (o := ⟨none, .store 24 (.tmp 54) (.tmp 52), 0, "tops.go:30", #[⟨9, .data⟩, ⟨7, .data⟩, ⟨7, .chain⟩, ⟨0, .phase⟩, ⟨1, .phase⟩, ⟨2, .phase⟩, ⟨3, .phase⟩, ⟨4, .phase⟩, ⟨5, .phase⟩, ⟨6, .phase⟩, ⟨7, .phase⟩], none⟩) rfl (fun K hK => ?_) AllReady.nil)
     have HK := Lib.hid hK
     clear hK
     have hcc : w9.cell? ⟨b, 1, none⟩ = some vv := cell_of_row _ _ _ _ _ _ HROW9.out
     have hff : w9.frozen? ⟨b, 1, none⟩ = false := frozen_of_row _ _ _ _ _ HROW9.out
     go_simp
     try clear hcc hff
     refine HK.out _ _ ?_
     clear HK K
     try simp only [Act.put, sZa, sZb, sZc]
     refine wpAny_done (by kernel_rfl) ?_ _
     go_wp2
     go_end0
     rw [HV.out]
     exact ⟨rfl, _, _, _, P9⟩
    ·have HK := Lib.hid hK
     clear hK
     rw [if_pos (by rfl)]
     refine wp_bs1 24 42 (.agg vaZ) 6 Tryz.underlying24 infoVaz (by decide) (by decide) (c := vaL ⟨v.nm, v.ty, n, v.at_⟩) rfl (by rfl) ?_
     have P8 := PD.alloc (.cells (vaL ⟨v.nm, v.ty, n, v.at_⟩).toArray 42)
     have HX8 : Hid (vaE.At ((w8.drew).alloc (.cells (vaL ⟨v.nm, v.ty, n, v.at_⟩).toArray 42)) (fun k => w8.heap.size ≤ k ∧ k < ((w8.drew).alloc (.cells (vaL ⟨v.nm, v.ty, n, v.at_⟩).toArray 42)).heap.size) ⟨v.nm, v.ty, n, v.at_⟩ (vaL ⟨v.nm, v.ty, n, v.at_⟩)) := Lib.hid rfl
     refine HK.out _ _ ?_
     clear HK K
     try simp only [Act.put, sZa, sZb, sZc]
     refine wpAny_ready (rs := [4]) (by kernel_rfl) (by simp) ?_
     refine (AllReady.cons (o := ⟨some 49, .load 24 (.tmp 48), 24, "tops.go:30", #[⟨3, .data⟩], none⟩) rfl (fun K hK => ?_) AllReady.nil)
     have HK := Lib.hid hK
     clear hK
     have hcc : ((w8.drew).alloc (.cells (vaL ⟨v.nm, v.ty, n, v.at_⟩).toArray 42)).cell? ⟨b, 1, none⟩ = some vv := cell_of_row _ _ _ _ _ _ P8.row
     have hcd : ((w8).alloc (.cells (vaL ⟨v.nm, v.ty, n, v.at_⟩).toArray 42)).cell? ⟨b, 1, none⟩ = some vv := hcc
     go_simp
     try clear hcc hcd
     refine HK.out _ _ ?_
     clear HK K
     try simp only [Act.put, sZa, sZb, sZc]
     refine wpAny_ready (rs := [7]) (by kernel_rfl) (by simp) ?_
     refine (AllReady.cons (o := ⟨some 52, .call { callee := .builtin .append, args := #[.tmp 49, .tmp 51], argTypes := #[24, 24] }, 24, "tops.go:30", #[⟨4, .data⟩, ⟨6, .data⟩], none⟩) rfl (fun K hK => ?_) AllReady.nil)
     have HK := Lib.hid hK
     clear hK
     obtain ⟨N, hN⟩ := P8.own
     obtain ⟨rows, hrl, how, hel⟩ := hN.v
     refine step_append_lies _ (by rfl) _ _ _ (by rfl) (b + 1) 42 i0 (.agg vaZ) 6 64 Tryz.underlying24 hi0 hz0 hz1 hz2 rfl (by decide) vv p.vs.length rows.flatten (by rfl) how ⟨w8.drew.heap.size, 0, none⟩ 1 1 (vaL ⟨v.nm, v.ty, n, v.at_⟩) (by rfl) (rfl) (World.news_of_block (cs := (vaL ⟨v.nm, v.ty, n, v.at_⟩).toArray) (t := 42) (fr := (0, 0)) (heap_alloc_new (w8.drew) _)) (by simp [Value.oneCell']) (by omega) (by unfold maxLen; omega) (by omega) (Nat.succ_le_of_lt (lt_of_at P8.row)) _ rfl ?_
     intro ga ca w9 hown9 hgrow9 hat9 hlt9
     have hp := hN.pushV hrl hel how HX8.out (by omega) (fun k hk => P8v.lt k hk) rfl hown9 hgrow9 hat9
     obtain ⟨hrow9, P9⟩ := P8.app (v' := .slice (some ⟨ga, 0, none⟩) (p.vs.length + 1) ca) how hgrow9 (by decide) (by decide) hp 1 rfl
     have HROW9 := Lib.hid hrow9
     clear hel how hrl hown9 hgrow9 hrow9 hp hN
     refine HK.out _ _ ?_
     clear HK K
     try simp only [Act.put, sZa, sZb, sZc]
     refine wpAny_take (i := 8) (oi := ⟨some 53, .nilCheck (.tmp 45), 0, "tops.go:30", #[⟨0, .data⟩, ⟨0, .phase⟩, ⟨1, .phase⟩, ⟨2, .phase⟩, ⟨3, .phase⟩, ⟨4, .phase⟩, ⟨5, .phase⟩, ⟨6, .phase⟩, ⟨7, .phase⟩], none⟩) (v := .pointer (some ⟨b, 0, none⟩)) rfl (by kernel_rfl) (by kernel_rfl) (by kernel_rfl) (fun _ _ _ h => h) (Or.inl ⟨by rfl, ?hz9⟩) ?_
     case hz9 => ((intro W; go_simp); (try with_reducible rfl); (try exact ⟨rfl, rfl, rfl⟩))
     simp only [Act.put, sZa, sZb, sZc]
     refine wpAny_take (i := 9) (oi := ⟨some 54, .fieldAddr 27 (.tmp 53) 1, 0, "tops.go:30", #[⟨8, .data⟩, ⟨0, .phase⟩, ⟨1, .phase⟩, ⟨2, .phase⟩, ⟨3, .phase⟩, ⟨4, .phase⟩, ⟨5, .phase⟩, ⟨6, .phase⟩, ⟨7, .phase⟩], none⟩) (v := .pointer (some ⟨b, 1, none⟩)) rfl (by kernel_rfl) (by kernel_rfl) (by kernel_rfl) (fun _ _ _ h => h) (Or.inl ⟨by rfl, ?hz10⟩) ?_
     case hz10 => ((intro W; go_simp); (try with_reducible rfl); (try exact ⟨rfl, rfl, rfl⟩))
     simp only [Act.put, sZa, sZb, sZc]
     refine wpAny_ready (rs := [10]) (by kernel_rfl) (by simp) ?_
     refine (AllReady.cons (o := ⟨none, .store 24 (.tmp 54) (.tmp 52), 0, "tops.go:30", #[⟨9, .data⟩, ⟨7, .data⟩, ⟨7, .chain⟩, ⟨0, .phase⟩, ⟨1, .phase⟩, ⟨2, .phase⟩, ⟨3, .phase⟩, ⟨4, .phase⟩, ⟨5, .phase⟩, ⟨6, .phase⟩, ⟨7, .phase⟩], none⟩) rfl (fun K hK => ?_) AllReady.nil)
     have HK := Lib.hid hK
     clear hK
     have hcc : w9.cell? ⟨b, 1, none⟩ = some vv := cell_of_row _ _ _ _ _ _ HROW9.out
     have hff : w9.frozen? ⟨b, 1, none⟩ = false := frozen_of_row _ _ _ _ _ HROW9.out
     go_simp
     try clear hcc hff
     refine HK.out _ _ ?_
     clear HK K
     try simp only [Act.put, sZa, sZb, sZc]
     refine wpAny_done (by kernel_rfl) ?_ _
     go_wp2
     go_end0
     rw [HV.out]
     exact ⟨rfl, _, _, _, P9⟩
end Go.Proofs.YtfjobnljdkiihaaGreatDoor
