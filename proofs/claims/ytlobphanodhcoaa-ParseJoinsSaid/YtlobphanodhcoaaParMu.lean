/- A program's tops. Conditions: each theorem's. -/
import Derived.Test.YtlobphanodhcoaaParMt
import Derived.Test.YtlobphanodhcoaaLexK
import Derived.Test.YtlobphanodhcoaaLexW
namespace Go.Proofs.Ytlobphanodhcoaa
open Go.RowKit Go.Maps
set_option linter.unusedVariables false
set_option linter.unusedSimpArgs false
set_option maxRecDepth 100000
open Lx Pa
theorem infoSr3 : (Try.prog.info? 61).map (fun i => (i.zero, i.size, i.bytes)) = some (some (.agg srZ), 3, 48) := by kernel_rfl
theorem infoSrz : (Try.prog.info? 61).map (fun i => (i.zero, i.size)) = some (some (.agg srZ), 3) := by kernel_rfl
theorem infoFn16 : (Try.prog.info? 42).map (fun i => (i.zero, i.size, i.bytes)) = some (some (.agg fnZ), 16, 208) := by kernel_rfl
theorem infoFnz : (Try.prog.info? 42).map (fun i => (i.zero, i.size)) = some (some (.agg fnZ), 16) := by kernel_rfl
def TopP (w0 : World) (R M b : Nat) (p : PPr) (s : Pa.S) (e : Ending) (w' : World) : Prop := e = .returned (.tuple #[]) ∧ ∃ vs vv vf, PrR w0 w' R M b p s vs vv vf
set_option maxHeartbeats 32000000 in
theorem top_any {w0 w : World} {R M b : Nat} {p : PPr} {s : Pa.S} {vs vv vf : Value} (h : PrR w0 w R M b p s vs vv vf) (hn : s.tk.length ≤ 7000) (hl : p.ss.length ≤ 7000 ∧ p.vs.length ≤ 7000 ∧ p.fs.length ≤ 7000) :
    Calls Try.prog 17 #[.pointer (some ⟨R, 0, none⟩), .pointer (some ⟨b, 0, none⟩)] w (TopP w0 R M b (topV p s).1 (topV p s).2) := by
  have hR := h.rl
  have hbl := h.bl
  have F1 := tf1
  have hbw := lt_of_at h.row
  have hV : topV p s = if s.is ⟨#[115, 116, 114, 117, 99, 116]⟩ = true ∧ (s.ahead 2).tx = ⟨#[123]⟩ then (⟨p.ss ++ [(structV s).1], p.vs, p.fs⟩, (structV s).2)
    else if (namedV s).2.is ⟨#[40]⟩ then (⟨p.ss, p.vs, p.fs ++ [(funcV (namedV s).1 (namedV s).2.tl).1]⟩, (funcV (namedV s).1 (namedV s).2.tl).2)
    else (⟨p.ss, p.vs ++ [⟨(namedV s).1.nm, (namedV s).1.ty, (lengthV (namedV s).2).1, (namedV s).1.at_⟩], p.fs⟩, (lengthV (namedV s).2).2.want ⟨#[59]⟩) := rfl
  have HV := Lib.hid hV
  clear hV
  have his := is_any ⟨#[115, 116, 114, 117, 99, 116]⟩ h.rd
  go_enter Try.func17, Try.ntmps17
  go_wp2_with fail
  cases hi : s.is ⟨#[115, 116, 114, 117, 99, 116]⟩ with
  | true =>
    rw [hi] at his
    refine his.mono ?_
    rintro e w1 ⟨rfl, b1⟩
    clear his
    have P1 := h.step (Fr.below b1) (h.rd.below b1)
    have hah := ahead_any 2 (by omega) P1.rd
    by_cases ha : (s.ahead 2).tx = ⟨#[123]⟩
    · rw [if_pos ⟨hi, ha⟩] at HV
      have q1 : ((s.ahead 2).tx.toList == [123]) = true := strYes [123] ha
      clear hi ha
      generalize s.ahead 2 = t at *
      go_wp2_with fail
      refine hah.mono ?_
      rintro e w2 ⟨rfl, b2⟩
      clear hah
      have P2 := P1.step (Fr.below b2) (P1.rd.below b2)
      have hexp := struct_any (w := w2.drew) (P2.rd.below ((Below.refl _ _).drew)) hn
      generalize (structV s).1 = x at *
      generalize (structV s).2 = s2 at *
      have HEXP := Lib.hid hexp
      have hb2 := lt_of_at P2.row
      obtain ⟨i0, hi0, hz0, hz1, hz2⟩ := info_parts infoSr3
      clear hexp h P1 b1 b2 hbw
      have PD := P2.step (w' := w2.drew) ((Fr.refl _ _).drew) (P2.rd.below ((Below.refl _ _).drew))
      go_wp2_with fail
      refine wp_any_drew (by kernel_rfl) ?_
      refine wpAny_take (i := 0) (oi := ({ dst := some 13, op := Go.Op.move (Go.Operand.tmp 1), type := 75, pos := "tops.go:20", after := #[], guard := none } : Oper)) (v := .pointer (some ⟨b, 0, none⟩)) rfl (by kernel_rfl) (by kernel_rfl) (by kernel_rfl) (fun _ _ _ h => h) (Or.inl ⟨by rfl, ?hz1⟩) ?_
      case hz1 => ((intro W; go_simp); (try with_reducible rfl); (try exact ⟨rfl, rfl, rfl⟩))
      simp only [Act.put, List.setIfInBounds_toArray, List.set_cons_zero, List.set_cons_succ]
      refine wpAny_take (i := 1) (oi := ({ dst := some 14, op := Go.Op.move (Go.Operand.tmp 1), type := 75, pos := "tops.go:20", after := #[], guard := none } : Oper)) (v := .pointer (some ⟨b, 0, none⟩)) rfl (by kernel_rfl) (by kernel_rfl) (by kernel_rfl) (fun _ _ _ h => h) (Or.inl ⟨by rfl, ?hz2⟩) ?_
      case hz2 => ((intro W; go_simp); (try with_reducible rfl); (try exact ⟨rfl, rfl, rfl⟩))
      simp only [Act.put, List.setIfInBounds_toArray, List.set_cons_zero, List.set_cons_succ]
      refine wpAny_take (i := 2) (oi := ({ dst := some 15, op := Go.Op.nilCheck (Go.Operand.tmp 14), type := 0, pos := "tops.go:20", after := #[{ on := 1, ground := Go.Ground.data }], guard := none } : Oper)) (v := .pointer (some ⟨b, 0, none⟩)) rfl (by kernel_rfl) (by kernel_rfl) (by kernel_rfl) (fun _ _ _ h => h) (Or.inl ⟨by rfl, ?hz3⟩) ?_
      case hz3 => ((intro W; go_simp); (try with_reducible rfl); (try exact ⟨rfl, rfl, rfl⟩))
      simp only [Act.put, List.setIfInBounds_toArray, List.set_cons_zero, List.set_cons_succ]
      refine wpAny_take (i := 3) (oi := ({ dst := some 16, op := Go.Op.fieldAddr 27 (Go.Operand.tmp 15) 0, type := 0, pos := "tops.go:20", after := #[{ on := 2, ground := Go.Ground.data }], guard := none } : Oper)) (v := .pointer (some ⟨b, 0, none⟩)) rfl (by kernel_rfl) (by kernel_rfl) (by kernel_rfl) (fun _ _ _ h => h) (Or.inl ⟨by rfl, ?hz4⟩) ?_
      case hz4 => ((intro W; go_simp); (try with_reducible rfl); (try exact ⟨rfl, rfl, rfl⟩))
      simp only [Act.put, List.setIfInBounds_toArray, List.set_cons_zero, List.set_cons_succ]
      refine wpAny_take (i := 5) (oi := ({ dst := some 18, op := Go.Op.move (Go.Operand.tmp 0), type := 73, pos := "tops.go:20", after := #[], guard := none } : Oper)) (v := .pointer (some ⟨R, 0, none⟩)) rfl (by kernel_rfl) (by kernel_rfl) (by kernel_rfl) (fun _ _ _ h => h) (Or.inl ⟨by rfl, ?hz5⟩) ?_
      case hz5 => ((intro W; go_simp); (try with_reducible rfl); (try exact ⟨rfl, rfl, rfl⟩))
      simp only [Act.put, List.setIfInBounds_toArray, List.set_cons_zero, List.set_cons_succ]
      refine wpAny_ready (rs := [4, 6]) (by kernel_rfl) (by simp) ?_
      refine (AllReady.cons (o := ({ dst := some 17, op := Go.Op.load 23 (Go.Operand.tmp 16), type := 23, pos := "tops.go:20", after := #[{ on := 3, ground := Go.Ground.data }], guard := none } : Oper)) rfl (fun K hK => ?_) (AllReady.cons (o := ({ dst := some 19, op := Go.Op.call { callee := Go.Callee.value (Go.Operand.func 28), args := #[Go.Operand.tmp 18], argTypes := #[73] }, type := 61, pos := "tops.go:20", after := #[{ on := 5, ground := Go.Ground.data }], guard := none } : Oper)) rfl (fun K hK => ?_) AllReady.nil))
      · have HK := Lib.hid hK
        clear hK
        have hcc : (w2.drew).cell? ⟨b, 0, none⟩ = some vs := cell_of_row _ _ _ _ _ _ PD.row
        have hcd : (w2).cell? ⟨b, 0, none⟩ = some vs := hcc
        go_simp
        try clear hcc hcd
        refine HK.out _ _ ?_
        clear HK K
        try simp only [Act.put, List.setIfInBounds_toArray, List.set_cons_zero, List.set_cons_succ]
        refine wpAny_ready (rs := [6]) (by kernel_rfl) (by simp) ?_
        refine (AllReady.cons (o := ({ dst := some 19, op := Go.Op.call { callee := Go.Callee.value (Go.Operand.func 28), args := #[Go.Operand.tmp 18], argTypes := #[73] }, type := 61, pos := "tops.go:20", after := #[{ on := 5, ground := Go.Ground.data }], guard := none } : Oper)) rfl (fun K hK => ?_) AllReady.nil)
        have HK := Lib.hid hK
        clear hK
        go_simp
        refine HEXP.out.mono ?_
        rintro e w7 ⟨c7, rfl, hc7, h7, f7⟩
        have z7 : w2.heap.size ≤ w7.heap.size := f7.size
        have HC7 : Hid (c7.length = 3) := Lib.hid (srE.len hc7)
        have HN7 := Lib.hid (srE.one hc7)
        have P7 := PD.step f7 h7
        have HX7 := Lib.hid hc7
        clear hc7 h7
        try go_wp2_with fail
        refine HK.out _ _ ?_
        clear HK K
        try simp only [Act.put, List.setIfInBounds_toArray, List.set_cons_zero, List.set_cons_succ]
        refine wpAny_ready (rs := [7]) (by kernel_rfl) (by simp) ?_
        refine (AllReady.cons (o := ({ dst := some 20, op := Go.Op.buildSlice 23 1 #[(0, Go.Operand.tmp 19)], type := 23, pos := "tops.go:20", after := #[{ on := 6, ground := Go.Ground.data }], guard := none } : Oper)) rfl (fun K hK => ?_) AllReady.nil)
        have HK := Lib.hid hK
        clear hK
        rw [if_pos (by rfl)]
        refine wp_bs1 23 61 (.agg srZ) 3 Try.underlying23 infoSrz (by decide) (by decide) (c := c7) HC7.out (by rfl) ?_
        have P8 := P7.alloc (.cells (c7).toArray 61)
        have HX8 := Lib.hid (srE.keep HX7.out (w' := w7.alloc (.cells (c7).toArray 61)) (S' := fun k => w2.heap.size ≤ k ∧ k < (w7.alloc (.cells (c7).toArray 61)).heap.size) (fun k hk hl => ⟨⟨hk, by simp only [szA]; omega⟩, Below.heap_alloc _ _ _ hl⟩) (by simp))
        refine HK.out _ _ ?_
        clear HK K
        try simp only [Act.put, List.setIfInBounds_toArray, List.set_cons_zero, List.set_cons_succ]
        refine wpAny_ready (rs := [8]) (by kernel_rfl) (by simp) ?_
        refine (AllReady.cons (o := ({ dst := some 21, op := Go.Op.call { callee := Go.Callee.builtin Go.Builtin.append, args := #[Go.Operand.tmp 17, Go.Operand.tmp 20], argTypes := #[23, 23] }, type := 23, pos := "tops.go:20", after := #[{ on := 4, ground := Go.Ground.data }, { on := 7, ground := Go.Ground.data }, { on := 6, ground := Go.Ground.chain }], guard := none } : Oper)) rfl (fun K hK => ?_) AllReady.nil)
        have HK := Lib.hid hK
        clear hK
        obtain ⟨N, hN⟩ := P8.own
        obtain ⟨rows, hrl, how, hel⟩ := hN.s
        refine step_append_lies _ (by rfl) _ _ _ (by rfl) (b + 1) 61 i0 (.agg srZ) 3 48 Try.underlying23 hi0 hz0 hz1 hz2 rfl (by decide) vs p.ss.length rows.flatten (by rfl) how ⟨w7.heap.size, 0, none⟩ 1 1 (c7) (by rfl) (by rw [HC7.out]) (World.news_of_block (cs := (c7).toArray) (t := 61) (fr := (0, 0)) (heap_alloc_new (w7) _)) (HN7.out) (by omega) (by unfold maxLen; omega) (by omega) (Nat.succ_le_of_lt (lt_of_at P8.row)) _ rfl ?_
        intro ga ca w9 hown9 hgrow9 hat9 hlt9
        have hp := hN.pushS hrl hel how HX8.out (by omega) (fun k hk => P2.lt k hk) rfl hown9 hgrow9 hat9
        obtain ⟨hrow9, P9⟩ := P8.app (v' := .slice (some ⟨ga, 0, none⟩) (p.ss.length + 1) ca) how hgrow9 (by decide) (by decide) hp 0 rfl
        have HROW9 := Lib.hid hrow9
        clear hel how hrl hown9 hgrow9 hrow9 hp hN
        refine HK.out _ _ ?_
        clear HK K
        try simp only [Act.put, List.setIfInBounds_toArray, List.set_cons_zero, List.set_cons_succ]
        refine wpAny_take (i := 9) (oi := ({ dst := some 22, op := Go.Op.nilCheck (Go.Operand.tmp 13), type := 0, pos := "tops.go:20", after := #[{ on := 0, ground := Go.Ground.data }, { on := 0, ground := Go.Ground.phase }, { on := 1, ground := Go.Ground.phase }, { on := 2, ground := Go.Ground.phase }, { on := 3, ground := Go.Ground.phase }, { on := 4, ground := Go.Ground.phase }, { on := 5, ground := Go.Ground.phase }, { on := 6, ground := Go.Ground.phase }, { on := 7, ground := Go.Ground.phase }, { on := 8, ground := Go.Ground.phase }], guard := none } : Oper)) (v := .pointer (some ⟨b, 0, none⟩)) rfl (by kernel_rfl) (by kernel_rfl) (by kernel_rfl) (fun _ _ _ h => h) (Or.inl ⟨by rfl, ?hz6⟩) ?_
        case hz6 => ((intro W; go_simp); (try with_reducible rfl); (try exact ⟨rfl, rfl, rfl⟩))
        simp only [Act.put, List.setIfInBounds_toArray, List.set_cons_zero, List.set_cons_succ]
        refine wpAny_take (i := 10) (oi := ({ dst := some 23, op := Go.Op.fieldAddr 27 (Go.Operand.tmp 22) 0, type := 0, pos := "tops.go:20", after := #[{ on := 9, ground := Go.Ground.data }, { on := 0, ground := Go.Ground.phase }, { on := 1, ground := Go.Ground.phase }, { on := 2, ground := Go.Ground.phase }, { on := 3, ground := Go.Ground.phase }, { on := 4, ground := Go.Ground.phase }, { on := 5, ground := Go.Ground.phase }, { on := 6, ground := Go.Ground.phase }, { on := 7, ground := Go.Ground.phase }, { on := 8, ground := Go.Ground.phase }], guard := none } : Oper)) (v := .pointer (some ⟨b, 0, none⟩)) rfl (by kernel_rfl) (by kernel_rfl) (by kernel_rfl) (fun _ _ _ h => h) (Or.inl ⟨by rfl, ?hz7⟩) ?_
        case hz7 => ((intro W; go_simp); (try with_reducible rfl); (try exact ⟨rfl, rfl, rfl⟩))
        simp only [Act.put, List.setIfInBounds_toArray, List.set_cons_zero, List.set_cons_succ]
        refine wpAny_ready (rs := [11]) (by kernel_rfl) (by simp) ?_
        refine (AllReady.cons (o := ({ dst := none, op := Go.Op.store 23 (Go.Operand.tmp 23) (Go.Operand.tmp 21), type := 0, pos := "tops.go:20", after := #[{ on := 10, ground := Go.Ground.data }, { on := 8, ground := Go.Ground.data }, { on := 8, ground := Go.Ground.chain }, { on := 0, ground := Go.Ground.phase }, { on := 1, ground := Go.Ground.phase }, { on := 2, ground := Go.Ground.phase }, { on := 3, ground := Go.Ground.phase }, { on := 4, ground := Go.Ground.phase }, { on := 5, ground := Go.Ground.phase }, { on := 6, ground := Go.Ground.phase }, { on := 7, ground := Go.Ground.phase }, { on := 8, ground := Go.Ground.phase }], guard := none } : Oper)) rfl (fun K hK => ?_) AllReady.nil)
        have HK := Lib.hid hK
        clear hK
        have hcc : w9.cell? ⟨b, 0, none⟩ = some vs := cell_of_row _ _ _ _ _ _ HROW9.out
        have hff : w9.frozen? ⟨b, 0, none⟩ = false := frozen_of_row _ _ _ _ _ HROW9.out
        go_simp
        try clear hcc hff
        refine HK.out _ _ ?_
        clear HK K
        try simp only [Act.put, List.setIfInBounds_toArray, List.set_cons_zero, List.set_cons_succ]
        refine wpAny_done (by kernel_rfl) ?_ _
        go_wp2
        go_end0
        rw [HV.out]
        exact ⟨rfl, _, _, _, P9⟩
      · have HK := Lib.hid hK
        clear hK
        go_simp
        refine HEXP.out.mono ?_
        rintro e w7 ⟨c7, rfl, hc7, h7, f7⟩
        have z7 : w2.heap.size ≤ w7.heap.size := f7.size
        have HC7 : Hid (c7.length = 3) := Lib.hid (srE.len hc7)
        have HN7 := Lib.hid (srE.one hc7)
        have P7 := PD.step f7 h7
        have HX7 := Lib.hid hc7
        clear hc7 h7
        try go_wp2_with fail
        refine HK.out _ _ ?_
        clear HK K
        try simp only [Act.put, List.setIfInBounds_toArray, List.set_cons_zero, List.set_cons_succ]
        refine wpAny_ready (rs := [4, 7]) (by kernel_rfl) (by simp) ?_
        refine (AllReady.cons (o := ({ dst := some 17, op := Go.Op.load 23 (Go.Operand.tmp 16), type := 23, pos := "tops.go:20", after := #[{ on := 3, ground := Go.Ground.data }], guard := none } : Oper)) rfl (fun K hK => ?_) (AllReady.cons (o := ({ dst := some 20, op := Go.Op.buildSlice 23 1 #[(0, Go.Operand.tmp 19)], type := 23, pos := "tops.go:20", after := #[{ on := 6, ground := Go.Ground.data }], guard := none } : Oper)) rfl (fun K hK => ?_) AllReady.nil))
        · have HK := Lib.hid hK
          clear hK
          have hcc : (w7).cell? ⟨b, 0, none⟩ = some vs := cell_of_row _ _ _ _ _ _ P7.row
          have hcd : (w7).cell? ⟨b, 0, none⟩ = some vs := hcc
          go_simp
          try clear hcc hcd
          refine HK.out _ _ ?_
          clear HK K
          try simp only [Act.put, List.setIfInBounds_toArray, List.set_cons_zero, List.set_cons_succ]
          refine wpAny_ready (rs := [7]) (by kernel_rfl) (by simp) ?_
          refine (AllReady.cons (o := ({ dst := some 20, op := Go.Op.buildSlice 23 1 #[(0, Go.Operand.tmp 19)], type := 23, pos := "tops.go:20", after := #[{ on := 6, ground := Go.Ground.data }], guard := none } : Oper)) rfl (fun K hK => ?_) AllReady.nil)
          have HK := Lib.hid hK
          clear hK
          rw [if_pos (by rfl)]
          refine wp_bs1 23 61 (.agg srZ) 3 Try.underlying23 infoSrz (by decide) (by decide) (c := c7) HC7.out (by rfl) ?_
          have P8 := P7.alloc (.cells (c7).toArray 61)
          have HX8 := Lib.hid (srE.keep HX7.out (w' := w7.alloc (.cells (c7).toArray 61)) (S' := fun k => w2.heap.size ≤ k ∧ k < (w7.alloc (.cells (c7).toArray 61)).heap.size) (fun k hk hl => ⟨⟨hk, by simp only [szA]; omega⟩, Below.heap_alloc _ _ _ hl⟩) (by simp))
          refine HK.out _ _ ?_
          clear HK K
          try simp only [Act.put, List.setIfInBounds_toArray, List.set_cons_zero, List.set_cons_succ]
          refine wpAny_ready (rs := [8]) (by kernel_rfl) (by simp) ?_
          refine (AllReady.cons (o := ({ dst := some 21, op := Go.Op.call { callee := Go.Callee.builtin Go.Builtin.append, args := #[Go.Operand.tmp 17, Go.Operand.tmp 20], argTypes := #[23, 23] }, type := 23, pos := "tops.go:20", after := #[{ on := 4, ground := Go.Ground.data }, { on := 7, ground := Go.Ground.data }, { on := 6, ground := Go.Ground.chain }], guard := none } : Oper)) rfl (fun K hK => ?_) AllReady.nil)
          have HK := Lib.hid hK
          clear hK
          obtain ⟨N, hN⟩ := P8.own
          obtain ⟨rows, hrl, how, hel⟩ := hN.s
          refine step_append_lies _ (by rfl) _ _ _ (by rfl) (b + 1) 61 i0 (.agg srZ) 3 48 Try.underlying23 hi0 hz0 hz1 hz2 rfl (by decide) vs p.ss.length rows.flatten (by rfl) how ⟨w7.heap.size, 0, none⟩ 1 1 (c7) (by rfl) (by rw [HC7.out]) (World.news_of_block (cs := (c7).toArray) (t := 61) (fr := (0, 0)) (heap_alloc_new (w7) _)) (HN7.out) (by omega) (by unfold maxLen; omega) (by omega) (Nat.succ_le_of_lt (lt_of_at P8.row)) _ rfl ?_
          intro ga ca w9 hown9 hgrow9 hat9 hlt9
          have hp := hN.pushS hrl hel how HX8.out (by omega) (fun k hk => P2.lt k hk) rfl hown9 hgrow9 hat9
          obtain ⟨hrow9, P9⟩ := P8.app (v' := .slice (some ⟨ga, 0, none⟩) (p.ss.length + 1) ca) how hgrow9 (by decide) (by decide) hp 0 rfl
          have HROW9 := Lib.hid hrow9
          clear hel how hrl hown9 hgrow9 hrow9 hp hN
          refine HK.out _ _ ?_
          clear HK K
          try simp only [Act.put, List.setIfInBounds_toArray, List.set_cons_zero, List.set_cons_succ]
          refine wpAny_take (i := 9) (oi := ({ dst := some 22, op := Go.Op.nilCheck (Go.Operand.tmp 13), type := 0, pos := "tops.go:20", after := #[{ on := 0, ground := Go.Ground.data }, { on := 0, ground := Go.Ground.phase }, { on := 1, ground := Go.Ground.phase }, { on := 2, ground := Go.Ground.phase }, { on := 3, ground := Go.Ground.phase }, { on := 4, ground := Go.Ground.phase }, { on := 5, ground := Go.Ground.phase }, { on := 6, ground := Go.Ground.phase }, { on := 7, ground := Go.Ground.phase }, { on := 8, ground := Go.Ground.phase }], guard := none } : Oper)) (v := .pointer (some ⟨b, 0, none⟩)) rfl (by kernel_rfl) (by kernel_rfl) (by kernel_rfl) (fun _ _ _ h => h) (Or.inl ⟨by rfl, ?hz8⟩) ?_
          case hz8 => ((intro W; go_simp); (try with_reducible rfl); (try exact ⟨rfl, rfl, rfl⟩))
          simp only [Act.put, List.setIfInBounds_toArray, List.set_cons_zero, List.set_cons_succ]
          refine wpAny_take (i := 10) (oi := ({ dst := some 23, op := Go.Op.fieldAddr 27 (Go.Operand.tmp 22) 0, type := 0, pos := "tops.go:20", after := #[{ on := 9, ground := Go.Ground.data }, { on := 0, ground := Go.Ground.phase }, { on := 1, ground := Go.Ground.phase }, { on := 2, ground := Go.Ground.phase }, { on := 3, ground := Go.Ground.phase }, { on := 4, ground := Go.Ground.phase }, { on := 5, ground := Go.Ground.phase }, { on := 6, ground := Go.Ground.phase }, { on := 7, ground := Go.Ground.phase }, { on := 8, ground := Go.Ground.phase }], guard := none } : Oper)) (v := .pointer (some ⟨b, 0, none⟩)) rfl (by kernel_rfl) (by kernel_rfl) (by kernel_rfl) (fun _ _ _ h => h) (Or.inl ⟨by rfl, ?hz9⟩) ?_
          case hz9 => ((intro W; go_simp); (try with_reducible rfl); (try exact ⟨rfl, rfl, rfl⟩))
          simp only [Act.put, List.setIfInBounds_toArray, List.set_cons_zero, List.set_cons_succ]
          refine wpAny_ready (rs := [11]) (by kernel_rfl) (by simp) ?_
          refine (AllReady.cons (o := ({ dst := none, op := Go.Op.store 23 (Go.Operand.tmp 23) (Go.Operand.tmp 21), type := 0, pos := "tops.go:20", after := #[{ on := 10, ground := Go.Ground.data }, { on := 8, ground := Go.Ground.data }, { on := 8, ground := Go.Ground.chain }, { on := 0, ground := Go.Ground.phase }, { on := 1, ground := Go.Ground.phase }, { on := 2, ground := Go.Ground.phase }, { on := 3, ground := Go.Ground.phase }, { on := 4, ground := Go.Ground.phase }, { on := 5, ground := Go.Ground.phase }, { on := 6, ground := Go.Ground.phase }, { on := 7, ground := Go.Ground.phase }, { on := 8, ground := Go.Ground.phase }], guard := none } : Oper)) rfl (fun K hK => ?_) AllReady.nil)
          have HK := Lib.hid hK
          clear hK
          have hcc : w9.cell? ⟨b, 0, none⟩ = some vs := cell_of_row _ _ _ _ _ _ HROW9.out
          have hff : w9.frozen? ⟨b, 0, none⟩ = false := frozen_of_row _ _ _ _ _ HROW9.out
          go_simp
          try clear hcc hff
          refine HK.out _ _ ?_
          clear HK K
          try simp only [Act.put, List.setIfInBounds_toArray, List.set_cons_zero, List.set_cons_succ]
          refine wpAny_done (by kernel_rfl) ?_ _
          go_wp2
          go_end0
          rw [HV.out]
          exact ⟨rfl, _, _, _, P9⟩
        · have HK := Lib.hid hK
          clear hK
          rw [if_pos (by rfl)]
          refine wp_bs1 23 61 (.agg srZ) 3 Try.underlying23 infoSrz (by decide) (by decide) (c := c7) HC7.out (by rfl) ?_
          have P8 := P7.alloc (.cells (c7).toArray 61)
          have HX8 := Lib.hid (srE.keep HX7.out (w' := w7.alloc (.cells (c7).toArray 61)) (S' := fun k => w2.heap.size ≤ k ∧ k < (w7.alloc (.cells (c7).toArray 61)).heap.size) (fun k hk hl => ⟨⟨hk, by simp only [szA]; omega⟩, Below.heap_alloc _ _ _ hl⟩) (by simp))
          refine HK.out _ _ ?_
          clear HK K
          try simp only [Act.put, List.setIfInBounds_toArray, List.set_cons_zero, List.set_cons_succ]
          refine wpAny_ready (rs := [4]) (by kernel_rfl) (by simp) ?_
          refine (AllReady.cons (o := ({ dst := some 17, op := Go.Op.load 23 (Go.Operand.tmp 16), type := 23, pos := "tops.go:20", after := #[{ on := 3, ground := Go.Ground.data }], guard := none } : Oper)) rfl (fun K hK => ?_) AllReady.nil)
          have HK := Lib.hid hK
          clear hK
          have hcc : ((w7).alloc (.cells (c7).toArray 61)).cell? ⟨b, 0, none⟩ = some vs := cell_of_row _ _ _ _ _ _ P8.row
          have hcd : ((w7).alloc (.cells (c7).toArray 61)).cell? ⟨b, 0, none⟩ = some vs := hcc
          go_simp
          try clear hcc hcd
          refine HK.out _ _ ?_
          clear HK K
          try simp only [Act.put, List.setIfInBounds_toArray, List.set_cons_zero, List.set_cons_succ]
          refine wpAny_ready (rs := [8]) (by kernel_rfl) (by simp) ?_
          refine (AllReady.cons (o := ({ dst := some 21, op := Go.Op.call { callee := Go.Callee.builtin Go.Builtin.append, args := #[Go.Operand.tmp 17, Go.Operand.tmp 20], argTypes := #[23, 23] }, type := 23, pos := "tops.go:20", after := #[{ on := 4, ground := Go.Ground.data }, { on := 7, ground := Go.Ground.data }, { on := 6, ground := Go.Ground.chain }], guard := none } : Oper)) rfl (fun K hK => ?_) AllReady.nil)
          have HK := Lib.hid hK
          clear hK
          obtain ⟨N, hN⟩ := P8.own
          obtain ⟨rows, hrl, how, hel⟩ := hN.s
          refine step_append_lies _ (by rfl) _ _ _ (by rfl) (b + 1) 61 i0 (.agg srZ) 3 48 Try.underlying23 hi0 hz0 hz1 hz2 rfl (by decide) vs p.ss.length rows.flatten (by rfl) how ⟨w7.heap.size, 0, none⟩ 1 1 (c7) (by rfl) (by rw [HC7.out]) (World.news_of_block (cs := (c7).toArray) (t := 61) (fr := (0, 0)) (heap_alloc_new (w7) _)) (HN7.out) (by omega) (by unfold maxLen; omega) (by omega) (Nat.succ_le_of_lt (lt_of_at P8.row)) _ rfl ?_
          intro ga ca w9 hown9 hgrow9 hat9 hlt9
          have hp := hN.pushS hrl hel how HX8.out (by omega) (fun k hk => P2.lt k hk) rfl hown9 hgrow9 hat9
          obtain ⟨hrow9, P9⟩ := P8.app (v' := .slice (some ⟨ga, 0, none⟩) (p.ss.length + 1) ca) how hgrow9 (by decide) (by decide) hp 0 rfl
          have HROW9 := Lib.hid hrow9
          clear hel how hrl hown9 hgrow9 hrow9 hp hN
          refine HK.out _ _ ?_
          clear HK K
          try simp only [Act.put, List.setIfInBounds_toArray, List.set_cons_zero, List.set_cons_succ]
          refine wpAny_take (i := 9) (oi := ({ dst := some 22, op := Go.Op.nilCheck (Go.Operand.tmp 13), type := 0, pos := "tops.go:20", after := #[{ on := 0, ground := Go.Ground.data }, { on := 0, ground := Go.Ground.phase }, { on := 1, ground := Go.Ground.phase }, { on := 2, ground := Go.Ground.phase }, { on := 3, ground := Go.Ground.phase }, { on := 4, ground := Go.Ground.phase }, { on := 5, ground := Go.Ground.phase }, { on := 6, ground := Go.Ground.phase }, { on := 7, ground := Go.Ground.phase }, { on := 8, ground := Go.Ground.phase }], guard := none } : Oper)) (v := .pointer (some ⟨b, 0, none⟩)) rfl (by kernel_rfl) (by kernel_rfl) (by kernel_rfl) (fun _ _ _ h => h) (Or.inl ⟨by rfl, ?hz10⟩) ?_
          case hz10 => ((intro W; go_simp); (try with_reducible rfl); (try exact ⟨rfl, rfl, rfl⟩))
          simp only [Act.put, List.setIfInBounds_toArray, List.set_cons_zero, List.set_cons_succ]
          refine wpAny_take (i := 10) (oi := ({ dst := some 23, op := Go.Op.fieldAddr 27 (Go.Operand.tmp 22) 0, type := 0, pos := "tops.go:20", after := #[{ on := 9, ground := Go.Ground.data }, { on := 0, ground := Go.Ground.phase }, { on := 1, ground := Go.Ground.phase }, { on := 2, ground := Go.Ground.phase }, { on := 3, ground := Go.Ground.phase }, { on := 4, ground := Go.Ground.phase }, { on := 5, ground := Go.Ground.phase }, { on := 6, ground := Go.Ground.phase }, { on := 7, ground := Go.Ground.phase }, { on := 8, ground := Go.Ground.phase }], guard := none } : Oper)) (v := .pointer (some ⟨b, 0, none⟩)) rfl (by kernel_rfl) (by kernel_rfl) (by kernel_rfl) (fun _ _ _ h => h) (Or.inl ⟨by rfl, ?hz11⟩) ?_
          case hz11 => ((intro W; go_simp); (try with_reducible rfl); (try exact ⟨rfl, rfl, rfl⟩))
          simp only [Act.put, List.setIfInBounds_toArray, List.set_cons_zero, List.set_cons_succ]
          refine wpAny_ready (rs := [11]) (by kernel_rfl) (by simp) ?_
          refine (AllReady.cons (o := ({ dst := none, op := Go.Op.store 23 (Go.Operand.tmp 23) (Go.Operand.tmp 21), type := 0, pos := "tops.go:20", after := #[{ on := 10, ground := Go.Ground.data }, { on := 8, ground := Go.Ground.data }, { on := 8, ground := Go.Ground.chain }, { on := 0, ground := Go.Ground.phase }, { on := 1, ground := Go.Ground.phase }, { on := 2, ground := Go.Ground.phase }, { on := 3, ground := Go.Ground.phase }, { on := 4, ground := Go.Ground.phase }, { on := 5, ground := Go.Ground.phase }, { on := 6, ground := Go.Ground.phase }, { on := 7, ground := Go.Ground.phase }, { on := 8, ground := Go.Ground.phase }], guard := none } : Oper)) rfl (fun K hK => ?_) AllReady.nil)
          have HK := Lib.hid hK
          clear hK
          have hcc : w9.cell? ⟨b, 0, none⟩ = some vs := cell_of_row _ _ _ _ _ _ HROW9.out
          have hff : w9.frozen? ⟨b, 0, none⟩ = false := frozen_of_row _ _ _ _ _ HROW9.out
          go_simp
          try clear hcc hff
          refine HK.out _ _ ?_
          clear HK K
          try simp only [Act.put, List.setIfInBounds_toArray, List.set_cons_zero, List.set_cons_succ]
          refine wpAny_done (by kernel_rfl) ?_ _
          go_wp2
          go_end0
          rw [HV.out]
          exact ⟨rfl, _, _, _, P9⟩
    · rw [if_neg (fun hh => ha hh.2)] at HV
      have q1 : ((s.ahead 2).tx.toList == [123]) = false := strNe [123] ha
      clear hi ha
      generalize s.ahead 2 = t at *
      go_wp2_with fail
      refine hah.mono ?_
      rintro e w2 ⟨rfl, b2⟩
      clear hah
      have P2 := P1.step (Fr.below b2) (P1.rd.below b2)
      have hb2 := lt_of_at P2.row
      clear h P1 b1 b2 hbw
      have hnm := named_any P2.rd
      have hnl := (named_lt P2.rd.ok).le
      have hnlen := hnl.len
      generalize (namedV s).1 = v at *
      generalize (namedV s).2 = s1 at *
      go_wp2_with fail
      refine hnm.mono ?_
      rintro e w3 ⟨rfl, h3, f3⟩
      clear hnm
      have P3 := P2.step f3 h3
      have h4 := h3.alloc (.cells (vaC v) 38)
      have FF4 := (Fr.refl [R] w3).alloc (.cells (vaC v) 38)
      have HB4 := Lib.hid (heap_alloc_new w3 (.cells (vaC v) 38))
      have z3 := f3.size
      have HZ4 := Lib.hid (szA w3 (.cells (vaC v) 38))
      clear f3 P2
      generalize hbv : w3.heap.size = bv at *
      have hta := take_any ⟨#[40]⟩ (by decide) h4
      cases hi : s1.is ⟨#[40]⟩ with
      | true =>
        rw [hi, if_pos rfl] at HV
        rw [hi, take_tl hi] at hta
        have hne := is_ne hi (by decide)
        have htl := (tl_ok hnl.ok hne).2
        clear hi
        go_wp2_with fail
        refine hta.mono ?_
        rintro e w5 ⟨rfl, h5, f5⟩
        clear hta
        have P5 := P3.step (FF4.trans f5) h5
        have HB5 := Lib.hid (f5.at_ HB4.out (by simp; omega))
        have z5 : bv + 1 ≤ w5.heap.size := by have := f5.size; rw [HZ4.out] at this; exact this
        have hexp := func_any (w := w5.drew) v (P5.rd.below ((Below.refl _ _).drew)) (by omega)
        generalize (funcV v s1.tl).1 = x at *
        generalize (funcV v s1.tl).2 = s2 at *
        have HEXP := Lib.hid hexp
        obtain ⟨i0, hi0, hz0, hz1, hz2⟩ := info_parts infoFn16
        clear hexp h5 f5 h4 FF4 P3 h3
        have PD := P5.step (w' := w5.drew) ((Fr.refl _ _).drew) (P5.rd.below ((Below.refl _ _).drew))
        go_wp2_with fail
        refine wp_any_drew (by kernel_rfl) ?_
        refine wpAny_take (i := 0) (oi := ({ dst := some 28, op := Go.Op.move (Go.Operand.tmp 1), type := 75, pos := "tops.go:25", after := #[], guard := none } : Oper)) (v := .pointer (some ⟨b, 0, none⟩)) rfl (by kernel_rfl) (by kernel_rfl) (by kernel_rfl) (fun _ _ _ h => h) (Or.inl ⟨by rfl, ?hz1⟩) ?_
        case hz1 => ((intro W; go_simp); (try with_reducible rfl); (try exact ⟨rfl, rfl, rfl⟩))
        simp only [Act.put, List.setIfInBounds_toArray, List.set_cons_zero, List.set_cons_succ]
        refine wpAny_take (i := 1) (oi := ({ dst := some 29, op := Go.Op.move (Go.Operand.tmp 1), type := 75, pos := "tops.go:25", after := #[], guard := none } : Oper)) (v := .pointer (some ⟨b, 0, none⟩)) rfl (by kernel_rfl) (by kernel_rfl) (by kernel_rfl) (fun _ _ _ h => h) (Or.inl ⟨by rfl, ?hz2⟩) ?_
        case hz2 => ((intro W; go_simp); (try with_reducible rfl); (try exact ⟨rfl, rfl, rfl⟩))
        simp only [Act.put, List.setIfInBounds_toArray, List.set_cons_zero, List.set_cons_succ]
        refine wpAny_take (i := 2) (oi := ({ dst := some 30, op := Go.Op.nilCheck (Go.Operand.tmp 29), type := 0, pos := "tops.go:25", after := #[{ on := 1, ground := Go.Ground.data }], guard := none } : Oper)) (v := .pointer (some ⟨b, 0, none⟩)) rfl (by kernel_rfl) (by kernel_rfl) (by kernel_rfl) (fun _ _ _ h => h) (Or.inl ⟨by rfl, ?hz3⟩) ?_
        case hz3 => ((intro W; go_simp); (try with_reducible rfl); (try exact ⟨rfl, rfl, rfl⟩))
        simp only [Act.put, List.setIfInBounds_toArray, List.set_cons_zero, List.set_cons_succ]
        refine wpAny_take (i := 3) (oi := ({ dst := some 31, op := Go.Op.fieldAddr 27 (Go.Operand.tmp 30) 2, type := 0, pos := "tops.go:25", after := #[{ on := 2, ground := Go.Ground.data }], guard := none } : Oper)) (v := .pointer (some ⟨b, 2, none⟩)) rfl (by kernel_rfl) (by kernel_rfl) (by kernel_rfl) (fun _ _ _ h => h) (Or.inl ⟨by rfl, ?hz4⟩) ?_
        case hz4 => ((intro W; go_simp); (try with_reducible rfl); (try exact ⟨rfl, rfl, rfl⟩))
        simp only [Act.put, List.setIfInBounds_toArray, List.set_cons_zero, List.set_cons_succ]
        refine wpAny_take (i := 5) (oi := ({ dst := some 33, op := Go.Op.move (Go.Operand.tmp 0), type := 73, pos := "tops.go:25", after := #[], guard := none } : Oper)) (v := .pointer (some ⟨R, 0, none⟩)) rfl (by kernel_rfl) (by kernel_rfl) (by kernel_rfl) (fun _ _ _ h => h) (Or.inl ⟨by rfl, ?hz5⟩) ?_
        case hz5 => ((intro W; go_simp); (try with_reducible rfl); (try exact ⟨rfl, rfl, rfl⟩))
        simp only [Act.put, List.setIfInBounds_toArray, List.set_cons_zero, List.set_cons_succ]
        refine wpAny_ready (rs := [4, 6]) (by kernel_rfl) (by simp) ?_
        refine (AllReady.cons (o := ({ dst := some 32, op := Go.Op.load 25 (Go.Operand.tmp 31), type := 25, pos := "tops.go:25", after := #[{ on := 3, ground := Go.Ground.data }], guard := none } : Oper)) rfl (fun K hK => ?_) (AllReady.cons (o := ({ dst := some 34, op := Go.Op.load 38 (Go.Operand.tmp 4), type := 38, pos := "tops.go:25", after := #[], guard := none } : Oper)) rfl (fun K hK => ?_) AllReady.nil))
        · have HK := Lib.hid hK
          clear hK
          have hcc : (w5.drew).cell? ⟨b, 2, none⟩ = some vf := cell_of_row _ _ _ _ _ _ PD.row
          have hcd : (w5).cell? ⟨b, 2, none⟩ = some vf := hcc
          go_simp
          try clear hcc hcd
          refine HK.out _ _ ?_
          clear HK K
          try simp only [Act.put, List.setIfInBounds_toArray, List.set_cons_zero, List.set_cons_succ]
          refine wpAny_ready (rs := [6]) (by kernel_rfl) (by simp) ?_
          refine (AllReady.cons (o := ({ dst := some 34, op := Go.Op.load 38 (Go.Operand.tmp 4), type := 38, pos := "tops.go:25", after := #[], guard := none } : Oper)) rfl (fun K hK => ?_) AllReady.nil)
          have HK := Lib.hid hK
          clear hK
          rw [if_pos (by rfl)]
          refine wp_load_row 38 _ rfl bv (by rfl) 38 (vaC v) (0, 0) _ HB5.out Try.underlying38 rfl sizeVa ?_
          refine HK.out _ _ ?_
          clear HK K
          try simp only [Act.put, List.setIfInBounds_toArray, List.set_cons_zero, List.set_cons_succ]
          refine wpAny_ready (rs := [7]) (by kernel_rfl) (by simp) ?_
          refine (AllReady.cons (o := ({ dst := some 35, op := Go.Op.call { callee := Go.Callee.value (Go.Operand.func 31), args := #[Go.Operand.tmp 33, Go.Operand.tmp 34], argTypes := #[73, 38] }, type := 42, pos := "tops.go:25", after := #[{ on := 5, ground := Go.Ground.data }, { on := 6, ground := Go.Ground.data }], guard := none } : Oper)) rfl (fun K hK => ?_) AllReady.nil)
          have HK := Lib.hid hK
          clear hK
          go_simp
          refine HEXP.out.mono ?_
          rintro e w7 ⟨c7, rfl, hc7, h7, f7⟩
          have z7 : w5.heap.size ≤ w7.heap.size := f7.size
          have HC7 : Hid (c7.length = 16) := Lib.hid (fnE.len hc7)
          have HN7 := Lib.hid (fnE.one hc7)
          have P7 := PD.step f7 h7
          have HX7 := Lib.hid hc7
          clear hc7 h7
          have HBV7 := Lib.hid (f7.at_ HB5.out (by simp; omega))
          try go_wp2_with fail
          refine HK.out _ _ ?_
          clear HK K
          try simp only [Act.put, List.setIfInBounds_toArray, List.set_cons_zero, List.set_cons_succ]
          refine wpAny_ready (rs := [8]) (by kernel_rfl) (by simp) ?_
          refine (AllReady.cons (o := ({ dst := some 36, op := Go.Op.buildSlice 25 1 #[(0, Go.Operand.tmp 35)], type := 25, pos := "tops.go:25", after := #[{ on := 7, ground := Go.Ground.data }], guard := none } : Oper)) rfl (fun K hK => ?_) AllReady.nil)
          have HK := Lib.hid hK
          clear hK
          rw [if_pos (by rfl)]
          refine wp_bs1 25 42 (.agg fnZ) 16 Try.underlying25 infoFnz (by decide) (by decide) (c := c7) HC7.out (by rfl) ?_
          have P8 := P7.alloc (.cells (c7).toArray 42)
          have HX8 := Lib.hid (fnE.keep HX7.out (w' := w7.alloc (.cells (c7).toArray 42)) (S' := fun k => w5.heap.size ≤ k ∧ k < (w7.alloc (.cells (c7).toArray 42)).heap.size) (fun k hk hl => ⟨⟨hk, by simp only [szA]; omega⟩, Below.heap_alloc _ _ _ hl⟩) (by simp))
          refine HK.out _ _ ?_
          clear HK K
          try simp only [Act.put, List.setIfInBounds_toArray, List.set_cons_zero, List.set_cons_succ]
          refine wpAny_ready (rs := [9]) (by kernel_rfl) (by simp) ?_
          refine (AllReady.cons (o := ({ dst := some 37, op := Go.Op.call { callee := Go.Callee.builtin Go.Builtin.append, args := #[Go.Operand.tmp 32, Go.Operand.tmp 36], argTypes := #[25, 25] }, type := 25, pos := "tops.go:25", after := #[{ on := 4, ground := Go.Ground.data }, { on := 8, ground := Go.Ground.data }, { on := 7, ground := Go.Ground.chain }], guard := none } : Oper)) rfl (fun K hK => ?_) AllReady.nil)
          have HK := Lib.hid hK
          clear hK
          obtain ⟨N, hN⟩ := P8.own
          obtain ⟨rows, hrl, how, hel⟩ := hN.f
          refine step_append_lies _ (by rfl) _ _ _ (by rfl) (b + 1) 42 i0 (.agg fnZ) 16 208 Try.underlying25 hi0 hz0 hz1 hz2 rfl (by decide) vf p.fs.length rows.flatten (by rfl) how ⟨w7.heap.size, 0, none⟩ 1 1 (c7) (by rfl) (by rw [HC7.out]) (World.news_of_block (cs := (c7).toArray) (t := 42) (fr := (0, 0)) (heap_alloc_new (w7) _)) (HN7.out) (by omega) (by unfold maxLen; omega) (by omega) (Nat.succ_le_of_lt (lt_of_at P8.row)) _ rfl ?_
          intro ga ca w9 hown9 hgrow9 hat9 hlt9
          have hp := hN.pushF hrl hel how HX8.out (by omega) (fun k hk => P5.lt k hk) rfl hown9 hgrow9 hat9
          obtain ⟨hrow9, P9⟩ := P8.app (v' := .slice (some ⟨ga, 0, none⟩) (p.fs.length + 1) ca) how hgrow9 (by decide) (by decide) hp 2 rfl
          have HROW9 := Lib.hid hrow9
          clear hel how hrl hown9 hgrow9 hrow9 hp hN
          refine HK.out _ _ ?_
          clear HK K
          try simp only [Act.put, List.setIfInBounds_toArray, List.set_cons_zero, List.set_cons_succ]
          refine wpAny_take (i := 10) (oi := ({ dst := some 38, op := Go.Op.nilCheck (Go.Operand.tmp 28), type := 0, pos := "tops.go:25", after := #[{ on := 0, ground := Go.Ground.data }, { on := 0, ground := Go.Ground.phase }, { on := 1, ground := Go.Ground.phase }, { on := 2, ground := Go.Ground.phase }, { on := 3, ground := Go.Ground.phase }, { on := 4, ground := Go.Ground.phase }, { on := 5, ground := Go.Ground.phase }, { on := 6, ground := Go.Ground.phase }, { on := 7, ground := Go.Ground.phase }, { on := 8, ground := Go.Ground.phase }, { on := 9, ground := Go.Ground.phase }], guard := none } : Oper)) (v := .pointer (some ⟨b, 0, none⟩)) rfl (by kernel_rfl) (by kernel_rfl) (by kernel_rfl) (fun _ _ _ h => h) (Or.inl ⟨by rfl, ?hz6⟩) ?_
          case hz6 => ((intro W; go_simp); (try with_reducible rfl); (try exact ⟨rfl, rfl, rfl⟩))
          simp only [Act.put, List.setIfInBounds_toArray, List.set_cons_zero, List.set_cons_succ]
          refine wpAny_take (i := 11) (oi := ({ dst := some 39, op := Go.Op.fieldAddr 27 (Go.Operand.tmp 38) 2, type := 0, pos := "tops.go:25", after := #[{ on := 10, ground := Go.Ground.data }, { on := 0, ground := Go.Ground.phase }, { on := 1, ground := Go.Ground.phase }, { on := 2, ground := Go.Ground.phase }, { on := 3, ground := Go.Ground.phase }, { on := 4, ground := Go.Ground.phase }, { on := 5, ground := Go.Ground.phase }, { on := 6, ground := Go.Ground.phase }, { on := 7, ground := Go.Ground.phase }, { on := 8, ground := Go.Ground.phase }, { on := 9, ground := Go.Ground.phase }], guard := none } : Oper)) (v := .pointer (some ⟨b, 2, none⟩)) rfl (by kernel_rfl) (by kernel_rfl) (by kernel_rfl) (fun _ _ _ h => h) (Or.inl ⟨by rfl, ?hz7⟩) ?_
          case hz7 => ((intro W; go_simp); (try with_reducible rfl); (try exact ⟨rfl, rfl, rfl⟩))
          simp only [Act.put, List.setIfInBounds_toArray, List.set_cons_zero, List.set_cons_succ]
          refine wpAny_ready (rs := [12]) (by kernel_rfl) (by simp) ?_
          refine (AllReady.cons (o := ({ dst := none, op := Go.Op.store 25 (Go.Operand.tmp 39) (Go.Operand.tmp 37), type := 0, pos := "tops.go:25", after := #[{ on := 11, ground := Go.Ground.data }, { on := 9, ground := Go.Ground.data }, { on := 9, ground := Go.Ground.chain }, { on := 0, ground := Go.Ground.phase }, { on := 1, ground := Go.Ground.phase }, { on := 2, ground := Go.Ground.phase }, { on := 3, ground := Go.Ground.phase }, { on := 4, ground := Go.Ground.phase }, { on := 5, ground := Go.Ground.phase }, { on := 6, ground := Go.Ground.phase }, { on := 7, ground := Go.Ground.phase }, { on := 8, ground := Go.Ground.phase }, { on := 9, ground := Go.Ground.phase }], guard := none } : Oper)) rfl (fun K hK => ?_) AllReady.nil)
          have HK := Lib.hid hK
          clear hK
          have hcc : w9.cell? ⟨b, 2, none⟩ = some vf := cell_of_row _ _ _ _ _ _ HROW9.out
          have hff : w9.frozen? ⟨b, 2, none⟩ = false := frozen_of_row _ _ _ _ _ HROW9.out
          go_simp
          try clear hcc hff
          refine HK.out _ _ ?_
          clear HK K
          try simp only [Act.put, List.setIfInBounds_toArray, List.set_cons_zero, List.set_cons_succ]
          refine wpAny_done (by kernel_rfl) ?_ _
          go_wp2
          go_end0
          rw [HV.out]
          exact ⟨rfl, _, _, _, P9⟩
        · have HK := Lib.hid hK
          clear hK
          rw [if_pos (by rfl)]
          refine wp_load_row 38 _ rfl bv (by rfl) 38 (vaC v) (0, 0) _ HB5.out Try.underlying38 rfl sizeVa ?_
          refine HK.out _ _ ?_
          clear HK K
          try simp only [Act.put, List.setIfInBounds_toArray, List.set_cons_zero, List.set_cons_succ]
          refine wpAny_ready (rs := [4, 7]) (by kernel_rfl) (by simp) ?_
          refine (AllReady.cons (o := ({ dst := some 32, op := Go.Op.load 25 (Go.Operand.tmp 31), type := 25, pos := "tops.go:25", after := #[{ on := 3, ground := Go.Ground.data }], guard := none } : Oper)) rfl (fun K hK => ?_) (AllReady.cons (o := ({ dst := some 35, op := Go.Op.call { callee := Go.Callee.value (Go.Operand.func 31), args := #[Go.Operand.tmp 33, Go.Operand.tmp 34], argTypes := #[73, 38] }, type := 42, pos := "tops.go:25", after := #[{ on := 5, ground := Go.Ground.data }, { on := 6, ground := Go.Ground.data }], guard := none } : Oper)) rfl (fun K hK => ?_) AllReady.nil))
          · have HK := Lib.hid hK
            clear hK
            have hcc : (w5.drew).cell? ⟨b, 2, none⟩ = some vf := cell_of_row _ _ _ _ _ _ PD.row
            have hcd : (w5).cell? ⟨b, 2, none⟩ = some vf := hcc
            go_simp
            try clear hcc hcd
            refine HK.out _ _ ?_
            clear HK K
            try simp only [Act.put, List.setIfInBounds_toArray, List.set_cons_zero, List.set_cons_succ]
            refine wpAny_ready (rs := [7]) (by kernel_rfl) (by simp) ?_
            refine (AllReady.cons (o := ({ dst := some 35, op := Go.Op.call { callee := Go.Callee.value (Go.Operand.func 31), args := #[Go.Operand.tmp 33, Go.Operand.tmp 34], argTypes := #[73, 38] }, type := 42, pos := "tops.go:25", after := #[{ on := 5, ground := Go.Ground.data }, { on := 6, ground := Go.Ground.data }], guard := none } : Oper)) rfl (fun K hK => ?_) AllReady.nil)
            have HK := Lib.hid hK
            clear hK
            go_simp
            refine HEXP.out.mono ?_
            rintro e w7 ⟨c7, rfl, hc7, h7, f7⟩
            have z7 : w5.heap.size ≤ w7.heap.size := f7.size
            have HC7 : Hid (c7.length = 16) := Lib.hid (fnE.len hc7)
            have HN7 := Lib.hid (fnE.one hc7)
            have P7 := PD.step f7 h7
            have HX7 := Lib.hid hc7
            clear hc7 h7
            have HBV7 := Lib.hid (f7.at_ HB5.out (by simp; omega))
            try go_wp2_with fail
            refine HK.out _ _ ?_
            clear HK K
            try simp only [Act.put, List.setIfInBounds_toArray, List.set_cons_zero, List.set_cons_succ]
            refine wpAny_ready (rs := [8]) (by kernel_rfl) (by simp) ?_
            refine (AllReady.cons (o := ({ dst := some 36, op := Go.Op.buildSlice 25 1 #[(0, Go.Operand.tmp 35)], type := 25, pos := "tops.go:25", after := #[{ on := 7, ground := Go.Ground.data }], guard := none } : Oper)) rfl (fun K hK => ?_) AllReady.nil)
            have HK := Lib.hid hK
            clear hK
            rw [if_pos (by rfl)]
            refine wp_bs1 25 42 (.agg fnZ) 16 Try.underlying25 infoFnz (by decide) (by decide) (c := c7) HC7.out (by rfl) ?_
            have P8 := P7.alloc (.cells (c7).toArray 42)
            have HX8 := Lib.hid (fnE.keep HX7.out (w' := w7.alloc (.cells (c7).toArray 42)) (S' := fun k => w5.heap.size ≤ k ∧ k < (w7.alloc (.cells (c7).toArray 42)).heap.size) (fun k hk hl => ⟨⟨hk, by simp only [szA]; omega⟩, Below.heap_alloc _ _ _ hl⟩) (by simp))
            refine HK.out _ _ ?_
            clear HK K
            try simp only [Act.put, List.setIfInBounds_toArray, List.set_cons_zero, List.set_cons_succ]
            refine wpAny_ready (rs := [9]) (by kernel_rfl) (by simp) ?_
            refine (AllReady.cons (o := ({ dst := some 37, op := Go.Op.call { callee := Go.Callee.builtin Go.Builtin.append, args := #[Go.Operand.tmp 32, Go.Operand.tmp 36], argTypes := #[25, 25] }, type := 25, pos := "tops.go:25", after := #[{ on := 4, ground := Go.Ground.data }, { on := 8, ground := Go.Ground.data }, { on := 7, ground := Go.Ground.chain }], guard := none } : Oper)) rfl (fun K hK => ?_) AllReady.nil)
            have HK := Lib.hid hK
            clear hK
            obtain ⟨N, hN⟩ := P8.own
            obtain ⟨rows, hrl, how, hel⟩ := hN.f
            refine step_append_lies _ (by rfl) _ _ _ (by rfl) (b + 1) 42 i0 (.agg fnZ) 16 208 Try.underlying25 hi0 hz0 hz1 hz2 rfl (by decide) vf p.fs.length rows.flatten (by rfl) how ⟨w7.heap.size, 0, none⟩ 1 1 (c7) (by rfl) (by rw [HC7.out]) (World.news_of_block (cs := (c7).toArray) (t := 42) (fr := (0, 0)) (heap_alloc_new (w7) _)) (HN7.out) (by omega) (by unfold maxLen; omega) (by omega) (Nat.succ_le_of_lt (lt_of_at P8.row)) _ rfl ?_
            intro ga ca w9 hown9 hgrow9 hat9 hlt9
            have hp := hN.pushF hrl hel how HX8.out (by omega) (fun k hk => P5.lt k hk) rfl hown9 hgrow9 hat9
            obtain ⟨hrow9, P9⟩ := P8.app (v' := .slice (some ⟨ga, 0, none⟩) (p.fs.length + 1) ca) how hgrow9 (by decide) (by decide) hp 2 rfl
            have HROW9 := Lib.hid hrow9
            clear hel how hrl hown9 hgrow9 hrow9 hp hN
            refine HK.out _ _ ?_
            clear HK K
            try simp only [Act.put, List.setIfInBounds_toArray, List.set_cons_zero, List.set_cons_succ]
            refine wpAny_take (i := 10) (oi := ({ dst := some 38, op := Go.Op.nilCheck (Go.Operand.tmp 28), type := 0, pos := "tops.go:25", after := #[{ on := 0, ground := Go.Ground.data }, { on := 0, ground := Go.Ground.phase }, { on := 1, ground := Go.Ground.phase }, { on := 2, ground := Go.Ground.phase }, { on := 3, ground := Go.Ground.phase }, { on := 4, ground := Go.Ground.phase }, { on := 5, ground := Go.Ground.phase }, { on := 6, ground := Go.Ground.phase }, { on := 7, ground := Go.Ground.phase }, { on := 8, ground := Go.Ground.phase }, { on := 9, ground := Go.Ground.phase }], guard := none } : Oper)) (v := .pointer (some ⟨b, 0, none⟩)) rfl (by kernel_rfl) (by kernel_rfl) (by kernel_rfl) (fun _ _ _ h => h) (Or.inl ⟨by rfl, ?hz8⟩) ?_
            case hz8 => ((intro W; go_simp); (try with_reducible rfl); (try exact ⟨rfl, rfl, rfl⟩))
            simp only [Act.put, List.setIfInBounds_toArray, List.set_cons_zero, List.set_cons_succ]
            refine wpAny_take (i := 11) (oi := ({ dst := some 39, op := Go.Op.fieldAddr 27 (Go.Operand.tmp 38) 2, type := 0, pos := "tops.go:25", after := #[{ on := 10, ground := Go.Ground.data }, { on := 0, ground := Go.Ground.phase }, { on := 1, ground := Go.Ground.phase }, { on := 2, ground := Go.Ground.phase }, { on := 3, ground := Go.Ground.phase }, { on := 4, ground := Go.Ground.phase }, { on := 5, ground := Go.Ground.phase }, { on := 6, ground := Go.Ground.phase }, { on := 7, ground := Go.Ground.phase }, { on := 8, ground := Go.Ground.phase }, { on := 9, ground := Go.Ground.phase }], guard := none } : Oper)) (v := .pointer (some ⟨b, 2, none⟩)) rfl (by kernel_rfl) (by kernel_rfl) (by kernel_rfl) (fun _ _ _ h => h) (Or.inl ⟨by rfl, ?hz9⟩) ?_
            case hz9 => ((intro W; go_simp); (try with_reducible rfl); (try exact ⟨rfl, rfl, rfl⟩))
            simp only [Act.put, List.setIfInBounds_toArray, List.set_cons_zero, List.set_cons_succ]
            refine wpAny_ready (rs := [12]) (by kernel_rfl) (by simp) ?_
            refine (AllReady.cons (o := ({ dst := none, op := Go.Op.store 25 (Go.Operand.tmp 39) (Go.Operand.tmp 37), type := 0, pos := "tops.go:25", after := #[{ on := 11, ground := Go.Ground.data }, { on := 9, ground := Go.Ground.data }, { on := 9, ground := Go.Ground.chain }, { on := 0, ground := Go.Ground.phase }, { on := 1, ground := Go.Ground.phase }, { on := 2, ground := Go.Ground.phase }, { on := 3, ground := Go.Ground.phase }, { on := 4, ground := Go.Ground.phase }, { on := 5, ground := Go.Ground.phase }, { on := 6, ground := Go.Ground.phase }, { on := 7, ground := Go.Ground.phase }, { on := 8, ground := Go.Ground.phase }, { on := 9, ground := Go.Ground.phase }], guard := none } : Oper)) rfl (fun K hK => ?_) AllReady.nil)
            have HK := Lib.hid hK
            clear hK
            have hcc : w9.cell? ⟨b, 2, none⟩ = some vf := cell_of_row _ _ _ _ _ _ HROW9.out
            have hff : w9.frozen? ⟨b, 2, none⟩ = false := frozen_of_row _ _ _ _ _ HROW9.out
            go_simp
            try clear hcc hff
            refine HK.out _ _ ?_
            clear HK K
            try simp only [Act.put, List.setIfInBounds_toArray, List.set_cons_zero, List.set_cons_succ]
            refine wpAny_done (by kernel_rfl) ?_ _
            go_wp2
            go_end0
            rw [HV.out]
            exact ⟨rfl, _, _, _, P9⟩
          · have HK := Lib.hid hK
            clear hK
            go_simp
            refine HEXP.out.mono ?_
            rintro e w7 ⟨c7, rfl, hc7, h7, f7⟩
            have z7 : w5.heap.size ≤ w7.heap.size := f7.size
            have HC7 : Hid (c7.length = 16) := Lib.hid (fnE.len hc7)
            have HN7 := Lib.hid (fnE.one hc7)
            have P7 := PD.step f7 h7
            have HX7 := Lib.hid hc7
            clear hc7 h7
            have HBV7 := Lib.hid (f7.at_ HB5.out (by simp; omega))
            try go_wp2_with fail
            refine HK.out _ _ ?_
            clear HK K
            try simp only [Act.put, List.setIfInBounds_toArray, List.set_cons_zero, List.set_cons_succ]
            refine wpAny_ready (rs := [4, 8]) (by kernel_rfl) (by simp) ?_
            refine (AllReady.cons (o := ({ dst := some 32, op := Go.Op.load 25 (Go.Operand.tmp 31), type := 25, pos := "tops.go:25", after := #[{ on := 3, ground := Go.Ground.data }], guard := none } : Oper)) rfl (fun K hK => ?_) (AllReady.cons (o := ({ dst := some 36, op := Go.Op.buildSlice 25 1 #[(0, Go.Operand.tmp 35)], type := 25, pos := "tops.go:25", after := #[{ on := 7, ground := Go.Ground.data }], guard := none } : Oper)) rfl (fun K hK => ?_) AllReady.nil))
            · have HK := Lib.hid hK
              clear hK
              have hcc : (w7).cell? ⟨b, 2, none⟩ = some vf := cell_of_row _ _ _ _ _ _ P7.row
              have hcd : (w7).cell? ⟨b, 2, none⟩ = some vf := hcc
              go_simp
              try clear hcc hcd
              refine HK.out _ _ ?_
              clear HK K
              try simp only [Act.put, List.setIfInBounds_toArray, List.set_cons_zero, List.set_cons_succ]
              refine wpAny_ready (rs := [8]) (by kernel_rfl) (by simp) ?_
              refine (AllReady.cons (o := ({ dst := some 36, op := Go.Op.buildSlice 25 1 #[(0, Go.Operand.tmp 35)], type := 25, pos := "tops.go:25", after := #[{ on := 7, ground := Go.Ground.data }], guard := none } : Oper)) rfl (fun K hK => ?_) AllReady.nil)
              have HK := Lib.hid hK
              clear hK
              rw [if_pos (by rfl)]
              refine wp_bs1 25 42 (.agg fnZ) 16 Try.underlying25 infoFnz (by decide) (by decide) (c := c7) HC7.out (by rfl) ?_
              have P8 := P7.alloc (.cells (c7).toArray 42)
              have HX8 := Lib.hid (fnE.keep HX7.out (w' := w7.alloc (.cells (c7).toArray 42)) (S' := fun k => w5.heap.size ≤ k ∧ k < (w7.alloc (.cells (c7).toArray 42)).heap.size) (fun k hk hl => ⟨⟨hk, by simp only [szA]; omega⟩, Below.heap_alloc _ _ _ hl⟩) (by simp))
              refine HK.out _ _ ?_
              clear HK K
              try simp only [Act.put, List.setIfInBounds_toArray, List.set_cons_zero, List.set_cons_succ]
              refine wpAny_ready (rs := [9]) (by kernel_rfl) (by simp) ?_
              refine (AllReady.cons (o := ({ dst := some 37, op := Go.Op.call { callee := Go.Callee.builtin Go.Builtin.append, args := #[Go.Operand.tmp 32, Go.Operand.tmp 36], argTypes := #[25, 25] }, type := 25, pos := "tops.go:25", after := #[{ on := 4, ground := Go.Ground.data }, { on := 8, ground := Go.Ground.data }, { on := 7, ground := Go.Ground.chain }], guard := none } : Oper)) rfl (fun K hK => ?_) AllReady.nil)
              have HK := Lib.hid hK
              clear hK
              obtain ⟨N, hN⟩ := P8.own
              obtain ⟨rows, hrl, how, hel⟩ := hN.f
              refine step_append_lies _ (by rfl) _ _ _ (by rfl) (b + 1) 42 i0 (.agg fnZ) 16 208 Try.underlying25 hi0 hz0 hz1 hz2 rfl (by decide) vf p.fs.length rows.flatten (by rfl) how ⟨w7.heap.size, 0, none⟩ 1 1 (c7) (by rfl) (by rw [HC7.out]) (World.news_of_block (cs := (c7).toArray) (t := 42) (fr := (0, 0)) (heap_alloc_new (w7) _)) (HN7.out) (by omega) (by unfold maxLen; omega) (by omega) (Nat.succ_le_of_lt (lt_of_at P8.row)) _ rfl ?_
              intro ga ca w9 hown9 hgrow9 hat9 hlt9
              have hp := hN.pushF hrl hel how HX8.out (by omega) (fun k hk => P5.lt k hk) rfl hown9 hgrow9 hat9
              obtain ⟨hrow9, P9⟩ := P8.app (v' := .slice (some ⟨ga, 0, none⟩) (p.fs.length + 1) ca) how hgrow9 (by decide) (by decide) hp 2 rfl
              have HROW9 := Lib.hid hrow9
              clear hel how hrl hown9 hgrow9 hrow9 hp hN
              refine HK.out _ _ ?_
              clear HK K
              try simp only [Act.put, List.setIfInBounds_toArray, List.set_cons_zero, List.set_cons_succ]
              refine wpAny_take (i := 10) (oi := ({ dst := some 38, op := Go.Op.nilCheck (Go.Operand.tmp 28), type := 0, pos := "tops.go:25", after := #[{ on := 0, ground := Go.Ground.data }, { on := 0, ground := Go.Ground.phase }, { on := 1, ground := Go.Ground.phase }, { on := 2, ground := Go.Ground.phase }, { on := 3, ground := Go.Ground.phase }, { on := 4, ground := Go.Ground.phase }, { on := 5, ground := Go.Ground.phase }, { on := 6, ground := Go.Ground.phase }, { on := 7, ground := Go.Ground.phase }, { on := 8, ground := Go.Ground.phase }, { on := 9, ground := Go.Ground.phase }], guard := none } : Oper)) (v := .pointer (some ⟨b, 0, none⟩)) rfl (by kernel_rfl) (by kernel_rfl) (by kernel_rfl) (fun _ _ _ h => h) (Or.inl ⟨by rfl, ?hz10⟩) ?_
              case hz10 => ((intro W; go_simp); (try with_reducible rfl); (try exact ⟨rfl, rfl, rfl⟩))
              simp only [Act.put, List.setIfInBounds_toArray, List.set_cons_zero, List.set_cons_succ]
              refine wpAny_take (i := 11) (oi := ({ dst := some 39, op := Go.Op.fieldAddr 27 (Go.Operand.tmp 38) 2, type := 0, pos := "tops.go:25", after := #[{ on := 10, ground := Go.Ground.data }, { on := 0, ground := Go.Ground.phase }, { on := 1, ground := Go.Ground.phase }, { on := 2, ground := Go.Ground.phase }, { on := 3, ground := Go.Ground.phase }, { on := 4, ground := Go.Ground.phase }, { on := 5, ground := Go.Ground.phase }, { on := 6, ground := Go.Ground.phase }, { on := 7, ground := Go.Ground.phase }, { on := 8, ground := Go.Ground.phase }, { on := 9, ground := Go.Ground.phase }], guard := none } : Oper)) (v := .pointer (some ⟨b, 2, none⟩)) rfl (by kernel_rfl) (by kernel_rfl) (by kernel_rfl) (fun _ _ _ h => h) (Or.inl ⟨by rfl, ?hz11⟩) ?_
              case hz11 => ((intro W; go_simp); (try with_reducible rfl); (try exact ⟨rfl, rfl, rfl⟩))
              simp only [Act.put, List.setIfInBounds_toArray, List.set_cons_zero, List.set_cons_succ]
              refine wpAny_ready (rs := [12]) (by kernel_rfl) (by simp) ?_
              refine (AllReady.cons (o := ({ dst := none, op := Go.Op.store 25 (Go.Operand.tmp 39) (Go.Operand.tmp 37), type := 0, pos := "tops.go:25", after := #[{ on := 11, ground := Go.Ground.data }, { on := 9, ground := Go.Ground.data }, { on := 9, ground := Go.Ground.chain }, { on := 0, ground := Go.Ground.phase }, { on := 1, ground := Go.Ground.phase }, { on := 2, ground := Go.Ground.phase }, { on := 3, ground := Go.Ground.phase }, { on := 4, ground := Go.Ground.phase }, { on := 5, ground := Go.Ground.phase }, { on := 6, ground := Go.Ground.phase }, { on := 7, ground := Go.Ground.phase }, { on := 8, ground := Go.Ground.phase }, { on := 9, ground := Go.Ground.phase }], guard := none } : Oper)) rfl (fun K hK => ?_) AllReady.nil)
              have HK := Lib.hid hK
              clear hK
              have hcc : w9.cell? ⟨b, 2, none⟩ = some vf := cell_of_row _ _ _ _ _ _ HROW9.out
              have hff : w9.frozen? ⟨b, 2, none⟩ = false := frozen_of_row _ _ _ _ _ HROW9.out
              go_simp
              try clear hcc hff
              refine HK.out _ _ ?_
              clear HK K
              try simp only [Act.put, List.setIfInBounds_toArray, List.set_cons_zero, List.set_cons_succ]
              refine wpAny_done (by kernel_rfl) ?_ _
              go_wp2
              go_end0
              rw [HV.out]
              exact ⟨rfl, _, _, _, P9⟩
            · have HK := Lib.hid hK
              clear hK
              rw [if_pos (by rfl)]
              refine wp_bs1 25 42 (.agg fnZ) 16 Try.underlying25 infoFnz (by decide) (by decide) (c := c7) HC7.out (by rfl) ?_
              have P8 := P7.alloc (.cells (c7).toArray 42)
              have HX8 := Lib.hid (fnE.keep HX7.out (w' := w7.alloc (.cells (c7).toArray 42)) (S' := fun k => w5.heap.size ≤ k ∧ k < (w7.alloc (.cells (c7).toArray 42)).heap.size) (fun k hk hl => ⟨⟨hk, by simp only [szA]; omega⟩, Below.heap_alloc _ _ _ hl⟩) (by simp))
              refine HK.out _ _ ?_
              clear HK K
              try simp only [Act.put, List.setIfInBounds_toArray, List.set_cons_zero, List.set_cons_succ]
              refine wpAny_ready (rs := [4]) (by kernel_rfl) (by simp) ?_
              refine (AllReady.cons (o := ({ dst := some 32, op := Go.Op.load 25 (Go.Operand.tmp 31), type := 25, pos := "tops.go:25", after := #[{ on := 3, ground := Go.Ground.data }], guard := none } : Oper)) rfl (fun K hK => ?_) AllReady.nil)
              have HK := Lib.hid hK
              clear hK
              have hcc : ((w7).alloc (.cells (c7).toArray 42)).cell? ⟨b, 2, none⟩ = some vf := cell_of_row _ _ _ _ _ _ P8.row
              have hcd : ((w7).alloc (.cells (c7).toArray 42)).cell? ⟨b, 2, none⟩ = some vf := hcc
              go_simp
              try clear hcc hcd
              refine HK.out _ _ ?_
              clear HK K
              try simp only [Act.put, List.setIfInBounds_toArray, List.set_cons_zero, List.set_cons_succ]
              refine wpAny_ready (rs := [9]) (by kernel_rfl) (by simp) ?_
              refine (AllReady.cons (o := ({ dst := some 37, op := Go.Op.call { callee := Go.Callee.builtin Go.Builtin.append, args := #[Go.Operand.tmp 32, Go.Operand.tmp 36], argTypes := #[25, 25] }, type := 25, pos := "tops.go:25", after := #[{ on := 4, ground := Go.Ground.data }, { on := 8, ground := Go.Ground.data }, { on := 7, ground := Go.Ground.chain }], guard := none } : Oper)) rfl (fun K hK => ?_) AllReady.nil)
              have HK := Lib.hid hK
              clear hK
              obtain ⟨N, hN⟩ := P8.own
              obtain ⟨rows, hrl, how, hel⟩ := hN.f
              refine step_append_lies _ (by rfl) _ _ _ (by rfl) (b + 1) 42 i0 (.agg fnZ) 16 208 Try.underlying25 hi0 hz0 hz1 hz2 rfl (by decide) vf p.fs.length rows.flatten (by rfl) how ⟨w7.heap.size, 0, none⟩ 1 1 (c7) (by rfl) (by rw [HC7.out]) (World.news_of_block (cs := (c7).toArray) (t := 42) (fr := (0, 0)) (heap_alloc_new (w7) _)) (HN7.out) (by omega) (by unfold maxLen; omega) (by omega) (Nat.succ_le_of_lt (lt_of_at P8.row)) _ rfl ?_
              intro ga ca w9 hown9 hgrow9 hat9 hlt9
              have hp := hN.pushF hrl hel how HX8.out (by omega) (fun k hk => P5.lt k hk) rfl hown9 hgrow9 hat9
              obtain ⟨hrow9, P9⟩ := P8.app (v' := .slice (some ⟨ga, 0, none⟩) (p.fs.length + 1) ca) how hgrow9 (by decide) (by decide) hp 2 rfl
              have HROW9 := Lib.hid hrow9
              clear hel how hrl hown9 hgrow9 hrow9 hp hN
              refine HK.out _ _ ?_
              clear HK K
              try simp only [Act.put, List.setIfInBounds_toArray, List.set_cons_zero, List.set_cons_succ]
              refine wpAny_take (i := 10) (oi := ({ dst := some 38, op := Go.Op.nilCheck (Go.Operand.tmp 28), type := 0, pos := "tops.go:25", after := #[{ on := 0, ground := Go.Ground.data }, { on := 0, ground := Go.Ground.phase }, { on := 1, ground := Go.Ground.phase }, { on := 2, ground := Go.Ground.phase }, { on := 3, ground := Go.Ground.phase }, { on := 4, ground := Go.Ground.phase }, { on := 5, ground := Go.Ground.phase }, { on := 6, ground := Go.Ground.phase }, { on := 7, ground := Go.Ground.phase }, { on := 8, ground := Go.Ground.phase }, { on := 9, ground := Go.Ground.phase }], guard := none } : Oper)) (v := .pointer (some ⟨b, 0, none⟩)) rfl (by kernel_rfl) (by kernel_rfl) (by kernel_rfl) (fun _ _ _ h => h) (Or.inl ⟨by rfl, ?hz12⟩) ?_
              case hz12 => ((intro W; go_simp); (try with_reducible rfl); (try exact ⟨rfl, rfl, rfl⟩))
              simp only [Act.put, List.setIfInBounds_toArray, List.set_cons_zero, List.set_cons_succ]
              refine wpAny_take (i := 11) (oi := ({ dst := some 39, op := Go.Op.fieldAddr 27 (Go.Operand.tmp 38) 2, type := 0, pos := "tops.go:25", after := #[{ on := 10, ground := Go.Ground.data }, { on := 0, ground := Go.Ground.phase }, { on := 1, ground := Go.Ground.phase }, { on := 2, ground := Go.Ground.phase }, { on := 3, ground := Go.Ground.phase }, { on := 4, ground := Go.Ground.phase }, { on := 5, ground := Go.Ground.phase }, { on := 6, ground := Go.Ground.phase }, { on := 7, ground := Go.Ground.phase }, { on := 8, ground := Go.Ground.phase }, { on := 9, ground := Go.Ground.phase }], guard := none } : Oper)) (v := .pointer (some ⟨b, 2, none⟩)) rfl (by kernel_rfl) (by kernel_rfl) (by kernel_rfl) (fun _ _ _ h => h) (Or.inl ⟨by rfl, ?hz13⟩) ?_
              case hz13 => ((intro W; go_simp); (try with_reducible rfl); (try exact ⟨rfl, rfl, rfl⟩))
              simp only [Act.put, List.setIfInBounds_toArray, List.set_cons_zero, List.set_cons_succ]
              refine wpAny_ready (rs := [12]) (by kernel_rfl) (by simp) ?_
              refine (AllReady.cons (o := ({ dst := none, op := Go.Op.store 25 (Go.Operand.tmp 39) (Go.Operand.tmp 37), type := 0, pos := "tops.go:25", after := #[{ on := 11, ground := Go.Ground.data }, { on := 9, ground := Go.Ground.data }, { on := 9, ground := Go.Ground.chain }, { on := 0, ground := Go.Ground.phase }, { on := 1, ground := Go.Ground.phase }, { on := 2, ground := Go.Ground.phase }, { on := 3, ground := Go.Ground.phase }, { on := 4, ground := Go.Ground.phase }, { on := 5, ground := Go.Ground.phase }, { on := 6, ground := Go.Ground.phase }, { on := 7, ground := Go.Ground.phase }, { on := 8, ground := Go.Ground.phase }, { on := 9, ground := Go.Ground.phase }], guard := none } : Oper)) rfl (fun K hK => ?_) AllReady.nil)
              have HK := Lib.hid hK
              clear hK
              have hcc : w9.cell? ⟨b, 2, none⟩ = some vf := cell_of_row _ _ _ _ _ _ HROW9.out
              have hff : w9.frozen? ⟨b, 2, none⟩ = false := frozen_of_row _ _ _ _ _ HROW9.out
              go_simp
              try clear hcc hff
              refine HK.out _ _ ?_
              clear HK K
              try simp only [Act.put, List.setIfInBounds_toArray, List.set_cons_zero, List.set_cons_succ]
              refine wpAny_done (by kernel_rfl) ?_ _
              go_wp2
              go_end0
              rw [HV.out]
              exact ⟨rfl, _, _, _, P9⟩
      | false =>
        rw [hi, if_neg (by decide)] at HV
        rw [hi, take_no hi] at hta
        clear hi
        go_wp2_with fail
        refine hta.mono ?_
        rintro e w5 ⟨rfl, h5, f5⟩
        clear hta
        have P5 := P3.step (FF4.trans f5) h5
        have HB5 := Lib.hid (f5.at_ HB4.out (by simp; omega))
        have z5 : bv + 1 ≤ w5.heap.size := by have := f5.size; rw [HZ4.out] at this; exact this
        have hlg := length_any h5
        generalize (lengthV s1).1 = n at *
        generalize (lengthV s1).2 = s2 at *
        have FF5 := FF4.trans f5
        clear h4 FF4 h3 f5
        go_wp2_with fail
        refine hlg.mono ?_
        rintro e w6 ⟨rfl, h6, f6⟩
        clear hlg
        have FF6 := FF5.trans f6
        have z6 := f6.size
        have hb6 := f6.at_ HB5.out (by simp; omega)
        have c4 : w6.cell? ⟨bv, 4, none⟩ = some (.int .i64 v.ln) := cell_of_row _ _ _ _ _ _ hb6
        have e4 : w6.frozen? ⟨bv, 4, none⟩ = false := frozen_of_row _ _ _ _ _ hb6
        have u7 := up_set hb6 4 (.int .i64 n)
        have P7 : PrR w0 (w6.setCell ⟨bv, 4, none⟩ (.int .i64 n)) R M b p s2 vs vv vf := P3.step (FF6.up u7 (by omega)) (h6.up u7 hb6 (by decide) (by decide))
        have HB7 : Hid ((w6.setCell ⟨bv, 4, none⟩ (.int .i64 n)).heap[bv]? = some (.cells (vaC ⟨v.nm, v.ty, n, v.at_⟩) 38)) := Lib.hid u7.at_
        have HZ7 := Lib.hid u7.size
        clear u7 hb6 h6 f6 P5 FF5 FF6 P3 h5
        go_wp2_with fail
        refine (want_any ⟨#[59]⟩ (by decide) P7.rd).mono ?_
        rintro e w8 ⟨rfl, h8, f8⟩
        have P8v := P7.step f8 h8
        have HB8 := Lib.hid (f8.at_ HB7.out (by simp; omega))
        have z8 : w6.heap.size ≤ w8.heap.size := by have := f8.size; rw [HZ7.out] at this; exact this
        obtain ⟨i0, hi0, hz0, hz1, hz2⟩ := info_parts infoVa6
        clear P7 h8 f8 c4 e4
        have PD := P8v.step (w' := w8.drew) ((Fr.refl _ _).drew) (P8v.rd.below ((Below.refl _ _).drew))
        go_wp2_with fail
        refine wp_any_drew (by kernel_rfl) ?_
        refine wpAny_take (i := 0) (oi := ({ dst := some 45, op := Go.Op.move (Go.Operand.tmp 1), type := 75, pos := "tops.go:30", after := #[], guard := none } : Oper)) (v := .pointer (some ⟨b, 0, none⟩)) rfl (by kernel_rfl) (by kernel_rfl) (by kernel_rfl) (fun _ _ _ h => h) (Or.inl ⟨by rfl, ?hz1⟩) ?_
        case hz1 => ((intro W; go_simp); (try with_reducible rfl); (try exact ⟨rfl, rfl, rfl⟩))
        simp only [Act.put, List.setIfInBounds_toArray, List.set_cons_zero, List.set_cons_succ]
        refine wpAny_take (i := 1) (oi := ({ dst := some 46, op := Go.Op.move (Go.Operand.tmp 1), type := 75, pos := "tops.go:30", after := #[], guard := none } : Oper)) (v := .pointer (some ⟨b, 0, none⟩)) rfl (by kernel_rfl) (by kernel_rfl) (by kernel_rfl) (fun _ _ _ h => h) (Or.inl ⟨by rfl, ?hz2⟩) ?_
        case hz2 => ((intro W; go_simp); (try with_reducible rfl); (try exact ⟨rfl, rfl, rfl⟩))
        simp only [Act.put, List.setIfInBounds_toArray, List.set_cons_zero, List.set_cons_succ]
        refine wpAny_take (i := 2) (oi := ({ dst := some 47, op := Go.Op.nilCheck (Go.Operand.tmp 46), type := 0, pos := "tops.go:30", after := #[{ on := 1, ground := Go.Ground.data }], guard := none } : Oper)) (v := .pointer (some ⟨b, 0, none⟩)) rfl (by kernel_rfl) (by kernel_rfl) (by kernel_rfl) (fun _ _ _ h => h) (Or.inl ⟨by rfl, ?hz3⟩) ?_
        case hz3 => ((intro W; go_simp); (try with_reducible rfl); (try exact ⟨rfl, rfl, rfl⟩))
        simp only [Act.put, List.setIfInBounds_toArray, List.set_cons_zero, List.set_cons_succ]
        refine wpAny_take (i := 3) (oi := ({ dst := some 48, op := Go.Op.fieldAddr 27 (Go.Operand.tmp 47) 1, type := 0, pos := "tops.go:30", after := #[{ on := 2, ground := Go.Ground.data }], guard := none } : Oper)) (v := .pointer (some ⟨b, 1, none⟩)) rfl (by kernel_rfl) (by kernel_rfl) (by kernel_rfl) (fun _ _ _ h => h) (Or.inl ⟨by rfl, ?hz4⟩) ?_
        case hz4 => ((intro W; go_simp); (try with_reducible rfl); (try exact ⟨rfl, rfl, rfl⟩))
        simp only [Act.put, List.setIfInBounds_toArray, List.set_cons_zero, List.set_cons_succ]
        refine wpAny_ready (rs := [4, 5]) (by kernel_rfl) (by simp) ?_
        refine (AllReady.cons (o := ({ dst := some 49, op := Go.Op.load 24 (Go.Operand.tmp 48), type := 24, pos := "tops.go:30", after := #[{ on := 3, ground := Go.Ground.data }], guard := none } : Oper)) rfl (fun K hK => ?_) (AllReady.cons (o := ({ dst := some 50, op := Go.Op.load 38 (Go.Operand.tmp 4), type := 38, pos := "tops.go:30", after := #[], guard := none } : Oper)) rfl (fun K hK => ?_) AllReady.nil))
        · have HK := Lib.hid hK
          clear hK
          have hcc : (w8.drew).cell? ⟨b, 1, none⟩ = some vv := cell_of_row _ _ _ _ _ _ PD.row
          have hcd : (w8).cell? ⟨b, 1, none⟩ = some vv := hcc
          go_simp
          try clear hcc hcd
          refine HK.out _ _ ?_
          clear HK K
          try simp only [Act.put, List.setIfInBounds_toArray, List.set_cons_zero, List.set_cons_succ]
          refine wpAny_ready (rs := [5]) (by kernel_rfl) (by simp) ?_
          refine (AllReady.cons (o := ({ dst := some 50, op := Go.Op.load 38 (Go.Operand.tmp 4), type := 38, pos := "tops.go:30", after := #[], guard := none } : Oper)) rfl (fun K hK => ?_) AllReady.nil)
          have HK := Lib.hid hK
          clear hK
          rw [if_pos (by rfl)]
          refine wp_load_row 38 _ rfl bv (by rfl) 38 (vaC ⟨v.nm, v.ty, n, v.at_⟩) (0, 0) _ HB8.out Try.underlying38 rfl sizeVa ?_
          refine HK.out _ _ ?_
          clear HK K
          try simp only [Act.put, List.setIfInBounds_toArray, List.set_cons_zero, List.set_cons_succ]
          refine wpAny_ready (rs := [6]) (by kernel_rfl) (by simp) ?_
          refine (AllReady.cons (o := ({ dst := some 51, op := Go.Op.buildSlice 24 1 #[(0, Go.Operand.tmp 50)], type := 24, pos := "tops.go:30", after := #[{ on := 5, ground := Go.Ground.data }], guard := none } : Oper)) rfl (fun K hK => ?_) AllReady.nil)
          have HK := Lib.hid hK
          clear hK
          rw [if_pos (by rfl)]
          refine wp_bs1 24 38 (.agg vaZ) 6 Try.underlying24 infoVaz (by decide) (by decide) (c := vaL ⟨v.nm, v.ty, n, v.at_⟩) rfl (by rfl) ?_
          have P8 := PD.alloc (.cells (vaL ⟨v.nm, v.ty, n, v.at_⟩).toArray 38)
          have HX8 : Hid (vaE.At ((w8.drew).alloc (.cells (vaL ⟨v.nm, v.ty, n, v.at_⟩).toArray 38)) (fun k => w8.heap.size ≤ k ∧ k < ((w8.drew).alloc (.cells (vaL ⟨v.nm, v.ty, n, v.at_⟩).toArray 38)).heap.size) ⟨v.nm, v.ty, n, v.at_⟩ (vaL ⟨v.nm, v.ty, n, v.at_⟩)) := Lib.hid rfl
          refine HK.out _ _ ?_
          clear HK K
          try simp only [Act.put, List.setIfInBounds_toArray, List.set_cons_zero, List.set_cons_succ]
          refine wpAny_ready (rs := [7]) (by kernel_rfl) (by simp) ?_
          refine (AllReady.cons (o := ({ dst := some 52, op := Go.Op.call { callee := Go.Callee.builtin Go.Builtin.append, args := #[Go.Operand.tmp 49, Go.Operand.tmp 51], argTypes := #[24, 24] }, type := 24, pos := "tops.go:30", after := #[{ on := 4, ground := Go.Ground.data }, { on := 6, ground := Go.Ground.data }], guard := none } : Oper)) rfl (fun K hK => ?_) AllReady.nil)
          have HK := Lib.hid hK
          clear hK
          obtain ⟨N, hN⟩ := P8.own
          obtain ⟨rows, hrl, how, hel⟩ := hN.v
          refine step_append_lies _ (by rfl) _ _ _ (by rfl) (b + 1) 38 i0 (.agg vaZ) 6 64 Try.underlying24 hi0 hz0 hz1 hz2 rfl (by decide) vv p.vs.length rows.flatten (by rfl) how ⟨w8.drew.heap.size, 0, none⟩ 1 1 (vaL ⟨v.nm, v.ty, n, v.at_⟩) (by rfl) (rfl) (World.news_of_block (cs := (vaL ⟨v.nm, v.ty, n, v.at_⟩).toArray) (t := 38) (fr := (0, 0)) (heap_alloc_new (w8.drew) _)) (by simp [Value.oneCell']) (by omega) (by unfold maxLen; omega) (by omega) (Nat.succ_le_of_lt (lt_of_at P8.row)) _ rfl ?_
          intro ga ca w9 hown9 hgrow9 hat9 hlt9
          have hp := hN.pushV hrl hel how HX8.out (by omega) (fun k hk => P8v.lt k hk) rfl hown9 hgrow9 hat9
          obtain ⟨hrow9, P9⟩ := P8.app (v' := .slice (some ⟨ga, 0, none⟩) (p.vs.length + 1) ca) how hgrow9 (by decide) (by decide) hp 1 rfl
          have HROW9 := Lib.hid hrow9
          clear hel how hrl hown9 hgrow9 hrow9 hp hN
          refine HK.out _ _ ?_
          clear HK K
          try simp only [Act.put, List.setIfInBounds_toArray, List.set_cons_zero, List.set_cons_succ]
          refine wpAny_take (i := 8) (oi := ({ dst := some 53, op := Go.Op.nilCheck (Go.Operand.tmp 45), type := 0, pos := "tops.go:30", after := #[{ on := 0, ground := Go.Ground.data }, { on := 0, ground := Go.Ground.phase }, { on := 1, ground := Go.Ground.phase }, { on := 2, ground := Go.Ground.phase }, { on := 3, ground := Go.Ground.phase }, { on := 4, ground := Go.Ground.phase }, { on := 5, ground := Go.Ground.phase }, { on := 6, ground := Go.Ground.phase }, { on := 7, ground := Go.Ground.phase }], guard := none } : Oper)) (v := .pointer (some ⟨b, 0, none⟩)) rfl (by kernel_rfl) (by kernel_rfl) (by kernel_rfl) (fun _ _ _ h => h) (Or.inl ⟨by rfl, ?hz5⟩) ?_
          case hz5 => ((intro W; go_simp); (try with_reducible rfl); (try exact ⟨rfl, rfl, rfl⟩))
          simp only [Act.put, List.setIfInBounds_toArray, List.set_cons_zero, List.set_cons_succ]
          refine wpAny_take (i := 9) (oi := ({ dst := some 54, op := Go.Op.fieldAddr 27 (Go.Operand.tmp 53) 1, type := 0, pos := "tops.go:30", after := #[{ on := 8, ground := Go.Ground.data }, { on := 0, ground := Go.Ground.phase }, { on := 1, ground := Go.Ground.phase }, { on := 2, ground := Go.Ground.phase }, { on := 3, ground := Go.Ground.phase }, { on := 4, ground := Go.Ground.phase }, { on := 5, ground := Go.Ground.phase }, { on := 6, ground := Go.Ground.phase }, { on := 7, ground := Go.Ground.phase }], guard := none } : Oper)) (v := .pointer (some ⟨b, 1, none⟩)) rfl (by kernel_rfl) (by kernel_rfl) (by kernel_rfl) (fun _ _ _ h => h) (Or.inl ⟨by rfl, ?hz6⟩) ?_
          case hz6 => ((intro W; go_simp); (try with_reducible rfl); (try exact ⟨rfl, rfl, rfl⟩))
          simp only [Act.put, List.setIfInBounds_toArray, List.set_cons_zero, List.set_cons_succ]
          refine wpAny_ready (rs := [10]) (by kernel_rfl) (by simp) ?_
          refine (AllReady.cons (o := ({ dst := none, op := Go.Op.store 24 (Go.Operand.tmp 54) (Go.Operand.tmp 52), type := 0, pos := "tops.go:30", after := #[{ on := 9, ground := Go.Ground.data }, { on := 7, ground := Go.Ground.data }, { on := 7, ground := Go.Ground.chain }, { on := 0, ground := Go.Ground.phase }, { on := 1, ground := Go.Ground.phase }, { on := 2, ground := Go.Ground.phase }, { on := 3, ground := Go.Ground.phase }, { on := 4, ground := Go.Ground.phase }, { on := 5, ground := Go.Ground.phase }, { on := 6, ground := Go.Ground.phase }, { on := 7, ground := Go.Ground.phase }], guard := none } : Oper)) rfl (fun K hK => ?_) AllReady.nil)
          have HK := Lib.hid hK
          clear hK
          have hcc : w9.cell? ⟨b, 1, none⟩ = some vv := cell_of_row _ _ _ _ _ _ HROW9.out
          have hff : w9.frozen? ⟨b, 1, none⟩ = false := frozen_of_row _ _ _ _ _ HROW9.out
          go_simp
          try clear hcc hff
          refine HK.out _ _ ?_
          clear HK K
          try simp only [Act.put, List.setIfInBounds_toArray, List.set_cons_zero, List.set_cons_succ]
          refine wpAny_done (by kernel_rfl) ?_ _
          go_wp2
          go_end0
          rw [HV.out]
          exact ⟨rfl, _, _, _, P9⟩
        · have HK := Lib.hid hK
          clear hK
          rw [if_pos (by rfl)]
          refine wp_load_row 38 _ rfl bv (by rfl) 38 (vaC ⟨v.nm, v.ty, n, v.at_⟩) (0, 0) _ HB8.out Try.underlying38 rfl sizeVa ?_
          refine HK.out _ _ ?_
          clear HK K
          try simp only [Act.put, List.setIfInBounds_toArray, List.set_cons_zero, List.set_cons_succ]
          refine wpAny_ready (rs := [4, 6]) (by kernel_rfl) (by simp) ?_
          refine (AllReady.cons (o := ({ dst := some 49, op := Go.Op.load 24 (Go.Operand.tmp 48), type := 24, pos := "tops.go:30", after := #[{ on := 3, ground := Go.Ground.data }], guard := none } : Oper)) rfl (fun K hK => ?_) (AllReady.cons (o := ({ dst := some 51, op := Go.Op.buildSlice 24 1 #[(0, Go.Operand.tmp 50)], type := 24, pos := "tops.go:30", after := #[{ on := 5, ground := Go.Ground.data }], guard := none } : Oper)) rfl (fun K hK => ?_) AllReady.nil))
          · have HK := Lib.hid hK
            clear hK
            have hcc : (w8.drew).cell? ⟨b, 1, none⟩ = some vv := cell_of_row _ _ _ _ _ _ PD.row
            have hcd : (w8).cell? ⟨b, 1, none⟩ = some vv := hcc
            go_simp
            try clear hcc hcd
            refine HK.out _ _ ?_
            clear HK K
            try simp only [Act.put, List.setIfInBounds_toArray, List.set_cons_zero, List.set_cons_succ]
            refine wpAny_ready (rs := [6]) (by kernel_rfl) (by simp) ?_
            refine (AllReady.cons (o := ({ dst := some 51, op := Go.Op.buildSlice 24 1 #[(0, Go.Operand.tmp 50)], type := 24, pos := "tops.go:30", after := #[{ on := 5, ground := Go.Ground.data }], guard := none } : Oper)) rfl (fun K hK => ?_) AllReady.nil)
            have HK := Lib.hid hK
            clear hK
            rw [if_pos (by rfl)]
            refine wp_bs1 24 38 (.agg vaZ) 6 Try.underlying24 infoVaz (by decide) (by decide) (c := vaL ⟨v.nm, v.ty, n, v.at_⟩) rfl (by rfl) ?_
            have P8 := PD.alloc (.cells (vaL ⟨v.nm, v.ty, n, v.at_⟩).toArray 38)
            have HX8 : Hid (vaE.At ((w8.drew).alloc (.cells (vaL ⟨v.nm, v.ty, n, v.at_⟩).toArray 38)) (fun k => w8.heap.size ≤ k ∧ k < ((w8.drew).alloc (.cells (vaL ⟨v.nm, v.ty, n, v.at_⟩).toArray 38)).heap.size) ⟨v.nm, v.ty, n, v.at_⟩ (vaL ⟨v.nm, v.ty, n, v.at_⟩)) := Lib.hid rfl
            refine HK.out _ _ ?_
            clear HK K
            try simp only [Act.put, List.setIfInBounds_toArray, List.set_cons_zero, List.set_cons_succ]
            refine wpAny_ready (rs := [7]) (by kernel_rfl) (by simp) ?_
            refine (AllReady.cons (o := ({ dst := some 52, op := Go.Op.call { callee := Go.Callee.builtin Go.Builtin.append, args := #[Go.Operand.tmp 49, Go.Operand.tmp 51], argTypes := #[24, 24] }, type := 24, pos := "tops.go:30", after := #[{ on := 4, ground := Go.Ground.data }, { on := 6, ground := Go.Ground.data }], guard := none } : Oper)) rfl (fun K hK => ?_) AllReady.nil)
            have HK := Lib.hid hK
            clear hK
            obtain ⟨N, hN⟩ := P8.own
            obtain ⟨rows, hrl, how, hel⟩ := hN.v
            refine step_append_lies _ (by rfl) _ _ _ (by rfl) (b + 1) 38 i0 (.agg vaZ) 6 64 Try.underlying24 hi0 hz0 hz1 hz2 rfl (by decide) vv p.vs.length rows.flatten (by rfl) how ⟨w8.drew.heap.size, 0, none⟩ 1 1 (vaL ⟨v.nm, v.ty, n, v.at_⟩) (by rfl) (rfl) (World.news_of_block (cs := (vaL ⟨v.nm, v.ty, n, v.at_⟩).toArray) (t := 38) (fr := (0, 0)) (heap_alloc_new (w8.drew) _)) (by simp [Value.oneCell']) (by omega) (by unfold maxLen; omega) (by omega) (Nat.succ_le_of_lt (lt_of_at P8.row)) _ rfl ?_
            intro ga ca w9 hown9 hgrow9 hat9 hlt9
            have hp := hN.pushV hrl hel how HX8.out (by omega) (fun k hk => P8v.lt k hk) rfl hown9 hgrow9 hat9
            obtain ⟨hrow9, P9⟩ := P8.app (v' := .slice (some ⟨ga, 0, none⟩) (p.vs.length + 1) ca) how hgrow9 (by decide) (by decide) hp 1 rfl
            have HROW9 := Lib.hid hrow9
            clear hel how hrl hown9 hgrow9 hrow9 hp hN
            refine HK.out _ _ ?_
            clear HK K
            try simp only [Act.put, List.setIfInBounds_toArray, List.set_cons_zero, List.set_cons_succ]
            refine wpAny_take (i := 8) (oi := ({ dst := some 53, op := Go.Op.nilCheck (Go.Operand.tmp 45), type := 0, pos := "tops.go:30", after := #[{ on := 0, ground := Go.Ground.data }, { on := 0, ground := Go.Ground.phase }, { on := 1, ground := Go.Ground.phase }, { on := 2, ground := Go.Ground.phase }, { on := 3, ground := Go.Ground.phase }, { on := 4, ground := Go.Ground.phase }, { on := 5, ground := Go.Ground.phase }, { on := 6, ground := Go.Ground.phase }, { on := 7, ground := Go.Ground.phase }], guard := none } : Oper)) (v := .pointer (some ⟨b, 0, none⟩)) rfl (by kernel_rfl) (by kernel_rfl) (by kernel_rfl) (fun _ _ _ h => h) (Or.inl ⟨by rfl, ?hz7⟩) ?_
            case hz7 => ((intro W; go_simp); (try with_reducible rfl); (try exact ⟨rfl, rfl, rfl⟩))
            simp only [Act.put, List.setIfInBounds_toArray, List.set_cons_zero, List.set_cons_succ]
            refine wpAny_take (i := 9) (oi := ({ dst := some 54, op := Go.Op.fieldAddr 27 (Go.Operand.tmp 53) 1, type := 0, pos := "tops.go:30", after := #[{ on := 8, ground := Go.Ground.data }, { on := 0, ground := Go.Ground.phase }, { on := 1, ground := Go.Ground.phase }, { on := 2, ground := Go.Ground.phase }, { on := 3, ground := Go.Ground.phase }, { on := 4, ground := Go.Ground.phase }, { on := 5, ground := Go.Ground.phase }, { on := 6, ground := Go.Ground.phase }, { on := 7, ground := Go.Ground.phase }], guard := none } : Oper)) (v := .pointer (some ⟨b, 1, none⟩)) rfl (by kernel_rfl) (by kernel_rfl) (by kernel_rfl) (fun _ _ _ h => h) (Or.inl ⟨by rfl, ?hz8⟩) ?_
            case hz8 => ((intro W; go_simp); (try with_reducible rfl); (try exact ⟨rfl, rfl, rfl⟩))
            simp only [Act.put, List.setIfInBounds_toArray, List.set_cons_zero, List.set_cons_succ]
            refine wpAny_ready (rs := [10]) (by kernel_rfl) (by simp) ?_
            refine (AllReady.cons (o := ({ dst := none, op := Go.Op.store 24 (Go.Operand.tmp 54) (Go.Operand.tmp 52), type := 0, pos := "tops.go:30", after := #[{ on := 9, ground := Go.Ground.data }, { on := 7, ground := Go.Ground.data }, { on := 7, ground := Go.Ground.chain }, { on := 0, ground := Go.Ground.phase }, { on := 1, ground := Go.Ground.phase }, { on := 2, ground := Go.Ground.phase }, { on := 3, ground := Go.Ground.phase }, { on := 4, ground := Go.Ground.phase }, { on := 5, ground := Go.Ground.phase }, { on := 6, ground := Go.Ground.phase }, { on := 7, ground := Go.Ground.phase }], guard := none } : Oper)) rfl (fun K hK => ?_) AllReady.nil)
            have HK := Lib.hid hK
            clear hK
            have hcc : w9.cell? ⟨b, 1, none⟩ = some vv := cell_of_row _ _ _ _ _ _ HROW9.out
            have hff : w9.frozen? ⟨b, 1, none⟩ = false := frozen_of_row _ _ _ _ _ HROW9.out
            go_simp
            try clear hcc hff
            refine HK.out _ _ ?_
            clear HK K
            try simp only [Act.put, List.setIfInBounds_toArray, List.set_cons_zero, List.set_cons_succ]
            refine wpAny_done (by kernel_rfl) ?_ _
            go_wp2
            go_end0
            rw [HV.out]
            exact ⟨rfl, _, _, _, P9⟩
          · have HK := Lib.hid hK
            clear hK
            rw [if_pos (by rfl)]
            refine wp_bs1 24 38 (.agg vaZ) 6 Try.underlying24 infoVaz (by decide) (by decide) (c := vaL ⟨v.nm, v.ty, n, v.at_⟩) rfl (by rfl) ?_
            have P8 := PD.alloc (.cells (vaL ⟨v.nm, v.ty, n, v.at_⟩).toArray 38)
            have HX8 : Hid (vaE.At ((w8.drew).alloc (.cells (vaL ⟨v.nm, v.ty, n, v.at_⟩).toArray 38)) (fun k => w8.heap.size ≤ k ∧ k < ((w8.drew).alloc (.cells (vaL ⟨v.nm, v.ty, n, v.at_⟩).toArray 38)).heap.size) ⟨v.nm, v.ty, n, v.at_⟩ (vaL ⟨v.nm, v.ty, n, v.at_⟩)) := Lib.hid rfl
            refine HK.out _ _ ?_
            clear HK K
            try simp only [Act.put, List.setIfInBounds_toArray, List.set_cons_zero, List.set_cons_succ]
            refine wpAny_ready (rs := [4]) (by kernel_rfl) (by simp) ?_
            refine (AllReady.cons (o := ({ dst := some 49, op := Go.Op.load 24 (Go.Operand.tmp 48), type := 24, pos := "tops.go:30", after := #[{ on := 3, ground := Go.Ground.data }], guard := none } : Oper)) rfl (fun K hK => ?_) AllReady.nil)
            have HK := Lib.hid hK
            clear hK
            have hcc : ((w8.drew).alloc (.cells (vaL ⟨v.nm, v.ty, n, v.at_⟩).toArray 38)).cell? ⟨b, 1, none⟩ = some vv := cell_of_row _ _ _ _ _ _ P8.row
            have hcd : ((w8).alloc (.cells (vaL ⟨v.nm, v.ty, n, v.at_⟩).toArray 38)).cell? ⟨b, 1, none⟩ = some vv := hcc
            go_simp
            try clear hcc hcd
            refine HK.out _ _ ?_
            clear HK K
            try simp only [Act.put, List.setIfInBounds_toArray, List.set_cons_zero, List.set_cons_succ]
            refine wpAny_ready (rs := [7]) (by kernel_rfl) (by simp) ?_
            refine (AllReady.cons (o := ({ dst := some 52, op := Go.Op.call { callee := Go.Callee.builtin Go.Builtin.append, args := #[Go.Operand.tmp 49, Go.Operand.tmp 51], argTypes := #[24, 24] }, type := 24, pos := "tops.go:30", after := #[{ on := 4, ground := Go.Ground.data }, { on := 6, ground := Go.Ground.data }], guard := none } : Oper)) rfl (fun K hK => ?_) AllReady.nil)
            have HK := Lib.hid hK
            clear hK
            obtain ⟨N, hN⟩ := P8.own
            obtain ⟨rows, hrl, how, hel⟩ := hN.v
            refine step_append_lies _ (by rfl) _ _ _ (by rfl) (b + 1) 38 i0 (.agg vaZ) 6 64 Try.underlying24 hi0 hz0 hz1 hz2 rfl (by decide) vv p.vs.length rows.flatten (by rfl) how ⟨w8.drew.heap.size, 0, none⟩ 1 1 (vaL ⟨v.nm, v.ty, n, v.at_⟩) (by rfl) (rfl) (World.news_of_block (cs := (vaL ⟨v.nm, v.ty, n, v.at_⟩).toArray) (t := 38) (fr := (0, 0)) (heap_alloc_new (w8.drew) _)) (by simp [Value.oneCell']) (by omega) (by unfold maxLen; omega) (by omega) (Nat.succ_le_of_lt (lt_of_at P8.row)) _ rfl ?_
            intro ga ca w9 hown9 hgrow9 hat9 hlt9
            have hp := hN.pushV hrl hel how HX8.out (by omega) (fun k hk => P8v.lt k hk) rfl hown9 hgrow9 hat9
            obtain ⟨hrow9, P9⟩ := P8.app (v' := .slice (some ⟨ga, 0, none⟩) (p.vs.length + 1) ca) how hgrow9 (by decide) (by decide) hp 1 rfl
            have HROW9 := Lib.hid hrow9
            clear hel how hrl hown9 hgrow9 hrow9 hp hN
            refine HK.out _ _ ?_
            clear HK K
            try simp only [Act.put, List.setIfInBounds_toArray, List.set_cons_zero, List.set_cons_succ]
            refine wpAny_take (i := 8) (oi := ({ dst := some 53, op := Go.Op.nilCheck (Go.Operand.tmp 45), type := 0, pos := "tops.go:30", after := #[{ on := 0, ground := Go.Ground.data }, { on := 0, ground := Go.Ground.phase }, { on := 1, ground := Go.Ground.phase }, { on := 2, ground := Go.Ground.phase }, { on := 3, ground := Go.Ground.phase }, { on := 4, ground := Go.Ground.phase }, { on := 5, ground := Go.Ground.phase }, { on := 6, ground := Go.Ground.phase }, { on := 7, ground := Go.Ground.phase }], guard := none } : Oper)) (v := .pointer (some ⟨b, 0, none⟩)) rfl (by kernel_rfl) (by kernel_rfl) (by kernel_rfl) (fun _ _ _ h => h) (Or.inl ⟨by rfl, ?hz9⟩) ?_
            case hz9 => ((intro W; go_simp); (try with_reducible rfl); (try exact ⟨rfl, rfl, rfl⟩))
            simp only [Act.put, List.setIfInBounds_toArray, List.set_cons_zero, List.set_cons_succ]
            refine wpAny_take (i := 9) (oi := ({ dst := some 54, op := Go.Op.fieldAddr 27 (Go.Operand.tmp 53) 1, type := 0, pos := "tops.go:30", after := #[{ on := 8, ground := Go.Ground.data }, { on := 0, ground := Go.Ground.phase }, { on := 1, ground := Go.Ground.phase }, { on := 2, ground := Go.Ground.phase }, { on := 3, ground := Go.Ground.phase }, { on := 4, ground := Go.Ground.phase }, { on := 5, ground := Go.Ground.phase }, { on := 6, ground := Go.Ground.phase }, { on := 7, ground := Go.Ground.phase }], guard := none } : Oper)) (v := .pointer (some ⟨b, 1, none⟩)) rfl (by kernel_rfl) (by kernel_rfl) (by kernel_rfl) (fun _ _ _ h => h) (Or.inl ⟨by rfl, ?hz10⟩) ?_
            case hz10 => ((intro W; go_simp); (try with_reducible rfl); (try exact ⟨rfl, rfl, rfl⟩))
            simp only [Act.put, List.setIfInBounds_toArray, List.set_cons_zero, List.set_cons_succ]
            refine wpAny_ready (rs := [10]) (by kernel_rfl) (by simp) ?_
            refine (AllReady.cons (o := ({ dst := none, op := Go.Op.store 24 (Go.Operand.tmp 54) (Go.Operand.tmp 52), type := 0, pos := "tops.go:30", after := #[{ on := 9, ground := Go.Ground.data }, { on := 7, ground := Go.Ground.data }, { on := 7, ground := Go.Ground.chain }, { on := 0, ground := Go.Ground.phase }, { on := 1, ground := Go.Ground.phase }, { on := 2, ground := Go.Ground.phase }, { on := 3, ground := Go.Ground.phase }, { on := 4, ground := Go.Ground.phase }, { on := 5, ground := Go.Ground.phase }, { on := 6, ground := Go.Ground.phase }, { on := 7, ground := Go.Ground.phase }], guard := none } : Oper)) rfl (fun K hK => ?_) AllReady.nil)
            have HK := Lib.hid hK
            clear hK
            have hcc : w9.cell? ⟨b, 1, none⟩ = some vv := cell_of_row _ _ _ _ _ _ HROW9.out
            have hff : w9.frozen? ⟨b, 1, none⟩ = false := frozen_of_row _ _ _ _ _ HROW9.out
            go_simp
            try clear hcc hff
            refine HK.out _ _ ?_
            clear HK K
            try simp only [Act.put, List.setIfInBounds_toArray, List.set_cons_zero, List.set_cons_succ]
            refine wpAny_done (by kernel_rfl) ?_ _
            go_wp2
            go_end0
            rw [HV.out]
            exact ⟨rfl, _, _, _, P9⟩
  | false =>
    rw [hi] at his
    refine his.mono ?_
    rintro e w2 ⟨rfl, b1⟩
    clear his
    have P2 := h.step (Fr.below b1) (h.rd.below b1)
    have hb2 := lt_of_at P2.row
    rw [if_neg (by rw [hi]; exact fun hh => by cases hh.1)] at HV
    clear h b1 hbw hi
    have hnm := named_any P2.rd
    have hnl := (named_lt P2.rd.ok).le
    have hnlen := hnl.len
    generalize (namedV s).1 = v at *
    generalize (namedV s).2 = s1 at *
    go_wp2_with fail
    refine hnm.mono ?_
    rintro e w3 ⟨rfl, h3, f3⟩
    clear hnm
    have P3 := P2.step f3 h3
    have h4 := h3.alloc (.cells (vaC v) 38)
    have FF4 := (Fr.refl [R] w3).alloc (.cells (vaC v) 38)
    have HB4 := Lib.hid (heap_alloc_new w3 (.cells (vaC v) 38))
    have z3 := f3.size
    have HZ4 := Lib.hid (szA w3 (.cells (vaC v) 38))
    clear f3 P2
    generalize hbv : w3.heap.size = bv at *
    have hta := take_any ⟨#[40]⟩ (by decide) h4
    cases hi : s1.is ⟨#[40]⟩ with
    | true =>
      rw [hi, if_pos rfl] at HV
      rw [hi, take_tl hi] at hta
      have hne := is_ne hi (by decide)
      have htl := (tl_ok hnl.ok hne).2
      clear hi
      go_wp2_with fail
      refine hta.mono ?_
      rintro e w5 ⟨rfl, h5, f5⟩
      clear hta
      have P5 := P3.step (FF4.trans f5) h5
      have HB5 := Lib.hid (f5.at_ HB4.out (by simp; omega))
      have z5 : bv + 1 ≤ w5.heap.size := by have := f5.size; rw [HZ4.out] at this; exact this
      have hexp := func_any (w := w5.drew) v (P5.rd.below ((Below.refl _ _).drew)) (by omega)
      generalize (funcV v s1.tl).1 = x at *
      generalize (funcV v s1.tl).2 = s2 at *
      have HEXP := Lib.hid hexp
      obtain ⟨i0, hi0, hz0, hz1, hz2⟩ := info_parts infoFn16
      clear hexp h5 f5 h4 FF4 P3 h3
      have PD := P5.step (w' := w5.drew) ((Fr.refl _ _).drew) (P5.rd.below ((Below.refl _ _).drew))
      go_wp2_with fail
      refine wp_any_drew (by kernel_rfl) ?_
      refine wpAny_take (i := 0) (oi := ({ dst := some 28, op := Go.Op.move (Go.Operand.tmp 1), type := 75, pos := "tops.go:25", after := #[], guard := none } : Oper)) (v := .pointer (some ⟨b, 0, none⟩)) rfl (by kernel_rfl) (by kernel_rfl) (by kernel_rfl) (fun _ _ _ h => h) (Or.inl ⟨by rfl, ?hz1⟩) ?_
      case hz1 => ((intro W; go_simp); (try with_reducible rfl); (try exact ⟨rfl, rfl, rfl⟩))
      simp only [Act.put, List.setIfInBounds_toArray, List.set_cons_zero, List.set_cons_succ]
      refine wpAny_take (i := 1) (oi := ({ dst := some 29, op := Go.Op.move (Go.Operand.tmp 1), type := 75, pos := "tops.go:25", after := #[], guard := none } : Oper)) (v := .pointer (some ⟨b, 0, none⟩)) rfl (by kernel_rfl) (by kernel_rfl) (by kernel_rfl) (fun _ _ _ h => h) (Or.inl ⟨by rfl, ?hz2⟩) ?_
      case hz2 => ((intro W; go_simp); (try with_reducible rfl); (try exact ⟨rfl, rfl, rfl⟩))
      simp only [Act.put, List.setIfInBounds_toArray, List.set_cons_zero, List.set_cons_succ]
      refine wpAny_take (i := 2) (oi := ({ dst := some 30, op := Go.Op.nilCheck (Go.Operand.tmp 29), type := 0, pos := "tops.go:25", after := #[{ on := 1, ground := Go.Ground.data }], guard := none } : Oper)) (v := .pointer (some ⟨b, 0, none⟩)) rfl (by kernel_rfl) (by kernel_rfl) (by kernel_rfl) (fun _ _ _ h => h) (Or.inl ⟨by rfl, ?hz3⟩) ?_
      case hz3 => ((intro W; go_simp); (try with_reducible rfl); (try exact ⟨rfl, rfl, rfl⟩))
      simp only [Act.put, List.setIfInBounds_toArray, List.set_cons_zero, List.set_cons_succ]
      refine wpAny_take (i := 3) (oi := ({ dst := some 31, op := Go.Op.fieldAddr 27 (Go.Operand.tmp 30) 2, type := 0, pos := "tops.go:25", after := #[{ on := 2, ground := Go.Ground.data }], guard := none } : Oper)) (v := .pointer (some ⟨b, 2, none⟩)) rfl (by kernel_rfl) (by kernel_rfl) (by kernel_rfl) (fun _ _ _ h => h) (Or.inl ⟨by rfl, ?hz4⟩) ?_
      case hz4 => ((intro W; go_simp); (try with_reducible rfl); (try exact ⟨rfl, rfl, rfl⟩))
      simp only [Act.put, List.setIfInBounds_toArray, List.set_cons_zero, List.set_cons_succ]
      refine wpAny_take (i := 5) (oi := ({ dst := some 33, op := Go.Op.move (Go.Operand.tmp 0), type := 73, pos := "tops.go:25", after := #[], guard := none } : Oper)) (v := .pointer (some ⟨R, 0, none⟩)) rfl (by kernel_rfl) (by kernel_rfl) (by kernel_rfl) (fun _ _ _ h => h) (Or.inl ⟨by rfl, ?hz5⟩) ?_
      case hz5 => ((intro W; go_simp); (try with_reducible rfl); (try exact ⟨rfl, rfl, rfl⟩))
      simp only [Act.put, List.setIfInBounds_toArray, List.set_cons_zero, List.set_cons_succ]
      refine wpAny_ready (rs := [4, 6]) (by kernel_rfl) (by simp) ?_
      refine (AllReady.cons (o := ({ dst := some 32, op := Go.Op.load 25 (Go.Operand.tmp 31), type := 25, pos := "tops.go:25", after := #[{ on := 3, ground := Go.Ground.data }], guard := none } : Oper)) rfl (fun K hK => ?_) (AllReady.cons (o := ({ dst := some 34, op := Go.Op.load 38 (Go.Operand.tmp 4), type := 38, pos := "tops.go:25", after := #[], guard := none } : Oper)) rfl (fun K hK => ?_) AllReady.nil))
      · have HK := Lib.hid hK
        clear hK
        have hcc : (w5.drew).cell? ⟨b, 2, none⟩ = some vf := cell_of_row _ _ _ _ _ _ PD.row
        have hcd : (w5).cell? ⟨b, 2, none⟩ = some vf := hcc
        go_simp
        try clear hcc hcd
        refine HK.out _ _ ?_
        clear HK K
        try simp only [Act.put, List.setIfInBounds_toArray, List.set_cons_zero, List.set_cons_succ]
        refine wpAny_ready (rs := [6]) (by kernel_rfl) (by simp) ?_
        refine (AllReady.cons (o := ({ dst := some 34, op := Go.Op.load 38 (Go.Operand.tmp 4), type := 38, pos := "tops.go:25", after := #[], guard := none } : Oper)) rfl (fun K hK => ?_) AllReady.nil)
        have HK := Lib.hid hK
        clear hK
        rw [if_pos (by rfl)]
        refine wp_load_row 38 _ rfl bv (by rfl) 38 (vaC v) (0, 0) _ HB5.out Try.underlying38 rfl sizeVa ?_
        refine HK.out _ _ ?_
        clear HK K
        try simp only [Act.put, List.setIfInBounds_toArray, List.set_cons_zero, List.set_cons_succ]
        refine wpAny_ready (rs := [7]) (by kernel_rfl) (by simp) ?_
        refine (AllReady.cons (o := ({ dst := some 35, op := Go.Op.call { callee := Go.Callee.value (Go.Operand.func 31), args := #[Go.Operand.tmp 33, Go.Operand.tmp 34], argTypes := #[73, 38] }, type := 42, pos := "tops.go:25", after := #[{ on := 5, ground := Go.Ground.data }, { on := 6, ground := Go.Ground.data }], guard := none } : Oper)) rfl (fun K hK => ?_) AllReady.nil)
        have HK := Lib.hid hK
        clear hK
        go_simp
        refine HEXP.out.mono ?_
        rintro e w7 ⟨c7, rfl, hc7, h7, f7⟩
        have z7 : w5.heap.size ≤ w7.heap.size := f7.size
        have HC7 : Hid (c7.length = 16) := Lib.hid (fnE.len hc7)
        have HN7 := Lib.hid (fnE.one hc7)
        have P7 := PD.step f7 h7
        have HX7 := Lib.hid hc7
        clear hc7 h7
        have HBV7 := Lib.hid (f7.at_ HB5.out (by simp; omega))
        try go_wp2_with fail
        refine HK.out _ _ ?_
        clear HK K
        try simp only [Act.put, List.setIfInBounds_toArray, List.set_cons_zero, List.set_cons_succ]
        refine wpAny_ready (rs := [8]) (by kernel_rfl) (by simp) ?_
        refine (AllReady.cons (o := ({ dst := some 36, op := Go.Op.buildSlice 25 1 #[(0, Go.Operand.tmp 35)], type := 25, pos := "tops.go:25", after := #[{ on := 7, ground := Go.Ground.data }], guard := none } : Oper)) rfl (fun K hK => ?_) AllReady.nil)
        have HK := Lib.hid hK
        clear hK
        rw [if_pos (by rfl)]
        refine wp_bs1 25 42 (.agg fnZ) 16 Try.underlying25 infoFnz (by decide) (by decide) (c := c7) HC7.out (by rfl) ?_
        have P8 := P7.alloc (.cells (c7).toArray 42)
        have HX8 := Lib.hid (fnE.keep HX7.out (w' := w7.alloc (.cells (c7).toArray 42)) (S' := fun k => w5.heap.size ≤ k ∧ k < (w7.alloc (.cells (c7).toArray 42)).heap.size) (fun k hk hl => ⟨⟨hk, by simp only [szA]; omega⟩, Below.heap_alloc _ _ _ hl⟩) (by simp))
        refine HK.out _ _ ?_
        clear HK K
        try simp only [Act.put, List.setIfInBounds_toArray, List.set_cons_zero, List.set_cons_succ]
        refine wpAny_ready (rs := [9]) (by kernel_rfl) (by simp) ?_
        refine (AllReady.cons (o := ({ dst := some 37, op := Go.Op.call { callee := Go.Callee.builtin Go.Builtin.append, args := #[Go.Operand.tmp 32, Go.Operand.tmp 36], argTypes := #[25, 25] }, type := 25, pos := "tops.go:25", after := #[{ on := 4, ground := Go.Ground.data }, { on := 8, ground := Go.Ground.data }, { on := 7, ground := Go.Ground.chain }], guard := none } : Oper)) rfl (fun K hK => ?_) AllReady.nil)
        have HK := Lib.hid hK
        clear hK
        obtain ⟨N, hN⟩ := P8.own
        obtain ⟨rows, hrl, how, hel⟩ := hN.f
        refine step_append_lies _ (by rfl) _ _ _ (by rfl) (b + 1) 42 i0 (.agg fnZ) 16 208 Try.underlying25 hi0 hz0 hz1 hz2 rfl (by decide) vf p.fs.length rows.flatten (by rfl) how ⟨w7.heap.size, 0, none⟩ 1 1 (c7) (by rfl) (by rw [HC7.out]) (World.news_of_block (cs := (c7).toArray) (t := 42) (fr := (0, 0)) (heap_alloc_new (w7) _)) (HN7.out) (by omega) (by unfold maxLen; omega) (by omega) (Nat.succ_le_of_lt (lt_of_at P8.row)) _ rfl ?_
        intro ga ca w9 hown9 hgrow9 hat9 hlt9
        have hp := hN.pushF hrl hel how HX8.out (by omega) (fun k hk => P5.lt k hk) rfl hown9 hgrow9 hat9
        obtain ⟨hrow9, P9⟩ := P8.app (v' := .slice (some ⟨ga, 0, none⟩) (p.fs.length + 1) ca) how hgrow9 (by decide) (by decide) hp 2 rfl
        have HROW9 := Lib.hid hrow9
        clear hel how hrl hown9 hgrow9 hrow9 hp hN
        refine HK.out _ _ ?_
        clear HK K
        try simp only [Act.put, List.setIfInBounds_toArray, List.set_cons_zero, List.set_cons_succ]
        refine wpAny_take (i := 10) (oi := ({ dst := some 38, op := Go.Op.nilCheck (Go.Operand.tmp 28), type := 0, pos := "tops.go:25", after := #[{ on := 0, ground := Go.Ground.data }, { on := 0, ground := Go.Ground.phase }, { on := 1, ground := Go.Ground.phase }, { on := 2, ground := Go.Ground.phase }, { on := 3, ground := Go.Ground.phase }, { on := 4, ground := Go.Ground.phase }, { on := 5, ground := Go.Ground.phase }, { on := 6, ground := Go.Ground.phase }, { on := 7, ground := Go.Ground.phase }, { on := 8, ground := Go.Ground.phase }, { on := 9, ground := Go.Ground.phase }], guard := none } : Oper)) (v := .pointer (some ⟨b, 0, none⟩)) rfl (by kernel_rfl) (by kernel_rfl) (by kernel_rfl) (fun _ _ _ h => h) (Or.inl ⟨by rfl, ?hz6⟩) ?_
        case hz6 => ((intro W; go_simp); (try with_reducible rfl); (try exact ⟨rfl, rfl, rfl⟩))
        simp only [Act.put, List.setIfInBounds_toArray, List.set_cons_zero, List.set_cons_succ]
        refine wpAny_take (i := 11) (oi := ({ dst := some 39, op := Go.Op.fieldAddr 27 (Go.Operand.tmp 38) 2, type := 0, pos := "tops.go:25", after := #[{ on := 10, ground := Go.Ground.data }, { on := 0, ground := Go.Ground.phase }, { on := 1, ground := Go.Ground.phase }, { on := 2, ground := Go.Ground.phase }, { on := 3, ground := Go.Ground.phase }, { on := 4, ground := Go.Ground.phase }, { on := 5, ground := Go.Ground.phase }, { on := 6, ground := Go.Ground.phase }, { on := 7, ground := Go.Ground.phase }, { on := 8, ground := Go.Ground.phase }, { on := 9, ground := Go.Ground.phase }], guard := none } : Oper)) (v := .pointer (some ⟨b, 2, none⟩)) rfl (by kernel_rfl) (by kernel_rfl) (by kernel_rfl) (fun _ _ _ h => h) (Or.inl ⟨by rfl, ?hz7⟩) ?_
        case hz7 => ((intro W; go_simp); (try with_reducible rfl); (try exact ⟨rfl, rfl, rfl⟩))
        simp only [Act.put, List.setIfInBounds_toArray, List.set_cons_zero, List.set_cons_succ]
        refine wpAny_ready (rs := [12]) (by kernel_rfl) (by simp) ?_
        refine (AllReady.cons (o := ({ dst := none, op := Go.Op.store 25 (Go.Operand.tmp 39) (Go.Operand.tmp 37), type := 0, pos := "tops.go:25", after := #[{ on := 11, ground := Go.Ground.data }, { on := 9, ground := Go.Ground.data }, { on := 9, ground := Go.Ground.chain }, { on := 0, ground := Go.Ground.phase }, { on := 1, ground := Go.Ground.phase }, { on := 2, ground := Go.Ground.phase }, { on := 3, ground := Go.Ground.phase }, { on := 4, ground := Go.Ground.phase }, { on := 5, ground := Go.Ground.phase }, { on := 6, ground := Go.Ground.phase }, { on := 7, ground := Go.Ground.phase }, { on := 8, ground := Go.Ground.phase }, { on := 9, ground := Go.Ground.phase }], guard := none } : Oper)) rfl (fun K hK => ?_) AllReady.nil)
        have HK := Lib.hid hK
        clear hK
        have hcc : w9.cell? ⟨b, 2, none⟩ = some vf := cell_of_row _ _ _ _ _ _ HROW9.out
        have hff : w9.frozen? ⟨b, 2, none⟩ = false := frozen_of_row _ _ _ _ _ HROW9.out
        go_simp
        try clear hcc hff
        refine HK.out _ _ ?_
        clear HK K
        try simp only [Act.put, List.setIfInBounds_toArray, List.set_cons_zero, List.set_cons_succ]
        refine wpAny_done (by kernel_rfl) ?_ _
        go_wp2
        go_end0
        rw [HV.out]
        exact ⟨rfl, _, _, _, P9⟩
      · have HK := Lib.hid hK
        clear hK
        rw [if_pos (by rfl)]
        refine wp_load_row 38 _ rfl bv (by rfl) 38 (vaC v) (0, 0) _ HB5.out Try.underlying38 rfl sizeVa ?_
        refine HK.out _ _ ?_
        clear HK K
        try simp only [Act.put, List.setIfInBounds_toArray, List.set_cons_zero, List.set_cons_succ]
        refine wpAny_ready (rs := [4, 7]) (by kernel_rfl) (by simp) ?_
        refine (AllReady.cons (o := ({ dst := some 32, op := Go.Op.load 25 (Go.Operand.tmp 31), type := 25, pos := "tops.go:25", after := #[{ on := 3, ground := Go.Ground.data }], guard := none } : Oper)) rfl (fun K hK => ?_) (AllReady.cons (o := ({ dst := some 35, op := Go.Op.call { callee := Go.Callee.value (Go.Operand.func 31), args := #[Go.Operand.tmp 33, Go.Operand.tmp 34], argTypes := #[73, 38] }, type := 42, pos := "tops.go:25", after := #[{ on := 5, ground := Go.Ground.data }, { on := 6, ground := Go.Ground.data }], guard := none } : Oper)) rfl (fun K hK => ?_) AllReady.nil))
        · have HK := Lib.hid hK
          clear hK
          have hcc : (w5.drew).cell? ⟨b, 2, none⟩ = some vf := cell_of_row _ _ _ _ _ _ PD.row
          have hcd : (w5).cell? ⟨b, 2, none⟩ = some vf := hcc
          go_simp
          try clear hcc hcd
          refine HK.out _ _ ?_
          clear HK K
          try simp only [Act.put, List.setIfInBounds_toArray, List.set_cons_zero, List.set_cons_succ]
          refine wpAny_ready (rs := [7]) (by kernel_rfl) (by simp) ?_
          refine (AllReady.cons (o := ({ dst := some 35, op := Go.Op.call { callee := Go.Callee.value (Go.Operand.func 31), args := #[Go.Operand.tmp 33, Go.Operand.tmp 34], argTypes := #[73, 38] }, type := 42, pos := "tops.go:25", after := #[{ on := 5, ground := Go.Ground.data }, { on := 6, ground := Go.Ground.data }], guard := none } : Oper)) rfl (fun K hK => ?_) AllReady.nil)
          have HK := Lib.hid hK
          clear hK
          go_simp
          refine HEXP.out.mono ?_
          rintro e w7 ⟨c7, rfl, hc7, h7, f7⟩
          have z7 : w5.heap.size ≤ w7.heap.size := f7.size
          have HC7 : Hid (c7.length = 16) := Lib.hid (fnE.len hc7)
          have HN7 := Lib.hid (fnE.one hc7)
          have P7 := PD.step f7 h7
          have HX7 := Lib.hid hc7
          clear hc7 h7
          have HBV7 := Lib.hid (f7.at_ HB5.out (by simp; omega))
          try go_wp2_with fail
          refine HK.out _ _ ?_
          clear HK K
          try simp only [Act.put, List.setIfInBounds_toArray, List.set_cons_zero, List.set_cons_succ]
          refine wpAny_ready (rs := [8]) (by kernel_rfl) (by simp) ?_
          refine (AllReady.cons (o := ({ dst := some 36, op := Go.Op.buildSlice 25 1 #[(0, Go.Operand.tmp 35)], type := 25, pos := "tops.go:25", after := #[{ on := 7, ground := Go.Ground.data }], guard := none } : Oper)) rfl (fun K hK => ?_) AllReady.nil)
          have HK := Lib.hid hK
          clear hK
          rw [if_pos (by rfl)]
          refine wp_bs1 25 42 (.agg fnZ) 16 Try.underlying25 infoFnz (by decide) (by decide) (c := c7) HC7.out (by rfl) ?_
          have P8 := P7.alloc (.cells (c7).toArray 42)
          have HX8 := Lib.hid (fnE.keep HX7.out (w' := w7.alloc (.cells (c7).toArray 42)) (S' := fun k => w5.heap.size ≤ k ∧ k < (w7.alloc (.cells (c7).toArray 42)).heap.size) (fun k hk hl => ⟨⟨hk, by simp only [szA]; omega⟩, Below.heap_alloc _ _ _ hl⟩) (by simp))
          refine HK.out _ _ ?_
          clear HK K
          try simp only [Act.put, List.setIfInBounds_toArray, List.set_cons_zero, List.set_cons_succ]
          refine wpAny_ready (rs := [9]) (by kernel_rfl) (by simp) ?_
          refine (AllReady.cons (o := ({ dst := some 37, op := Go.Op.call { callee := Go.Callee.builtin Go.Builtin.append, args := #[Go.Operand.tmp 32, Go.Operand.tmp 36], argTypes := #[25, 25] }, type := 25, pos := "tops.go:25", after := #[{ on := 4, ground := Go.Ground.data }, { on := 8, ground := Go.Ground.data }, { on := 7, ground := Go.Ground.chain }], guard := none } : Oper)) rfl (fun K hK => ?_) AllReady.nil)
          have HK := Lib.hid hK
          clear hK
          obtain ⟨N, hN⟩ := P8.own
          obtain ⟨rows, hrl, how, hel⟩ := hN.f
          refine step_append_lies _ (by rfl) _ _ _ (by rfl) (b + 1) 42 i0 (.agg fnZ) 16 208 Try.underlying25 hi0 hz0 hz1 hz2 rfl (by decide) vf p.fs.length rows.flatten (by rfl) how ⟨w7.heap.size, 0, none⟩ 1 1 (c7) (by rfl) (by rw [HC7.out]) (World.news_of_block (cs := (c7).toArray) (t := 42) (fr := (0, 0)) (heap_alloc_new (w7) _)) (HN7.out) (by omega) (by unfold maxLen; omega) (by omega) (Nat.succ_le_of_lt (lt_of_at P8.row)) _ rfl ?_
          intro ga ca w9 hown9 hgrow9 hat9 hlt9
          have hp := hN.pushF hrl hel how HX8.out (by omega) (fun k hk => P5.lt k hk) rfl hown9 hgrow9 hat9
          obtain ⟨hrow9, P9⟩ := P8.app (v' := .slice (some ⟨ga, 0, none⟩) (p.fs.length + 1) ca) how hgrow9 (by decide) (by decide) hp 2 rfl
          have HROW9 := Lib.hid hrow9
          clear hel how hrl hown9 hgrow9 hrow9 hp hN
          refine HK.out _ _ ?_
          clear HK K
          try simp only [Act.put, List.setIfInBounds_toArray, List.set_cons_zero, List.set_cons_succ]
          refine wpAny_take (i := 10) (oi := ({ dst := some 38, op := Go.Op.nilCheck (Go.Operand.tmp 28), type := 0, pos := "tops.go:25", after := #[{ on := 0, ground := Go.Ground.data }, { on := 0, ground := Go.Ground.phase }, { on := 1, ground := Go.Ground.phase }, { on := 2, ground := Go.Ground.phase }, { on := 3, ground := Go.Ground.phase }, { on := 4, ground := Go.Ground.phase }, { on := 5, ground := Go.Ground.phase }, { on := 6, ground := Go.Ground.phase }, { on := 7, ground := Go.Ground.phase }, { on := 8, ground := Go.Ground.phase }, { on := 9, ground := Go.Ground.phase }], guard := none } : Oper)) (v := .pointer (some ⟨b, 0, none⟩)) rfl (by kernel_rfl) (by kernel_rfl) (by kernel_rfl) (fun _ _ _ h => h) (Or.inl ⟨by rfl, ?hz8⟩) ?_
          case hz8 => ((intro W; go_simp); (try with_reducible rfl); (try exact ⟨rfl, rfl, rfl⟩))
          simp only [Act.put, List.setIfInBounds_toArray, List.set_cons_zero, List.set_cons_succ]
          refine wpAny_take (i := 11) (oi := ({ dst := some 39, op := Go.Op.fieldAddr 27 (Go.Operand.tmp 38) 2, type := 0, pos := "tops.go:25", after := #[{ on := 10, ground := Go.Ground.data }, { on := 0, ground := Go.Ground.phase }, { on := 1, ground := Go.Ground.phase }, { on := 2, ground := Go.Ground.phase }, { on := 3, ground := Go.Ground.phase }, { on := 4, ground := Go.Ground.phase }, { on := 5, ground := Go.Ground.phase }, { on := 6, ground := Go.Ground.phase }, { on := 7, ground := Go.Ground.phase }, { on := 8, ground := Go.Ground.phase }, { on := 9, ground := Go.Ground.phase }], guard := none } : Oper)) (v := .pointer (some ⟨b, 2, none⟩)) rfl (by kernel_rfl) (by kernel_rfl) (by kernel_rfl) (fun _ _ _ h => h) (Or.inl ⟨by rfl, ?hz9⟩) ?_
          case hz9 => ((intro W; go_simp); (try with_reducible rfl); (try exact ⟨rfl, rfl, rfl⟩))
          simp only [Act.put, List.setIfInBounds_toArray, List.set_cons_zero, List.set_cons_succ]
          refine wpAny_ready (rs := [12]) (by kernel_rfl) (by simp) ?_
          refine (AllReady.cons (o := ({ dst := none, op := Go.Op.store 25 (Go.Operand.tmp 39) (Go.Operand.tmp 37), type := 0, pos := "tops.go:25", after := #[{ on := 11, ground := Go.Ground.data }, { on := 9, ground := Go.Ground.data }, { on := 9, ground := Go.Ground.chain }, { on := 0, ground := Go.Ground.phase }, { on := 1, ground := Go.Ground.phase }, { on := 2, ground := Go.Ground.phase }, { on := 3, ground := Go.Ground.phase }, { on := 4, ground := Go.Ground.phase }, { on := 5, ground := Go.Ground.phase }, { on := 6, ground := Go.Ground.phase }, { on := 7, ground := Go.Ground.phase }, { on := 8, ground := Go.Ground.phase }, { on := 9, ground := Go.Ground.phase }], guard := none } : Oper)) rfl (fun K hK => ?_) AllReady.nil)
          have HK := Lib.hid hK
          clear hK
          have hcc : w9.cell? ⟨b, 2, none⟩ = some vf := cell_of_row _ _ _ _ _ _ HROW9.out
          have hff : w9.frozen? ⟨b, 2, none⟩ = false := frozen_of_row _ _ _ _ _ HROW9.out
          go_simp
          try clear hcc hff
          refine HK.out _ _ ?_
          clear HK K
          try simp only [Act.put, List.setIfInBounds_toArray, List.set_cons_zero, List.set_cons_succ]
          refine wpAny_done (by kernel_rfl) ?_ _
          go_wp2
          go_end0
          rw [HV.out]
          exact ⟨rfl, _, _, _, P9⟩
        · have HK := Lib.hid hK
          clear hK
          go_simp
          refine HEXP.out.mono ?_
          rintro e w7 ⟨c7, rfl, hc7, h7, f7⟩
          have z7 : w5.heap.size ≤ w7.heap.size := f7.size
          have HC7 : Hid (c7.length = 16) := Lib.hid (fnE.len hc7)
          have HN7 := Lib.hid (fnE.one hc7)
          have P7 := PD.step f7 h7
          have HX7 := Lib.hid hc7
          clear hc7 h7
          have HBV7 := Lib.hid (f7.at_ HB5.out (by simp; omega))
          try go_wp2_with fail
          refine HK.out _ _ ?_
          clear HK K
          try simp only [Act.put, List.setIfInBounds_toArray, List.set_cons_zero, List.set_cons_succ]
          refine wpAny_ready (rs := [4, 8]) (by kernel_rfl) (by simp) ?_
          refine (AllReady.cons (o := ({ dst := some 32, op := Go.Op.load 25 (Go.Operand.tmp 31), type := 25, pos := "tops.go:25", after := #[{ on := 3, ground := Go.Ground.data }], guard := none } : Oper)) rfl (fun K hK => ?_) (AllReady.cons (o := ({ dst := some 36, op := Go.Op.buildSlice 25 1 #[(0, Go.Operand.tmp 35)], type := 25, pos := "tops.go:25", after := #[{ on := 7, ground := Go.Ground.data }], guard := none } : Oper)) rfl (fun K hK => ?_) AllReady.nil))
          · have HK := Lib.hid hK
            clear hK
            have hcc : (w7).cell? ⟨b, 2, none⟩ = some vf := cell_of_row _ _ _ _ _ _ P7.row
            have hcd : (w7).cell? ⟨b, 2, none⟩ = some vf := hcc
            go_simp
            try clear hcc hcd
            refine HK.out _ _ ?_
            clear HK K
            try simp only [Act.put, List.setIfInBounds_toArray, List.set_cons_zero, List.set_cons_succ]
            refine wpAny_ready (rs := [8]) (by kernel_rfl) (by simp) ?_
            refine (AllReady.cons (o := ({ dst := some 36, op := Go.Op.buildSlice 25 1 #[(0, Go.Operand.tmp 35)], type := 25, pos := "tops.go:25", after := #[{ on := 7, ground := Go.Ground.data }], guard := none } : Oper)) rfl (fun K hK => ?_) AllReady.nil)
            have HK := Lib.hid hK
            clear hK
            rw [if_pos (by rfl)]
            refine wp_bs1 25 42 (.agg fnZ) 16 Try.underlying25 infoFnz (by decide) (by decide) (c := c7) HC7.out (by rfl) ?_
            have P8 := P7.alloc (.cells (c7).toArray 42)
            have HX8 := Lib.hid (fnE.keep HX7.out (w' := w7.alloc (.cells (c7).toArray 42)) (S' := fun k => w5.heap.size ≤ k ∧ k < (w7.alloc (.cells (c7).toArray 42)).heap.size) (fun k hk hl => ⟨⟨hk, by simp only [szA]; omega⟩, Below.heap_alloc _ _ _ hl⟩) (by simp))
            refine HK.out _ _ ?_
            clear HK K
            try simp only [Act.put, List.setIfInBounds_toArray, List.set_cons_zero, List.set_cons_succ]
            refine wpAny_ready (rs := [9]) (by kernel_rfl) (by simp) ?_
            refine (AllReady.cons (o := ({ dst := some 37, op := Go.Op.call { callee := Go.Callee.builtin Go.Builtin.append, args := #[Go.Operand.tmp 32, Go.Operand.tmp 36], argTypes := #[25, 25] }, type := 25, pos := "tops.go:25", after := #[{ on := 4, ground := Go.Ground.data }, { on := 8, ground := Go.Ground.data }, { on := 7, ground := Go.Ground.chain }], guard := none } : Oper)) rfl (fun K hK => ?_) AllReady.nil)
            have HK := Lib.hid hK
            clear hK
            obtain ⟨N, hN⟩ := P8.own
            obtain ⟨rows, hrl, how, hel⟩ := hN.f
            refine step_append_lies _ (by rfl) _ _ _ (by rfl) (b + 1) 42 i0 (.agg fnZ) 16 208 Try.underlying25 hi0 hz0 hz1 hz2 rfl (by decide) vf p.fs.length rows.flatten (by rfl) how ⟨w7.heap.size, 0, none⟩ 1 1 (c7) (by rfl) (by rw [HC7.out]) (World.news_of_block (cs := (c7).toArray) (t := 42) (fr := (0, 0)) (heap_alloc_new (w7) _)) (HN7.out) (by omega) (by unfold maxLen; omega) (by omega) (Nat.succ_le_of_lt (lt_of_at P8.row)) _ rfl ?_
            intro ga ca w9 hown9 hgrow9 hat9 hlt9
            have hp := hN.pushF hrl hel how HX8.out (by omega) (fun k hk => P5.lt k hk) rfl hown9 hgrow9 hat9
            obtain ⟨hrow9, P9⟩ := P8.app (v' := .slice (some ⟨ga, 0, none⟩) (p.fs.length + 1) ca) how hgrow9 (by decide) (by decide) hp 2 rfl
            have HROW9 := Lib.hid hrow9
            clear hel how hrl hown9 hgrow9 hrow9 hp hN
            refine HK.out _ _ ?_
            clear HK K
            try simp only [Act.put, List.setIfInBounds_toArray, List.set_cons_zero, List.set_cons_succ]
            refine wpAny_take (i := 10) (oi := ({ dst := some 38, op := Go.Op.nilCheck (Go.Operand.tmp 28), type := 0, pos := "tops.go:25", after := #[{ on := 0, ground := Go.Ground.data }, { on := 0, ground := Go.Ground.phase }, { on := 1, ground := Go.Ground.phase }, { on := 2, ground := Go.Ground.phase }, { on := 3, ground := Go.Ground.phase }, { on := 4, ground := Go.Ground.phase }, { on := 5, ground := Go.Ground.phase }, { on := 6, ground := Go.Ground.phase }, { on := 7, ground := Go.Ground.phase }, { on := 8, ground := Go.Ground.phase }, { on := 9, ground := Go.Ground.phase }], guard := none } : Oper)) (v := .pointer (some ⟨b, 0, none⟩)) rfl (by kernel_rfl) (by kernel_rfl) (by kernel_rfl) (fun _ _ _ h => h) (Or.inl ⟨by rfl, ?hz10⟩) ?_
            case hz10 => ((intro W; go_simp); (try with_reducible rfl); (try exact ⟨rfl, rfl, rfl⟩))
            simp only [Act.put, List.setIfInBounds_toArray, List.set_cons_zero, List.set_cons_succ]
            refine wpAny_take (i := 11) (oi := ({ dst := some 39, op := Go.Op.fieldAddr 27 (Go.Operand.tmp 38) 2, type := 0, pos := "tops.go:25", after := #[{ on := 10, ground := Go.Ground.data }, { on := 0, ground := Go.Ground.phase }, { on := 1, ground := Go.Ground.phase }, { on := 2, ground := Go.Ground.phase }, { on := 3, ground := Go.Ground.phase }, { on := 4, ground := Go.Ground.phase }, { on := 5, ground := Go.Ground.phase }, { on := 6, ground := Go.Ground.phase }, { on := 7, ground := Go.Ground.phase }, { on := 8, ground := Go.Ground.phase }, { on := 9, ground := Go.Ground.phase }], guard := none } : Oper)) (v := .pointer (some ⟨b, 2, none⟩)) rfl (by kernel_rfl) (by kernel_rfl) (by kernel_rfl) (fun _ _ _ h => h) (Or.inl ⟨by rfl, ?hz11⟩) ?_
            case hz11 => ((intro W; go_simp); (try with_reducible rfl); (try exact ⟨rfl, rfl, rfl⟩))
            simp only [Act.put, List.setIfInBounds_toArray, List.set_cons_zero, List.set_cons_succ]
            refine wpAny_ready (rs := [12]) (by kernel_rfl) (by simp) ?_
            refine (AllReady.cons (o := ({ dst := none, op := Go.Op.store 25 (Go.Operand.tmp 39) (Go.Operand.tmp 37), type := 0, pos := "tops.go:25", after := #[{ on := 11, ground := Go.Ground.data }, { on := 9, ground := Go.Ground.data }, { on := 9, ground := Go.Ground.chain }, { on := 0, ground := Go.Ground.phase }, { on := 1, ground := Go.Ground.phase }, { on := 2, ground := Go.Ground.phase }, { on := 3, ground := Go.Ground.phase }, { on := 4, ground := Go.Ground.phase }, { on := 5, ground := Go.Ground.phase }, { on := 6, ground := Go.Ground.phase }, { on := 7, ground := Go.Ground.phase }, { on := 8, ground := Go.Ground.phase }, { on := 9, ground := Go.Ground.phase }], guard := none } : Oper)) rfl (fun K hK => ?_) AllReady.nil)
            have HK := Lib.hid hK
            clear hK
            have hcc : w9.cell? ⟨b, 2, none⟩ = some vf := cell_of_row _ _ _ _ _ _ HROW9.out
            have hff : w9.frozen? ⟨b, 2, none⟩ = false := frozen_of_row _ _ _ _ _ HROW9.out
            go_simp
            try clear hcc hff
            refine HK.out _ _ ?_
            clear HK K
            try simp only [Act.put, List.setIfInBounds_toArray, List.set_cons_zero, List.set_cons_succ]
            refine wpAny_done (by kernel_rfl) ?_ _
            go_wp2
            go_end0
            rw [HV.out]
            exact ⟨rfl, _, _, _, P9⟩
          · have HK := Lib.hid hK
            clear hK
            rw [if_pos (by rfl)]
            refine wp_bs1 25 42 (.agg fnZ) 16 Try.underlying25 infoFnz (by decide) (by decide) (c := c7) HC7.out (by rfl) ?_
            have P8 := P7.alloc (.cells (c7).toArray 42)
            have HX8 := Lib.hid (fnE.keep HX7.out (w' := w7.alloc (.cells (c7).toArray 42)) (S' := fun k => w5.heap.size ≤ k ∧ k < (w7.alloc (.cells (c7).toArray 42)).heap.size) (fun k hk hl => ⟨⟨hk, by simp only [szA]; omega⟩, Below.heap_alloc _ _ _ hl⟩) (by simp))
            refine HK.out _ _ ?_
            clear HK K
            try simp only [Act.put, List.setIfInBounds_toArray, List.set_cons_zero, List.set_cons_succ]
            refine wpAny_ready (rs := [4]) (by kernel_rfl) (by simp) ?_
            refine (AllReady.cons (o := ({ dst := some 32, op := Go.Op.load 25 (Go.Operand.tmp 31), type := 25, pos := "tops.go:25", after := #[{ on := 3, ground := Go.Ground.data }], guard := none } : Oper)) rfl (fun K hK => ?_) AllReady.nil)
            have HK := Lib.hid hK
            clear hK
            have hcc : ((w7).alloc (.cells (c7).toArray 42)).cell? ⟨b, 2, none⟩ = some vf := cell_of_row _ _ _ _ _ _ P8.row
            have hcd : ((w7).alloc (.cells (c7).toArray 42)).cell? ⟨b, 2, none⟩ = some vf := hcc
            go_simp
            try clear hcc hcd
            refine HK.out _ _ ?_
            clear HK K
            try simp only [Act.put, List.setIfInBounds_toArray, List.set_cons_zero, List.set_cons_succ]
            refine wpAny_ready (rs := [9]) (by kernel_rfl) (by simp) ?_
            refine (AllReady.cons (o := ({ dst := some 37, op := Go.Op.call { callee := Go.Callee.builtin Go.Builtin.append, args := #[Go.Operand.tmp 32, Go.Operand.tmp 36], argTypes := #[25, 25] }, type := 25, pos := "tops.go:25", after := #[{ on := 4, ground := Go.Ground.data }, { on := 8, ground := Go.Ground.data }, { on := 7, ground := Go.Ground.chain }], guard := none } : Oper)) rfl (fun K hK => ?_) AllReady.nil)
            have HK := Lib.hid hK
            clear hK
            obtain ⟨N, hN⟩ := P8.own
            obtain ⟨rows, hrl, how, hel⟩ := hN.f
            refine step_append_lies _ (by rfl) _ _ _ (by rfl) (b + 1) 42 i0 (.agg fnZ) 16 208 Try.underlying25 hi0 hz0 hz1 hz2 rfl (by decide) vf p.fs.length rows.flatten (by rfl) how ⟨w7.heap.size, 0, none⟩ 1 1 (c7) (by rfl) (by rw [HC7.out]) (World.news_of_block (cs := (c7).toArray) (t := 42) (fr := (0, 0)) (heap_alloc_new (w7) _)) (HN7.out) (by omega) (by unfold maxLen; omega) (by omega) (Nat.succ_le_of_lt (lt_of_at P8.row)) _ rfl ?_
            intro ga ca w9 hown9 hgrow9 hat9 hlt9
            have hp := hN.pushF hrl hel how HX8.out (by omega) (fun k hk => P5.lt k hk) rfl hown9 hgrow9 hat9
            obtain ⟨hrow9, P9⟩ := P8.app (v' := .slice (some ⟨ga, 0, none⟩) (p.fs.length + 1) ca) how hgrow9 (by decide) (by decide) hp 2 rfl
            have HROW9 := Lib.hid hrow9
            clear hel how hrl hown9 hgrow9 hrow9 hp hN
            refine HK.out _ _ ?_
            clear HK K
            try simp only [Act.put, List.setIfInBounds_toArray, List.set_cons_zero, List.set_cons_succ]
            refine wpAny_take (i := 10) (oi := ({ dst := some 38, op := Go.Op.nilCheck (Go.Operand.tmp 28), type := 0, pos := "tops.go:25", after := #[{ on := 0, ground := Go.Ground.data }, { on := 0, ground := Go.Ground.phase }, { on := 1, ground := Go.Ground.phase }, { on := 2, ground := Go.Ground.phase }, { on := 3, ground := Go.Ground.phase }, { on := 4, ground := Go.Ground.phase }, { on := 5, ground := Go.Ground.phase }, { on := 6, ground := Go.Ground.phase }, { on := 7, ground := Go.Ground.phase }, { on := 8, ground := Go.Ground.phase }, { on := 9, ground := Go.Ground.phase }], guard := none } : Oper)) (v := .pointer (some ⟨b, 0, none⟩)) rfl (by kernel_rfl) (by kernel_rfl) (by kernel_rfl) (fun _ _ _ h => h) (Or.inl ⟨by rfl, ?hz12⟩) ?_
            case hz12 => ((intro W; go_simp); (try with_reducible rfl); (try exact ⟨rfl, rfl, rfl⟩))
            simp only [Act.put, List.setIfInBounds_toArray, List.set_cons_zero, List.set_cons_succ]
            refine wpAny_take (i := 11) (oi := ({ dst := some 39, op := Go.Op.fieldAddr 27 (Go.Operand.tmp 38) 2, type := 0, pos := "tops.go:25", after := #[{ on := 10, ground := Go.Ground.data }, { on := 0, ground := Go.Ground.phase }, { on := 1, ground := Go.Ground.phase }, { on := 2, ground := Go.Ground.phase }, { on := 3, ground := Go.Ground.phase }, { on := 4, ground := Go.Ground.phase }, { on := 5, ground := Go.Ground.phase }, { on := 6, ground := Go.Ground.phase }, { on := 7, ground := Go.Ground.phase }, { on := 8, ground := Go.Ground.phase }, { on := 9, ground := Go.Ground.phase }], guard := none } : Oper)) (v := .pointer (some ⟨b, 2, none⟩)) rfl (by kernel_rfl) (by kernel_rfl) (by kernel_rfl) (fun _ _ _ h => h) (Or.inl ⟨by rfl, ?hz13⟩) ?_
            case hz13 => ((intro W; go_simp); (try with_reducible rfl); (try exact ⟨rfl, rfl, rfl⟩))
            simp only [Act.put, List.setIfInBounds_toArray, List.set_cons_zero, List.set_cons_succ]
            refine wpAny_ready (rs := [12]) (by kernel_rfl) (by simp) ?_
            refine (AllReady.cons (o := ({ dst := none, op := Go.Op.store 25 (Go.Operand.tmp 39) (Go.Operand.tmp 37), type := 0, pos := "tops.go:25", after := #[{ on := 11, ground := Go.Ground.data }, { on := 9, ground := Go.Ground.data }, { on := 9, ground := Go.Ground.chain }, { on := 0, ground := Go.Ground.phase }, { on := 1, ground := Go.Ground.phase }, { on := 2, ground := Go.Ground.phase }, { on := 3, ground := Go.Ground.phase }, { on := 4, ground := Go.Ground.phase }, { on := 5, ground := Go.Ground.phase }, { on := 6, ground := Go.Ground.phase }, { on := 7, ground := Go.Ground.phase }, { on := 8, ground := Go.Ground.phase }, { on := 9, ground := Go.Ground.phase }], guard := none } : Oper)) rfl (fun K hK => ?_) AllReady.nil)
            have HK := Lib.hid hK
            clear hK
            have hcc : w9.cell? ⟨b, 2, none⟩ = some vf := cell_of_row _ _ _ _ _ _ HROW9.out
            have hff : w9.frozen? ⟨b, 2, none⟩ = false := frozen_of_row _ _ _ _ _ HROW9.out
            go_simp
            try clear hcc hff
            refine HK.out _ _ ?_
            clear HK K
            try simp only [Act.put, List.setIfInBounds_toArray, List.set_cons_zero, List.set_cons_succ]
            refine wpAny_done (by kernel_rfl) ?_ _
            go_wp2
            go_end0
            rw [HV.out]
            exact ⟨rfl, _, _, _, P9⟩
    | false =>
      rw [hi, if_neg (by decide)] at HV
      rw [hi, take_no hi] at hta
      clear hi
      go_wp2_with fail
      refine hta.mono ?_
      rintro e w5 ⟨rfl, h5, f5⟩
      clear hta
      have P5 := P3.step (FF4.trans f5) h5
      have HB5 := Lib.hid (f5.at_ HB4.out (by simp; omega))
      have z5 : bv + 1 ≤ w5.heap.size := by have := f5.size; rw [HZ4.out] at this; exact this
      have hlg := length_any h5
      generalize (lengthV s1).1 = n at *
      generalize (lengthV s1).2 = s2 at *
      have FF5 := FF4.trans f5
      clear h4 FF4 h3 f5
      go_wp2_with fail
      refine hlg.mono ?_
      rintro e w6 ⟨rfl, h6, f6⟩
      clear hlg
      have FF6 := FF5.trans f6
      have z6 := f6.size
      have hb6 := f6.at_ HB5.out (by simp; omega)
      have c4 : w6.cell? ⟨bv, 4, none⟩ = some (.int .i64 v.ln) := cell_of_row _ _ _ _ _ _ hb6
      have e4 : w6.frozen? ⟨bv, 4, none⟩ = false := frozen_of_row _ _ _ _ _ hb6
      have u7 := up_set hb6 4 (.int .i64 n)
      have P7 : PrR w0 (w6.setCell ⟨bv, 4, none⟩ (.int .i64 n)) R M b p s2 vs vv vf := P3.step (FF6.up u7 (by omega)) (h6.up u7 hb6 (by decide) (by decide))
      have HB7 : Hid ((w6.setCell ⟨bv, 4, none⟩ (.int .i64 n)).heap[bv]? = some (.cells (vaC ⟨v.nm, v.ty, n, v.at_⟩) 38)) := Lib.hid u7.at_
      have HZ7 := Lib.hid u7.size
      clear u7 hb6 h6 f6 P5 FF5 FF6 P3 h5
      go_wp2_with fail
      refine (want_any ⟨#[59]⟩ (by decide) P7.rd).mono ?_
      rintro e w8 ⟨rfl, h8, f8⟩
      have P8v := P7.step f8 h8
      have HB8 := Lib.hid (f8.at_ HB7.out (by simp; omega))
      have z8 : w6.heap.size ≤ w8.heap.size := by have := f8.size; rw [HZ7.out] at this; exact this
      obtain ⟨i0, hi0, hz0, hz1, hz2⟩ := info_parts infoVa6
      clear P7 h8 f8 c4 e4
      have PD := P8v.step (w' := w8.drew) ((Fr.refl _ _).drew) (P8v.rd.below ((Below.refl _ _).drew))
      go_wp2_with fail
      refine wp_any_drew (by kernel_rfl) ?_
      refine wpAny_take (i := 0) (oi := ({ dst := some 45, op := Go.Op.move (Go.Operand.tmp 1), type := 75, pos := "tops.go:30", after := #[], guard := none } : Oper)) (v := .pointer (some ⟨b, 0, none⟩)) rfl (by kernel_rfl) (by kernel_rfl) (by kernel_rfl) (fun _ _ _ h => h) (Or.inl ⟨by rfl, ?hz1⟩) ?_
      case hz1 => ((intro W; go_simp); (try with_reducible rfl); (try exact ⟨rfl, rfl, rfl⟩))
      simp only [Act.put, List.setIfInBounds_toArray, List.set_cons_zero, List.set_cons_succ]
      refine wpAny_take (i := 1) (oi := ({ dst := some 46, op := Go.Op.move (Go.Operand.tmp 1), type := 75, pos := "tops.go:30", after := #[], guard := none } : Oper)) (v := .pointer (some ⟨b, 0, none⟩)) rfl (by kernel_rfl) (by kernel_rfl) (by kernel_rfl) (fun _ _ _ h => h) (Or.inl ⟨by rfl, ?hz2⟩) ?_
      case hz2 => ((intro W; go_simp); (try with_reducible rfl); (try exact ⟨rfl, rfl, rfl⟩))
      simp only [Act.put, List.setIfInBounds_toArray, List.set_cons_zero, List.set_cons_succ]
      refine wpAny_take (i := 2) (oi := ({ dst := some 47, op := Go.Op.nilCheck (Go.Operand.tmp 46), type := 0, pos := "tops.go:30", after := #[{ on := 1, ground := Go.Ground.data }], guard := none } : Oper)) (v := .pointer (some ⟨b, 0, none⟩)) rfl (by kernel_rfl) (by kernel_rfl) (by kernel_rfl) (fun _ _ _ h => h) (Or.inl ⟨by rfl, ?hz3⟩) ?_
      case hz3 => ((intro W; go_simp); (try with_reducible rfl); (try exact ⟨rfl, rfl, rfl⟩))
      simp only [Act.put, List.setIfInBounds_toArray, List.set_cons_zero, List.set_cons_succ]
      refine wpAny_take (i := 3) (oi := ({ dst := some 48, op := Go.Op.fieldAddr 27 (Go.Operand.tmp 47) 1, type := 0, pos := "tops.go:30", after := #[{ on := 2, ground := Go.Ground.data }], guard := none } : Oper)) (v := .pointer (some ⟨b, 1, none⟩)) rfl (by kernel_rfl) (by kernel_rfl) (by kernel_rfl) (fun _ _ _ h => h) (Or.inl ⟨by rfl, ?hz4⟩) ?_
      case hz4 => ((intro W; go_simp); (try with_reducible rfl); (try exact ⟨rfl, rfl, rfl⟩))
      simp only [Act.put, List.setIfInBounds_toArray, List.set_cons_zero, List.set_cons_succ]
      refine wpAny_ready (rs := [4, 5]) (by kernel_rfl) (by simp) ?_
      refine (AllReady.cons (o := ({ dst := some 49, op := Go.Op.load 24 (Go.Operand.tmp 48), type := 24, pos := "tops.go:30", after := #[{ on := 3, ground := Go.Ground.data }], guard := none } : Oper)) rfl (fun K hK => ?_) (AllReady.cons (o := ({ dst := some 50, op := Go.Op.load 38 (Go.Operand.tmp 4), type := 38, pos := "tops.go:30", after := #[], guard := none } : Oper)) rfl (fun K hK => ?_) AllReady.nil))
      · have HK := Lib.hid hK
        clear hK
        have hcc : (w8.drew).cell? ⟨b, 1, none⟩ = some vv := cell_of_row _ _ _ _ _ _ PD.row
        have hcd : (w8).cell? ⟨b, 1, none⟩ = some vv := hcc
        go_simp
        try clear hcc hcd
        refine HK.out _ _ ?_
        clear HK K
        try simp only [Act.put, List.setIfInBounds_toArray, List.set_cons_zero, List.set_cons_succ]
        refine wpAny_ready (rs := [5]) (by kernel_rfl) (by simp) ?_
        refine (AllReady.cons (o := ({ dst := some 50, op := Go.Op.load 38 (Go.Operand.tmp 4), type := 38, pos := "tops.go:30", after := #[], guard := none } : Oper)) rfl (fun K hK => ?_) AllReady.nil)
        have HK := Lib.hid hK
        clear hK
        rw [if_pos (by rfl)]
        refine wp_load_row 38 _ rfl bv (by rfl) 38 (vaC ⟨v.nm, v.ty, n, v.at_⟩) (0, 0) _ HB8.out Try.underlying38 rfl sizeVa ?_
        refine HK.out _ _ ?_
        clear HK K
        try simp only [Act.put, List.setIfInBounds_toArray, List.set_cons_zero, List.set_cons_succ]
        refine wpAny_ready (rs := [6]) (by kernel_rfl) (by simp) ?_
        refine (AllReady.cons (o := ({ dst := some 51, op := Go.Op.buildSlice 24 1 #[(0, Go.Operand.tmp 50)], type := 24, pos := "tops.go:30", after := #[{ on := 5, ground := Go.Ground.data }], guard := none } : Oper)) rfl (fun K hK => ?_) AllReady.nil)
        have HK := Lib.hid hK
        clear hK
        rw [if_pos (by rfl)]
        refine wp_bs1 24 38 (.agg vaZ) 6 Try.underlying24 infoVaz (by decide) (by decide) (c := vaL ⟨v.nm, v.ty, n, v.at_⟩) rfl (by rfl) ?_
        have P8 := PD.alloc (.cells (vaL ⟨v.nm, v.ty, n, v.at_⟩).toArray 38)
        have HX8 : Hid (vaE.At ((w8.drew).alloc (.cells (vaL ⟨v.nm, v.ty, n, v.at_⟩).toArray 38)) (fun k => w8.heap.size ≤ k ∧ k < ((w8.drew).alloc (.cells (vaL ⟨v.nm, v.ty, n, v.at_⟩).toArray 38)).heap.size) ⟨v.nm, v.ty, n, v.at_⟩ (vaL ⟨v.nm, v.ty, n, v.at_⟩)) := Lib.hid rfl
        refine HK.out _ _ ?_
        clear HK K
        try simp only [Act.put, List.setIfInBounds_toArray, List.set_cons_zero, List.set_cons_succ]
        refine wpAny_ready (rs := [7]) (by kernel_rfl) (by simp) ?_
        refine (AllReady.cons (o := ({ dst := some 52, op := Go.Op.call { callee := Go.Callee.builtin Go.Builtin.append, args := #[Go.Operand.tmp 49, Go.Operand.tmp 51], argTypes := #[24, 24] }, type := 24, pos := "tops.go:30", after := #[{ on := 4, ground := Go.Ground.data }, { on := 6, ground := Go.Ground.data }], guard := none } : Oper)) rfl (fun K hK => ?_) AllReady.nil)
        have HK := Lib.hid hK
        clear hK
        obtain ⟨N, hN⟩ := P8.own
        obtain ⟨rows, hrl, how, hel⟩ := hN.v
        refine step_append_lies _ (by rfl) _ _ _ (by rfl) (b + 1) 38 i0 (.agg vaZ) 6 64 Try.underlying24 hi0 hz0 hz1 hz2 rfl (by decide) vv p.vs.length rows.flatten (by rfl) how ⟨w8.drew.heap.size, 0, none⟩ 1 1 (vaL ⟨v.nm, v.ty, n, v.at_⟩) (by rfl) (rfl) (World.news_of_block (cs := (vaL ⟨v.nm, v.ty, n, v.at_⟩).toArray) (t := 38) (fr := (0, 0)) (heap_alloc_new (w8.drew) _)) (by simp [Value.oneCell']) (by omega) (by unfold maxLen; omega) (by omega) (Nat.succ_le_of_lt (lt_of_at P8.row)) _ rfl ?_
        intro ga ca w9 hown9 hgrow9 hat9 hlt9
        have hp := hN.pushV hrl hel how HX8.out (by omega) (fun k hk => P8v.lt k hk) rfl hown9 hgrow9 hat9
        obtain ⟨hrow9, P9⟩ := P8.app (v' := .slice (some ⟨ga, 0, none⟩) (p.vs.length + 1) ca) how hgrow9 (by decide) (by decide) hp 1 rfl
        have HROW9 := Lib.hid hrow9
        clear hel how hrl hown9 hgrow9 hrow9 hp hN
        refine HK.out _ _ ?_
        clear HK K
        try simp only [Act.put, List.setIfInBounds_toArray, List.set_cons_zero, List.set_cons_succ]
        refine wpAny_take (i := 8) (oi := ({ dst := some 53, op := Go.Op.nilCheck (Go.Operand.tmp 45), type := 0, pos := "tops.go:30", after := #[{ on := 0, ground := Go.Ground.data }, { on := 0, ground := Go.Ground.phase }, { on := 1, ground := Go.Ground.phase }, { on := 2, ground := Go.Ground.phase }, { on := 3, ground := Go.Ground.phase }, { on := 4, ground := Go.Ground.phase }, { on := 5, ground := Go.Ground.phase }, { on := 6, ground := Go.Ground.phase }, { on := 7, ground := Go.Ground.phase }], guard := none } : Oper)) (v := .pointer (some ⟨b, 0, none⟩)) rfl (by kernel_rfl) (by kernel_rfl) (by kernel_rfl) (fun _ _ _ h => h) (Or.inl ⟨by rfl, ?hz5⟩) ?_
        case hz5 => ((intro W; go_simp); (try with_reducible rfl); (try exact ⟨rfl, rfl, rfl⟩))
        simp only [Act.put, List.setIfInBounds_toArray, List.set_cons_zero, List.set_cons_succ]
        refine wpAny_take (i := 9) (oi := ({ dst := some 54, op := Go.Op.fieldAddr 27 (Go.Operand.tmp 53) 1, type := 0, pos := "tops.go:30", after := #[{ on := 8, ground := Go.Ground.data }, { on := 0, ground := Go.Ground.phase }, { on := 1, ground := Go.Ground.phase }, { on := 2, ground := Go.Ground.phase }, { on := 3, ground := Go.Ground.phase }, { on := 4, ground := Go.Ground.phase }, { on := 5, ground := Go.Ground.phase }, { on := 6, ground := Go.Ground.phase }, { on := 7, ground := Go.Ground.phase }], guard := none } : Oper)) (v := .pointer (some ⟨b, 1, none⟩)) rfl (by kernel_rfl) (by kernel_rfl) (by kernel_rfl) (fun _ _ _ h => h) (Or.inl ⟨by rfl, ?hz6⟩) ?_
        case hz6 => ((intro W; go_simp); (try with_reducible rfl); (try exact ⟨rfl, rfl, rfl⟩))
        simp only [Act.put, List.setIfInBounds_toArray, List.set_cons_zero, List.set_cons_succ]
        refine wpAny_ready (rs := [10]) (by kernel_rfl) (by simp) ?_
        refine (AllReady.cons (o := ({ dst := none, op := Go.Op.store 24 (Go.Operand.tmp 54) (Go.Operand.tmp 52), type := 0, pos := "tops.go:30", after := #[{ on := 9, ground := Go.Ground.data }, { on := 7, ground := Go.Ground.data }, { on := 7, ground := Go.Ground.chain }, { on := 0, ground := Go.Ground.phase }, { on := 1, ground := Go.Ground.phase }, { on := 2, ground := Go.Ground.phase }, { on := 3, ground := Go.Ground.phase }, { on := 4, ground := Go.Ground.phase }, { on := 5, ground := Go.Ground.phase }, { on := 6, ground := Go.Ground.phase }, { on := 7, ground := Go.Ground.phase }], guard := none } : Oper)) rfl (fun K hK => ?_) AllReady.nil)
        have HK := Lib.hid hK
        clear hK
        have hcc : w9.cell? ⟨b, 1, none⟩ = some vv := cell_of_row _ _ _ _ _ _ HROW9.out
        have hff : w9.frozen? ⟨b, 1, none⟩ = false := frozen_of_row _ _ _ _ _ HROW9.out
        go_simp
        try clear hcc hff
        refine HK.out _ _ ?_
        clear HK K
        try simp only [Act.put, List.setIfInBounds_toArray, List.set_cons_zero, List.set_cons_succ]
        refine wpAny_done (by kernel_rfl) ?_ _
        go_wp2
        go_end0
        rw [HV.out]
        exact ⟨rfl, _, _, _, P9⟩
      · have HK := Lib.hid hK
        clear hK
        rw [if_pos (by rfl)]
        refine wp_load_row 38 _ rfl bv (by rfl) 38 (vaC ⟨v.nm, v.ty, n, v.at_⟩) (0, 0) _ HB8.out Try.underlying38 rfl sizeVa ?_
        refine HK.out _ _ ?_
        clear HK K
        try simp only [Act.put, List.setIfInBounds_toArray, List.set_cons_zero, List.set_cons_succ]
        refine wpAny_ready (rs := [4, 6]) (by kernel_rfl) (by simp) ?_
        refine (AllReady.cons (o := ({ dst := some 49, op := Go.Op.load 24 (Go.Operand.tmp 48), type := 24, pos := "tops.go:30", after := #[{ on := 3, ground := Go.Ground.data }], guard := none } : Oper)) rfl (fun K hK => ?_) (AllReady.cons (o := ({ dst := some 51, op := Go.Op.buildSlice 24 1 #[(0, Go.Operand.tmp 50)], type := 24, pos := "tops.go:30", after := #[{ on := 5, ground := Go.Ground.data }], guard := none } : Oper)) rfl (fun K hK => ?_) AllReady.nil))
        · have HK := Lib.hid hK
          clear hK
          have hcc : (w8.drew).cell? ⟨b, 1, none⟩ = some vv := cell_of_row _ _ _ _ _ _ PD.row
          have hcd : (w8).cell? ⟨b, 1, none⟩ = some vv := hcc
          go_simp
          try clear hcc hcd
          refine HK.out _ _ ?_
          clear HK K
          try simp only [Act.put, List.setIfInBounds_toArray, List.set_cons_zero, List.set_cons_succ]
          refine wpAny_ready (rs := [6]) (by kernel_rfl) (by simp) ?_
          refine (AllReady.cons (o := ({ dst := some 51, op := Go.Op.buildSlice 24 1 #[(0, Go.Operand.tmp 50)], type := 24, pos := "tops.go:30", after := #[{ on := 5, ground := Go.Ground.data }], guard := none } : Oper)) rfl (fun K hK => ?_) AllReady.nil)
          have HK := Lib.hid hK
          clear hK
          rw [if_pos (by rfl)]
          refine wp_bs1 24 38 (.agg vaZ) 6 Try.underlying24 infoVaz (by decide) (by decide) (c := vaL ⟨v.nm, v.ty, n, v.at_⟩) rfl (by rfl) ?_
          have P8 := PD.alloc (.cells (vaL ⟨v.nm, v.ty, n, v.at_⟩).toArray 38)
          have HX8 : Hid (vaE.At ((w8.drew).alloc (.cells (vaL ⟨v.nm, v.ty, n, v.at_⟩).toArray 38)) (fun k => w8.heap.size ≤ k ∧ k < ((w8.drew).alloc (.cells (vaL ⟨v.nm, v.ty, n, v.at_⟩).toArray 38)).heap.size) ⟨v.nm, v.ty, n, v.at_⟩ (vaL ⟨v.nm, v.ty, n, v.at_⟩)) := Lib.hid rfl
          refine HK.out _ _ ?_
          clear HK K
          try simp only [Act.put, List.setIfInBounds_toArray, List.set_cons_zero, List.set_cons_succ]
          refine wpAny_ready (rs := [7]) (by kernel_rfl) (by simp) ?_
          refine (AllReady.cons (o := ({ dst := some 52, op := Go.Op.call { callee := Go.Callee.builtin Go.Builtin.append, args := #[Go.Operand.tmp 49, Go.Operand.tmp 51], argTypes := #[24, 24] }, type := 24, pos := "tops.go:30", after := #[{ on := 4, ground := Go.Ground.data }, { on := 6, ground := Go.Ground.data }], guard := none } : Oper)) rfl (fun K hK => ?_) AllReady.nil)
          have HK := Lib.hid hK
          clear hK
          obtain ⟨N, hN⟩ := P8.own
          obtain ⟨rows, hrl, how, hel⟩ := hN.v
          refine step_append_lies _ (by rfl) _ _ _ (by rfl) (b + 1) 38 i0 (.agg vaZ) 6 64 Try.underlying24 hi0 hz0 hz1 hz2 rfl (by decide) vv p.vs.length rows.flatten (by rfl) how ⟨w8.drew.heap.size, 0, none⟩ 1 1 (vaL ⟨v.nm, v.ty, n, v.at_⟩) (by rfl) (rfl) (World.news_of_block (cs := (vaL ⟨v.nm, v.ty, n, v.at_⟩).toArray) (t := 38) (fr := (0, 0)) (heap_alloc_new (w8.drew) _)) (by simp [Value.oneCell']) (by omega) (by unfold maxLen; omega) (by omega) (Nat.succ_le_of_lt (lt_of_at P8.row)) _ rfl ?_
          intro ga ca w9 hown9 hgrow9 hat9 hlt9
          have hp := hN.pushV hrl hel how HX8.out (by omega) (fun k hk => P8v.lt k hk) rfl hown9 hgrow9 hat9
          obtain ⟨hrow9, P9⟩ := P8.app (v' := .slice (some ⟨ga, 0, none⟩) (p.vs.length + 1) ca) how hgrow9 (by decide) (by decide) hp 1 rfl
          have HROW9 := Lib.hid hrow9
          clear hel how hrl hown9 hgrow9 hrow9 hp hN
          refine HK.out _ _ ?_
          clear HK K
          try simp only [Act.put, List.setIfInBounds_toArray, List.set_cons_zero, List.set_cons_succ]
          refine wpAny_take (i := 8) (oi := ({ dst := some 53, op := Go.Op.nilCheck (Go.Operand.tmp 45), type := 0, pos := "tops.go:30", after := #[{ on := 0, ground := Go.Ground.data }, { on := 0, ground := Go.Ground.phase }, { on := 1, ground := Go.Ground.phase }, { on := 2, ground := Go.Ground.phase }, { on := 3, ground := Go.Ground.phase }, { on := 4, ground := Go.Ground.phase }, { on := 5, ground := Go.Ground.phase }, { on := 6, ground := Go.Ground.phase }, { on := 7, ground := Go.Ground.phase }], guard := none } : Oper)) (v := .pointer (some ⟨b, 0, none⟩)) rfl (by kernel_rfl) (by kernel_rfl) (by kernel_rfl) (fun _ _ _ h => h) (Or.inl ⟨by rfl, ?hz7⟩) ?_
          case hz7 => ((intro W; go_simp); (try with_reducible rfl); (try exact ⟨rfl, rfl, rfl⟩))
          simp only [Act.put, List.setIfInBounds_toArray, List.set_cons_zero, List.set_cons_succ]
          refine wpAny_take (i := 9) (oi := ({ dst := some 54, op := Go.Op.fieldAddr 27 (Go.Operand.tmp 53) 1, type := 0, pos := "tops.go:30", after := #[{ on := 8, ground := Go.Ground.data }, { on := 0, ground := Go.Ground.phase }, { on := 1, ground := Go.Ground.phase }, { on := 2, ground := Go.Ground.phase }, { on := 3, ground := Go.Ground.phase }, { on := 4, ground := Go.Ground.phase }, { on := 5, ground := Go.Ground.phase }, { on := 6, ground := Go.Ground.phase }, { on := 7, ground := Go.Ground.phase }], guard := none } : Oper)) (v := .pointer (some ⟨b, 1, none⟩)) rfl (by kernel_rfl) (by kernel_rfl) (by kernel_rfl) (fun _ _ _ h => h) (Or.inl ⟨by rfl, ?hz8⟩) ?_
          case hz8 => ((intro W; go_simp); (try with_reducible rfl); (try exact ⟨rfl, rfl, rfl⟩))
          simp only [Act.put, List.setIfInBounds_toArray, List.set_cons_zero, List.set_cons_succ]
          refine wpAny_ready (rs := [10]) (by kernel_rfl) (by simp) ?_
          refine (AllReady.cons (o := ({ dst := none, op := Go.Op.store 24 (Go.Operand.tmp 54) (Go.Operand.tmp 52), type := 0, pos := "tops.go:30", after := #[{ on := 9, ground := Go.Ground.data }, { on := 7, ground := Go.Ground.data }, { on := 7, ground := Go.Ground.chain }, { on := 0, ground := Go.Ground.phase }, { on := 1, ground := Go.Ground.phase }, { on := 2, ground := Go.Ground.phase }, { on := 3, ground := Go.Ground.phase }, { on := 4, ground := Go.Ground.phase }, { on := 5, ground := Go.Ground.phase }, { on := 6, ground := Go.Ground.phase }, { on := 7, ground := Go.Ground.phase }], guard := none } : Oper)) rfl (fun K hK => ?_) AllReady.nil)
          have HK := Lib.hid hK
          clear hK
          have hcc : w9.cell? ⟨b, 1, none⟩ = some vv := cell_of_row _ _ _ _ _ _ HROW9.out
          have hff : w9.frozen? ⟨b, 1, none⟩ = false := frozen_of_row _ _ _ _ _ HROW9.out
          go_simp
          try clear hcc hff
          refine HK.out _ _ ?_
          clear HK K
          try simp only [Act.put, List.setIfInBounds_toArray, List.set_cons_zero, List.set_cons_succ]
          refine wpAny_done (by kernel_rfl) ?_ _
          go_wp2
          go_end0
          rw [HV.out]
          exact ⟨rfl, _, _, _, P9⟩
        · have HK := Lib.hid hK
          clear hK
          rw [if_pos (by rfl)]
          refine wp_bs1 24 38 (.agg vaZ) 6 Try.underlying24 infoVaz (by decide) (by decide) (c := vaL ⟨v.nm, v.ty, n, v.at_⟩) rfl (by rfl) ?_
          have P8 := PD.alloc (.cells (vaL ⟨v.nm, v.ty, n, v.at_⟩).toArray 38)
          have HX8 : Hid (vaE.At ((w8.drew).alloc (.cells (vaL ⟨v.nm, v.ty, n, v.at_⟩).toArray 38)) (fun k => w8.heap.size ≤ k ∧ k < ((w8.drew).alloc (.cells (vaL ⟨v.nm, v.ty, n, v.at_⟩).toArray 38)).heap.size) ⟨v.nm, v.ty, n, v.at_⟩ (vaL ⟨v.nm, v.ty, n, v.at_⟩)) := Lib.hid rfl
          refine HK.out _ _ ?_
          clear HK K
          try simp only [Act.put, List.setIfInBounds_toArray, List.set_cons_zero, List.set_cons_succ]
          refine wpAny_ready (rs := [4]) (by kernel_rfl) (by simp) ?_
          refine (AllReady.cons (o := ({ dst := some 49, op := Go.Op.load 24 (Go.Operand.tmp 48), type := 24, pos := "tops.go:30", after := #[{ on := 3, ground := Go.Ground.data }], guard := none } : Oper)) rfl (fun K hK => ?_) AllReady.nil)
          have HK := Lib.hid hK
          clear hK
          have hcc : ((w8.drew).alloc (.cells (vaL ⟨v.nm, v.ty, n, v.at_⟩).toArray 38)).cell? ⟨b, 1, none⟩ = some vv := cell_of_row _ _ _ _ _ _ P8.row
          have hcd : ((w8).alloc (.cells (vaL ⟨v.nm, v.ty, n, v.at_⟩).toArray 38)).cell? ⟨b, 1, none⟩ = some vv := hcc
          go_simp
          try clear hcc hcd
          refine HK.out _ _ ?_
          clear HK K
          try simp only [Act.put, List.setIfInBounds_toArray, List.set_cons_zero, List.set_cons_succ]
          refine wpAny_ready (rs := [7]) (by kernel_rfl) (by simp) ?_
          refine (AllReady.cons (o := ({ dst := some 52, op := Go.Op.call { callee := Go.Callee.builtin Go.Builtin.append, args := #[Go.Operand.tmp 49, Go.Operand.tmp 51], argTypes := #[24, 24] }, type := 24, pos := "tops.go:30", after := #[{ on := 4, ground := Go.Ground.data }, { on := 6, ground := Go.Ground.data }], guard := none } : Oper)) rfl (fun K hK => ?_) AllReady.nil)
          have HK := Lib.hid hK
          clear hK
          obtain ⟨N, hN⟩ := P8.own
          obtain ⟨rows, hrl, how, hel⟩ := hN.v
          refine step_append_lies _ (by rfl) _ _ _ (by rfl) (b + 1) 38 i0 (.agg vaZ) 6 64 Try.underlying24 hi0 hz0 hz1 hz2 rfl (by decide) vv p.vs.length rows.flatten (by rfl) how ⟨w8.drew.heap.size, 0, none⟩ 1 1 (vaL ⟨v.nm, v.ty, n, v.at_⟩) (by rfl) (rfl) (World.news_of_block (cs := (vaL ⟨v.nm, v.ty, n, v.at_⟩).toArray) (t := 38) (fr := (0, 0)) (heap_alloc_new (w8.drew) _)) (by simp [Value.oneCell']) (by omega) (by unfold maxLen; omega) (by omega) (Nat.succ_le_of_lt (lt_of_at P8.row)) _ rfl ?_
          intro ga ca w9 hown9 hgrow9 hat9 hlt9
          have hp := hN.pushV hrl hel how HX8.out (by omega) (fun k hk => P8v.lt k hk) rfl hown9 hgrow9 hat9
          obtain ⟨hrow9, P9⟩ := P8.app (v' := .slice (some ⟨ga, 0, none⟩) (p.vs.length + 1) ca) how hgrow9 (by decide) (by decide) hp 1 rfl
          have HROW9 := Lib.hid hrow9
          clear hel how hrl hown9 hgrow9 hrow9 hp hN
          refine HK.out _ _ ?_
          clear HK K
          try simp only [Act.put, List.setIfInBounds_toArray, List.set_cons_zero, List.set_cons_succ]
          refine wpAny_take (i := 8) (oi := ({ dst := some 53, op := Go.Op.nilCheck (Go.Operand.tmp 45), type := 0, pos := "tops.go:30", after := #[{ on := 0, ground := Go.Ground.data }, { on := 0, ground := Go.Ground.phase }, { on := 1, ground := Go.Ground.phase }, { on := 2, ground := Go.Ground.phase }, { on := 3, ground := Go.Ground.phase }, { on := 4, ground := Go.Ground.phase }, { on := 5, ground := Go.Ground.phase }, { on := 6, ground := Go.Ground.phase }, { on := 7, ground := Go.Ground.phase }], guard := none } : Oper)) (v := .pointer (some ⟨b, 0, none⟩)) rfl (by kernel_rfl) (by kernel_rfl) (by kernel_rfl) (fun _ _ _ h => h) (Or.inl ⟨by rfl, ?hz9⟩) ?_
          case hz9 => ((intro W; go_simp); (try with_reducible rfl); (try exact ⟨rfl, rfl, rfl⟩))
          simp only [Act.put, List.setIfInBounds_toArray, List.set_cons_zero, List.set_cons_succ]
          refine wpAny_take (i := 9) (oi := ({ dst := some 54, op := Go.Op.fieldAddr 27 (Go.Operand.tmp 53) 1, type := 0, pos := "tops.go:30", after := #[{ on := 8, ground := Go.Ground.data }, { on := 0, ground := Go.Ground.phase }, { on := 1, ground := Go.Ground.phase }, { on := 2, ground := Go.Ground.phase }, { on := 3, ground := Go.Ground.phase }, { on := 4, ground := Go.Ground.phase }, { on := 5, ground := Go.Ground.phase }, { on := 6, ground := Go.Ground.phase }, { on := 7, ground := Go.Ground.phase }], guard := none } : Oper)) (v := .pointer (some ⟨b, 1, none⟩)) rfl (by kernel_rfl) (by kernel_rfl) (by kernel_rfl) (fun _ _ _ h => h) (Or.inl ⟨by rfl, ?hz10⟩) ?_
          case hz10 => ((intro W; go_simp); (try with_reducible rfl); (try exact ⟨rfl, rfl, rfl⟩))
          simp only [Act.put, List.setIfInBounds_toArray, List.set_cons_zero, List.set_cons_succ]
          refine wpAny_ready (rs := [10]) (by kernel_rfl) (by simp) ?_
          refine (AllReady.cons (o := ({ dst := none, op := Go.Op.store 24 (Go.Operand.tmp 54) (Go.Operand.tmp 52), type := 0, pos := "tops.go:30", after := #[{ on := 9, ground := Go.Ground.data }, { on := 7, ground := Go.Ground.data }, { on := 7, ground := Go.Ground.chain }, { on := 0, ground := Go.Ground.phase }, { on := 1, ground := Go.Ground.phase }, { on := 2, ground := Go.Ground.phase }, { on := 3, ground := Go.Ground.phase }, { on := 4, ground := Go.Ground.phase }, { on := 5, ground := Go.Ground.phase }, { on := 6, ground := Go.Ground.phase }, { on := 7, ground := Go.Ground.phase }], guard := none } : Oper)) rfl (fun K hK => ?_) AllReady.nil)
          have HK := Lib.hid hK
          clear hK
          have hcc : w9.cell? ⟨b, 1, none⟩ = some vv := cell_of_row _ _ _ _ _ _ HROW9.out
          have hff : w9.frozen? ⟨b, 1, none⟩ = false := frozen_of_row _ _ _ _ _ HROW9.out
          go_simp
          try clear hcc hff
          refine HK.out _ _ ?_
          clear HK K
          try simp only [Act.put, List.setIfInBounds_toArray, List.set_cons_zero, List.set_cons_succ]
          refine wpAny_done (by kernel_rfl) ?_ _
          go_wp2
          go_end0
          rw [HV.out]
          exact ⟨rfl, _, _, _, P9⟩
end Go.Proofs.Ytlobphanodhcoaa
/- A text's program: Parse. Conditions: each theorem's. -/
namespace Go.Proofs.Ytlobphanodhcoaa
open Go.RowKit Go.Maps
set_option linter.unusedVariables false
set_option linter.unusedSimpArgs false
set_option maxRecDepth 100000
open Lx Pa
theorem untF_le : ∀ f l (s : Pa.S), Ok s → Le s (untF f l s).2 := by
  intro f
  induction f with
  | zero => intro l s h; simp only [untF]; exact Le.refl h
  | succ f ih =>
    intro l s h
    simp only [untF]
    split
    · exact Le.refl h
    split
    · rename_i h2; exact (tl_lt h (is_ne h2 (by decide))).le
    · have h1 := (named_lt h).le
      have h2 := h1.trans (want_lt h1.ok (x := ⟨#[59]⟩) (by decide)).le
      exact h2.trans (ih _ _ h2.ok)
theorem structV_lt {s : Pa.S} (h : Ok s) : Lt s (structV s).2 := by
  unfold structV
  have h1 := want_lt h (x := ⟨#[115, 116, 114, 117, 99, 116]⟩) (by decide)
  have h2 := h1.trans (one_lt h1.le.ok (k := 1) (by decide)).le
  have h3 := h2.trans (want_lt h2.le.ok (x := ⟨#[123]⟩) (by decide)).le
  have h4 := h3.trans (untF_le ((((s.want ⟨#[115, 116, 114, 117, 99, 116]⟩).one 1).want ⟨#[123]⟩).tk.length + 1) [] _ h3.le.ok)
  exact h4.trans (want_lt h4.le.ok (x := ⟨#[59]⟩) (by decide)).le
theorem funcV_le {v : PVa} {s : Pa.S} (h : Ok s) : Le s (funcV v s).2 := by
  unfold funcV
  have h1 := betP_le' h
  exact h1.trans ((runS_le _ (.block 0) _ ⟨h1.ok, by simp only [rankS]; unfold fuelOf; omega⟩).1)
theorem topV_lt {p : PPr} {s : Pa.S} (h : Ok s) : Lt s (topV p s).2 := by
  unfold topV
  split
  · exact structV_lt h
  · have h1 := named_lt h
    simp only
    split
    · rename_i h2
      have ht := (tl_lt h1.le.ok (is_ne h2 (by decide))).le
      exact (h1.trans ht).trans (funcV_le (v := (namedV s).1) ht.ok)
    · have h2 := h1.trans (length_le h1.le.ok)
      exact h2.trans (want_lt h2.le.ok (x := ⟨#[59]⟩) (by decide)).le
/-- How many parts a program has so far. -/
def cnt (p : PPr) : Nat := p.ss.length + p.vs.length + p.fs.length
theorem cnt_top (p : PPr) (s : Pa.S) : cnt (topV p s).1 = cnt p + 1 := by
  unfold topV cnt
  split
  · simp; omega
  · simp only
    split
    · simp; omega
    · simp; omega
theorem OwnN.list {α : Type} {E : Elem α} {e : TypeId} {w : World} {base : Nat} {N : Nat → Prop} {l : List α} {v : Value} (h : OwnN E e w base N l v) (hN : ∀ k, N k → base ≤ k) : LAt E w (fun k => base ≤ k) l v := by
  obtain ⟨rows, h1, ⟨hl, h2⟩, h3⟩ := h
  refine ⟨rows, h1, ?_, fun i x c hx hc => E.keep (h3 i x c hx hc) (fun g hg _ => ⟨hN g hg, rfl⟩) (Nat.le_refl _)⟩
  rcases h2 with ⟨h2, h4⟩ | ⟨g, cap, cur, rfl, hb, hh, hc1, hc2, hcs, hct⟩
  · rw [h2]; exact ⟨none, 0, by rw [h4], by omega, by unfold maxLen; omega, fun h => by omega⟩
  · refine ⟨_, cap, rfl, hc1, hc2, fun _ => ⟨g, 0, rfl, hb, lt_of_at hh, fun j u hu => ?_⟩⟩
    rw [cell_of_row _ _ _ _ _ _ hh, Nat.zero_add, ← Array.getElem?_toList]
    rw [← hct] at hu
    rw [List.getElem?_take] at hu
    split at hu
    · exact hu
    · cases hu
/-- A program in memory. -/
structure PrAt (w : World) (S : Nat → Prop) (p : PPr) (vs vv vf : Value) : Prop where
  s : LAt srE w S p.ss vs
  v : LAt vaE w S p.vs vv
  f : LAt fnE w S p.fs vf
theorem PrAt.keep {w w' : World} {S S' : Nat → Prop} {p : PPr} {vs vv vf : Value} (h : PrAt w S p vs vv vf) (hk : ∀ g, S g → g < w.heap.size → S' g ∧ w'.heap[g]? = w.heap[g]?) (hz : w.heap.size ≤ w'.heap.size) : PrAt w' S' p vs vv vf :=
  ⟨h.s.keep hk hz, h.v.keep hk hz, h.f.keep hk hz⟩
theorem LAt.oneV {α : Type} {E : Elem α} {w : World} {S : Nat → Prop} {l : List α} {v : Value} (h : LAt E w S l v) : v.oneCell' = true := by obtain ⟨A, cap, rfl⟩ := h.slice; rfl
theorem PrAt.one {w : World} {S : Nat → Prop} {p : PPr} {vs vv vf : Value} (h : PrAt w S p vs vv vf) : (#[vs, vv, vf] : Array Value).all (·.oneCell') = true := by
  have h1 := h.s.oneV
  have h2 := h.v.oneV
  have h3 := h.f.oneV
  simp [h1, h2, h3]
abbrev prZ : Array Value := #[.slice none 0 0, .slice none 0 0, .slice none 0 0]
def PostP (w : World) (R M : Nat) (p : PPr) (s' : Pa.S) (e : Ending) (w' : World) : Prop :=
  ∃ vs vv vf, e = .returned (.agg #[vs, vv, vf]) ∧ PrAt w' (fun g => w.heap.size ≤ g) p vs vv vf ∧ RdAt w' R M s' ∧ Fr [R] w w'
set_option maxHeartbeats 16000000 in
theorem prog_any {R M : Nat} {s : Pa.S} {w : World} (h : RdAt w R M s) (hn : s.tk.length ≤ 7000) (he0 : s.er = 0) :
    Calls Try.prog 9 #[.pointer (some ⟨R, 0, none⟩)] w (PostP w R M (progV s).1 (progV s).2) := by
  have hR := h.lt
  have HV := Lib.hid (show progV s = progL (s.tk.length + 1) ⟨[], [], []⟩ s from rfl)
  have h0 := h.alloc (.cells prZ 27)
  have HR0 := Lib.hid (heap_alloc_new w (.cells prZ 27))
  have HS0 := Lib.hid (szA w (.cells prZ 27))
  have h1 := h0.alloc (.cells prZ 27)
  have HB1 := Lib.hid (bn (w.alloc (.cells prZ 27)) (.cells prZ 27) (k := w.heap.size + 1) (by simp))
  have P1 : PrR (w.alloc (.cells prZ 27)) ((w.alloc (.cells prZ 27)).alloc (.cells prZ 27)) R M (w.heap.size + 1) ⟨[], [], []⟩ s (.slice none 0 0) (.slice none 0 0) (.slice none 0 0) :=
    ⟨(Fr.refl _ _).alloc _, h1, by rw [HS0.out]; omega, Nat.le_of_eq HS0.out, HB1.out, fun _ => False, fun k hk => hk.elim, ⟨[], rfl, World.ownsRow_nil _ _ _ _, fun i x c hx _ => by simp at hx⟩, ⟨[], rfl, World.ownsRow_nil _ _ _ _, fun i x c hx _ => by simp at hx⟩, ⟨[], rfl, World.ownsRow_nil _ _ _ _, fun i x c hx _ => by simp at hx⟩⟩
  have F0 := tf0
  clear h0 h1
  go_enter Try.func9, Try.ntmps9
  go_wp2_with fail
  generalize hW : w.alloc (.cells prZ 27) = W at *
  go_loopw [] (fun wr => ∃ (g : Nat) (p : PPr) (s1 : Pa.S) (vs vv vf : Value), (s1.er = 0 → s1.tk.length + 1 ≤ g ∧ cnt p + s1.tk.length ≤ 7000) ∧ (s1.er ≠ 0 → s1.tk.length = 1 ∧ 1 ≤ g) ∧ Hid (progL (s.tk.length + 1) ⟨[], [], []⟩ s = progL g p s1) ∧ cnt p ≤ 7000 ∧ PrR W wr R M (w.heap.size + 1) p s1 vs vv vf) (fun wr => rdM wr R)
  case atStart => exact ⟨_, _, s, _, _, _, fun _ => ⟨Nat.le_refl _, by simp [cnt]; omega⟩, fun he => absurd he0 he, Lib.hid rfl, by simp [cnt], P1⟩
  case round =>
    obtain ⟨g, p, s1, vs, vv, vf, hfu, hfe, hst, hl7, hP⟩ := hrel
    clear P1 HB1
    have hg1 : 1 ≤ g := by
      by_cases he : s1.er = 0
      · have := (hfu he).1; omega
      · exact (hfe he).2
    obtain ⟨g, rfl⟩ : ∃ g', g = g' + 1 := ⟨g - 1, by omega⟩
    have hE : progL (g + 1) p s1 = if s1.hd.kd = 0 then (p, s1) else progL g (topV p s1).1 (topV p s1).2 := by simp only [progL]
    have HE0 := Lib.hid hE
    clear hE
    have hpos := hP.rd.ok.pos
    have HMS := Lib.hid hP.rd.mz
    have hnow := now_any hP.rd
    have hrl := hP.rl
    by_cases hk : s1.hd.kd = 0
    · have e1 : (s1.hd.kd != 0) = false := by rw [hk]; rfl
      rw [if_pos hk] at HE0
      clear hk
      go_wp2_with fail
      refine hnow.mono ?_
      rintro e w1 ⟨rfl, b1⟩
      clear hnow
      have P2 := hP.step (Fr.below b1) (hP.rd.below b1)
      obtain ⟨N, hN⟩ := P2.own
      have hA : PrAt w1 (fun k => w.heap.size + 1 + 1 ≤ k) p vs vv vf := ⟨hN.s.list (fun k hk => (hN.ne k hk).1), hN.v.list (fun k hk => (hN.ne k hk).1), hN.f.list (fun k hk => (hN.ne k hk).1)⟩
      have HB2 := Lib.hid P2.row
      have HR2 := Lib.hid (P2.fr.at_ HR0.out (by simp; omega))
      have HONE := Lib.hid hA.one
      go_wp2_with (first | ((with_reducible refine ldG 27 (w.heap.size + 1) ?_ HB2.out Try.underlying27 ?_ ?_ ?_); rfl; rfl; exact sizePr) | ((with_reducible refine stG 27 w.heap.size #[vs, vv, vf] ?_ ?_ HR2.out ?_ ?_ ?_ ?_); rfl; rfl; exact sizePr; rfl; exact HONE.out; intro Y hY; have HY9 := Lib.hid hY; clear hY))
      refine ret_row Try.results9 w.heap.size 27 _ _ rfl rfl HY9.out.at_ Try.underlying27 rfl sizePr ?_
      rw [HV.out, hst.out, HE0.out]
      have FW : Fr [R] w W := by rw [← hW]; exact (Fr.refl _ _).alloc _
      exact ⟨_, _, _, rfl, hA.keep (fun k hk hl => ⟨by have hk' : w.heap.size + 1 + 1 ≤ k := hk; show w.heap.size ≤ k; omega, HY9.out.oth k (by have hk' : w.heap.size + 1 + 1 ≤ k := hk; omega)⟩) (Nat.le_of_eq HY9.out.size.symm), P2.rd.up HY9.out HR2.out (by decide) (by decide), (FW.trans P2.fr).up HY9.out (Nat.le_refl _)⟩
    · have e1 : (s1.hd.kd != 0) = true := by simpa using hk
      rw [if_neg hk] at HE0
      have her : s1.er = 0 := by
        by_cases he : s1.er = 0
        · exact he
        · exfalso
          have h1 := (hfe he).1
          obtain ⟨A, q, hA⟩ := hP.rd.ok.1
          cases A with
          | nil => exact hk (by unfold S.hd; rw [hA]; rfl)
          | cons a A => rw [hA] at h1; simp at h1
      obtain ⟨hf1, hf2⟩ := hfu her
      have hlt := topV_lt (p := p) hP.rd.ok
      have hct := cnt_top p s1
      have hone : (topV p s1).2.er ≠ 0 → (topV p s1).2.tk.length = 1 := hlt.le.one (fun he => absurd her he)
      clear hk
      go_wp2_with fail
      refine hnow.mono ?_
      rintro e w1 ⟨rfl, b1⟩
      clear hnow
      have P2 := hP.step (Fr.below b1) (hP.rd.below b1)
      have htop := top_any P2 (by omega) (by unfold cnt at hl7; exact ⟨by omega, by omega, by omega⟩)
      generalize (topV p s1).1 = p2 at *
      generalize (topV p s1).2 = s2 at *
      go_wp2_with fail
      refine htop.mono ?_
      rintro e w2 ⟨rfl, vs2, vv2, vf2, P3⟩
      clear htop
      go_wp2
      try simp only [Act.put]
      go_roundw
      case rel => exact ⟨g, p2, s2, vs2, vv2, vf2, fun he2 => ⟨by have := hlt.lt he2; omega, by have := hlt.lt he2; omega⟩, fun he2 => ⟨hone he2, by omega⟩, Lib.hid (hst.out.trans HE0.out), by omega, P3⟩
      case measure =>
        rw [HMS.out, P3.rd.mz, if_pos her]
        have := hlt.le.len
        by_cases he2 : s2.er = 0
        · have := hlt.lt he2; rw [if_pos he2]; omega
        · rw [if_neg he2]; omega
end Go.Proofs.Ytlobphanodhcoaa
/- Parse: a text's program, or what is wrong, is the plain reader's. Conditions: each theorem's. -/
namespace Go.Proofs.Ytlobphanodhcoaa
open Go.RowKit Go.Maps
set_option linter.unusedVariables false
set_option linter.unusedSimpArgs false
set_option maxRecDepth 100000
open Lx Pa
theorem results3 {fn : Func} {p u v : Tmp} {ty : TypeId} (h : fn.results = #[.cell p ty, .tmp u, .tmp v]) (tmps : Array Value) (P : Program) (w : World) :
    (results fn tmps).run P w =
      ((asAddr (tmps.getD p undef)).run P w).andThen fun a w₁ => ((loadVar ty a).run P w₁).andThen fun x w₂ => .ok (.tuple #[x, tmps.getD u undef, tmps.getD v undef]) w₂ := by
  simp only [results, h]
  simp [Sem.run_bind, Result.andThen]
theorem res3 {P : Program} {fn : Func} {p u v : Tmp} {ty : TypeId} (h : fn.results = #[.cell p ty, .tmp u, .tmp v]) (tmps : Array Value) (w : World) (g : Nat) (t : TypeId) (cs : Array Value) (fr : Nat × Nat) (d : TypeDesc) (x y : Value)
    (hp : tmps.getD p undef = .pointer (some ⟨g, 0, none⟩)) (hx : tmps.getD u undef = x) (hy : tmps.getD v undef = y) (hg : w.heap[g]? = some (.cells cs t fr))
    (hu : P.underlying ty = some d) (hd : (match d with | .struct _ | .array _ _ => true | _ => false) = true) (hi : (P.info? ty).map (·.size) = some cs.size) :
    (results fn tmps).run P w = .ok (.tuple #[.agg cs, x, y]) w := by
  rw [results3 h]
  simp [hp, hx, hy, asAddr, run_loadVar_row w g t ty cs fr d hg hu hd hi, Result.andThen]
theorem Fr.toBelow {T : List Nat} {a b : World} {B : Nat} (h : Fr T a b) (hT : ∀ t ∈ T, B ≤ t) (hB : B ≤ a.heap.size) : Below B a b :=
  ⟨h.os, h.tape, h.output, h.size, fun k hk => h.block k (by omega) fun hh => by have := hT k hh; omega⟩
theorem tk_small {s : ByteArray} (hs : s.size ≤ 8192) : ∀ t ∈ (lexV s).tk, t.tx.size ≤ 8192 ∧ t.at_ ≤ 8192 := by
  refine lexV_all _ s (fun p hp => ⟨by show (0 : Nat) ≤ 8192; omega, by show p ≤ 8192; omega⟩) fun p hp hn => ⟨?_, by show p ≤ 8192; omega⟩
  show (s.extract p (p + _)).size ≤ 8192
  rw [← sz, ext_tok, List.length_take, List.length_drop, sz]
  omega
theorem lex_end {s : ByteArray} (h : (lexV s).er = 0) : Ok ⟨(lexV s).tk, 0⟩ := by
  obtain ⟨A, _, hA⟩ := lexV_to h
  have hsz : s.size ≤ 8192 := by
    unfold lexV at h
    split at h
    · simp at h
    · omega
  refine ⟨?_, fun t ht => ?_⟩
  · obtain ⟨l1, l2, e1, _, e2⟩ := List.map_eq_append_iff.1 hA
    obtain ⟨t, l3, rfl, hlast, e3⟩ := List.map_eq_cons_iff.1 e2
    obtain rfl : l3 = [] := by simpa using e3
    obtain ⟨kd, tx, at_⟩ := t
    simp only [pr, Prod.mk.injEq] at hlast
    obtain ⟨⟨b⟩⟩ := tx
    simp only at hlast
    refine ⟨l1, at_, ?_⟩
    show (lexV s).tk = _
    rw [e1, hlast.1, hlast.2]
  · exact tk_small hsz t ht
def ParseP (s : ByteArray) (w : World) (e : Ending) (w' : World) : Prop :=
  ∃ vs vv vf, e = .returned (.tuple #[.agg #[vs, vv, vf], .int .i64 (parseV s).2.1, .int .i64 (parseV s).2.2]) ∧ PrAt w' (fun g => w.heap.size ≤ g) (parseV s).1 vs vv vf ∧ Below w.heap.size w w'
theorem prZ_at (w : World) (S : Nat → Prop) : PrAt w S ⟨[], [], []⟩ (.slice none 0 0) (.slice none 0 0) (.slice none 0 0) := ⟨LAt.nil _ _ _, LAt.nil _ _ _, LAt.nil _ _ _⟩
theorem onePr0 : prZ.all (·.oneCell') = true := by simp [Value.oneCell']
/-- What the last region of a program that is wrong holds. -/
def RowP (W : World) (r : Nat) : Prop := ∃ old : Array Value, old.size = 3 ∧ W.heap[r]? = some (.cells old 27)
set_option maxHeartbeats 16000000 in
theorem parse_any (s : ByteArray) (w : World) (hs : s.size ≤ 1048576) (hM : MaxIs w) :
    Calls Try.prog 5 #[.string s] w (ParseP s w) := by
  have hV : parseV s = if (lexV s).er ≠ 0 then (⟨[], [], []⟩, (lexV s).pl, (lexV s).er) else if (progV ⟨(lexV s).tk, 0⟩).2.er ≠ 0 then (⟨[], [], []⟩, (progV ⟨(lexV s).tk, 0⟩).2.hd.at_, (progV ⟨(lexV s).tk, 0⟩).2.er) else ((progV ⟨(lexV s).tk, 0⟩).1, 0, 0) := rfl
  have HV := Lib.hid hV
  clear hV
  have hb0 := belowA w (.cells prZ 27)
  have HR0 := Lib.hid (heap_alloc_new w (.cells prZ 27))
  have HS0 := Lib.hid (szA w (.cells prZ 27))
  have hlx := lex_any s (w.alloc (.cells prZ 27)) hs (hM.keep hb0)
  have hlen := lexV_len s
  have hend := lex_end (s := s)
  have HB0 := Lib.hid hb0
  clear hb0 hM
  generalize (lexV s).pl = pl at *
  generalize (lexV s).tk = T at *
  generalize (lexV s).er = er at *
  go_enter Try.func5, Try.ntmps5
  go_wp2_with fail
  refine hlx.mono ?_
  rintro e w1 ⟨v, rfl, htk, b1⟩
  clear hlx
  have HR1 := Lib.hid ((b1.block w.heap.size (by rw [HS0.out]; omega)).trans HR0.out)
  have z1 : w.heap.size + 1 ≤ w1.heap.size := by have := b1.size; rw [HS0.out] at this; exact this
  have B1 := HB0.out.trans (b1.mono (by rw [HS0.out]; omega))
  clear b1
  by_cases he : er = 0
  · rw [if_neg (by simpa using he)] at HV
    have e1 : (er != 0) = false := by rw [he]; rfl
    have hok := hend he
    clear he hend
    have hform : ∃ g cap, v = .slice (some ⟨g, 0, none⟩) T.length cap ∧ (∃ cs fr, w1.heap[g]? = some (.cells cs 56 fr)) ∧ w1.rangeAt g 0 (tksL T) ∧ T.length ≤ cap ∧ cap ≤ maxLen := by
      have hp := hok.pos
      rcases htk.2 with ⟨_, h0⟩ | ⟨g, cap, cur, rfl, hb, hh, h3, h4, h5, h6⟩
      · exact absurd h0 (by have hp' : 1 ≤ T.length := hp; omega)
      · refine ⟨g, cap, rfl, ⟨cur, (0, 0), hh⟩, fun j u hu => ?_, h3, h4⟩
        rw [Nat.zero_add, cell_of_row _ _ _ _ _ _ hh, ← Array.getElem?_toList]
        rw [← h6, List.getElem?_take] at hu
        split at hu
        · exact hu
        · cases hu
    obtain ⟨g, cap, rfl, hty, hrange, hcap1, hcap2⟩ := hform
    clear htk
    have hst := allStr_any w1
    go_wp2_with fail
    refine hst.mono ?_
    rintro e w2 ⟨rfl, hstr, b2⟩
    clear hst
    have z2 := b2.size
    have hgl : g < w1.heap.size := by obtain ⟨cs, fr, hh⟩ := hty; exact lt_of_at hh
    have HR2 := Lib.hid ((b2.block w.heap.size (by omega)).trans HR1.out)
    have B2 := B1.trans (b2.mono (by omega))
    have h3 : RdAt (w2.alloc (.cells #[.slice (some ⟨g, 0, none⟩) T.length cap, .map (some w1.heap.size), .int .i64 0] 53)) w2.heap.size w1.heap.size ⟨T, 0⟩ := by
      have hal := Below.heap_alloc w2 (.cells #[.slice (some ⟨g, 0, none⟩) T.length cap, .map (some w1.heap.size), .int .i64 0] 53)
      refine ⟨g, 0, cap, heap_alloc_new w2 _, fun j u hu => ?_, by omega, ?_, ⟨hcap1, hcap2⟩, hstr.keep (hal _ hstr.lt), by have := hstr.lt; omega, hok⟩
      · exact (World.cell?_of_block (w := w1) ((hal g (by omega)).trans (b2.block g hgl))).trans (hrange j u hu)
      · obtain ⟨cs, fr, hh⟩ := hty
        exact ⟨cs, fr, (hal g (by omega)).trans ((b2.block g hgl).trans hh)⟩
    have HR3 := Lib.hid (bl1 w2 (.cells #[.slice (some ⟨g, 0, none⟩) T.length cap, .map (some w1.heap.size), .int .i64 0] 53) HR2.out (by omega))
    have B3 := B2.alloc (by omega) (.cells #[.slice (some ⟨g, 0, none⟩) T.length cap, .map (some w1.heap.size), .int .i64 0] 53)
    have HS3 := Lib.hid (szA w2 (.cells #[.slice (some ⟨g, 0, none⟩) T.length cap, .map (some w1.heap.size), .int .i64 0] 53))
    have hpr := prog_any h3 (by show T.length ≤ 7000; omega) rfl
    have hne2 : w.heap.size ≠ w2.heap.size := by omega
    generalize (progV ⟨T, 0⟩).1 = p at *
    generalize (progV ⟨T, 0⟩).2 = s2 at *
    clear hrange hty hstr h3 hok
    generalize hRR : w2.heap.size = R at *
    generalize w1.heap.size = M at *
    go_wp2_with fail
    refine hpr.mono ?_
    rintro e w4 ⟨vs, vv, vf, rfl, hpa, h4, f4⟩
    clear hpr
    have z4 : R + 1 ≤ w4.heap.size := by have := f4.size; rw [HS3.out] at this; exact this
    have HR4 := Lib.hid (f4.at_ HR3.out (by simp; omega))
    have B4 := B3.trans (f4.toBelow (B := w.heap.size) (by simp; omega) (by rw [HS3.out]; omega))
    have HONE := Lib.hid hpa.one
    rw [HS3.out] at hpa
    have h5 := h4.alloc (.cells #[vs, vv, vf] 27)
    have HR5 := Lib.hid (bl1 w4 (.cells #[vs, vv, vf] 27) HR4.out (by omega))
    have HB5 := Lib.hid (heap_alloc_new w4 (.cells #[vs, vv, vf] 27))
    have B5 := B4.alloc (by omega) (.cells #[vs, vv, vf] 27)
    have hpa5 := hpa.keep (w' := w4.alloc (.cells #[vs, vv, vf] 27)) (S' := fun k => R + 1 ≤ k) (fun k hk hl => ⟨hk, Below.heap_alloc _ _ _ hl⟩) (by simp)
    have her := h5.er
    clear hpa h4 f4
    by_cases he2 : s2.er = 0
    · have e2 : (s2.er != 0) = false := by rw [he2]; rfl
      rw [if_neg (by simpa using he2)] at HV
      clear he2
      go_wp2_with (first | ((with_reducible refine stN 27 w4.heap.size #[vs, vv, vf] rfl ?_ ?_ ?_ ?_ ?_ ?_); rfl; rfl; exact sizePr; rfl; exact HONE.out) | ((with_reducible refine ldG 27 w4.heap.size ?_ HB5.out Try.underlying27 ?_ ?_ ?_); rfl; rfl; exact sizePr) | ((with_reducible refine stG 27 w.heap.size #[vs, vv, vf] ?_ ?_ HR5.out ?_ ?_ ?_ ?_); rfl; rfl; exact sizePr; rfl; exact HONE.out; intro Y hY; have HY9 := Lib.hid hY; clear hY))
      refine bodyPost_ret (v := .tuple #[.agg #[vs, vv, vf], .int .i64 0, .int .i64 0]) (res3 Try.results5 _ _ w.heap.size 27 #[vs, vv, vf] (0, 0) _ _ _ rfl rfl rfl HY9.out.at_ Try.underlying27 rfl sizePr) rfl ?_
      unfold ParseP
      rw [HV.out]
      exact ⟨vs, vv, vf, rfl, hpa5.keep (fun k hk hl => ⟨by have hk' : R + 1 ≤ k := hk; show w.heap.size ≤ k; omega, HY9.out.oth k (by have hk' : R + 1 ≤ k := hk; omega)⟩) (Nat.le_of_eq HY9.out.size.symm), HY9.out.below B5 (Nat.le_refl _)⟩
    · have e2 : (s2.er != 0) = true := by simpa using he2
      rw [if_pos he2] at HV
      clear he2
      have TF2 := tf2
      have hR5 : RowP (w4.alloc (.cells #[vs, vv, vf] 27)) w.heap.size := ⟨_, rfl, HR5.out⟩
      go_wp2_with (first | ((with_reducible refine stN 27 w4.heap.size #[vs, vv, vf] rfl ?_ ?_ ?_ ?_ ?_ ?_); rfl; rfl; exact sizePr; rfl; exact HONE.out))
      generalize hX : w4.alloc (.cells #[vs, vv, vf] 27) = X at *
      refine wp_region_held_drew (S := fun W : World => W.cell? ⟨R, 2, none⟩ = some (.int .i64 s2.er) ∧ RdAt W R M s2 ∧ RowP W w.heap.size ∧ Below w.heap.size w W) (by kernel_rfl) (⟨her, h5.below ((Below.refl _ _).drew), hR5, B5.drew⟩) (fun hHeld => ?_)
      refine wpAnyH_take (i := 0) (oi := ({ dst := some 28, op := Go.Op.build 27 #[], type := 27, pos := "parse.go:18", after := #[], guard := none } : Oper)) (v := .agg prZ) rfl (by kernel_rfl) (by kernel_rfl) (by kernel_rfl) (fun _ _ _ h => h) (Or.inl ⟨by rfl, ?hy1⟩) (by assumption) ?_
      case hy1 => ((intro W hSW; (try dsimp only at hSW); go_simp); (try with_reducible rfl); (try exact ⟨rfl, rfl, rfl⟩))
      simp only [Act.put, List.setIfInBounds_toArray, List.set_cons_zero, List.set_cons_succ]
      refine wpAnyH_take (i := 3) (oi := ({ dst := some 31, op := Go.Op.fieldAddr 53 (Go.Operand.tmp 8) 2, type := 0, pos := "parse.go:18", after := #[{ on := 6, ground := Go.Ground.gcOnly Go.Departure.lateStores }], guard := none } : Oper)) (v := .pointer (some ⟨R, 2, none⟩)) rfl (by kernel_rfl) (by kernel_rfl) (by kernel_rfl) (fun _ _ _ h => h) (Or.inl ⟨by rfl, ?hy2⟩) (by assumption) ?_
      case hy2 => ((intro W hSW; (try dsimp only at hSW); go_simp); (try with_reducible rfl); (try exact ⟨rfl, rfl, rfl⟩))
      simp only [Act.put, List.setIfInBounds_toArray, List.set_cons_zero, List.set_cons_succ]
      refine wpAnyH_take (i := 4) (oi := ({ dst := some 32, op := Go.Op.load 28 (Go.Operand.tmp 31), type := 28, pos := "parse.go:18", after := #[{ on := 3, ground := Go.Ground.data }, { on := 6, ground := Go.Ground.gcOnly Go.Departure.lateStores }], guard := none } : Oper)) (v := .int .i64 s2.er) rfl (by kernel_rfl) (by kernel_rfl) (by kernel_rfl) (fun _ _ _ h => h) (Or.inl ⟨by rfl, ?hy3⟩) (by assumption) ?_
      case hy3 => ((intro W hSW; (try dsimp only at hSW); go_simp); (try with_reducible rfl); (try exact ⟨rfl, rfl, rfl⟩))
      simp only [Act.put, List.setIfInBounds_toArray, List.set_cons_zero, List.set_cons_succ]
      refine wpAnyH_ready (rs := [1]) (by kernel_rfl) (by simp) ?_
      refine AllReadyH.cons (o := ({ dst := some 29, op := Go.Op.call { callee := Go.Callee.value (Go.Operand.func 10), args := #[Go.Operand.tmp 8], argTypes := #[53] }, type := 56, pos := "parse.go:18", after := #[], guard := none } : Oper)) rfl (fun K hK => ?_) AllReadyH.nil
      have hnow := now_any hHeld.2.1
      go_simp
      refine hnow.mono ?_
      rintro e w6 ⟨rfl, b6⟩
      have h6 := hHeld.2.1.below b6
      have hr6 : RowP w6 w.heap.size := by obtain ⟨old, ho, hr⟩ := hHeld.2.2.1; exact ⟨old, ho, (b6.block _ (lt_of_at hr)).trans hr⟩
      have B6 := hHeld.2.2.2.trans (b6.mono hHeld.2.2.2.size)
      try go_wp2_with fail
      refine hK.out _ _ (⟨h6.er, h6, hr6, B6⟩) (fun hHeld => ?_)
      clear hK K
      try simp only [Act.put, List.setIfInBounds_toArray, List.set_cons_zero, List.set_cons_succ]
      refine wpAnyH_take (i := 2) (oi := ({ dst := some 30, op := Go.Op.field 56 (Go.Operand.tmp 29) 2, type := 3, pos := "parse.go:18", after := #[{ on := 1, ground := Go.Ground.data }, { on := 5, ground := Go.Ground.gcOnly Go.Departure.lateStores }], guard := none } : Oper)) (v := .int .i64 s2.hd.at_) rfl (by kernel_rfl) (by kernel_rfl) (by kernel_rfl) (fun _ _ _ h => h) (Or.inl ⟨by rfl, ?hy4⟩) (by assumption) ?_
      case hy4 => ((intro W hSW; (try dsimp only at hSW); go_simp); (try with_reducible rfl); (try exact ⟨rfl, rfl, rfl⟩))
      simp only [Act.put, List.setIfInBounds_toArray, List.set_cons_zero, List.set_cons_succ]
      refine wpAnyH_ready (rs := [5]) (by kernel_rfl) (by simp) ?_
      refine AllReadyH.cons (o := ({ dst := none, op := Go.Op.store 27 (Go.Operand.tmp 2) (Go.Operand.tmp 28), type := 0, pos := "parse.go:18", after := #[{ on := 0, ground := Go.Ground.data }, { on := 1, ground := Go.Ground.chain }, { on := 0, ground := Go.Ground.phase }, { on := 1, ground := Go.Ground.textOnly Go.Departure.lateStoresUnsure }, { on := 2, ground := Go.Ground.textOnly Go.Departure.lateStores }, { on := 3, ground := Go.Ground.textOnly Go.Departure.lateStores }, { on := 4, ground := Go.Ground.textOnly Go.Departure.lateStores }], guard := none } : Oper)) rfl (fun K hK => ?_) AllReadyH.nil
      rw [if_pos (by rfl)]
      obtain ⟨old, ho, hro⟩ := hHeld.2.2.1
      refine wp_stG 27 w.heap.size prZ (by rfl) (by rfl) hro sizePr ho onePr0 ?_
      intro Y hY
      have HY := Lib.hid hY
      clear hY
      have hy := hHeld.2.1.up HY.out hro (by decide) (by decide)
      refine hK.out _ _ (⟨hy.er, hy, ⟨_, rfl, HY.out.at_⟩, HY.out.below hHeld.2.2.2 (Nat.le_refl _)⟩) (fun hHeld => ?_)
      clear hK K
      try simp only [Act.put, List.setIfInBounds_toArray, List.set_cons_zero, List.set_cons_succ]
      refine wpAnyH_take (i := 6) (oi := ({ dst := some 3, op := Go.Op.assign (Go.Operand.tmp 30), type := 3, pos := "parse.go:18", after := #[{ on := 2, ground := Go.Ground.data }, { on := 5, ground := Go.Ground.chain }, { on := 0, ground := Go.Ground.phase }, { on := 1, ground := Go.Ground.phase }, { on := 2, ground := Go.Ground.phase }, { on := 3, ground := Go.Ground.textOnly Go.Departure.lateStores }, { on := 4, ground := Go.Ground.textOnly Go.Departure.lateStores }, { on := 5, ground := Go.Ground.phase }], guard := none } : Oper)) (v := .int .i64 s2.hd.at_) rfl (by kernel_rfl) (by kernel_rfl) (by kernel_rfl) (fun _ _ _ h => h) (Or.inl ⟨by rfl, ?hy5⟩) (by assumption) ?_
      case hy5 => ((intro W hSW; (try dsimp only at hSW); go_simp); (try with_reducible rfl); (try exact ⟨rfl, rfl, rfl⟩))
      simp only [Act.put, List.setIfInBounds_toArray, List.set_cons_zero, List.set_cons_succ]
      refine wpAnyH_take (i := 7) (oi := ({ dst := some 4, op := Go.Op.assign (Go.Operand.tmp 32), type := 28, pos := "parse.go:18", after := #[{ on := 4, ground := Go.Ground.data }, { on := 6, ground := Go.Ground.chain }, { on := 0, ground := Go.Ground.phase }, { on := 1, ground := Go.Ground.phase }, { on := 2, ground := Go.Ground.phase }, { on := 3, ground := Go.Ground.phase }, { on := 4, ground := Go.Ground.phase }, { on := 5, ground := Go.Ground.phase }, { on := 6, ground := Go.Ground.phase }], guard := none } : Oper)) (v := .int .i64 s2.er) rfl (by kernel_rfl) (by kernel_rfl) (by kernel_rfl) (fun _ _ _ h => h) (Or.inl ⟨by rfl, ?hy6⟩) (by assumption) ?_
      case hy6 => ((intro W hSW; (try dsimp only at hSW); go_simp); (try with_reducible rfl); (try exact ⟨rfl, rfl, rfl⟩))
      simp only [Act.put, List.setIfInBounds_toArray, List.set_cons_zero, List.set_cons_succ]
      refine wpAnyH_done (by kernel_rfl) ?_ _
      have BY := hHeld.2.2.2
      go_wp2
      refine bodyPost_ret (v := .tuple #[.agg prZ, .int .i64 s2.hd.at_, .int .i64 s2.er]) (res3 Try.results5 _ _ w.heap.size 27 prZ (0, 0) _ _ _ rfl rfl rfl HY.out.at_ Try.underlying27 rfl sizePr) rfl ?_
      unfold ParseP
      rw [HV.out]
      exact ⟨_, _, _, rfl, prZ_at _ _, BY⟩
  · rw [if_pos he] at HV
    have e1 : (er != 0) = true := by simpa using he
    clear he hend
    go_wp2_with (((with_reducible refine stG 27 w.heap.size prZ ?_ ?_ HR1.out ?_ ?_ ?_ ?_); rfl; rfl; exact sizePr; rfl; exact onePr0; intro Y hY; have HY9 := Lib.hid hY; clear hY))
    refine bodyPost_ret (v := .tuple #[.agg prZ, .int .i64 pl, .int .i64 er]) (res3 Try.results5 _ _ w.heap.size 27 prZ (0, 0) _ _ _ rfl rfl rfl HY9.out.at_ Try.underlying27 rfl sizePr) rfl ?_
    unfold ParseP
    rw [HV.out]
    exact ⟨_, _, _, rfl, prZ_at _ _, HY9.out.below B1 (Nat.le_refl _)⟩
end Go.Proofs.Ytlobphanodhcoaa
