/- HeapMoves answers true of any pointer. Conditions: each theorem's. -/
import Derived.Test.YtjianllngobhhaaHeapM
namespace Go.Proofs.Ytjianllngobhhaa
open Go.RowKit Go.Maps
set_option linter.unusedVariables false
set_option linter.unusedSimpArgs false
set_option maxRecDepth 100000
open Hp
set_option maxHeartbeats 1000000 in
theorem rmove_any (p : Ptr) (n : Int) (w : World) (hp : p.ok) :
    Calls Try.prog 8 #[p.v, .int .i64 n] w fun e w' => e = .returned (mv p n).v ∧ Below w.heap.size w w' := by
  obtain ⟨b, o, l, h⟩ := p
  simp only [Ptr.v] at *
  by_cases hb : b = 0
  · subst hb
    go_enter Try.func8, Try.ntmps8
    go_wp2
    refine bodyPost_ret (by simp [results, Try.results8, go_sem]; rfl) rfl ⟨?_, ((Below.refl _ _).alloc (Nat.le_refl _) _).alloc (by simp) _⟩
    rfl
  · have hb' : (b == 0) = false := by simpa using hb
    have H := Lib.hid hb
    clear hb
    go_enter Try.func8, Try.ntmps8
    go_wp2
    refine bodyPost_ret (by simp [results, Try.results8, go_sem]; rfl) rfl ⟨?_, ?_⟩
    · unfold mv; rw [if_neg H.out]; rfl
    · exact ((Below.refl _ _).alloc (Nat.le_refl _) _).alloc (by simp) _
theorem agR {b q l h l' h' : Int} (e : l = l') (f : h = h') : Value.agg #[.int .i64 b, .int .i64 q, .int .i64 l, .int .i64 h] = Value.agg #[.int .i64 b, .int .i64 q, .int .i64 l', .int .i64 h'] := by rw [e, f]
set_option maxHeartbeats 1000000 in
theorem rpart_any (p : Ptr) (x s : Int) (w : World) (hp : p.ok) :
    Calls Try.prog 10 #[p.v, .int .i64 x, .int .i64 s] w fun e w' => e = .returned (pt p x s).v ∧ Below w.heap.size w w' := by
  obtain ⟨b, o, l, h⟩ := p
  simp only [Ptr.v] at *
  by_cases hb : b = 0
  · subst hb
    go_enter Try.func10, Try.ntmps10
    go_wp2
    refine bodyPost_ret (by simp [results, Try.results10, go_sem]; rfl) rfl ⟨?_, ((Below.refl _ _).alloc (Nat.le_refl _) _).alloc (by simp) _⟩
    rfl
  · have hb' : (b == 0) = false := by simpa using hb
    have H := Lib.hid hb
    clear hb
    go_enter Try.func10, Try.ntmps10
    go_wp2
    all_goals
      refine bodyPost_ret (by simp [results, Try.results10, go_sem]; rfl) rfl ⟨?_, ((Below.refl _ _).alloc (Nat.le_refl _) _).alloc (by simp) _⟩
      unfold pt w64
      rw [if_neg H.out]
      generalize wrap64 (o + x) = q at *
      generalize wrap64 (q + s) = r at *
      exact congrArg Ending.returned (agR (by dsimp only; split <;> omega) (by dsimp only; split <;> omega))
set_option maxHeartbeats 4000000 in
theorem heapMoves_walk (p : Ptr) (hp : p.ok) (by_ x0 x1 : Int) (w : World) :
    Calls Try.prog 4 #[p.v, .int .i64 by_, .agg #[.int .i64 x0, .int .i64 x1]] w fun e w' => e = .returned (.bool true) ∧ Below w.heap.size w w' := by
  have HMV : Hid (∀ W, Calls Try.prog 7 #[p.v, .int .i64 by_] W fun e w' => e = .returned (mv p by_).v ∧ Below W.heap.size W w') := Lib.hid (fun W => move_any p by_ W hp)
  have HPT : Hid (∀ W, Calls Try.prog 9 #[p.v, .int .i64 x0, .int .i64 x1] W fun e w' => e = .returned (pt p x0 x1).v ∧ Below W.heap.size W w') := Lib.hid (fun W => part_any p x0 x1 W hp)
  have HRM : Hid (∀ W, Calls Try.prog 8 #[p.v, .int .i64 by_] W fun e w' => e = .returned (mv p by_).v ∧ Below W.heap.size W w') := Lib.hid (fun W => rmove_any p by_ W hp)
  have HRP : Hid (∀ W, Calls Try.prog 10 #[p.v, .int .i64 x0, .int .i64 x1] W fun e w' => e = .returned (pt p x0 x1).v ∧ Below W.heap.size W w') := Lib.hid (fun W => rpart_any p x0 x1 W hp)
  have hM : p.bl = 0 → mv p by_ = p ∧ pt p x0 x1 = p := fun h => by unfold mv pt; rw [if_pos h, if_pos h]; exact ⟨rfl, rfl⟩
  generalize mv p by_ = M at *
  generalize pt p x0 x1 = N at *
  have HM := Lib.hid hM
  clear hM hp
  simp only [Ptr.v] at *
  go_enter Try.func4, Try.ntmps4
  go_wp2_with fail
  refine (awake_any _).mono ?_
  rintro e X ⟨rfl, hb⟩
  have q := row_in hb (row_up (row_new (n := w.heap.size) rfl (.cells #[.int .i64 p.bl, .int .i64 p.off, .int .i64 p.lo, .int .i64 p.hi] 31)) (.cells #[.int .i64 x0, .int .i64 x1] 32)) (by simp; omega)
  have u := row_in hb (row_new (n := w.heap.size + 1) (w := w.alloc (.cells #[.int .i64 p.bl, .int .i64 p.off, .int .i64 p.lo, .int .i64 p.hi] 31)) (by simp) (.cells #[.int .i64 x0, .int .i64 x1] 32)) (by simp)
  have HBX := Lib.hid ((((Below.refl w.heap.size w).alloc (Nat.le_refl _) (.cells #[.int .i64 p.bl, .int .i64 p.off, .int .i64 p.lo, .int .i64 p.hi] 31)).alloc (by simp) (.cells #[.int .i64 x0, .int .i64 x1] 32)).trans (hb.mono (by simp; omega)))
  obtain ⟨q0, q1, q2, q3⟩ := cells4 q
  have u0 : X.cell? ⟨w.heap.size + 1, 0, none⟩ = some (.int .i64 x0) := cell_of_row _ _ _ _ _ _ u
  have u1 : X.cell? ⟨w.heap.size + 1, 1, none⟩ = some (.int .i64 x1) := cell_of_row _ _ _ _ _ _ u
  have hn0 := lt_of_at q
  have hn1 := lt_of_at u
  clear hb q u
  generalize hnn0 : w.heap.size = n0 at *
  have HN0 := Lib.hid hnn0
  clear hnn0
  generalize hnn1 : n0 + 1 = n1 at *
  clear hnn1
  go_wp2_with fail
  refine wp_region_held_drew (S := fun W : World => Below X.heap.size X W) (by kernel_rfl) ((Below.refl _ _).drew) (fun hHeld => ?_)
  have hX0 := hHeld
  clear hX0
  generalize X.drew = V0 at *
  refine wpAnyH_take (i := 0) (oi := ({ dst := some 11, op := Go.Op.load 31 (Go.Operand.tmp 3), type := 31, pos := "law.go:112", after := #[], guard := none } : Oper)) (v := .agg #[.int .i64 p.bl, .int .i64 p.off, .int .i64 p.lo, .int .i64 p.hi]) rfl (by kernel_rfl) (by kernel_rfl) (by kernel_rfl) (fun _ _ _ h => h) (Or.inl ⟨by rfl, ?hy1⟩) (by assumption) ?_
  case hy1 => ((intro W hSW; have e0 := (hSW.cell (p := ⟨n0, 0, none⟩) hn0).trans q0; have e1 := (hSW.cell (p := ⟨n0, 1, none⟩) hn0).trans q1; have e2 := (hSW.cell (p := ⟨n0, 2, none⟩) hn0).trans q2; have e3 := (hSW.cell (p := ⟨n0, 3, none⟩) hn0).trans q3; go_simp); (try with_reducible rfl); (try exact ⟨rfl, rfl, rfl⟩))
  simp only [Act.put, List.setIfInBounds_toArray, List.set_cons_zero, List.set_cons_succ]
  refine wpAnyH_take (i := 1) (oi := ({ dst := some 12, op := Go.Op.move (Go.Operand.tmp 1), type := 3, pos := "law.go:112", after := #[], guard := none } : Oper)) (v := .int .i64 by_) rfl (by kernel_rfl) (by kernel_rfl) (by kernel_rfl) (fun _ _ _ h => h) (Or.inl ⟨by rfl, ?hy2⟩) (by assumption) ?_
  case hy2 => ((intro W hSW; (try dsimp only at hSW); go_simp); (try with_reducible rfl); (try exact ⟨rfl, rfl, rfl⟩))
  simp only [Act.put, List.setIfInBounds_toArray, List.set_cons_zero, List.set_cons_succ]
  refine wpAnyH_take (i := 3) (oi := ({ dst := some 14, op := Go.Op.load 31 (Go.Operand.tmp 3), type := 31, pos := "law.go:112", after := #[], guard := none } : Oper)) (v := .agg #[.int .i64 p.bl, .int .i64 p.off, .int .i64 p.lo, .int .i64 p.hi]) rfl (by kernel_rfl) (by kernel_rfl) (by kernel_rfl) (fun _ _ _ h => h) (Or.inl ⟨by rfl, ?hy3⟩) (by assumption) ?_
  case hy3 => ((intro W hSW; have e0 := (hSW.cell (p := ⟨n0, 0, none⟩) hn0).trans q0; have e1 := (hSW.cell (p := ⟨n0, 1, none⟩) hn0).trans q1; have e2 := (hSW.cell (p := ⟨n0, 2, none⟩) hn0).trans q2; have e3 := (hSW.cell (p := ⟨n0, 3, none⟩) hn0).trans q3; go_simp); (try with_reducible rfl); (try exact ⟨rfl, rfl, rfl⟩))
  simp only [Act.put, List.setIfInBounds_toArray, List.set_cons_zero, List.set_cons_succ]
  refine wpAnyH_take (i := 4) (oi := ({ dst := some 15, op := Go.Op.indexAddr 32 (Go.Operand.tmp 5) (Go.Operand.const (Go.Value.int Go.IntKind.i64 0)), type := 0, pos := "law.go:112", after := #[], guard := none } : Oper)) (v := .pointer (some ⟨n1, 0, none⟩)) rfl (by kernel_rfl) (by kernel_rfl) (by kernel_rfl) (fun _ _ _ h => h) (Or.inl ⟨by rfl, ?hy4⟩) (by assumption) ?_
  case hy4 => ((intro W hSW; (try dsimp only at hSW); go_simp); (try with_reducible rfl); (try exact ⟨rfl, rfl, rfl⟩))
  simp only [Act.put, List.setIfInBounds_toArray, List.set_cons_zero, List.set_cons_succ]
  refine wpAnyH_take (i := 5) (oi := ({ dst := some 16, op := Go.Op.load 3 (Go.Operand.tmp 15), type := 3, pos := "law.go:112", after := #[{ on := 4, ground := Go.Ground.data }], guard := none } : Oper)) (v := .int .i64 x0) rfl (by kernel_rfl) (by kernel_rfl) (by kernel_rfl) (fun _ _ _ h => h) (Or.inl ⟨by rfl, ?hy5⟩) (by assumption) ?_
  case hy5 => ((intro W hSW; have e0 := (hSW.cell (p := ⟨n1, 0, none⟩) hn1).trans u0; go_simp); (try with_reducible rfl); (try exact ⟨rfl, rfl, rfl⟩))
  simp only [Act.put, List.setIfInBounds_toArray, List.set_cons_zero, List.set_cons_succ]
  refine wpAnyH_take (i := 6) (oi := ({ dst := some 17, op := Go.Op.indexAddr 32 (Go.Operand.tmp 5) (Go.Operand.const (Go.Value.int Go.IntKind.i64 1)), type := 0, pos := "law.go:112", after := #[], guard := none } : Oper)) (v := .pointer (some ⟨n1, 1, none⟩)) rfl (by kernel_rfl) (by kernel_rfl) (by kernel_rfl) (fun _ _ _ h => h) (Or.inl ⟨by rfl, ?hy6⟩) (by assumption) ?_
  case hy6 => ((intro W hSW; (try dsimp only at hSW); go_simp); (try with_reducible rfl); (try exact ⟨rfl, rfl, rfl⟩))
  simp only [Act.put, List.setIfInBounds_toArray, List.set_cons_zero, List.set_cons_succ]
  refine wpAnyH_take (i := 7) (oi := ({ dst := some 18, op := Go.Op.load 3 (Go.Operand.tmp 17), type := 3, pos := "law.go:112", after := #[{ on := 6, ground := Go.Ground.data }], guard := none } : Oper)) (v := .int .i64 x1) rfl (by kernel_rfl) (by kernel_rfl) (by kernel_rfl) (fun _ _ _ h => h) (Or.inl ⟨by rfl, ?hy7⟩) (by assumption) ?_
  case hy7 => ((intro W hSW; have e0 := (hSW.cell (p := ⟨n1, 1, none⟩) hn1).trans u1; go_simp); (try with_reducible rfl); (try exact ⟨rfl, rfl, rfl⟩))
  simp only [Act.put, List.setIfInBounds_toArray, List.set_cons_zero, List.set_cons_succ]
  refine wpAnyH_ready (rs := [2, 9, 10]) (by kernel_rfl) (by simp) ?_
  refine (AllReadyH.cons (i := 2) (o := ({ dst := some 13, op := Go.Op.call { callee := Go.Callee.value (Go.Operand.func 7), args := #[Go.Operand.tmp 11, Go.Operand.tmp 12], argTypes := #[31, 3] }, type := 31, pos := "law.go:112", after := #[{ on := 0, ground := Go.Ground.data }, { on := 1, ground := Go.Ground.data }], guard := none } : Oper)) rfl (fun K hK => ?_) (AllReadyH.cons (i := 9) (o := ({ dst := some 7, op := Go.Op.alloc 31, type := 0, pos := "law.go:112", after := #[], guard := none } : Oper)) rfl (fun K hK => ?_) (AllReadyH.cons (i := 10) (o := ({ dst := some 8, op := Go.Op.alloc 31, type := 0, pos := "law.go:112", after := #[], guard := none } : Oper)) rfl (fun K hK => ?_) AllReadyH.nil)))
  · rw [if_pos (by rfl)]
    go_simp
    refine (HMV.out V0).mono ?_
    rintro e V1 ⟨he, hb⟩
    subst he
    go_simp
    refine hK.out _ _ (hHeld.trans (hb.mono hHeld.size)) (fun hHeld => ?_)
    clear hK K
    try simp only [Act.put, List.setIfInBounds_toArray, List.set_cons_zero, List.set_cons_succ]
    refine wpAnyH_ready (rs := [8, 9, 10]) (by kernel_rfl) (by simp) ?_
    refine (AllReadyH.cons (i := 8) (o := ({ dst := some 19, op := Go.Op.call { callee := Go.Callee.value (Go.Operand.func 9), args := #[Go.Operand.tmp 14, Go.Operand.tmp 16, Go.Operand.tmp 18], argTypes := #[31, 3, 3] }, type := 31, pos := "law.go:112", after := #[{ on := 3, ground := Go.Ground.data }, { on := 5, ground := Go.Ground.data }, { on := 7, ground := Go.Ground.data }, { on := 2, ground := Go.Ground.chain }], guard := none } : Oper)) rfl (fun K hK => ?_) (AllReadyH.cons (i := 9) (o := ({ dst := some 7, op := Go.Op.alloc 31, type := 0, pos := "law.go:112", after := #[], guard := none } : Oper)) rfl (fun K hK => ?_) (AllReadyH.cons (i := 10) (o := ({ dst := some 8, op := Go.Op.alloc 31, type := 0, pos := "law.go:112", after := #[], guard := none } : Oper)) rfl (fun K hK => ?_) AllReadyH.nil)))
    · rw [if_pos (by rfl)]
      go_simp
      refine (HPT.out V1).mono ?_
      rintro e V2 ⟨he, hb⟩
      subst he
      go_simp
      refine hK.out _ _ (hHeld.trans (hb.mono hHeld.size)) (fun hHeld => ?_)
      clear hK K
      try simp only [Act.put, List.setIfInBounds_toArray, List.set_cons_zero, List.set_cons_succ]
      refine wpAnyH_ready (rs := [9, 10]) (by kernel_rfl) (by simp) ?_
      refine (AllReadyH.cons (i := 9) (o := ({ dst := some 7, op := Go.Op.alloc 31, type := 0, pos := "law.go:112", after := #[], guard := none } : Oper)) rfl (fun K hK => ?_) (AllReadyH.cons (i := 10) (o := ({ dst := some 8, op := Go.Op.alloc 31, type := 0, pos := "law.go:112", after := #[], guard := none } : Oper)) rfl (fun K hK => ?_) AllReadyH.nil))
      · rw [if_pos (by rfl)]
        go_simp
        have hb : Below V2.heap.size V2 (V2.alloc (.cells #[.int .i64 0, .int .i64 0, .int .i64 0, .int .i64 0] 31)) := (Below.refl _ _).alloc (Nat.le_refl _) _
        have r7 := heap_alloc_new V2 (.cells #[.int .i64 0, .int .i64 0, .int .i64 0, .int .i64 0] 31)
        have g7 := hHeld.size
        have hS := hHeld.trans (hb.mono hHeld.size)
        generalize V2.alloc (.cells #[.int .i64 0, .int .i64 0, .int .i64 0, .int .i64 0] 31) = V3 at *
        obtain ⟨B7, hB7⟩ : ∃ B, B = V2.heap.size := ⟨_, rfl⟩
        rw [← hB7] at r7 g7
        try rw [← hB7]
        clear hb hB7
        have lt7 := lt_of_at r7
        refine hK.out _ _ (hS) (fun hHeld => ?_)
        clear hK K
        try simp only [Act.put, List.setIfInBounds_toArray, List.set_cons_zero, List.set_cons_succ]
        refine wpAnyH_ready (rs := [10]) (by kernel_rfl) (by simp) ?_
        refine (AllReadyH.cons (i := 10) (o := ({ dst := some 8, op := Go.Op.alloc 31, type := 0, pos := "law.go:112", after := #[], guard := none } : Oper)) rfl (fun K hK => ?_) AllReadyH.nil)
        rw [if_pos (by rfl)]
        go_simp
        have hb : Below V3.heap.size V3 (V3.alloc (.cells #[.int .i64 0, .int .i64 0, .int .i64 0, .int .i64 0] 31)) := (Below.refl _ _).alloc (Nat.le_refl _) _
        have r8 := heap_alloc_new V3 (.cells #[.int .i64 0, .int .i64 0, .int .i64 0, .int .i64 0] 31)
        have g8 := hHeld.size
        replace r7 := row_in hb r7 (lt_of_at r7)
        have hS := hHeld.trans (hb.mono hHeld.size)
        generalize V3.alloc (.cells #[.int .i64 0, .int .i64 0, .int .i64 0, .int .i64 0] 31) = V4 at *
        obtain ⟨B8, hB8⟩ : ∃ B, B = V3.heap.size := ⟨_, rfl⟩
        have ne78 : B7 ≠ B8 := by rw [hB8]; exact Nat.ne_of_lt lt7
        rw [← hB8] at r8 g8
        try rw [← hB8]
        clear hb hB8
        have lt8 := lt_of_at r8
        replace lt7 := lt_of_at r7
        refine hK.out _ _ (hS) (fun hHeld => ?_)
        clear hK K
        try simp only [Act.put, List.setIfInBounds_toArray, List.set_cons_zero, List.set_cons_succ]
        refine wpAnyH_ready (rs := [11]) (by kernel_rfl) (by simp) ?_
        refine (AllReadyH.cons (i := 11) (o := ({ dst := none, op := Go.Op.store 31 (Go.Operand.tmp 7) (Go.Operand.tmp 13), type := 0, pos := "law.go:112", after := #[{ on := 9, ground := Go.Ground.data }, { on := 2, ground := Go.Ground.data }, { on := 8, ground := Go.Ground.chain }, { on := 0, ground := Go.Ground.phase }, { on := 1, ground := Go.Ground.phase }, { on := 2, ground := Go.Ground.phase }, { on := 3, ground := Go.Ground.textOnly Go.Departure.lateStores }, { on := 4, ground := Go.Ground.textOnly Go.Departure.lateStores }, { on := 5, ground := Go.Ground.textOnly Go.Departure.lateStores }, { on := 6, ground := Go.Ground.textOnly Go.Departure.lateStores }, { on := 7, ground := Go.Ground.textOnly Go.Departure.lateStores }, { on := 8, ground := Go.Ground.textOnly Go.Departure.lateStoresUnsure }, { on := 9, ground := Go.Ground.phase }, { on := 10, ground := Go.Ground.phase }], guard := none } : Oper)) rfl (fun K hK => ?_) AllReadyH.nil)
        rw [if_pos (by rfl)]
        refine wp_store_row 31 (.tmp 7) (.tmp 13) rfl B7 (#[.int .i64 M.bl, .int .i64 M.off, .int .i64 M.lo, .int .i64 M.hi]) rfl rfl 31 (#[.int .i64 0, .int .i64 0, .int .i64 0, .int .i64 0]) r7 sizePtr rfl (by simp [Value.oneCell']) ?_
        have hS := hHeld.trans ((Onl.setRow B7 V4 (#[.int .i64 M.bl, .int .i64 M.off, .int .i64 M.lo, .int .i64 M.hi])).toBelow g7 hHeld.size)
        have hon := Onl.setRow B7 V4 (#[.int .i64 M.bl, .int .i64 M.off, .int .i64 M.lo, .int .i64 M.hi])
        replace r7 := setRow_heap V4 B7 _ (#[.int .i64 M.bl, .int .i64 M.off, .int .i64 M.lo, .int .i64 M.hi]) _ _ r7
        replace r8 := (setRow_other V4 B7 _ (#[.int .i64 M.bl, .int .i64 M.off, .int .i64 M.lo, .int .i64 M.hi]) (Ne.symm ne78)).trans r8
        generalize V4.setRow B7 (#[.int .i64 M.bl, .int .i64 M.off, .int .i64 M.lo, .int .i64 M.hi]) = V5 at *
        clear hon
        replace lt7 := lt_of_at r7
        replace lt8 := lt_of_at r8
        refine hK.out _ _ (hS) (fun hHeld => ?_)
        clear hK K
        try simp only [Act.put, List.setIfInBounds_toArray, List.set_cons_zero, List.set_cons_succ]
        refine wpAnyH_ready (rs := [12]) (by kernel_rfl) (by simp) ?_
        refine (AllReadyH.cons (i := 12) (o := ({ dst := none, op := Go.Op.store 31 (Go.Operand.tmp 8) (Go.Operand.tmp 19), type := 0, pos := "law.go:112", after := #[{ on := 10, ground := Go.Ground.data }, { on := 8, ground := Go.Ground.data }, { on := 11, ground := Go.Ground.chain }, { on := 0, ground := Go.Ground.phase }, { on := 1, ground := Go.Ground.phase }, { on := 2, ground := Go.Ground.phase }, { on := 3, ground := Go.Ground.phase }, { on := 4, ground := Go.Ground.phase }, { on := 5, ground := Go.Ground.phase }, { on := 6, ground := Go.Ground.phase }, { on := 7, ground := Go.Ground.phase }, { on := 8, ground := Go.Ground.phase }, { on := 9, ground := Go.Ground.phase }, { on := 10, ground := Go.Ground.phase }, { on := 11, ground := Go.Ground.phase }], guard := none } : Oper)) rfl (fun K hK => ?_) AllReadyH.nil)
        rw [if_pos (by rfl)]
        refine wp_store_row 31 (.tmp 8) (.tmp 19) rfl B8 (#[.int .i64 N.bl, .int .i64 N.off, .int .i64 N.lo, .int .i64 N.hi]) rfl rfl 31 (#[.int .i64 0, .int .i64 0, .int .i64 0, .int .i64 0]) r8 sizePtr rfl (by simp [Value.oneCell']) ?_
        have hS := hHeld.trans ((Onl.setRow B8 V5 (#[.int .i64 N.bl, .int .i64 N.off, .int .i64 N.lo, .int .i64 N.hi])).toBelow g8 hHeld.size)
        have hon := Onl.setRow B8 V5 (#[.int .i64 N.bl, .int .i64 N.off, .int .i64 N.lo, .int .i64 N.hi])
        replace r8 := setRow_heap V5 B8 _ (#[.int .i64 N.bl, .int .i64 N.off, .int .i64 N.lo, .int .i64 N.hi]) _ _ r8
        replace r7 := (setRow_other V5 B8 _ (#[.int .i64 N.bl, .int .i64 N.off, .int .i64 N.lo, .int .i64 N.hi]) ne78).trans r7
        generalize V5.setRow B8 (#[.int .i64 N.bl, .int .i64 N.off, .int .i64 N.lo, .int .i64 N.hi]) = V6 at *
        clear hon
        replace lt7 := lt_of_at r7
        replace lt8 := lt_of_at r8
        refine hK.out _ _ (hS) (fun hHeld => ?_)
        clear hK K
        try simp only [Act.put, List.setIfInBounds_toArray, List.set_cons_zero, List.set_cons_succ]
        refine wpAnyH_done (by kernel_rfl) ?_ _
        have HT := Lib.hid hHeld
        clear hHeld
        obtain ⟨B70, B71, B72, B73⟩ := cells4 r7
        obtain ⟨B80, B81, B82, B83⟩ := cells4 r8
        have hlB7 := lt_of_at r7
        have hlB8 := lt_of_at r8
        replace q0 := (HT.out.cell (p := ⟨n0, 0, none⟩) hn0).trans q0
        replace q1 := (HT.out.cell (p := ⟨n0, 1, none⟩) hn0).trans q1
        replace q2 := (HT.out.cell (p := ⟨n0, 2, none⟩) hn0).trans q2
        replace q3 := (HT.out.cell (p := ⟨n0, 3, none⟩) hn0).trans q3
        replace u0 := (HT.out.cell (p := ⟨n1, 0, none⟩) hn1).trans u0
        replace u1 := (HT.out.cell (p := ⟨n1, 1, none⟩) hn1).trans u1
        replace hn0 := Nat.lt_of_lt_of_le hn0 HT.out.size
        replace hn1 := Nat.lt_of_lt_of_le hn1 HT.out.size
        generalize hVV : V6 = T at *
        clear hVV r7 r8 g7 g8
        go_wp2_with fail
        refine wp_region_held_drew (S := fun W : World => Below T.heap.size T W) (by kernel_rfl) ((Below.refl _ _).drew) (fun hHeld => ?_)
        generalize T.drew = V0 at *
        refine wpAnyH_take (i := 0) (oi := ({ dst := some 20, op := Go.Op.load 31 (Go.Operand.tmp 7), type := 31, pos := "law.go:113", after := #[], guard := none } : Oper)) (v := .agg #[.int .i64 M.bl, .int .i64 M.off, .int .i64 M.lo, .int .i64 M.hi]) rfl (by kernel_rfl) (by kernel_rfl) (by kernel_rfl) (fun _ _ _ h => h) (Or.inl ⟨by rfl, ?hy1⟩) (by assumption) ?_
        case hy1 => ((intro W hSW; have e0 := (hSW.cell (p := ⟨B7, 0, none⟩) hlB7).trans B70; have e1 := (hSW.cell (p := ⟨B7, 1, none⟩) hlB7).trans B71; have e2 := (hSW.cell (p := ⟨B7, 2, none⟩) hlB7).trans B72; have e3 := (hSW.cell (p := ⟨B7, 3, none⟩) hlB7).trans B73; go_simp); (try with_reducible rfl); (try exact ⟨rfl, rfl, rfl⟩))
        simp only [Act.put, List.setIfInBounds_toArray, List.set_cons_zero, List.set_cons_succ]
        refine wpAnyH_take (i := 1) (oi := ({ dst := some 21, op := Go.Op.load 31 (Go.Operand.tmp 3), type := 31, pos := "law.go:113", after := #[], guard := none } : Oper)) (v := .agg #[.int .i64 p.bl, .int .i64 p.off, .int .i64 p.lo, .int .i64 p.hi]) rfl (by kernel_rfl) (by kernel_rfl) (by kernel_rfl) (fun _ _ _ h => h) (Or.inl ⟨by rfl, ?hy2⟩) (by assumption) ?_
        case hy2 => ((intro W hSW; have e0 := (hSW.cell (p := ⟨n0, 0, none⟩) hn0).trans q0; have e1 := (hSW.cell (p := ⟨n0, 1, none⟩) hn0).trans q1; have e2 := (hSW.cell (p := ⟨n0, 2, none⟩) hn0).trans q2; have e3 := (hSW.cell (p := ⟨n0, 3, none⟩) hn0).trans q3; go_simp); (try with_reducible rfl); (try exact ⟨rfl, rfl, rfl⟩))
        simp only [Act.put, List.setIfInBounds_toArray, List.set_cons_zero, List.set_cons_succ]
        refine wpAnyH_take (i := 2) (oi := ({ dst := some 22, op := Go.Op.move (Go.Operand.tmp 1), type := 3, pos := "law.go:113", after := #[], guard := none } : Oper)) (v := .int .i64 by_) rfl (by kernel_rfl) (by kernel_rfl) (by kernel_rfl) (fun _ _ _ h => h) (Or.inl ⟨by rfl, ?hy3⟩) (by assumption) ?_
        case hy3 => ((intro W hSW; (try dsimp only at hSW); go_simp); (try with_reducible rfl); (try exact ⟨rfl, rfl, rfl⟩))
        simp only [Act.put, List.setIfInBounds_toArray, List.set_cons_zero, List.set_cons_succ]
        refine wpAnyH_ready (rs := [3]) (by kernel_rfl) (by simp) ?_
        refine (AllReadyH.cons (i := 3) (o := ({ dst := some 23, op := Go.Op.call { callee := Go.Callee.value (Go.Operand.func 8), args := #[Go.Operand.tmp 21, Go.Operand.tmp 22], argTypes := #[39, 3] }, type := 39, pos := "law.go:113", after := #[{ on := 1, ground := Go.Ground.data }, { on := 2, ground := Go.Ground.data }], guard := none } : Oper)) rfl (fun K hK => ?_) AllReadyH.nil)
        rw [if_pos (by rfl)]
        go_simp
        refine (HRM.out V0).mono ?_
        rintro e V1 ⟨he, hb⟩
        subst he
        go_simp
        refine hK.out _ _ (hHeld.trans (hb.mono hHeld.size)) (fun hHeld => ?_)
        clear hK K
        try simp only [Act.put, List.setIfInBounds_toArray, List.set_cons_zero, List.set_cons_succ]
        refine wpAnyH_take (i := 4) (oi := ({ dst := some 24, op := Go.Op.binOp Go.BinOp.neq 39 (Go.Operand.tmp 20) (Go.Operand.tmp 23) 39, type := 4, pos := "law.go:113", after := #[{ on := 0, ground := Go.Ground.data }, { on := 3, ground := Go.Ground.data }], guard := none } : Oper)) (v := .bool false) rfl (by kernel_rfl) (by kernel_rfl) (by kernel_rfl) (fun _ _ _ h => h) (Or.inl ⟨by rfl, ?hy4⟩) (by assumption) ?_
        case hy4 => ((intro W hSW; (try dsimp only at hSW); go_simp); (try with_reducible rfl); (try exact ⟨rfl, rfl, rfl⟩))
        simp only [Act.put, List.setIfInBounds_toArray, List.set_cons_zero, List.set_cons_succ]
        refine wpAnyH_take (i := 5) (oi := ({ dst := some 25, op := Go.Op.move (Go.Operand.tmp 24), type := 4, pos := "law.go:113", after := #[{ on := 4, ground := Go.Ground.data }, { on := 3, ground := Go.Ground.chain }], guard := none } : Oper)) (v := .bool false) rfl (by kernel_rfl) (by kernel_rfl) (by kernel_rfl) (fun _ _ _ h => h) (Or.inl ⟨by rfl, ?hy5⟩) (by assumption) ?_
        case hy5 => ((intro W hSW; (try dsimp only at hSW); go_simp); (try with_reducible rfl); (try exact ⟨rfl, rfl, rfl⟩))
        simp only [Act.put, List.setIfInBounds_toArray, List.set_cons_zero, List.set_cons_succ]
        refine wpAnyH_take (i := 6) (oi := ({ dst := some 26, op := Go.Op.load 31 (Go.Operand.tmp 8), type := 31, pos := "law.go:113", after := #[{ on := 5, ground := Go.Ground.guard }], guard := some (5, false) } : Oper)) (v := .agg #[.int .i64 N.bl, .int .i64 N.off, .int .i64 N.lo, .int .i64 N.hi]) rfl (by kernel_rfl) (by kernel_rfl) (by kernel_rfl) (fun _ _ _ h => h) (Or.inl ⟨by rfl, ?hy6⟩) (by assumption) ?_
        case hy6 => ((intro W hSW; have e0 := (hSW.cell (p := ⟨B8, 0, none⟩) hlB8).trans B80; have e1 := (hSW.cell (p := ⟨B8, 1, none⟩) hlB8).trans B81; have e2 := (hSW.cell (p := ⟨B8, 2, none⟩) hlB8).trans B82; have e3 := (hSW.cell (p := ⟨B8, 3, none⟩) hlB8).trans B83; go_simp); (try with_reducible rfl); (try exact ⟨rfl, rfl, rfl⟩))
        simp only [Act.put, List.setIfInBounds_toArray, List.set_cons_zero, List.set_cons_succ]
        refine wpAnyH_take (i := 7) (oi := ({ dst := some 27, op := Go.Op.load 31 (Go.Operand.tmp 3), type := 31, pos := "law.go:113", after := #[{ on := 5, ground := Go.Ground.guard }], guard := some (5, false) } : Oper)) (v := .agg #[.int .i64 p.bl, .int .i64 p.off, .int .i64 p.lo, .int .i64 p.hi]) rfl (by kernel_rfl) (by kernel_rfl) (by kernel_rfl) (fun _ _ _ h => h) (Or.inl ⟨by rfl, ?hy7⟩) (by assumption) ?_
        case hy7 => ((intro W hSW; have e0 := (hSW.cell (p := ⟨n0, 0, none⟩) hn0).trans q0; have e1 := (hSW.cell (p := ⟨n0, 1, none⟩) hn0).trans q1; have e2 := (hSW.cell (p := ⟨n0, 2, none⟩) hn0).trans q2; have e3 := (hSW.cell (p := ⟨n0, 3, none⟩) hn0).trans q3; go_simp); (try with_reducible rfl); (try exact ⟨rfl, rfl, rfl⟩))
        simp only [Act.put, List.setIfInBounds_toArray, List.set_cons_zero, List.set_cons_succ]
        refine wpAnyH_take (i := 8) (oi := ({ dst := some 28, op := Go.Op.indexAddr 32 (Go.Operand.tmp 5) (Go.Operand.const (Go.Value.int Go.IntKind.i64 0)), type := 0, pos := "law.go:113", after := #[{ on := 5, ground := Go.Ground.guard }], guard := some (5, false) } : Oper)) (v := .pointer (some ⟨n1, 0, none⟩)) rfl (by kernel_rfl) (by kernel_rfl) (by kernel_rfl) (fun _ _ _ h => h) (Or.inl ⟨by rfl, ?hy8⟩) (by assumption) ?_
        case hy8 => ((intro W hSW; (try dsimp only at hSW); go_simp); (try with_reducible rfl); (try exact ⟨rfl, rfl, rfl⟩))
        simp only [Act.put, List.setIfInBounds_toArray, List.set_cons_zero, List.set_cons_succ]
        refine wpAnyH_take (i := 9) (oi := ({ dst := some 29, op := Go.Op.load 3 (Go.Operand.tmp 28), type := 3, pos := "law.go:113", after := #[{ on := 8, ground := Go.Ground.data }, { on := 5, ground := Go.Ground.guard }], guard := some (5, false) } : Oper)) (v := .int .i64 x0) rfl (by kernel_rfl) (by kernel_rfl) (by kernel_rfl) (fun _ _ _ h => h) (Or.inl ⟨by rfl, ?hy9⟩) (by assumption) ?_
        case hy9 => ((intro W hSW; have e0 := (hSW.cell (p := ⟨n1, 0, none⟩) hn1).trans u0; go_simp); (try with_reducible rfl); (try exact ⟨rfl, rfl, rfl⟩))
        simp only [Act.put, List.setIfInBounds_toArray, List.set_cons_zero, List.set_cons_succ]
        refine wpAnyH_take (i := 10) (oi := ({ dst := some 30, op := Go.Op.indexAddr 32 (Go.Operand.tmp 5) (Go.Operand.const (Go.Value.int Go.IntKind.i64 1)), type := 0, pos := "law.go:113", after := #[{ on := 5, ground := Go.Ground.guard }], guard := some (5, false) } : Oper)) (v := .pointer (some ⟨n1, 1, none⟩)) rfl (by kernel_rfl) (by kernel_rfl) (by kernel_rfl) (fun _ _ _ h => h) (Or.inl ⟨by rfl, ?hy10⟩) (by assumption) ?_
        case hy10 => ((intro W hSW; (try dsimp only at hSW); go_simp); (try with_reducible rfl); (try exact ⟨rfl, rfl, rfl⟩))
        simp only [Act.put, List.setIfInBounds_toArray, List.set_cons_zero, List.set_cons_succ]
        refine wpAnyH_take (i := 11) (oi := ({ dst := some 31, op := Go.Op.load 3 (Go.Operand.tmp 30), type := 3, pos := "law.go:113", after := #[{ on := 10, ground := Go.Ground.data }, { on := 5, ground := Go.Ground.guard }], guard := some (5, false) } : Oper)) (v := .int .i64 x1) rfl (by kernel_rfl) (by kernel_rfl) (by kernel_rfl) (fun _ _ _ h => h) (Or.inl ⟨by rfl, ?hy11⟩) (by assumption) ?_
        case hy11 => ((intro W hSW; have e0 := (hSW.cell (p := ⟨n1, 1, none⟩) hn1).trans u1; go_simp); (try with_reducible rfl); (try exact ⟨rfl, rfl, rfl⟩))
        simp only [Act.put, List.setIfInBounds_toArray, List.set_cons_zero, List.set_cons_succ]
        refine wpAnyH_ready (rs := [12]) (by kernel_rfl) (by simp) ?_
        refine (AllReadyH.cons (i := 12) (o := ({ dst := some 32, op := Go.Op.call { callee := Go.Callee.value (Go.Operand.func 10), args := #[Go.Operand.tmp 27, Go.Operand.tmp 29, Go.Operand.tmp 31], argTypes := #[39, 3, 3] }, type := 39, pos := "law.go:113", after := #[{ on := 7, ground := Go.Ground.data }, { on := 9, ground := Go.Ground.data }, { on := 11, ground := Go.Ground.data }, { on := 5, ground := Go.Ground.chain }, { on := 5, ground := Go.Ground.guard }], guard := some (5, false) } : Oper)) rfl (fun K hK => ?_) AllReadyH.nil)
        rw [if_pos (by rfl)]
        go_simp
        refine (HRP.out V1).mono ?_
        rintro e V2 ⟨he, hb⟩
        subst he
        go_simp
        refine hK.out _ _ (hHeld.trans (hb.mono hHeld.size)) (fun hHeld => ?_)
        clear hK K
        try simp only [Act.put, List.setIfInBounds_toArray, List.set_cons_zero, List.set_cons_succ]
        refine wpAnyH_take (i := 13) (oi := ({ dst := some 33, op := Go.Op.binOp Go.BinOp.neq 39 (Go.Operand.tmp 26) (Go.Operand.tmp 32) 39, type := 4, pos := "law.go:113", after := #[{ on := 6, ground := Go.Ground.data }, { on := 12, ground := Go.Ground.data }, { on := 5, ground := Go.Ground.guard }], guard := some (5, false) } : Oper)) (v := .bool false) rfl (by kernel_rfl) (by kernel_rfl) (by kernel_rfl) (fun _ _ _ h => h) (Or.inl ⟨by rfl, ?hy12⟩) (by assumption) ?_
        case hy12 => ((intro W hSW; (try dsimp only at hSW); go_simp); (try with_reducible rfl); (try exact ⟨rfl, rfl, rfl⟩))
        simp only [Act.put, List.setIfInBounds_toArray, List.set_cons_zero, List.set_cons_succ]
        refine wpAnyH_take (i := 14) (oi := ({ dst := some 34, op := Go.Op.pick (Go.Operand.tmp 25) (Go.Operand.const (Go.Value.bool true)) (Go.Operand.tmp 33), type := 4, pos := "law.go:113", after := #[{ on := 5, ground := Go.Ground.data }, { on := 13, ground := Go.Ground.data }], guard := none } : Oper)) (v := .bool false) rfl (by kernel_rfl) (by kernel_rfl) (by kernel_rfl) (fun _ _ _ h => h) (Or.inl ⟨by rfl, ?hy13⟩) (by assumption) ?_
        case hy13 => ((intro W hSW; (try dsimp only at hSW); go_simp); (try with_reducible rfl); (try exact ⟨rfl, rfl, rfl⟩))
        simp only [Act.put, List.setIfInBounds_toArray, List.set_cons_zero, List.set_cons_succ]
        refine wpAnyH_done (by kernel_rfl) ?_ _
        have HW := Lib.hid hHeld
        clear hHeld
        have z1 := HBX.out.size
        rw [HN0.out] at z1
        have z2 := HT.out.size
        have wq0 := (HW.out.cell (p := ⟨n0, 0, none⟩) hn0).trans q0
        have wq1 := (HW.out.cell (p := ⟨n0, 1, none⟩) hn0).trans q1
        have wq2 := (HW.out.cell (p := ⟨n0, 2, none⟩) hn0).trans q2
        have wq3 := (HW.out.cell (p := ⟨n0, 3, none⟩) hn0).trans q3
        have wB70 := (HW.out.cell (p := ⟨B7, 0, none⟩) hlB7).trans B70
        have wB71 := (HW.out.cell (p := ⟨B7, 1, none⟩) hlB7).trans B71
        have wB72 := (HW.out.cell (p := ⟨B7, 2, none⟩) hlB7).trans B72
        have wB73 := (HW.out.cell (p := ⟨B7, 3, none⟩) hlB7).trans B73
        have wB80 := (HW.out.cell (p := ⟨B8, 0, none⟩) hlB8).trans B80
        have wB81 := (HW.out.cell (p := ⟨B8, 1, none⟩) hlB8).trans B81
        have wB82 := (HW.out.cell (p := ⟨B8, 2, none⟩) hlB8).trans B82
        have wB83 := (HW.out.cell (p := ⟨B8, 3, none⟩) hlB8).trans B83
        by_cases hz : p.bl = 0
        · obtain ⟨e1, e2⟩ := HM.out hz
          rw [e1] at wB70 wB71 wB72 wB73
          rw [e2] at wB80 wB81 wB82 wB83
          rw [hz] at wq0 wB70 wB80
          clear hz e1 e2
          go_wp2
          go_ret
          exact ⟨rfl, by rw [HN0.out]; exact HBX.out.trans ((HT.out.mono (by omega)).trans (HW.out.mono (by omega)))⟩
        · have hz2 : (p.bl != 0) = true := by simpa using hz
          clear hz
          go_wp2
          go_ret
          exact ⟨rfl, by rw [HN0.out]; exact HBX.out.trans ((HT.out.mono (by omega)).trans (HW.out.mono (by omega)))⟩
      · rw [if_pos (by rfl)]
        go_simp
        have hb : Below V2.heap.size V2 (V2.alloc (.cells #[.int .i64 0, .int .i64 0, .int .i64 0, .int .i64 0] 31)) := (Below.refl _ _).alloc (Nat.le_refl _) _
        have r8 := heap_alloc_new V2 (.cells #[.int .i64 0, .int .i64 0, .int .i64 0, .int .i64 0] 31)
        have g8 := hHeld.size
        have hS := hHeld.trans (hb.mono hHeld.size)
        generalize V2.alloc (.cells #[.int .i64 0, .int .i64 0, .int .i64 0, .int .i64 0] 31) = V3 at *
        obtain ⟨B8, hB8⟩ : ∃ B, B = V2.heap.size := ⟨_, rfl⟩
        rw [← hB8] at r8 g8
        try rw [← hB8]
        clear hb hB8
        have lt8 := lt_of_at r8
        refine hK.out _ _ (hS) (fun hHeld => ?_)
        clear hK K
        try simp only [Act.put, List.setIfInBounds_toArray, List.set_cons_zero, List.set_cons_succ]
        refine wpAnyH_ready (rs := [9]) (by kernel_rfl) (by simp) ?_
        refine (AllReadyH.cons (i := 9) (o := ({ dst := some 7, op := Go.Op.alloc 31, type := 0, pos := "law.go:112", after := #[], guard := none } : Oper)) rfl (fun K hK => ?_) AllReadyH.nil)
        rw [if_pos (by rfl)]
        go_simp
        have hb : Below V3.heap.size V3 (V3.alloc (.cells #[.int .i64 0, .int .i64 0, .int .i64 0, .int .i64 0] 31)) := (Below.refl _ _).alloc (Nat.le_refl _) _
        have r7 := heap_alloc_new V3 (.cells #[.int .i64 0, .int .i64 0, .int .i64 0, .int .i64 0] 31)
        have g7 := hHeld.size
        replace r8 := row_in hb r8 (lt_of_at r8)
        have hS := hHeld.trans (hb.mono hHeld.size)
        generalize V3.alloc (.cells #[.int .i64 0, .int .i64 0, .int .i64 0, .int .i64 0] 31) = V4 at *
        obtain ⟨B7, hB7⟩ : ∃ B, B = V3.heap.size := ⟨_, rfl⟩
        have ne87 : B8 ≠ B7 := by rw [hB7]; exact Nat.ne_of_lt lt8
        rw [← hB7] at r7 g7
        try rw [← hB7]
        clear hb hB7
        have lt7 := lt_of_at r7
        replace lt8 := lt_of_at r8
        refine hK.out _ _ (hS) (fun hHeld => ?_)
        clear hK K
        try simp only [Act.put, List.setIfInBounds_toArray, List.set_cons_zero, List.set_cons_succ]
        refine wpAnyH_ready (rs := [11]) (by kernel_rfl) (by simp) ?_
        refine (AllReadyH.cons (i := 11) (o := ({ dst := none, op := Go.Op.store 31 (Go.Operand.tmp 7) (Go.Operand.tmp 13), type := 0, pos := "law.go:112", after := #[{ on := 9, ground := Go.Ground.data }, { on := 2, ground := Go.Ground.data }, { on := 8, ground := Go.Ground.chain }, { on := 0, ground := Go.Ground.phase }, { on := 1, ground := Go.Ground.phase }, { on := 2, ground := Go.Ground.phase }, { on := 3, ground := Go.Ground.textOnly Go.Departure.lateStores }, { on := 4, ground := Go.Ground.textOnly Go.Departure.lateStores }, { on := 5, ground := Go.Ground.textOnly Go.Departure.lateStores }, { on := 6, ground := Go.Ground.textOnly Go.Departure.lateStores }, { on := 7, ground := Go.Ground.textOnly Go.Departure.lateStores }, { on := 8, ground := Go.Ground.textOnly Go.Departure.lateStoresUnsure }, { on := 9, ground := Go.Ground.phase }, { on := 10, ground := Go.Ground.phase }], guard := none } : Oper)) rfl (fun K hK => ?_) AllReadyH.nil)
        rw [if_pos (by rfl)]
        refine wp_store_row 31 (.tmp 7) (.tmp 13) rfl B7 (#[.int .i64 M.bl, .int .i64 M.off, .int .i64 M.lo, .int .i64 M.hi]) rfl rfl 31 (#[.int .i64 0, .int .i64 0, .int .i64 0, .int .i64 0]) r7 sizePtr rfl (by simp [Value.oneCell']) ?_
        have hS := hHeld.trans ((Onl.setRow B7 V4 (#[.int .i64 M.bl, .int .i64 M.off, .int .i64 M.lo, .int .i64 M.hi])).toBelow g7 hHeld.size)
        have hon := Onl.setRow B7 V4 (#[.int .i64 M.bl, .int .i64 M.off, .int .i64 M.lo, .int .i64 M.hi])
        replace r7 := setRow_heap V4 B7 _ (#[.int .i64 M.bl, .int .i64 M.off, .int .i64 M.lo, .int .i64 M.hi]) _ _ r7
        replace r8 := (setRow_other V4 B7 _ (#[.int .i64 M.bl, .int .i64 M.off, .int .i64 M.lo, .int .i64 M.hi]) ne87).trans r8
        generalize V4.setRow B7 (#[.int .i64 M.bl, .int .i64 M.off, .int .i64 M.lo, .int .i64 M.hi]) = V5 at *
        clear hon
        replace lt8 := lt_of_at r8
        replace lt7 := lt_of_at r7
        refine hK.out _ _ (hS) (fun hHeld => ?_)
        clear hK K
        try simp only [Act.put, List.setIfInBounds_toArray, List.set_cons_zero, List.set_cons_succ]
        refine wpAnyH_ready (rs := [12]) (by kernel_rfl) (by simp) ?_
        refine (AllReadyH.cons (i := 12) (o := ({ dst := none, op := Go.Op.store 31 (Go.Operand.tmp 8) (Go.Operand.tmp 19), type := 0, pos := "law.go:112", after := #[{ on := 10, ground := Go.Ground.data }, { on := 8, ground := Go.Ground.data }, { on := 11, ground := Go.Ground.chain }, { on := 0, ground := Go.Ground.phase }, { on := 1, ground := Go.Ground.phase }, { on := 2, ground := Go.Ground.phase }, { on := 3, ground := Go.Ground.phase }, { on := 4, ground := Go.Ground.phase }, { on := 5, ground := Go.Ground.phase }, { on := 6, ground := Go.Ground.phase }, { on := 7, ground := Go.Ground.phase }, { on := 8, ground := Go.Ground.phase }, { on := 9, ground := Go.Ground.phase }, { on := 10, ground := Go.Ground.phase }, { on := 11, ground := Go.Ground.phase }], guard := none } : Oper)) rfl (fun K hK => ?_) AllReadyH.nil)
        rw [if_pos (by rfl)]
        refine wp_store_row 31 (.tmp 8) (.tmp 19) rfl B8 (#[.int .i64 N.bl, .int .i64 N.off, .int .i64 N.lo, .int .i64 N.hi]) rfl rfl 31 (#[.int .i64 0, .int .i64 0, .int .i64 0, .int .i64 0]) r8 sizePtr rfl (by simp [Value.oneCell']) ?_
        have hS := hHeld.trans ((Onl.setRow B8 V5 (#[.int .i64 N.bl, .int .i64 N.off, .int .i64 N.lo, .int .i64 N.hi])).toBelow g8 hHeld.size)
        have hon := Onl.setRow B8 V5 (#[.int .i64 N.bl, .int .i64 N.off, .int .i64 N.lo, .int .i64 N.hi])
        replace r8 := setRow_heap V5 B8 _ (#[.int .i64 N.bl, .int .i64 N.off, .int .i64 N.lo, .int .i64 N.hi]) _ _ r8
        replace r7 := (setRow_other V5 B8 _ (#[.int .i64 N.bl, .int .i64 N.off, .int .i64 N.lo, .int .i64 N.hi]) (Ne.symm ne87)).trans r7
        generalize V5.setRow B8 (#[.int .i64 N.bl, .int .i64 N.off, .int .i64 N.lo, .int .i64 N.hi]) = V6 at *
        clear hon
        replace lt8 := lt_of_at r8
        replace lt7 := lt_of_at r7
        refine hK.out _ _ (hS) (fun hHeld => ?_)
        clear hK K
        try simp only [Act.put, List.setIfInBounds_toArray, List.set_cons_zero, List.set_cons_succ]
        refine wpAnyH_done (by kernel_rfl) ?_ _
        have HT := Lib.hid hHeld
        clear hHeld
        obtain ⟨B70, B71, B72, B73⟩ := cells4 r7
        obtain ⟨B80, B81, B82, B83⟩ := cells4 r8
        have hlB7 := lt_of_at r7
        have hlB8 := lt_of_at r8
        replace q0 := (HT.out.cell (p := ⟨n0, 0, none⟩) hn0).trans q0
        replace q1 := (HT.out.cell (p := ⟨n0, 1, none⟩) hn0).trans q1
        replace q2 := (HT.out.cell (p := ⟨n0, 2, none⟩) hn0).trans q2
        replace q3 := (HT.out.cell (p := ⟨n0, 3, none⟩) hn0).trans q3
        replace u0 := (HT.out.cell (p := ⟨n1, 0, none⟩) hn1).trans u0
        replace u1 := (HT.out.cell (p := ⟨n1, 1, none⟩) hn1).trans u1
        replace hn0 := Nat.lt_of_lt_of_le hn0 HT.out.size
        replace hn1 := Nat.lt_of_lt_of_le hn1 HT.out.size
        generalize hVV : V6 = T at *
        clear hVV r7 r8 g7 g8
        go_wp2_with fail
        refine wp_region_held_drew (S := fun W : World => Below T.heap.size T W) (by kernel_rfl) ((Below.refl _ _).drew) (fun hHeld => ?_)
        generalize T.drew = V0 at *
        refine wpAnyH_take (i := 0) (oi := ({ dst := some 20, op := Go.Op.load 31 (Go.Operand.tmp 7), type := 31, pos := "law.go:113", after := #[], guard := none } : Oper)) (v := .agg #[.int .i64 M.bl, .int .i64 M.off, .int .i64 M.lo, .int .i64 M.hi]) rfl (by kernel_rfl) (by kernel_rfl) (by kernel_rfl) (fun _ _ _ h => h) (Or.inl ⟨by rfl, ?hy1⟩) (by assumption) ?_
        case hy1 => ((intro W hSW; have e0 := (hSW.cell (p := ⟨B7, 0, none⟩) hlB7).trans B70; have e1 := (hSW.cell (p := ⟨B7, 1, none⟩) hlB7).trans B71; have e2 := (hSW.cell (p := ⟨B7, 2, none⟩) hlB7).trans B72; have e3 := (hSW.cell (p := ⟨B7, 3, none⟩) hlB7).trans B73; go_simp); (try with_reducible rfl); (try exact ⟨rfl, rfl, rfl⟩))
        simp only [Act.put, List.setIfInBounds_toArray, List.set_cons_zero, List.set_cons_succ]
        refine wpAnyH_take (i := 1) (oi := ({ dst := some 21, op := Go.Op.load 31 (Go.Operand.tmp 3), type := 31, pos := "law.go:113", after := #[], guard := none } : Oper)) (v := .agg #[.int .i64 p.bl, .int .i64 p.off, .int .i64 p.lo, .int .i64 p.hi]) rfl (by kernel_rfl) (by kernel_rfl) (by kernel_rfl) (fun _ _ _ h => h) (Or.inl ⟨by rfl, ?hy2⟩) (by assumption) ?_
        case hy2 => ((intro W hSW; have e0 := (hSW.cell (p := ⟨n0, 0, none⟩) hn0).trans q0; have e1 := (hSW.cell (p := ⟨n0, 1, none⟩) hn0).trans q1; have e2 := (hSW.cell (p := ⟨n0, 2, none⟩) hn0).trans q2; have e3 := (hSW.cell (p := ⟨n0, 3, none⟩) hn0).trans q3; go_simp); (try with_reducible rfl); (try exact ⟨rfl, rfl, rfl⟩))
        simp only [Act.put, List.setIfInBounds_toArray, List.set_cons_zero, List.set_cons_succ]
        refine wpAnyH_take (i := 2) (oi := ({ dst := some 22, op := Go.Op.move (Go.Operand.tmp 1), type := 3, pos := "law.go:113", after := #[], guard := none } : Oper)) (v := .int .i64 by_) rfl (by kernel_rfl) (by kernel_rfl) (by kernel_rfl) (fun _ _ _ h => h) (Or.inl ⟨by rfl, ?hy3⟩) (by assumption) ?_
        case hy3 => ((intro W hSW; (try dsimp only at hSW); go_simp); (try with_reducible rfl); (try exact ⟨rfl, rfl, rfl⟩))
        simp only [Act.put, List.setIfInBounds_toArray, List.set_cons_zero, List.set_cons_succ]
        refine wpAnyH_ready (rs := [3]) (by kernel_rfl) (by simp) ?_
        refine (AllReadyH.cons (i := 3) (o := ({ dst := some 23, op := Go.Op.call { callee := Go.Callee.value (Go.Operand.func 8), args := #[Go.Operand.tmp 21, Go.Operand.tmp 22], argTypes := #[39, 3] }, type := 39, pos := "law.go:113", after := #[{ on := 1, ground := Go.Ground.data }, { on := 2, ground := Go.Ground.data }], guard := none } : Oper)) rfl (fun K hK => ?_) AllReadyH.nil)
        rw [if_pos (by rfl)]
        go_simp
        refine (HRM.out V0).mono ?_
        rintro e V1 ⟨he, hb⟩
        subst he
        go_simp
        refine hK.out _ _ (hHeld.trans (hb.mono hHeld.size)) (fun hHeld => ?_)
        clear hK K
        try simp only [Act.put, List.setIfInBounds_toArray, List.set_cons_zero, List.set_cons_succ]
        refine wpAnyH_take (i := 4) (oi := ({ dst := some 24, op := Go.Op.binOp Go.BinOp.neq 39 (Go.Operand.tmp 20) (Go.Operand.tmp 23) 39, type := 4, pos := "law.go:113", after := #[{ on := 0, ground := Go.Ground.data }, { on := 3, ground := Go.Ground.data }], guard := none } : Oper)) (v := .bool false) rfl (by kernel_rfl) (by kernel_rfl) (by kernel_rfl) (fun _ _ _ h => h) (Or.inl ⟨by rfl, ?hy4⟩) (by assumption) ?_
        case hy4 => ((intro W hSW; (try dsimp only at hSW); go_simp); (try with_reducible rfl); (try exact ⟨rfl, rfl, rfl⟩))
        simp only [Act.put, List.setIfInBounds_toArray, List.set_cons_zero, List.set_cons_succ]
        refine wpAnyH_take (i := 5) (oi := ({ dst := some 25, op := Go.Op.move (Go.Operand.tmp 24), type := 4, pos := "law.go:113", after := #[{ on := 4, ground := Go.Ground.data }, { on := 3, ground := Go.Ground.chain }], guard := none } : Oper)) (v := .bool false) rfl (by kernel_rfl) (by kernel_rfl) (by kernel_rfl) (fun _ _ _ h => h) (Or.inl ⟨by rfl, ?hy5⟩) (by assumption) ?_
        case hy5 => ((intro W hSW; (try dsimp only at hSW); go_simp); (try with_reducible rfl); (try exact ⟨rfl, rfl, rfl⟩))
        simp only [Act.put, List.setIfInBounds_toArray, List.set_cons_zero, List.set_cons_succ]
        refine wpAnyH_take (i := 6) (oi := ({ dst := some 26, op := Go.Op.load 31 (Go.Operand.tmp 8), type := 31, pos := "law.go:113", after := #[{ on := 5, ground := Go.Ground.guard }], guard := some (5, false) } : Oper)) (v := .agg #[.int .i64 N.bl, .int .i64 N.off, .int .i64 N.lo, .int .i64 N.hi]) rfl (by kernel_rfl) (by kernel_rfl) (by kernel_rfl) (fun _ _ _ h => h) (Or.inl ⟨by rfl, ?hy6⟩) (by assumption) ?_
        case hy6 => ((intro W hSW; have e0 := (hSW.cell (p := ⟨B8, 0, none⟩) hlB8).trans B80; have e1 := (hSW.cell (p := ⟨B8, 1, none⟩) hlB8).trans B81; have e2 := (hSW.cell (p := ⟨B8, 2, none⟩) hlB8).trans B82; have e3 := (hSW.cell (p := ⟨B8, 3, none⟩) hlB8).trans B83; go_simp); (try with_reducible rfl); (try exact ⟨rfl, rfl, rfl⟩))
        simp only [Act.put, List.setIfInBounds_toArray, List.set_cons_zero, List.set_cons_succ]
        refine wpAnyH_take (i := 7) (oi := ({ dst := some 27, op := Go.Op.load 31 (Go.Operand.tmp 3), type := 31, pos := "law.go:113", after := #[{ on := 5, ground := Go.Ground.guard }], guard := some (5, false) } : Oper)) (v := .agg #[.int .i64 p.bl, .int .i64 p.off, .int .i64 p.lo, .int .i64 p.hi]) rfl (by kernel_rfl) (by kernel_rfl) (by kernel_rfl) (fun _ _ _ h => h) (Or.inl ⟨by rfl, ?hy7⟩) (by assumption) ?_
        case hy7 => ((intro W hSW; have e0 := (hSW.cell (p := ⟨n0, 0, none⟩) hn0).trans q0; have e1 := (hSW.cell (p := ⟨n0, 1, none⟩) hn0).trans q1; have e2 := (hSW.cell (p := ⟨n0, 2, none⟩) hn0).trans q2; have e3 := (hSW.cell (p := ⟨n0, 3, none⟩) hn0).trans q3; go_simp); (try with_reducible rfl); (try exact ⟨rfl, rfl, rfl⟩))
        simp only [Act.put, List.setIfInBounds_toArray, List.set_cons_zero, List.set_cons_succ]
        refine wpAnyH_take (i := 8) (oi := ({ dst := some 28, op := Go.Op.indexAddr 32 (Go.Operand.tmp 5) (Go.Operand.const (Go.Value.int Go.IntKind.i64 0)), type := 0, pos := "law.go:113", after := #[{ on := 5, ground := Go.Ground.guard }], guard := some (5, false) } : Oper)) (v := .pointer (some ⟨n1, 0, none⟩)) rfl (by kernel_rfl) (by kernel_rfl) (by kernel_rfl) (fun _ _ _ h => h) (Or.inl ⟨by rfl, ?hy8⟩) (by assumption) ?_
        case hy8 => ((intro W hSW; (try dsimp only at hSW); go_simp); (try with_reducible rfl); (try exact ⟨rfl, rfl, rfl⟩))
        simp only [Act.put, List.setIfInBounds_toArray, List.set_cons_zero, List.set_cons_succ]
        refine wpAnyH_take (i := 9) (oi := ({ dst := some 29, op := Go.Op.load 3 (Go.Operand.tmp 28), type := 3, pos := "law.go:113", after := #[{ on := 8, ground := Go.Ground.data }, { on := 5, ground := Go.Ground.guard }], guard := some (5, false) } : Oper)) (v := .int .i64 x0) rfl (by kernel_rfl) (by kernel_rfl) (by kernel_rfl) (fun _ _ _ h => h) (Or.inl ⟨by rfl, ?hy9⟩) (by assumption) ?_
        case hy9 => ((intro W hSW; have e0 := (hSW.cell (p := ⟨n1, 0, none⟩) hn1).trans u0; go_simp); (try with_reducible rfl); (try exact ⟨rfl, rfl, rfl⟩))
        simp only [Act.put, List.setIfInBounds_toArray, List.set_cons_zero, List.set_cons_succ]
        refine wpAnyH_take (i := 10) (oi := ({ dst := some 30, op := Go.Op.indexAddr 32 (Go.Operand.tmp 5) (Go.Operand.const (Go.Value.int Go.IntKind.i64 1)), type := 0, pos := "law.go:113", after := #[{ on := 5, ground := Go.Ground.guard }], guard := some (5, false) } : Oper)) (v := .pointer (some ⟨n1, 1, none⟩)) rfl (by kernel_rfl) (by kernel_rfl) (by kernel_rfl) (fun _ _ _ h => h) (Or.inl ⟨by rfl, ?hy10⟩) (by assumption) ?_
        case hy10 => ((intro W hSW; (try dsimp only at hSW); go_simp); (try with_reducible rfl); (try exact ⟨rfl, rfl, rfl⟩))
        simp only [Act.put, List.setIfInBounds_toArray, List.set_cons_zero, List.set_cons_succ]
        refine wpAnyH_take (i := 11) (oi := ({ dst := some 31, op := Go.Op.load 3 (Go.Operand.tmp 30), type := 3, pos := "law.go:113", after := #[{ on := 10, ground := Go.Ground.data }, { on := 5, ground := Go.Ground.guard }], guard := some (5, false) } : Oper)) (v := .int .i64 x1) rfl (by kernel_rfl) (by kernel_rfl) (by kernel_rfl) (fun _ _ _ h => h) (Or.inl ⟨by rfl, ?hy11⟩) (by assumption) ?_
        case hy11 => ((intro W hSW; have e0 := (hSW.cell (p := ⟨n1, 1, none⟩) hn1).trans u1; go_simp); (try with_reducible rfl); (try exact ⟨rfl, rfl, rfl⟩))
        simp only [Act.put, List.setIfInBounds_toArray, List.set_cons_zero, List.set_cons_succ]
        refine wpAnyH_ready (rs := [12]) (by kernel_rfl) (by simp) ?_
        refine (AllReadyH.cons (i := 12) (o := ({ dst := some 32, op := Go.Op.call { callee := Go.Callee.value (Go.Operand.func 10), args := #[Go.Operand.tmp 27, Go.Operand.tmp 29, Go.Operand.tmp 31], argTypes := #[39, 3, 3] }, type := 39, pos := "law.go:113", after := #[{ on := 7, ground := Go.Ground.data }, { on := 9, ground := Go.Ground.data }, { on := 11, ground := Go.Ground.data }, { on := 5, ground := Go.Ground.chain }, { on := 5, ground := Go.Ground.guard }], guard := some (5, false) } : Oper)) rfl (fun K hK => ?_) AllReadyH.nil)
        rw [if_pos (by rfl)]
        go_simp
        refine (HRP.out V1).mono ?_
        rintro e V2 ⟨he, hb⟩
        subst he
        go_simp
        refine hK.out _ _ (hHeld.trans (hb.mono hHeld.size)) (fun hHeld => ?_)
        clear hK K
        try simp only [Act.put, List.setIfInBounds_toArray, List.set_cons_zero, List.set_cons_succ]
        refine wpAnyH_take (i := 13) (oi := ({ dst := some 33, op := Go.Op.binOp Go.BinOp.neq 39 (Go.Operand.tmp 26) (Go.Operand.tmp 32) 39, type := 4, pos := "law.go:113", after := #[{ on := 6, ground := Go.Ground.data }, { on := 12, ground := Go.Ground.data }, { on := 5, ground := Go.Ground.guard }], guard := some (5, false) } : Oper)) (v := .bool false) rfl (by kernel_rfl) (by kernel_rfl) (by kernel_rfl) (fun _ _ _ h => h) (Or.inl ⟨by rfl, ?hy12⟩) (by assumption) ?_
        case hy12 => ((intro W hSW; (try dsimp only at hSW); go_simp); (try with_reducible rfl); (try exact ⟨rfl, rfl, rfl⟩))
        simp only [Act.put, List.setIfInBounds_toArray, List.set_cons_zero, List.set_cons_succ]
        refine wpAnyH_take (i := 14) (oi := ({ dst := some 34, op := Go.Op.pick (Go.Operand.tmp 25) (Go.Operand.const (Go.Value.bool true)) (Go.Operand.tmp 33), type := 4, pos := "law.go:113", after := #[{ on := 5, ground := Go.Ground.data }, { on := 13, ground := Go.Ground.data }], guard := none } : Oper)) (v := .bool false) rfl (by kernel_rfl) (by kernel_rfl) (by kernel_rfl) (fun _ _ _ h => h) (Or.inl ⟨by rfl, ?hy13⟩) (by assumption) ?_
        case hy13 => ((intro W hSW; (try dsimp only at hSW); go_simp); (try with_reducible rfl); (try exact ⟨rfl, rfl, rfl⟩))
        simp only [Act.put, List.setIfInBounds_toArray, List.set_cons_zero, List.set_cons_succ]
        refine wpAnyH_done (by kernel_rfl) ?_ _
        have HW := Lib.hid hHeld
        clear hHeld
        have z1 := HBX.out.size
        rw [HN0.out] at z1
        have z2 := HT.out.size
        have wq0 := (HW.out.cell (p := ⟨n0, 0, none⟩) hn0).trans q0
        have wq1 := (HW.out.cell (p := ⟨n0, 1, none⟩) hn0).trans q1
        have wq2 := (HW.out.cell (p := ⟨n0, 2, none⟩) hn0).trans q2
        have wq3 := (HW.out.cell (p := ⟨n0, 3, none⟩) hn0).trans q3
        have wB70 := (HW.out.cell (p := ⟨B7, 0, none⟩) hlB7).trans B70
        have wB71 := (HW.out.cell (p := ⟨B7, 1, none⟩) hlB7).trans B71
        have wB72 := (HW.out.cell (p := ⟨B7, 2, none⟩) hlB7).trans B72
        have wB73 := (HW.out.cell (p := ⟨B7, 3, none⟩) hlB7).trans B73
        have wB80 := (HW.out.cell (p := ⟨B8, 0, none⟩) hlB8).trans B80
        have wB81 := (HW.out.cell (p := ⟨B8, 1, none⟩) hlB8).trans B81
        have wB82 := (HW.out.cell (p := ⟨B8, 2, none⟩) hlB8).trans B82
        have wB83 := (HW.out.cell (p := ⟨B8, 3, none⟩) hlB8).trans B83
        by_cases hz : p.bl = 0
        · obtain ⟨e1, e2⟩ := HM.out hz
          rw [e1] at wB70 wB71 wB72 wB73
          rw [e2] at wB80 wB81 wB82 wB83
          rw [hz] at wq0 wB70 wB80
          clear hz e1 e2
          go_wp2
          go_ret
          exact ⟨rfl, by rw [HN0.out]; exact HBX.out.trans ((HT.out.mono (by omega)).trans (HW.out.mono (by omega)))⟩
        · have hz2 : (p.bl != 0) = true := by simpa using hz
          clear hz
          go_wp2
          go_ret
          exact ⟨rfl, by rw [HN0.out]; exact HBX.out.trans ((HT.out.mono (by omega)).trans (HW.out.mono (by omega)))⟩
    · rw [if_pos (by rfl)]
      go_simp
      have hb : Below V1.heap.size V1 (V1.alloc (.cells #[.int .i64 0, .int .i64 0, .int .i64 0, .int .i64 0] 31)) := (Below.refl _ _).alloc (Nat.le_refl _) _
      have r7 := heap_alloc_new V1 (.cells #[.int .i64 0, .int .i64 0, .int .i64 0, .int .i64 0] 31)
      have g7 := hHeld.size
      have hS := hHeld.trans (hb.mono hHeld.size)
      generalize V1.alloc (.cells #[.int .i64 0, .int .i64 0, .int .i64 0, .int .i64 0] 31) = V2 at *
      obtain ⟨B7, hB7⟩ : ∃ B, B = V1.heap.size := ⟨_, rfl⟩
      rw [← hB7] at r7 g7
      try rw [← hB7]
      clear hb hB7
      have lt7 := lt_of_at r7
      refine hK.out _ _ (hS) (fun hHeld => ?_)
      clear hK K
      try simp only [Act.put, List.setIfInBounds_toArray, List.set_cons_zero, List.set_cons_succ]
      refine wpAnyH_ready (rs := [8, 10]) (by kernel_rfl) (by simp) ?_
      refine (AllReadyH.cons (i := 8) (o := ({ dst := some 19, op := Go.Op.call { callee := Go.Callee.value (Go.Operand.func 9), args := #[Go.Operand.tmp 14, Go.Operand.tmp 16, Go.Operand.tmp 18], argTypes := #[31, 3, 3] }, type := 31, pos := "law.go:112", after := #[{ on := 3, ground := Go.Ground.data }, { on := 5, ground := Go.Ground.data }, { on := 7, ground := Go.Ground.data }, { on := 2, ground := Go.Ground.chain }], guard := none } : Oper)) rfl (fun K hK => ?_) (AllReadyH.cons (i := 10) (o := ({ dst := some 8, op := Go.Op.alloc 31, type := 0, pos := "law.go:112", after := #[], guard := none } : Oper)) rfl (fun K hK => ?_) AllReadyH.nil))
      · rw [if_pos (by rfl)]
        go_simp
        refine (HPT.out V2).mono ?_
        rintro e V3 ⟨he, hb⟩
        subst he
        go_simp
        replace r7 := row_in hb r7 (lt_of_at r7)
        replace lt7 := lt_of_at r7
        refine hK.out _ _ (hHeld.trans (hb.mono hHeld.size)) (fun hHeld => ?_)
        clear hK K
        try simp only [Act.put, List.setIfInBounds_toArray, List.set_cons_zero, List.set_cons_succ]
        refine wpAnyH_ready (rs := [10]) (by kernel_rfl) (by simp) ?_
        refine (AllReadyH.cons (i := 10) (o := ({ dst := some 8, op := Go.Op.alloc 31, type := 0, pos := "law.go:112", after := #[], guard := none } : Oper)) rfl (fun K hK => ?_) AllReadyH.nil)
        rw [if_pos (by rfl)]
        go_simp
        have hb : Below V3.heap.size V3 (V3.alloc (.cells #[.int .i64 0, .int .i64 0, .int .i64 0, .int .i64 0] 31)) := (Below.refl _ _).alloc (Nat.le_refl _) _
        have r8 := heap_alloc_new V3 (.cells #[.int .i64 0, .int .i64 0, .int .i64 0, .int .i64 0] 31)
        have g8 := hHeld.size
        replace r7 := row_in hb r7 (lt_of_at r7)
        have hS := hHeld.trans (hb.mono hHeld.size)
        generalize V3.alloc (.cells #[.int .i64 0, .int .i64 0, .int .i64 0, .int .i64 0] 31) = V4 at *
        obtain ⟨B8, hB8⟩ : ∃ B, B = V3.heap.size := ⟨_, rfl⟩
        have ne78 : B7 ≠ B8 := by rw [hB8]; exact Nat.ne_of_lt lt7
        rw [← hB8] at r8 g8
        try rw [← hB8]
        clear hb hB8
        have lt8 := lt_of_at r8
        replace lt7 := lt_of_at r7
        refine hK.out _ _ (hS) (fun hHeld => ?_)
        clear hK K
        try simp only [Act.put, List.setIfInBounds_toArray, List.set_cons_zero, List.set_cons_succ]
        refine wpAnyH_ready (rs := [11]) (by kernel_rfl) (by simp) ?_
        refine (AllReadyH.cons (i := 11) (o := ({ dst := none, op := Go.Op.store 31 (Go.Operand.tmp 7) (Go.Operand.tmp 13), type := 0, pos := "law.go:112", after := #[{ on := 9, ground := Go.Ground.data }, { on := 2, ground := Go.Ground.data }, { on := 8, ground := Go.Ground.chain }, { on := 0, ground := Go.Ground.phase }, { on := 1, ground := Go.Ground.phase }, { on := 2, ground := Go.Ground.phase }, { on := 3, ground := Go.Ground.textOnly Go.Departure.lateStores }, { on := 4, ground := Go.Ground.textOnly Go.Departure.lateStores }, { on := 5, ground := Go.Ground.textOnly Go.Departure.lateStores }, { on := 6, ground := Go.Ground.textOnly Go.Departure.lateStores }, { on := 7, ground := Go.Ground.textOnly Go.Departure.lateStores }, { on := 8, ground := Go.Ground.textOnly Go.Departure.lateStoresUnsure }, { on := 9, ground := Go.Ground.phase }, { on := 10, ground := Go.Ground.phase }], guard := none } : Oper)) rfl (fun K hK => ?_) AllReadyH.nil)
        rw [if_pos (by rfl)]
        refine wp_store_row 31 (.tmp 7) (.tmp 13) rfl B7 (#[.int .i64 M.bl, .int .i64 M.off, .int .i64 M.lo, .int .i64 M.hi]) rfl rfl 31 (#[.int .i64 0, .int .i64 0, .int .i64 0, .int .i64 0]) r7 sizePtr rfl (by simp [Value.oneCell']) ?_
        have hS := hHeld.trans ((Onl.setRow B7 V4 (#[.int .i64 M.bl, .int .i64 M.off, .int .i64 M.lo, .int .i64 M.hi])).toBelow g7 hHeld.size)
        have hon := Onl.setRow B7 V4 (#[.int .i64 M.bl, .int .i64 M.off, .int .i64 M.lo, .int .i64 M.hi])
        replace r7 := setRow_heap V4 B7 _ (#[.int .i64 M.bl, .int .i64 M.off, .int .i64 M.lo, .int .i64 M.hi]) _ _ r7
        replace r8 := (setRow_other V4 B7 _ (#[.int .i64 M.bl, .int .i64 M.off, .int .i64 M.lo, .int .i64 M.hi]) (Ne.symm ne78)).trans r8
        generalize V4.setRow B7 (#[.int .i64 M.bl, .int .i64 M.off, .int .i64 M.lo, .int .i64 M.hi]) = V5 at *
        clear hon
        replace lt7 := lt_of_at r7
        replace lt8 := lt_of_at r8
        refine hK.out _ _ (hS) (fun hHeld => ?_)
        clear hK K
        try simp only [Act.put, List.setIfInBounds_toArray, List.set_cons_zero, List.set_cons_succ]
        refine wpAnyH_ready (rs := [12]) (by kernel_rfl) (by simp) ?_
        refine (AllReadyH.cons (i := 12) (o := ({ dst := none, op := Go.Op.store 31 (Go.Operand.tmp 8) (Go.Operand.tmp 19), type := 0, pos := "law.go:112", after := #[{ on := 10, ground := Go.Ground.data }, { on := 8, ground := Go.Ground.data }, { on := 11, ground := Go.Ground.chain }, { on := 0, ground := Go.Ground.phase }, { on := 1, ground := Go.Ground.phase }, { on := 2, ground := Go.Ground.phase }, { on := 3, ground := Go.Ground.phase }, { on := 4, ground := Go.Ground.phase }, { on := 5, ground := Go.Ground.phase }, { on := 6, ground := Go.Ground.phase }, { on := 7, ground := Go.Ground.phase }, { on := 8, ground := Go.Ground.phase }, { on := 9, ground := Go.Ground.phase }, { on := 10, ground := Go.Ground.phase }, { on := 11, ground := Go.Ground.phase }], guard := none } : Oper)) rfl (fun K hK => ?_) AllReadyH.nil)
        rw [if_pos (by rfl)]
        refine wp_store_row 31 (.tmp 8) (.tmp 19) rfl B8 (#[.int .i64 N.bl, .int .i64 N.off, .int .i64 N.lo, .int .i64 N.hi]) rfl rfl 31 (#[.int .i64 0, .int .i64 0, .int .i64 0, .int .i64 0]) r8 sizePtr rfl (by simp [Value.oneCell']) ?_
        have hS := hHeld.trans ((Onl.setRow B8 V5 (#[.int .i64 N.bl, .int .i64 N.off, .int .i64 N.lo, .int .i64 N.hi])).toBelow g8 hHeld.size)
        have hon := Onl.setRow B8 V5 (#[.int .i64 N.bl, .int .i64 N.off, .int .i64 N.lo, .int .i64 N.hi])
        replace r8 := setRow_heap V5 B8 _ (#[.int .i64 N.bl, .int .i64 N.off, .int .i64 N.lo, .int .i64 N.hi]) _ _ r8
        replace r7 := (setRow_other V5 B8 _ (#[.int .i64 N.bl, .int .i64 N.off, .int .i64 N.lo, .int .i64 N.hi]) ne78).trans r7
        generalize V5.setRow B8 (#[.int .i64 N.bl, .int .i64 N.off, .int .i64 N.lo, .int .i64 N.hi]) = V6 at *
        clear hon
        replace lt7 := lt_of_at r7
        replace lt8 := lt_of_at r8
        refine hK.out _ _ (hS) (fun hHeld => ?_)
        clear hK K
        try simp only [Act.put, List.setIfInBounds_toArray, List.set_cons_zero, List.set_cons_succ]
        refine wpAnyH_done (by kernel_rfl) ?_ _
        have HT := Lib.hid hHeld
        clear hHeld
        obtain ⟨B70, B71, B72, B73⟩ := cells4 r7
        obtain ⟨B80, B81, B82, B83⟩ := cells4 r8
        have hlB7 := lt_of_at r7
        have hlB8 := lt_of_at r8
        replace q0 := (HT.out.cell (p := ⟨n0, 0, none⟩) hn0).trans q0
        replace q1 := (HT.out.cell (p := ⟨n0, 1, none⟩) hn0).trans q1
        replace q2 := (HT.out.cell (p := ⟨n0, 2, none⟩) hn0).trans q2
        replace q3 := (HT.out.cell (p := ⟨n0, 3, none⟩) hn0).trans q3
        replace u0 := (HT.out.cell (p := ⟨n1, 0, none⟩) hn1).trans u0
        replace u1 := (HT.out.cell (p := ⟨n1, 1, none⟩) hn1).trans u1
        replace hn0 := Nat.lt_of_lt_of_le hn0 HT.out.size
        replace hn1 := Nat.lt_of_lt_of_le hn1 HT.out.size
        generalize hVV : V6 = T at *
        clear hVV r7 r8 g7 g8
        go_wp2_with fail
        refine wp_region_held_drew (S := fun W : World => Below T.heap.size T W) (by kernel_rfl) ((Below.refl _ _).drew) (fun hHeld => ?_)
        generalize T.drew = V0 at *
        refine wpAnyH_take (i := 0) (oi := ({ dst := some 20, op := Go.Op.load 31 (Go.Operand.tmp 7), type := 31, pos := "law.go:113", after := #[], guard := none } : Oper)) (v := .agg #[.int .i64 M.bl, .int .i64 M.off, .int .i64 M.lo, .int .i64 M.hi]) rfl (by kernel_rfl) (by kernel_rfl) (by kernel_rfl) (fun _ _ _ h => h) (Or.inl ⟨by rfl, ?hy1⟩) (by assumption) ?_
        case hy1 => ((intro W hSW; have e0 := (hSW.cell (p := ⟨B7, 0, none⟩) hlB7).trans B70; have e1 := (hSW.cell (p := ⟨B7, 1, none⟩) hlB7).trans B71; have e2 := (hSW.cell (p := ⟨B7, 2, none⟩) hlB7).trans B72; have e3 := (hSW.cell (p := ⟨B7, 3, none⟩) hlB7).trans B73; go_simp); (try with_reducible rfl); (try exact ⟨rfl, rfl, rfl⟩))
        simp only [Act.put, List.setIfInBounds_toArray, List.set_cons_zero, List.set_cons_succ]
        refine wpAnyH_take (i := 1) (oi := ({ dst := some 21, op := Go.Op.load 31 (Go.Operand.tmp 3), type := 31, pos := "law.go:113", after := #[], guard := none } : Oper)) (v := .agg #[.int .i64 p.bl, .int .i64 p.off, .int .i64 p.lo, .int .i64 p.hi]) rfl (by kernel_rfl) (by kernel_rfl) (by kernel_rfl) (fun _ _ _ h => h) (Or.inl ⟨by rfl, ?hy2⟩) (by assumption) ?_
        case hy2 => ((intro W hSW; have e0 := (hSW.cell (p := ⟨n0, 0, none⟩) hn0).trans q0; have e1 := (hSW.cell (p := ⟨n0, 1, none⟩) hn0).trans q1; have e2 := (hSW.cell (p := ⟨n0, 2, none⟩) hn0).trans q2; have e3 := (hSW.cell (p := ⟨n0, 3, none⟩) hn0).trans q3; go_simp); (try with_reducible rfl); (try exact ⟨rfl, rfl, rfl⟩))
        simp only [Act.put, List.setIfInBounds_toArray, List.set_cons_zero, List.set_cons_succ]
        refine wpAnyH_take (i := 2) (oi := ({ dst := some 22, op := Go.Op.move (Go.Operand.tmp 1), type := 3, pos := "law.go:113", after := #[], guard := none } : Oper)) (v := .int .i64 by_) rfl (by kernel_rfl) (by kernel_rfl) (by kernel_rfl) (fun _ _ _ h => h) (Or.inl ⟨by rfl, ?hy3⟩) (by assumption) ?_
        case hy3 => ((intro W hSW; (try dsimp only at hSW); go_simp); (try with_reducible rfl); (try exact ⟨rfl, rfl, rfl⟩))
        simp only [Act.put, List.setIfInBounds_toArray, List.set_cons_zero, List.set_cons_succ]
        refine wpAnyH_ready (rs := [3]) (by kernel_rfl) (by simp) ?_
        refine (AllReadyH.cons (i := 3) (o := ({ dst := some 23, op := Go.Op.call { callee := Go.Callee.value (Go.Operand.func 8), args := #[Go.Operand.tmp 21, Go.Operand.tmp 22], argTypes := #[39, 3] }, type := 39, pos := "law.go:113", after := #[{ on := 1, ground := Go.Ground.data }, { on := 2, ground := Go.Ground.data }], guard := none } : Oper)) rfl (fun K hK => ?_) AllReadyH.nil)
        rw [if_pos (by rfl)]
        go_simp
        refine (HRM.out V0).mono ?_
        rintro e V1 ⟨he, hb⟩
        subst he
        go_simp
        refine hK.out _ _ (hHeld.trans (hb.mono hHeld.size)) (fun hHeld => ?_)
        clear hK K
        try simp only [Act.put, List.setIfInBounds_toArray, List.set_cons_zero, List.set_cons_succ]
        refine wpAnyH_take (i := 4) (oi := ({ dst := some 24, op := Go.Op.binOp Go.BinOp.neq 39 (Go.Operand.tmp 20) (Go.Operand.tmp 23) 39, type := 4, pos := "law.go:113", after := #[{ on := 0, ground := Go.Ground.data }, { on := 3, ground := Go.Ground.data }], guard := none } : Oper)) (v := .bool false) rfl (by kernel_rfl) (by kernel_rfl) (by kernel_rfl) (fun _ _ _ h => h) (Or.inl ⟨by rfl, ?hy4⟩) (by assumption) ?_
        case hy4 => ((intro W hSW; (try dsimp only at hSW); go_simp); (try with_reducible rfl); (try exact ⟨rfl, rfl, rfl⟩))
        simp only [Act.put, List.setIfInBounds_toArray, List.set_cons_zero, List.set_cons_succ]
        refine wpAnyH_take (i := 5) (oi := ({ dst := some 25, op := Go.Op.move (Go.Operand.tmp 24), type := 4, pos := "law.go:113", after := #[{ on := 4, ground := Go.Ground.data }, { on := 3, ground := Go.Ground.chain }], guard := none } : Oper)) (v := .bool false) rfl (by kernel_rfl) (by kernel_rfl) (by kernel_rfl) (fun _ _ _ h => h) (Or.inl ⟨by rfl, ?hy5⟩) (by assumption) ?_
        case hy5 => ((intro W hSW; (try dsimp only at hSW); go_simp); (try with_reducible rfl); (try exact ⟨rfl, rfl, rfl⟩))
        simp only [Act.put, List.setIfInBounds_toArray, List.set_cons_zero, List.set_cons_succ]
        refine wpAnyH_take (i := 6) (oi := ({ dst := some 26, op := Go.Op.load 31 (Go.Operand.tmp 8), type := 31, pos := "law.go:113", after := #[{ on := 5, ground := Go.Ground.guard }], guard := some (5, false) } : Oper)) (v := .agg #[.int .i64 N.bl, .int .i64 N.off, .int .i64 N.lo, .int .i64 N.hi]) rfl (by kernel_rfl) (by kernel_rfl) (by kernel_rfl) (fun _ _ _ h => h) (Or.inl ⟨by rfl, ?hy6⟩) (by assumption) ?_
        case hy6 => ((intro W hSW; have e0 := (hSW.cell (p := ⟨B8, 0, none⟩) hlB8).trans B80; have e1 := (hSW.cell (p := ⟨B8, 1, none⟩) hlB8).trans B81; have e2 := (hSW.cell (p := ⟨B8, 2, none⟩) hlB8).trans B82; have e3 := (hSW.cell (p := ⟨B8, 3, none⟩) hlB8).trans B83; go_simp); (try with_reducible rfl); (try exact ⟨rfl, rfl, rfl⟩))
        simp only [Act.put, List.setIfInBounds_toArray, List.set_cons_zero, List.set_cons_succ]
        refine wpAnyH_take (i := 7) (oi := ({ dst := some 27, op := Go.Op.load 31 (Go.Operand.tmp 3), type := 31, pos := "law.go:113", after := #[{ on := 5, ground := Go.Ground.guard }], guard := some (5, false) } : Oper)) (v := .agg #[.int .i64 p.bl, .int .i64 p.off, .int .i64 p.lo, .int .i64 p.hi]) rfl (by kernel_rfl) (by kernel_rfl) (by kernel_rfl) (fun _ _ _ h => h) (Or.inl ⟨by rfl, ?hy7⟩) (by assumption) ?_
        case hy7 => ((intro W hSW; have e0 := (hSW.cell (p := ⟨n0, 0, none⟩) hn0).trans q0; have e1 := (hSW.cell (p := ⟨n0, 1, none⟩) hn0).trans q1; have e2 := (hSW.cell (p := ⟨n0, 2, none⟩) hn0).trans q2; have e3 := (hSW.cell (p := ⟨n0, 3, none⟩) hn0).trans q3; go_simp); (try with_reducible rfl); (try exact ⟨rfl, rfl, rfl⟩))
        simp only [Act.put, List.setIfInBounds_toArray, List.set_cons_zero, List.set_cons_succ]
        refine wpAnyH_take (i := 8) (oi := ({ dst := some 28, op := Go.Op.indexAddr 32 (Go.Operand.tmp 5) (Go.Operand.const (Go.Value.int Go.IntKind.i64 0)), type := 0, pos := "law.go:113", after := #[{ on := 5, ground := Go.Ground.guard }], guard := some (5, false) } : Oper)) (v := .pointer (some ⟨n1, 0, none⟩)) rfl (by kernel_rfl) (by kernel_rfl) (by kernel_rfl) (fun _ _ _ h => h) (Or.inl ⟨by rfl, ?hy8⟩) (by assumption) ?_
        case hy8 => ((intro W hSW; (try dsimp only at hSW); go_simp); (try with_reducible rfl); (try exact ⟨rfl, rfl, rfl⟩))
        simp only [Act.put, List.setIfInBounds_toArray, List.set_cons_zero, List.set_cons_succ]
        refine wpAnyH_take (i := 9) (oi := ({ dst := some 29, op := Go.Op.load 3 (Go.Operand.tmp 28), type := 3, pos := "law.go:113", after := #[{ on := 8, ground := Go.Ground.data }, { on := 5, ground := Go.Ground.guard }], guard := some (5, false) } : Oper)) (v := .int .i64 x0) rfl (by kernel_rfl) (by kernel_rfl) (by kernel_rfl) (fun _ _ _ h => h) (Or.inl ⟨by rfl, ?hy9⟩) (by assumption) ?_
        case hy9 => ((intro W hSW; have e0 := (hSW.cell (p := ⟨n1, 0, none⟩) hn1).trans u0; go_simp); (try with_reducible rfl); (try exact ⟨rfl, rfl, rfl⟩))
        simp only [Act.put, List.setIfInBounds_toArray, List.set_cons_zero, List.set_cons_succ]
        refine wpAnyH_take (i := 10) (oi := ({ dst := some 30, op := Go.Op.indexAddr 32 (Go.Operand.tmp 5) (Go.Operand.const (Go.Value.int Go.IntKind.i64 1)), type := 0, pos := "law.go:113", after := #[{ on := 5, ground := Go.Ground.guard }], guard := some (5, false) } : Oper)) (v := .pointer (some ⟨n1, 1, none⟩)) rfl (by kernel_rfl) (by kernel_rfl) (by kernel_rfl) (fun _ _ _ h => h) (Or.inl ⟨by rfl, ?hy10⟩) (by assumption) ?_
        case hy10 => ((intro W hSW; (try dsimp only at hSW); go_simp); (try with_reducible rfl); (try exact ⟨rfl, rfl, rfl⟩))
        simp only [Act.put, List.setIfInBounds_toArray, List.set_cons_zero, List.set_cons_succ]
        refine wpAnyH_take (i := 11) (oi := ({ dst := some 31, op := Go.Op.load 3 (Go.Operand.tmp 30), type := 3, pos := "law.go:113", after := #[{ on := 10, ground := Go.Ground.data }, { on := 5, ground := Go.Ground.guard }], guard := some (5, false) } : Oper)) (v := .int .i64 x1) rfl (by kernel_rfl) (by kernel_rfl) (by kernel_rfl) (fun _ _ _ h => h) (Or.inl ⟨by rfl, ?hy11⟩) (by assumption) ?_
        case hy11 => ((intro W hSW; have e0 := (hSW.cell (p := ⟨n1, 1, none⟩) hn1).trans u1; go_simp); (try with_reducible rfl); (try exact ⟨rfl, rfl, rfl⟩))
        simp only [Act.put, List.setIfInBounds_toArray, List.set_cons_zero, List.set_cons_succ]
        refine wpAnyH_ready (rs := [12]) (by kernel_rfl) (by simp) ?_
        refine (AllReadyH.cons (i := 12) (o := ({ dst := some 32, op := Go.Op.call { callee := Go.Callee.value (Go.Operand.func 10), args := #[Go.Operand.tmp 27, Go.Operand.tmp 29, Go.Operand.tmp 31], argTypes := #[39, 3, 3] }, type := 39, pos := "law.go:113", after := #[{ on := 7, ground := Go.Ground.data }, { on := 9, ground := Go.Ground.data }, { on := 11, ground := Go.Ground.data }, { on := 5, ground := Go.Ground.chain }, { on := 5, ground := Go.Ground.guard }], guard := some (5, false) } : Oper)) rfl (fun K hK => ?_) AllReadyH.nil)
        rw [if_pos (by rfl)]
        go_simp
        refine (HRP.out V1).mono ?_
        rintro e V2 ⟨he, hb⟩
        subst he
        go_simp
        refine hK.out _ _ (hHeld.trans (hb.mono hHeld.size)) (fun hHeld => ?_)
        clear hK K
        try simp only [Act.put, List.setIfInBounds_toArray, List.set_cons_zero, List.set_cons_succ]
        refine wpAnyH_take (i := 13) (oi := ({ dst := some 33, op := Go.Op.binOp Go.BinOp.neq 39 (Go.Operand.tmp 26) (Go.Operand.tmp 32) 39, type := 4, pos := "law.go:113", after := #[{ on := 6, ground := Go.Ground.data }, { on := 12, ground := Go.Ground.data }, { on := 5, ground := Go.Ground.guard }], guard := some (5, false) } : Oper)) (v := .bool false) rfl (by kernel_rfl) (by kernel_rfl) (by kernel_rfl) (fun _ _ _ h => h) (Or.inl ⟨by rfl, ?hy12⟩) (by assumption) ?_
        case hy12 => ((intro W hSW; (try dsimp only at hSW); go_simp); (try with_reducible rfl); (try exact ⟨rfl, rfl, rfl⟩))
        simp only [Act.put, List.setIfInBounds_toArray, List.set_cons_zero, List.set_cons_succ]
        refine wpAnyH_take (i := 14) (oi := ({ dst := some 34, op := Go.Op.pick (Go.Operand.tmp 25) (Go.Operand.const (Go.Value.bool true)) (Go.Operand.tmp 33), type := 4, pos := "law.go:113", after := #[{ on := 5, ground := Go.Ground.data }, { on := 13, ground := Go.Ground.data }], guard := none } : Oper)) (v := .bool false) rfl (by kernel_rfl) (by kernel_rfl) (by kernel_rfl) (fun _ _ _ h => h) (Or.inl ⟨by rfl, ?hy13⟩) (by assumption) ?_
        case hy13 => ((intro W hSW; (try dsimp only at hSW); go_simp); (try with_reducible rfl); (try exact ⟨rfl, rfl, rfl⟩))
        simp only [Act.put, List.setIfInBounds_toArray, List.set_cons_zero, List.set_cons_succ]
        refine wpAnyH_done (by kernel_rfl) ?_ _
        have HW := Lib.hid hHeld
        clear hHeld
        have z1 := HBX.out.size
        rw [HN0.out] at z1
        have z2 := HT.out.size
        have wq0 := (HW.out.cell (p := ⟨n0, 0, none⟩) hn0).trans q0
        have wq1 := (HW.out.cell (p := ⟨n0, 1, none⟩) hn0).trans q1
        have wq2 := (HW.out.cell (p := ⟨n0, 2, none⟩) hn0).trans q2
        have wq3 := (HW.out.cell (p := ⟨n0, 3, none⟩) hn0).trans q3
        have wB70 := (HW.out.cell (p := ⟨B7, 0, none⟩) hlB7).trans B70
        have wB71 := (HW.out.cell (p := ⟨B7, 1, none⟩) hlB7).trans B71
        have wB72 := (HW.out.cell (p := ⟨B7, 2, none⟩) hlB7).trans B72
        have wB73 := (HW.out.cell (p := ⟨B7, 3, none⟩) hlB7).trans B73
        have wB80 := (HW.out.cell (p := ⟨B8, 0, none⟩) hlB8).trans B80
        have wB81 := (HW.out.cell (p := ⟨B8, 1, none⟩) hlB8).trans B81
        have wB82 := (HW.out.cell (p := ⟨B8, 2, none⟩) hlB8).trans B82
        have wB83 := (HW.out.cell (p := ⟨B8, 3, none⟩) hlB8).trans B83
        by_cases hz : p.bl = 0
        · obtain ⟨e1, e2⟩ := HM.out hz
          rw [e1] at wB70 wB71 wB72 wB73
          rw [e2] at wB80 wB81 wB82 wB83
          rw [hz] at wq0 wB70 wB80
          clear hz e1 e2
          go_wp2
          go_ret
          exact ⟨rfl, by rw [HN0.out]; exact HBX.out.trans ((HT.out.mono (by omega)).trans (HW.out.mono (by omega)))⟩
        · have hz2 : (p.bl != 0) = true := by simpa using hz
          clear hz
          go_wp2
          go_ret
          exact ⟨rfl, by rw [HN0.out]; exact HBX.out.trans ((HT.out.mono (by omega)).trans (HW.out.mono (by omega)))⟩
      · rw [if_pos (by rfl)]
        go_simp
        have hb : Below V2.heap.size V2 (V2.alloc (.cells #[.int .i64 0, .int .i64 0, .int .i64 0, .int .i64 0] 31)) := (Below.refl _ _).alloc (Nat.le_refl _) _
        have r8 := heap_alloc_new V2 (.cells #[.int .i64 0, .int .i64 0, .int .i64 0, .int .i64 0] 31)
        have g8 := hHeld.size
        replace r7 := row_in hb r7 (lt_of_at r7)
        have hS := hHeld.trans (hb.mono hHeld.size)
        generalize V2.alloc (.cells #[.int .i64 0, .int .i64 0, .int .i64 0, .int .i64 0] 31) = V3 at *
        obtain ⟨B8, hB8⟩ : ∃ B, B = V2.heap.size := ⟨_, rfl⟩
        have ne78 : B7 ≠ B8 := by rw [hB8]; exact Nat.ne_of_lt lt7
        rw [← hB8] at r8 g8
        try rw [← hB8]
        clear hb hB8
        have lt8 := lt_of_at r8
        replace lt7 := lt_of_at r7
        refine hK.out _ _ (hS) (fun hHeld => ?_)
        clear hK K
        try simp only [Act.put, List.setIfInBounds_toArray, List.set_cons_zero, List.set_cons_succ]
        refine wpAnyH_ready (rs := [8]) (by kernel_rfl) (by simp) ?_
        refine (AllReadyH.cons (i := 8) (o := ({ dst := some 19, op := Go.Op.call { callee := Go.Callee.value (Go.Operand.func 9), args := #[Go.Operand.tmp 14, Go.Operand.tmp 16, Go.Operand.tmp 18], argTypes := #[31, 3, 3] }, type := 31, pos := "law.go:112", after := #[{ on := 3, ground := Go.Ground.data }, { on := 5, ground := Go.Ground.data }, { on := 7, ground := Go.Ground.data }, { on := 2, ground := Go.Ground.chain }], guard := none } : Oper)) rfl (fun K hK => ?_) AllReadyH.nil)
        rw [if_pos (by rfl)]
        go_simp
        refine (HPT.out V3).mono ?_
        rintro e V4 ⟨he, hb⟩
        subst he
        go_simp
        replace r7 := row_in hb r7 (lt_of_at r7)
        replace r8 := row_in hb r8 (lt_of_at r8)
        replace lt7 := lt_of_at r7
        replace lt8 := lt_of_at r8
        refine hK.out _ _ (hHeld.trans (hb.mono hHeld.size)) (fun hHeld => ?_)
        clear hK K
        try simp only [Act.put, List.setIfInBounds_toArray, List.set_cons_zero, List.set_cons_succ]
        refine wpAnyH_ready (rs := [11]) (by kernel_rfl) (by simp) ?_
        refine (AllReadyH.cons (i := 11) (o := ({ dst := none, op := Go.Op.store 31 (Go.Operand.tmp 7) (Go.Operand.tmp 13), type := 0, pos := "law.go:112", after := #[{ on := 9, ground := Go.Ground.data }, { on := 2, ground := Go.Ground.data }, { on := 8, ground := Go.Ground.chain }, { on := 0, ground := Go.Ground.phase }, { on := 1, ground := Go.Ground.phase }, { on := 2, ground := Go.Ground.phase }, { on := 3, ground := Go.Ground.textOnly Go.Departure.lateStores }, { on := 4, ground := Go.Ground.textOnly Go.Departure.lateStores }, { on := 5, ground := Go.Ground.textOnly Go.Departure.lateStores }, { on := 6, ground := Go.Ground.textOnly Go.Departure.lateStores }, { on := 7, ground := Go.Ground.textOnly Go.Departure.lateStores }, { on := 8, ground := Go.Ground.textOnly Go.Departure.lateStoresUnsure }, { on := 9, ground := Go.Ground.phase }, { on := 10, ground := Go.Ground.phase }], guard := none } : Oper)) rfl (fun K hK => ?_) AllReadyH.nil)
        rw [if_pos (by rfl)]
        refine wp_store_row 31 (.tmp 7) (.tmp 13) rfl B7 (#[.int .i64 M.bl, .int .i64 M.off, .int .i64 M.lo, .int .i64 M.hi]) rfl rfl 31 (#[.int .i64 0, .int .i64 0, .int .i64 0, .int .i64 0]) r7 sizePtr rfl (by simp [Value.oneCell']) ?_
        have hS := hHeld.trans ((Onl.setRow B7 V4 (#[.int .i64 M.bl, .int .i64 M.off, .int .i64 M.lo, .int .i64 M.hi])).toBelow g7 hHeld.size)
        have hon := Onl.setRow B7 V4 (#[.int .i64 M.bl, .int .i64 M.off, .int .i64 M.lo, .int .i64 M.hi])
        replace r7 := setRow_heap V4 B7 _ (#[.int .i64 M.bl, .int .i64 M.off, .int .i64 M.lo, .int .i64 M.hi]) _ _ r7
        replace r8 := (setRow_other V4 B7 _ (#[.int .i64 M.bl, .int .i64 M.off, .int .i64 M.lo, .int .i64 M.hi]) (Ne.symm ne78)).trans r8
        generalize V4.setRow B7 (#[.int .i64 M.bl, .int .i64 M.off, .int .i64 M.lo, .int .i64 M.hi]) = V5 at *
        clear hon
        replace lt7 := lt_of_at r7
        replace lt8 := lt_of_at r8
        refine hK.out _ _ (hS) (fun hHeld => ?_)
        clear hK K
        try simp only [Act.put, List.setIfInBounds_toArray, List.set_cons_zero, List.set_cons_succ]
        refine wpAnyH_ready (rs := [12]) (by kernel_rfl) (by simp) ?_
        refine (AllReadyH.cons (i := 12) (o := ({ dst := none, op := Go.Op.store 31 (Go.Operand.tmp 8) (Go.Operand.tmp 19), type := 0, pos := "law.go:112", after := #[{ on := 10, ground := Go.Ground.data }, { on := 8, ground := Go.Ground.data }, { on := 11, ground := Go.Ground.chain }, { on := 0, ground := Go.Ground.phase }, { on := 1, ground := Go.Ground.phase }, { on := 2, ground := Go.Ground.phase }, { on := 3, ground := Go.Ground.phase }, { on := 4, ground := Go.Ground.phase }, { on := 5, ground := Go.Ground.phase }, { on := 6, ground := Go.Ground.phase }, { on := 7, ground := Go.Ground.phase }, { on := 8, ground := Go.Ground.phase }, { on := 9, ground := Go.Ground.phase }, { on := 10, ground := Go.Ground.phase }, { on := 11, ground := Go.Ground.phase }], guard := none } : Oper)) rfl (fun K hK => ?_) AllReadyH.nil)
        rw [if_pos (by rfl)]
        refine wp_store_row 31 (.tmp 8) (.tmp 19) rfl B8 (#[.int .i64 N.bl, .int .i64 N.off, .int .i64 N.lo, .int .i64 N.hi]) rfl rfl 31 (#[.int .i64 0, .int .i64 0, .int .i64 0, .int .i64 0]) r8 sizePtr rfl (by simp [Value.oneCell']) ?_
        have hS := hHeld.trans ((Onl.setRow B8 V5 (#[.int .i64 N.bl, .int .i64 N.off, .int .i64 N.lo, .int .i64 N.hi])).toBelow g8 hHeld.size)
        have hon := Onl.setRow B8 V5 (#[.int .i64 N.bl, .int .i64 N.off, .int .i64 N.lo, .int .i64 N.hi])
        replace r8 := setRow_heap V5 B8 _ (#[.int .i64 N.bl, .int .i64 N.off, .int .i64 N.lo, .int .i64 N.hi]) _ _ r8
        replace r7 := (setRow_other V5 B8 _ (#[.int .i64 N.bl, .int .i64 N.off, .int .i64 N.lo, .int .i64 N.hi]) ne78).trans r7
        generalize V5.setRow B8 (#[.int .i64 N.bl, .int .i64 N.off, .int .i64 N.lo, .int .i64 N.hi]) = V6 at *
        clear hon
        replace lt7 := lt_of_at r7
        replace lt8 := lt_of_at r8
        refine hK.out _ _ (hS) (fun hHeld => ?_)
        clear hK K
        try simp only [Act.put, List.setIfInBounds_toArray, List.set_cons_zero, List.set_cons_succ]
        refine wpAnyH_done (by kernel_rfl) ?_ _
        have HT := Lib.hid hHeld
        clear hHeld
        obtain ⟨B70, B71, B72, B73⟩ := cells4 r7
        obtain ⟨B80, B81, B82, B83⟩ := cells4 r8
        have hlB7 := lt_of_at r7
        have hlB8 := lt_of_at r8
        replace q0 := (HT.out.cell (p := ⟨n0, 0, none⟩) hn0).trans q0
        replace q1 := (HT.out.cell (p := ⟨n0, 1, none⟩) hn0).trans q1
        replace q2 := (HT.out.cell (p := ⟨n0, 2, none⟩) hn0).trans q2
        replace q3 := (HT.out.cell (p := ⟨n0, 3, none⟩) hn0).trans q3
        replace u0 := (HT.out.cell (p := ⟨n1, 0, none⟩) hn1).trans u0
        replace u1 := (HT.out.cell (p := ⟨n1, 1, none⟩) hn1).trans u1
        replace hn0 := Nat.lt_of_lt_of_le hn0 HT.out.size
        replace hn1 := Nat.lt_of_lt_of_le hn1 HT.out.size
        generalize hVV : V6 = T at *
        clear hVV r7 r8 g7 g8
        go_wp2_with fail
        refine wp_region_held_drew (S := fun W : World => Below T.heap.size T W) (by kernel_rfl) ((Below.refl _ _).drew) (fun hHeld => ?_)
        generalize T.drew = V0 at *
        refine wpAnyH_take (i := 0) (oi := ({ dst := some 20, op := Go.Op.load 31 (Go.Operand.tmp 7), type := 31, pos := "law.go:113", after := #[], guard := none } : Oper)) (v := .agg #[.int .i64 M.bl, .int .i64 M.off, .int .i64 M.lo, .int .i64 M.hi]) rfl (by kernel_rfl) (by kernel_rfl) (by kernel_rfl) (fun _ _ _ h => h) (Or.inl ⟨by rfl, ?hy1⟩) (by assumption) ?_
        case hy1 => ((intro W hSW; have e0 := (hSW.cell (p := ⟨B7, 0, none⟩) hlB7).trans B70; have e1 := (hSW.cell (p := ⟨B7, 1, none⟩) hlB7).trans B71; have e2 := (hSW.cell (p := ⟨B7, 2, none⟩) hlB7).trans B72; have e3 := (hSW.cell (p := ⟨B7, 3, none⟩) hlB7).trans B73; go_simp); (try with_reducible rfl); (try exact ⟨rfl, rfl, rfl⟩))
        simp only [Act.put, List.setIfInBounds_toArray, List.set_cons_zero, List.set_cons_succ]
        refine wpAnyH_take (i := 1) (oi := ({ dst := some 21, op := Go.Op.load 31 (Go.Operand.tmp 3), type := 31, pos := "law.go:113", after := #[], guard := none } : Oper)) (v := .agg #[.int .i64 p.bl, .int .i64 p.off, .int .i64 p.lo, .int .i64 p.hi]) rfl (by kernel_rfl) (by kernel_rfl) (by kernel_rfl) (fun _ _ _ h => h) (Or.inl ⟨by rfl, ?hy2⟩) (by assumption) ?_
        case hy2 => ((intro W hSW; have e0 := (hSW.cell (p := ⟨n0, 0, none⟩) hn0).trans q0; have e1 := (hSW.cell (p := ⟨n0, 1, none⟩) hn0).trans q1; have e2 := (hSW.cell (p := ⟨n0, 2, none⟩) hn0).trans q2; have e3 := (hSW.cell (p := ⟨n0, 3, none⟩) hn0).trans q3; go_simp); (try with_reducible rfl); (try exact ⟨rfl, rfl, rfl⟩))
        simp only [Act.put, List.setIfInBounds_toArray, List.set_cons_zero, List.set_cons_succ]
        refine wpAnyH_take (i := 2) (oi := ({ dst := some 22, op := Go.Op.move (Go.Operand.tmp 1), type := 3, pos := "law.go:113", after := #[], guard := none } : Oper)) (v := .int .i64 by_) rfl (by kernel_rfl) (by kernel_rfl) (by kernel_rfl) (fun _ _ _ h => h) (Or.inl ⟨by rfl, ?hy3⟩) (by assumption) ?_
        case hy3 => ((intro W hSW; (try dsimp only at hSW); go_simp); (try with_reducible rfl); (try exact ⟨rfl, rfl, rfl⟩))
        simp only [Act.put, List.setIfInBounds_toArray, List.set_cons_zero, List.set_cons_succ]
        refine wpAnyH_ready (rs := [3]) (by kernel_rfl) (by simp) ?_
        refine (AllReadyH.cons (i := 3) (o := ({ dst := some 23, op := Go.Op.call { callee := Go.Callee.value (Go.Operand.func 8), args := #[Go.Operand.tmp 21, Go.Operand.tmp 22], argTypes := #[39, 3] }, type := 39, pos := "law.go:113", after := #[{ on := 1, ground := Go.Ground.data }, { on := 2, ground := Go.Ground.data }], guard := none } : Oper)) rfl (fun K hK => ?_) AllReadyH.nil)
        rw [if_pos (by rfl)]
        go_simp
        refine (HRM.out V0).mono ?_
        rintro e V1 ⟨he, hb⟩
        subst he
        go_simp
        refine hK.out _ _ (hHeld.trans (hb.mono hHeld.size)) (fun hHeld => ?_)
        clear hK K
        try simp only [Act.put, List.setIfInBounds_toArray, List.set_cons_zero, List.set_cons_succ]
        refine wpAnyH_take (i := 4) (oi := ({ dst := some 24, op := Go.Op.binOp Go.BinOp.neq 39 (Go.Operand.tmp 20) (Go.Operand.tmp 23) 39, type := 4, pos := "law.go:113", after := #[{ on := 0, ground := Go.Ground.data }, { on := 3, ground := Go.Ground.data }], guard := none } : Oper)) (v := .bool false) rfl (by kernel_rfl) (by kernel_rfl) (by kernel_rfl) (fun _ _ _ h => h) (Or.inl ⟨by rfl, ?hy4⟩) (by assumption) ?_
        case hy4 => ((intro W hSW; (try dsimp only at hSW); go_simp); (try with_reducible rfl); (try exact ⟨rfl, rfl, rfl⟩))
        simp only [Act.put, List.setIfInBounds_toArray, List.set_cons_zero, List.set_cons_succ]
        refine wpAnyH_take (i := 5) (oi := ({ dst := some 25, op := Go.Op.move (Go.Operand.tmp 24), type := 4, pos := "law.go:113", after := #[{ on := 4, ground := Go.Ground.data }, { on := 3, ground := Go.Ground.chain }], guard := none } : Oper)) (v := .bool false) rfl (by kernel_rfl) (by kernel_rfl) (by kernel_rfl) (fun _ _ _ h => h) (Or.inl ⟨by rfl, ?hy5⟩) (by assumption) ?_
        case hy5 => ((intro W hSW; (try dsimp only at hSW); go_simp); (try with_reducible rfl); (try exact ⟨rfl, rfl, rfl⟩))
        simp only [Act.put, List.setIfInBounds_toArray, List.set_cons_zero, List.set_cons_succ]
        refine wpAnyH_take (i := 6) (oi := ({ dst := some 26, op := Go.Op.load 31 (Go.Operand.tmp 8), type := 31, pos := "law.go:113", after := #[{ on := 5, ground := Go.Ground.guard }], guard := some (5, false) } : Oper)) (v := .agg #[.int .i64 N.bl, .int .i64 N.off, .int .i64 N.lo, .int .i64 N.hi]) rfl (by kernel_rfl) (by kernel_rfl) (by kernel_rfl) (fun _ _ _ h => h) (Or.inl ⟨by rfl, ?hy6⟩) (by assumption) ?_
        case hy6 => ((intro W hSW; have e0 := (hSW.cell (p := ⟨B8, 0, none⟩) hlB8).trans B80; have e1 := (hSW.cell (p := ⟨B8, 1, none⟩) hlB8).trans B81; have e2 := (hSW.cell (p := ⟨B8, 2, none⟩) hlB8).trans B82; have e3 := (hSW.cell (p := ⟨B8, 3, none⟩) hlB8).trans B83; go_simp); (try with_reducible rfl); (try exact ⟨rfl, rfl, rfl⟩))
        simp only [Act.put, List.setIfInBounds_toArray, List.set_cons_zero, List.set_cons_succ]
        refine wpAnyH_take (i := 7) (oi := ({ dst := some 27, op := Go.Op.load 31 (Go.Operand.tmp 3), type := 31, pos := "law.go:113", after := #[{ on := 5, ground := Go.Ground.guard }], guard := some (5, false) } : Oper)) (v := .agg #[.int .i64 p.bl, .int .i64 p.off, .int .i64 p.lo, .int .i64 p.hi]) rfl (by kernel_rfl) (by kernel_rfl) (by kernel_rfl) (fun _ _ _ h => h) (Or.inl ⟨by rfl, ?hy7⟩) (by assumption) ?_
        case hy7 => ((intro W hSW; have e0 := (hSW.cell (p := ⟨n0, 0, none⟩) hn0).trans q0; have e1 := (hSW.cell (p := ⟨n0, 1, none⟩) hn0).trans q1; have e2 := (hSW.cell (p := ⟨n0, 2, none⟩) hn0).trans q2; have e3 := (hSW.cell (p := ⟨n0, 3, none⟩) hn0).trans q3; go_simp); (try with_reducible rfl); (try exact ⟨rfl, rfl, rfl⟩))
        simp only [Act.put, List.setIfInBounds_toArray, List.set_cons_zero, List.set_cons_succ]
        refine wpAnyH_take (i := 8) (oi := ({ dst := some 28, op := Go.Op.indexAddr 32 (Go.Operand.tmp 5) (Go.Operand.const (Go.Value.int Go.IntKind.i64 0)), type := 0, pos := "law.go:113", after := #[{ on := 5, ground := Go.Ground.guard }], guard := some (5, false) } : Oper)) (v := .pointer (some ⟨n1, 0, none⟩)) rfl (by kernel_rfl) (by kernel_rfl) (by kernel_rfl) (fun _ _ _ h => h) (Or.inl ⟨by rfl, ?hy8⟩) (by assumption) ?_
        case hy8 => ((intro W hSW; (try dsimp only at hSW); go_simp); (try with_reducible rfl); (try exact ⟨rfl, rfl, rfl⟩))
        simp only [Act.put, List.setIfInBounds_toArray, List.set_cons_zero, List.set_cons_succ]
        refine wpAnyH_take (i := 9) (oi := ({ dst := some 29, op := Go.Op.load 3 (Go.Operand.tmp 28), type := 3, pos := "law.go:113", after := #[{ on := 8, ground := Go.Ground.data }, { on := 5, ground := Go.Ground.guard }], guard := some (5, false) } : Oper)) (v := .int .i64 x0) rfl (by kernel_rfl) (by kernel_rfl) (by kernel_rfl) (fun _ _ _ h => h) (Or.inl ⟨by rfl, ?hy9⟩) (by assumption) ?_
        case hy9 => ((intro W hSW; have e0 := (hSW.cell (p := ⟨n1, 0, none⟩) hn1).trans u0; go_simp); (try with_reducible rfl); (try exact ⟨rfl, rfl, rfl⟩))
        simp only [Act.put, List.setIfInBounds_toArray, List.set_cons_zero, List.set_cons_succ]
        refine wpAnyH_take (i := 10) (oi := ({ dst := some 30, op := Go.Op.indexAddr 32 (Go.Operand.tmp 5) (Go.Operand.const (Go.Value.int Go.IntKind.i64 1)), type := 0, pos := "law.go:113", after := #[{ on := 5, ground := Go.Ground.guard }], guard := some (5, false) } : Oper)) (v := .pointer (some ⟨n1, 1, none⟩)) rfl (by kernel_rfl) (by kernel_rfl) (by kernel_rfl) (fun _ _ _ h => h) (Or.inl ⟨by rfl, ?hy10⟩) (by assumption) ?_
        case hy10 => ((intro W hSW; (try dsimp only at hSW); go_simp); (try with_reducible rfl); (try exact ⟨rfl, rfl, rfl⟩))
        simp only [Act.put, List.setIfInBounds_toArray, List.set_cons_zero, List.set_cons_succ]
        refine wpAnyH_take (i := 11) (oi := ({ dst := some 31, op := Go.Op.load 3 (Go.Operand.tmp 30), type := 3, pos := "law.go:113", after := #[{ on := 10, ground := Go.Ground.data }, { on := 5, ground := Go.Ground.guard }], guard := some (5, false) } : Oper)) (v := .int .i64 x1) rfl (by kernel_rfl) (by kernel_rfl) (by kernel_rfl) (fun _ _ _ h => h) (Or.inl ⟨by rfl, ?hy11⟩) (by assumption) ?_
        case hy11 => ((intro W hSW; have e0 := (hSW.cell (p := ⟨n1, 1, none⟩) hn1).trans u1; go_simp); (try with_reducible rfl); (try exact ⟨rfl, rfl, rfl⟩))
        simp only [Act.put, List.setIfInBounds_toArray, List.set_cons_zero, List.set_cons_succ]
        refine wpAnyH_ready (rs := [12]) (by kernel_rfl) (by simp) ?_
        refine (AllReadyH.cons (i := 12) (o := ({ dst := some 32, op := Go.Op.call { callee := Go.Callee.value (Go.Operand.func 10), args := #[Go.Operand.tmp 27, Go.Operand.tmp 29, Go.Operand.tmp 31], argTypes := #[39, 3, 3] }, type := 39, pos := "law.go:113", after := #[{ on := 7, ground := Go.Ground.data }, { on := 9, ground := Go.Ground.data }, { on := 11, ground := Go.Ground.data }, { on := 5, ground := Go.Ground.chain }, { on := 5, ground := Go.Ground.guard }], guard := some (5, false) } : Oper)) rfl (fun K hK => ?_) AllReadyH.nil)
        rw [if_pos (by rfl)]
        go_simp
        refine (HRP.out V1).mono ?_
        rintro e V2 ⟨he, hb⟩
        subst he
        go_simp
        refine hK.out _ _ (hHeld.trans (hb.mono hHeld.size)) (fun hHeld => ?_)
        clear hK K
        try simp only [Act.put, List.setIfInBounds_toArray, List.set_cons_zero, List.set_cons_succ]
        refine wpAnyH_take (i := 13) (oi := ({ dst := some 33, op := Go.Op.binOp Go.BinOp.neq 39 (Go.Operand.tmp 26) (Go.Operand.tmp 32) 39, type := 4, pos := "law.go:113", after := #[{ on := 6, ground := Go.Ground.data }, { on := 12, ground := Go.Ground.data }, { on := 5, ground := Go.Ground.guard }], guard := some (5, false) } : Oper)) (v := .bool false) rfl (by kernel_rfl) (by kernel_rfl) (by kernel_rfl) (fun _ _ _ h => h) (Or.inl ⟨by rfl, ?hy12⟩) (by assumption) ?_
        case hy12 => ((intro W hSW; (try dsimp only at hSW); go_simp); (try with_reducible rfl); (try exact ⟨rfl, rfl, rfl⟩))
        simp only [Act.put, List.setIfInBounds_toArray, List.set_cons_zero, List.set_cons_succ]
        refine wpAnyH_take (i := 14) (oi := ({ dst := some 34, op := Go.Op.pick (Go.Operand.tmp 25) (Go.Operand.const (Go.Value.bool true)) (Go.Operand.tmp 33), type := 4, pos := "law.go:113", after := #[{ on := 5, ground := Go.Ground.data }, { on := 13, ground := Go.Ground.data }], guard := none } : Oper)) (v := .bool false) rfl (by kernel_rfl) (by kernel_rfl) (by kernel_rfl) (fun _ _ _ h => h) (Or.inl ⟨by rfl, ?hy13⟩) (by assumption) ?_
        case hy13 => ((intro W hSW; (try dsimp only at hSW); go_simp); (try with_reducible rfl); (try exact ⟨rfl, rfl, rfl⟩))
        simp only [Act.put, List.setIfInBounds_toArray, List.set_cons_zero, List.set_cons_succ]
        refine wpAnyH_done (by kernel_rfl) ?_ _
        have HW := Lib.hid hHeld
        clear hHeld
        have z1 := HBX.out.size
        rw [HN0.out] at z1
        have z2 := HT.out.size
        have wq0 := (HW.out.cell (p := ⟨n0, 0, none⟩) hn0).trans q0
        have wq1 := (HW.out.cell (p := ⟨n0, 1, none⟩) hn0).trans q1
        have wq2 := (HW.out.cell (p := ⟨n0, 2, none⟩) hn0).trans q2
        have wq3 := (HW.out.cell (p := ⟨n0, 3, none⟩) hn0).trans q3
        have wB70 := (HW.out.cell (p := ⟨B7, 0, none⟩) hlB7).trans B70
        have wB71 := (HW.out.cell (p := ⟨B7, 1, none⟩) hlB7).trans B71
        have wB72 := (HW.out.cell (p := ⟨B7, 2, none⟩) hlB7).trans B72
        have wB73 := (HW.out.cell (p := ⟨B7, 3, none⟩) hlB7).trans B73
        have wB80 := (HW.out.cell (p := ⟨B8, 0, none⟩) hlB8).trans B80
        have wB81 := (HW.out.cell (p := ⟨B8, 1, none⟩) hlB8).trans B81
        have wB82 := (HW.out.cell (p := ⟨B8, 2, none⟩) hlB8).trans B82
        have wB83 := (HW.out.cell (p := ⟨B8, 3, none⟩) hlB8).trans B83
        by_cases hz : p.bl = 0
        · obtain ⟨e1, e2⟩ := HM.out hz
          rw [e1] at wB70 wB71 wB72 wB73
          rw [e2] at wB80 wB81 wB82 wB83
          rw [hz] at wq0 wB70 wB80
          clear hz e1 e2
          go_wp2
          go_ret
          exact ⟨rfl, by rw [HN0.out]; exact HBX.out.trans ((HT.out.mono (by omega)).trans (HW.out.mono (by omega)))⟩
        · have hz2 : (p.bl != 0) = true := by simpa using hz
          clear hz
          go_wp2
          go_ret
          exact ⟨rfl, by rw [HN0.out]; exact HBX.out.trans ((HT.out.mono (by omega)).trans (HW.out.mono (by omega)))⟩
    · rw [if_pos (by rfl)]
      go_simp
      have hb : Below V1.heap.size V1 (V1.alloc (.cells #[.int .i64 0, .int .i64 0, .int .i64 0, .int .i64 0] 31)) := (Below.refl _ _).alloc (Nat.le_refl _) _
      have r8 := heap_alloc_new V1 (.cells #[.int .i64 0, .int .i64 0, .int .i64 0, .int .i64 0] 31)
      have g8 := hHeld.size
      have hS := hHeld.trans (hb.mono hHeld.size)
      generalize V1.alloc (.cells #[.int .i64 0, .int .i64 0, .int .i64 0, .int .i64 0] 31) = V2 at *
      obtain ⟨B8, hB8⟩ : ∃ B, B = V1.heap.size := ⟨_, rfl⟩
      rw [← hB8] at r8 g8
      try rw [← hB8]
      clear hb hB8
      have lt8 := lt_of_at r8
      refine hK.out _ _ (hS) (fun hHeld => ?_)
      clear hK K
      try simp only [Act.put, List.setIfInBounds_toArray, List.set_cons_zero, List.set_cons_succ]
      refine wpAnyH_ready (rs := [8, 9]) (by kernel_rfl) (by simp) ?_
      refine (AllReadyH.cons (i := 8) (o := ({ dst := some 19, op := Go.Op.call { callee := Go.Callee.value (Go.Operand.func 9), args := #[Go.Operand.tmp 14, Go.Operand.tmp 16, Go.Operand.tmp 18], argTypes := #[31, 3, 3] }, type := 31, pos := "law.go:112", after := #[{ on := 3, ground := Go.Ground.data }, { on := 5, ground := Go.Ground.data }, { on := 7, ground := Go.Ground.data }, { on := 2, ground := Go.Ground.chain }], guard := none } : Oper)) rfl (fun K hK => ?_) (AllReadyH.cons (i := 9) (o := ({ dst := some 7, op := Go.Op.alloc 31, type := 0, pos := "law.go:112", after := #[], guard := none } : Oper)) rfl (fun K hK => ?_) AllReadyH.nil))
      · rw [if_pos (by rfl)]
        go_simp
        refine (HPT.out V2).mono ?_
        rintro e V3 ⟨he, hb⟩
        subst he
        go_simp
        replace r8 := row_in hb r8 (lt_of_at r8)
        replace lt8 := lt_of_at r8
        refine hK.out _ _ (hHeld.trans (hb.mono hHeld.size)) (fun hHeld => ?_)
        clear hK K
        try simp only [Act.put, List.setIfInBounds_toArray, List.set_cons_zero, List.set_cons_succ]
        refine wpAnyH_ready (rs := [9]) (by kernel_rfl) (by simp) ?_
        refine (AllReadyH.cons (i := 9) (o := ({ dst := some 7, op := Go.Op.alloc 31, type := 0, pos := "law.go:112", after := #[], guard := none } : Oper)) rfl (fun K hK => ?_) AllReadyH.nil)
        rw [if_pos (by rfl)]
        go_simp
        have hb : Below V3.heap.size V3 (V3.alloc (.cells #[.int .i64 0, .int .i64 0, .int .i64 0, .int .i64 0] 31)) := (Below.refl _ _).alloc (Nat.le_refl _) _
        have r7 := heap_alloc_new V3 (.cells #[.int .i64 0, .int .i64 0, .int .i64 0, .int .i64 0] 31)
        have g7 := hHeld.size
        replace r8 := row_in hb r8 (lt_of_at r8)
        have hS := hHeld.trans (hb.mono hHeld.size)
        generalize V3.alloc (.cells #[.int .i64 0, .int .i64 0, .int .i64 0, .int .i64 0] 31) = V4 at *
        obtain ⟨B7, hB7⟩ : ∃ B, B = V3.heap.size := ⟨_, rfl⟩
        have ne87 : B8 ≠ B7 := by rw [hB7]; exact Nat.ne_of_lt lt8
        rw [← hB7] at r7 g7
        try rw [← hB7]
        clear hb hB7
        have lt7 := lt_of_at r7
        replace lt8 := lt_of_at r8
        refine hK.out _ _ (hS) (fun hHeld => ?_)
        clear hK K
        try simp only [Act.put, List.setIfInBounds_toArray, List.set_cons_zero, List.set_cons_succ]
        refine wpAnyH_ready (rs := [11]) (by kernel_rfl) (by simp) ?_
        refine (AllReadyH.cons (i := 11) (o := ({ dst := none, op := Go.Op.store 31 (Go.Operand.tmp 7) (Go.Operand.tmp 13), type := 0, pos := "law.go:112", after := #[{ on := 9, ground := Go.Ground.data }, { on := 2, ground := Go.Ground.data }, { on := 8, ground := Go.Ground.chain }, { on := 0, ground := Go.Ground.phase }, { on := 1, ground := Go.Ground.phase }, { on := 2, ground := Go.Ground.phase }, { on := 3, ground := Go.Ground.textOnly Go.Departure.lateStores }, { on := 4, ground := Go.Ground.textOnly Go.Departure.lateStores }, { on := 5, ground := Go.Ground.textOnly Go.Departure.lateStores }, { on := 6, ground := Go.Ground.textOnly Go.Departure.lateStores }, { on := 7, ground := Go.Ground.textOnly Go.Departure.lateStores }, { on := 8, ground := Go.Ground.textOnly Go.Departure.lateStoresUnsure }, { on := 9, ground := Go.Ground.phase }, { on := 10, ground := Go.Ground.phase }], guard := none } : Oper)) rfl (fun K hK => ?_) AllReadyH.nil)
        rw [if_pos (by rfl)]
        refine wp_store_row 31 (.tmp 7) (.tmp 13) rfl B7 (#[.int .i64 M.bl, .int .i64 M.off, .int .i64 M.lo, .int .i64 M.hi]) rfl rfl 31 (#[.int .i64 0, .int .i64 0, .int .i64 0, .int .i64 0]) r7 sizePtr rfl (by simp [Value.oneCell']) ?_
        have hS := hHeld.trans ((Onl.setRow B7 V4 (#[.int .i64 M.bl, .int .i64 M.off, .int .i64 M.lo, .int .i64 M.hi])).toBelow g7 hHeld.size)
        have hon := Onl.setRow B7 V4 (#[.int .i64 M.bl, .int .i64 M.off, .int .i64 M.lo, .int .i64 M.hi])
        replace r7 := setRow_heap V4 B7 _ (#[.int .i64 M.bl, .int .i64 M.off, .int .i64 M.lo, .int .i64 M.hi]) _ _ r7
        replace r8 := (setRow_other V4 B7 _ (#[.int .i64 M.bl, .int .i64 M.off, .int .i64 M.lo, .int .i64 M.hi]) ne87).trans r8
        generalize V4.setRow B7 (#[.int .i64 M.bl, .int .i64 M.off, .int .i64 M.lo, .int .i64 M.hi]) = V5 at *
        clear hon
        replace lt8 := lt_of_at r8
        replace lt7 := lt_of_at r7
        refine hK.out _ _ (hS) (fun hHeld => ?_)
        clear hK K
        try simp only [Act.put, List.setIfInBounds_toArray, List.set_cons_zero, List.set_cons_succ]
        refine wpAnyH_ready (rs := [12]) (by kernel_rfl) (by simp) ?_
        refine (AllReadyH.cons (i := 12) (o := ({ dst := none, op := Go.Op.store 31 (Go.Operand.tmp 8) (Go.Operand.tmp 19), type := 0, pos := "law.go:112", after := #[{ on := 10, ground := Go.Ground.data }, { on := 8, ground := Go.Ground.data }, { on := 11, ground := Go.Ground.chain }, { on := 0, ground := Go.Ground.phase }, { on := 1, ground := Go.Ground.phase }, { on := 2, ground := Go.Ground.phase }, { on := 3, ground := Go.Ground.phase }, { on := 4, ground := Go.Ground.phase }, { on := 5, ground := Go.Ground.phase }, { on := 6, ground := Go.Ground.phase }, { on := 7, ground := Go.Ground.phase }, { on := 8, ground := Go.Ground.phase }, { on := 9, ground := Go.Ground.phase }, { on := 10, ground := Go.Ground.phase }, { on := 11, ground := Go.Ground.phase }], guard := none } : Oper)) rfl (fun K hK => ?_) AllReadyH.nil)
        rw [if_pos (by rfl)]
        refine wp_store_row 31 (.tmp 8) (.tmp 19) rfl B8 (#[.int .i64 N.bl, .int .i64 N.off, .int .i64 N.lo, .int .i64 N.hi]) rfl rfl 31 (#[.int .i64 0, .int .i64 0, .int .i64 0, .int .i64 0]) r8 sizePtr rfl (by simp [Value.oneCell']) ?_
        have hS := hHeld.trans ((Onl.setRow B8 V5 (#[.int .i64 N.bl, .int .i64 N.off, .int .i64 N.lo, .int .i64 N.hi])).toBelow g8 hHeld.size)
        have hon := Onl.setRow B8 V5 (#[.int .i64 N.bl, .int .i64 N.off, .int .i64 N.lo, .int .i64 N.hi])
        replace r8 := setRow_heap V5 B8 _ (#[.int .i64 N.bl, .int .i64 N.off, .int .i64 N.lo, .int .i64 N.hi]) _ _ r8
        replace r7 := (setRow_other V5 B8 _ (#[.int .i64 N.bl, .int .i64 N.off, .int .i64 N.lo, .int .i64 N.hi]) (Ne.symm ne87)).trans r7
        generalize V5.setRow B8 (#[.int .i64 N.bl, .int .i64 N.off, .int .i64 N.lo, .int .i64 N.hi]) = V6 at *
        clear hon
        replace lt8 := lt_of_at r8
        replace lt7 := lt_of_at r7
        refine hK.out _ _ (hS) (fun hHeld => ?_)
        clear hK K
        try simp only [Act.put, List.setIfInBounds_toArray, List.set_cons_zero, List.set_cons_succ]
        refine wpAnyH_done (by kernel_rfl) ?_ _
        have HT := Lib.hid hHeld
        clear hHeld
        obtain ⟨B70, B71, B72, B73⟩ := cells4 r7
        obtain ⟨B80, B81, B82, B83⟩ := cells4 r8
        have hlB7 := lt_of_at r7
        have hlB8 := lt_of_at r8
        replace q0 := (HT.out.cell (p := ⟨n0, 0, none⟩) hn0).trans q0
        replace q1 := (HT.out.cell (p := ⟨n0, 1, none⟩) hn0).trans q1
        replace q2 := (HT.out.cell (p := ⟨n0, 2, none⟩) hn0).trans q2
        replace q3 := (HT.out.cell (p := ⟨n0, 3, none⟩) hn0).trans q3
        replace u0 := (HT.out.cell (p := ⟨n1, 0, none⟩) hn1).trans u0
        replace u1 := (HT.out.cell (p := ⟨n1, 1, none⟩) hn1).trans u1
        replace hn0 := Nat.lt_of_lt_of_le hn0 HT.out.size
        replace hn1 := Nat.lt_of_lt_of_le hn1 HT.out.size
        generalize hVV : V6 = T at *
        clear hVV r7 r8 g7 g8
        go_wp2_with fail
        refine wp_region_held_drew (S := fun W : World => Below T.heap.size T W) (by kernel_rfl) ((Below.refl _ _).drew) (fun hHeld => ?_)
        generalize T.drew = V0 at *
        refine wpAnyH_take (i := 0) (oi := ({ dst := some 20, op := Go.Op.load 31 (Go.Operand.tmp 7), type := 31, pos := "law.go:113", after := #[], guard := none } : Oper)) (v := .agg #[.int .i64 M.bl, .int .i64 M.off, .int .i64 M.lo, .int .i64 M.hi]) rfl (by kernel_rfl) (by kernel_rfl) (by kernel_rfl) (fun _ _ _ h => h) (Or.inl ⟨by rfl, ?hy1⟩) (by assumption) ?_
        case hy1 => ((intro W hSW; have e0 := (hSW.cell (p := ⟨B7, 0, none⟩) hlB7).trans B70; have e1 := (hSW.cell (p := ⟨B7, 1, none⟩) hlB7).trans B71; have e2 := (hSW.cell (p := ⟨B7, 2, none⟩) hlB7).trans B72; have e3 := (hSW.cell (p := ⟨B7, 3, none⟩) hlB7).trans B73; go_simp); (try with_reducible rfl); (try exact ⟨rfl, rfl, rfl⟩))
        simp only [Act.put, List.setIfInBounds_toArray, List.set_cons_zero, List.set_cons_succ]
        refine wpAnyH_take (i := 1) (oi := ({ dst := some 21, op := Go.Op.load 31 (Go.Operand.tmp 3), type := 31, pos := "law.go:113", after := #[], guard := none } : Oper)) (v := .agg #[.int .i64 p.bl, .int .i64 p.off, .int .i64 p.lo, .int .i64 p.hi]) rfl (by kernel_rfl) (by kernel_rfl) (by kernel_rfl) (fun _ _ _ h => h) (Or.inl ⟨by rfl, ?hy2⟩) (by assumption) ?_
        case hy2 => ((intro W hSW; have e0 := (hSW.cell (p := ⟨n0, 0, none⟩) hn0).trans q0; have e1 := (hSW.cell (p := ⟨n0, 1, none⟩) hn0).trans q1; have e2 := (hSW.cell (p := ⟨n0, 2, none⟩) hn0).trans q2; have e3 := (hSW.cell (p := ⟨n0, 3, none⟩) hn0).trans q3; go_simp); (try with_reducible rfl); (try exact ⟨rfl, rfl, rfl⟩))
        simp only [Act.put, List.setIfInBounds_toArray, List.set_cons_zero, List.set_cons_succ]
        refine wpAnyH_take (i := 2) (oi := ({ dst := some 22, op := Go.Op.move (Go.Operand.tmp 1), type := 3, pos := "law.go:113", after := #[], guard := none } : Oper)) (v := .int .i64 by_) rfl (by kernel_rfl) (by kernel_rfl) (by kernel_rfl) (fun _ _ _ h => h) (Or.inl ⟨by rfl, ?hy3⟩) (by assumption) ?_
        case hy3 => ((intro W hSW; (try dsimp only at hSW); go_simp); (try with_reducible rfl); (try exact ⟨rfl, rfl, rfl⟩))
        simp only [Act.put, List.setIfInBounds_toArray, List.set_cons_zero, List.set_cons_succ]
        refine wpAnyH_ready (rs := [3]) (by kernel_rfl) (by simp) ?_
        refine (AllReadyH.cons (i := 3) (o := ({ dst := some 23, op := Go.Op.call { callee := Go.Callee.value (Go.Operand.func 8), args := #[Go.Operand.tmp 21, Go.Operand.tmp 22], argTypes := #[39, 3] }, type := 39, pos := "law.go:113", after := #[{ on := 1, ground := Go.Ground.data }, { on := 2, ground := Go.Ground.data }], guard := none } : Oper)) rfl (fun K hK => ?_) AllReadyH.nil)
        rw [if_pos (by rfl)]
        go_simp
        refine (HRM.out V0).mono ?_
        rintro e V1 ⟨he, hb⟩
        subst he
        go_simp
        refine hK.out _ _ (hHeld.trans (hb.mono hHeld.size)) (fun hHeld => ?_)
        clear hK K
        try simp only [Act.put, List.setIfInBounds_toArray, List.set_cons_zero, List.set_cons_succ]
        refine wpAnyH_take (i := 4) (oi := ({ dst := some 24, op := Go.Op.binOp Go.BinOp.neq 39 (Go.Operand.tmp 20) (Go.Operand.tmp 23) 39, type := 4, pos := "law.go:113", after := #[{ on := 0, ground := Go.Ground.data }, { on := 3, ground := Go.Ground.data }], guard := none } : Oper)) (v := .bool false) rfl (by kernel_rfl) (by kernel_rfl) (by kernel_rfl) (fun _ _ _ h => h) (Or.inl ⟨by rfl, ?hy4⟩) (by assumption) ?_
        case hy4 => ((intro W hSW; (try dsimp only at hSW); go_simp); (try with_reducible rfl); (try exact ⟨rfl, rfl, rfl⟩))
        simp only [Act.put, List.setIfInBounds_toArray, List.set_cons_zero, List.set_cons_succ]
        refine wpAnyH_take (i := 5) (oi := ({ dst := some 25, op := Go.Op.move (Go.Operand.tmp 24), type := 4, pos := "law.go:113", after := #[{ on := 4, ground := Go.Ground.data }, { on := 3, ground := Go.Ground.chain }], guard := none } : Oper)) (v := .bool false) rfl (by kernel_rfl) (by kernel_rfl) (by kernel_rfl) (fun _ _ _ h => h) (Or.inl ⟨by rfl, ?hy5⟩) (by assumption) ?_
        case hy5 => ((intro W hSW; (try dsimp only at hSW); go_simp); (try with_reducible rfl); (try exact ⟨rfl, rfl, rfl⟩))
        simp only [Act.put, List.setIfInBounds_toArray, List.set_cons_zero, List.set_cons_succ]
        refine wpAnyH_take (i := 6) (oi := ({ dst := some 26, op := Go.Op.load 31 (Go.Operand.tmp 8), type := 31, pos := "law.go:113", after := #[{ on := 5, ground := Go.Ground.guard }], guard := some (5, false) } : Oper)) (v := .agg #[.int .i64 N.bl, .int .i64 N.off, .int .i64 N.lo, .int .i64 N.hi]) rfl (by kernel_rfl) (by kernel_rfl) (by kernel_rfl) (fun _ _ _ h => h) (Or.inl ⟨by rfl, ?hy6⟩) (by assumption) ?_
        case hy6 => ((intro W hSW; have e0 := (hSW.cell (p := ⟨B8, 0, none⟩) hlB8).trans B80; have e1 := (hSW.cell (p := ⟨B8, 1, none⟩) hlB8).trans B81; have e2 := (hSW.cell (p := ⟨B8, 2, none⟩) hlB8).trans B82; have e3 := (hSW.cell (p := ⟨B8, 3, none⟩) hlB8).trans B83; go_simp); (try with_reducible rfl); (try exact ⟨rfl, rfl, rfl⟩))
        simp only [Act.put, List.setIfInBounds_toArray, List.set_cons_zero, List.set_cons_succ]
        refine wpAnyH_take (i := 7) (oi := ({ dst := some 27, op := Go.Op.load 31 (Go.Operand.tmp 3), type := 31, pos := "law.go:113", after := #[{ on := 5, ground := Go.Ground.guard }], guard := some (5, false) } : Oper)) (v := .agg #[.int .i64 p.bl, .int .i64 p.off, .int .i64 p.lo, .int .i64 p.hi]) rfl (by kernel_rfl) (by kernel_rfl) (by kernel_rfl) (fun _ _ _ h => h) (Or.inl ⟨by rfl, ?hy7⟩) (by assumption) ?_
        case hy7 => ((intro W hSW; have e0 := (hSW.cell (p := ⟨n0, 0, none⟩) hn0).trans q0; have e1 := (hSW.cell (p := ⟨n0, 1, none⟩) hn0).trans q1; have e2 := (hSW.cell (p := ⟨n0, 2, none⟩) hn0).trans q2; have e3 := (hSW.cell (p := ⟨n0, 3, none⟩) hn0).trans q3; go_simp); (try with_reducible rfl); (try exact ⟨rfl, rfl, rfl⟩))
        simp only [Act.put, List.setIfInBounds_toArray, List.set_cons_zero, List.set_cons_succ]
        refine wpAnyH_take (i := 8) (oi := ({ dst := some 28, op := Go.Op.indexAddr 32 (Go.Operand.tmp 5) (Go.Operand.const (Go.Value.int Go.IntKind.i64 0)), type := 0, pos := "law.go:113", after := #[{ on := 5, ground := Go.Ground.guard }], guard := some (5, false) } : Oper)) (v := .pointer (some ⟨n1, 0, none⟩)) rfl (by kernel_rfl) (by kernel_rfl) (by kernel_rfl) (fun _ _ _ h => h) (Or.inl ⟨by rfl, ?hy8⟩) (by assumption) ?_
        case hy8 => ((intro W hSW; (try dsimp only at hSW); go_simp); (try with_reducible rfl); (try exact ⟨rfl, rfl, rfl⟩))
        simp only [Act.put, List.setIfInBounds_toArray, List.set_cons_zero, List.set_cons_succ]
        refine wpAnyH_take (i := 9) (oi := ({ dst := some 29, op := Go.Op.load 3 (Go.Operand.tmp 28), type := 3, pos := "law.go:113", after := #[{ on := 8, ground := Go.Ground.data }, { on := 5, ground := Go.Ground.guard }], guard := some (5, false) } : Oper)) (v := .int .i64 x0) rfl (by kernel_rfl) (by kernel_rfl) (by kernel_rfl) (fun _ _ _ h => h) (Or.inl ⟨by rfl, ?hy9⟩) (by assumption) ?_
        case hy9 => ((intro W hSW; have e0 := (hSW.cell (p := ⟨n1, 0, none⟩) hn1).trans u0; go_simp); (try with_reducible rfl); (try exact ⟨rfl, rfl, rfl⟩))
        simp only [Act.put, List.setIfInBounds_toArray, List.set_cons_zero, List.set_cons_succ]
        refine wpAnyH_take (i := 10) (oi := ({ dst := some 30, op := Go.Op.indexAddr 32 (Go.Operand.tmp 5) (Go.Operand.const (Go.Value.int Go.IntKind.i64 1)), type := 0, pos := "law.go:113", after := #[{ on := 5, ground := Go.Ground.guard }], guard := some (5, false) } : Oper)) (v := .pointer (some ⟨n1, 1, none⟩)) rfl (by kernel_rfl) (by kernel_rfl) (by kernel_rfl) (fun _ _ _ h => h) (Or.inl ⟨by rfl, ?hy10⟩) (by assumption) ?_
        case hy10 => ((intro W hSW; (try dsimp only at hSW); go_simp); (try with_reducible rfl); (try exact ⟨rfl, rfl, rfl⟩))
        simp only [Act.put, List.setIfInBounds_toArray, List.set_cons_zero, List.set_cons_succ]
        refine wpAnyH_take (i := 11) (oi := ({ dst := some 31, op := Go.Op.load 3 (Go.Operand.tmp 30), type := 3, pos := "law.go:113", after := #[{ on := 10, ground := Go.Ground.data }, { on := 5, ground := Go.Ground.guard }], guard := some (5, false) } : Oper)) (v := .int .i64 x1) rfl (by kernel_rfl) (by kernel_rfl) (by kernel_rfl) (fun _ _ _ h => h) (Or.inl ⟨by rfl, ?hy11⟩) (by assumption) ?_
        case hy11 => ((intro W hSW; have e0 := (hSW.cell (p := ⟨n1, 1, none⟩) hn1).trans u1; go_simp); (try with_reducible rfl); (try exact ⟨rfl, rfl, rfl⟩))
        simp only [Act.put, List.setIfInBounds_toArray, List.set_cons_zero, List.set_cons_succ]
        refine wpAnyH_ready (rs := [12]) (by kernel_rfl) (by simp) ?_
        refine (AllReadyH.cons (i := 12) (o := ({ dst := some 32, op := Go.Op.call { callee := Go.Callee.value (Go.Operand.func 10), args := #[Go.Operand.tmp 27, Go.Operand.tmp 29, Go.Operand.tmp 31], argTypes := #[39, 3, 3] }, type := 39, pos := "law.go:113", after := #[{ on := 7, ground := Go.Ground.data }, { on := 9, ground := Go.Ground.data }, { on := 11, ground := Go.Ground.data }, { on := 5, ground := Go.Ground.chain }, { on := 5, ground := Go.Ground.guard }], guard := some (5, false) } : Oper)) rfl (fun K hK => ?_) AllReadyH.nil)
        rw [if_pos (by rfl)]
        go_simp
        refine (HRP.out V1).mono ?_
        rintro e V2 ⟨he, hb⟩
        subst he
        go_simp
        refine hK.out _ _ (hHeld.trans (hb.mono hHeld.size)) (fun hHeld => ?_)
        clear hK K
        try simp only [Act.put, List.setIfInBounds_toArray, List.set_cons_zero, List.set_cons_succ]
        refine wpAnyH_take (i := 13) (oi := ({ dst := some 33, op := Go.Op.binOp Go.BinOp.neq 39 (Go.Operand.tmp 26) (Go.Operand.tmp 32) 39, type := 4, pos := "law.go:113", after := #[{ on := 6, ground := Go.Ground.data }, { on := 12, ground := Go.Ground.data }, { on := 5, ground := Go.Ground.guard }], guard := some (5, false) } : Oper)) (v := .bool false) rfl (by kernel_rfl) (by kernel_rfl) (by kernel_rfl) (fun _ _ _ h => h) (Or.inl ⟨by rfl, ?hy12⟩) (by assumption) ?_
        case hy12 => ((intro W hSW; (try dsimp only at hSW); go_simp); (try with_reducible rfl); (try exact ⟨rfl, rfl, rfl⟩))
        simp only [Act.put, List.setIfInBounds_toArray, List.set_cons_zero, List.set_cons_succ]
        refine wpAnyH_take (i := 14) (oi := ({ dst := some 34, op := Go.Op.pick (Go.Operand.tmp 25) (Go.Operand.const (Go.Value.bool true)) (Go.Operand.tmp 33), type := 4, pos := "law.go:113", after := #[{ on := 5, ground := Go.Ground.data }, { on := 13, ground := Go.Ground.data }], guard := none } : Oper)) (v := .bool false) rfl (by kernel_rfl) (by kernel_rfl) (by kernel_rfl) (fun _ _ _ h => h) (Or.inl ⟨by rfl, ?hy13⟩) (by assumption) ?_
        case hy13 => ((intro W hSW; (try dsimp only at hSW); go_simp); (try with_reducible rfl); (try exact ⟨rfl, rfl, rfl⟩))
        simp only [Act.put, List.setIfInBounds_toArray, List.set_cons_zero, List.set_cons_succ]
        refine wpAnyH_done (by kernel_rfl) ?_ _
        have HW := Lib.hid hHeld
        clear hHeld
        have z1 := HBX.out.size
        rw [HN0.out] at z1
        have z2 := HT.out.size
        have wq0 := (HW.out.cell (p := ⟨n0, 0, none⟩) hn0).trans q0
        have wq1 := (HW.out.cell (p := ⟨n0, 1, none⟩) hn0).trans q1
        have wq2 := (HW.out.cell (p := ⟨n0, 2, none⟩) hn0).trans q2
        have wq3 := (HW.out.cell (p := ⟨n0, 3, none⟩) hn0).trans q3
        have wB70 := (HW.out.cell (p := ⟨B7, 0, none⟩) hlB7).trans B70
        have wB71 := (HW.out.cell (p := ⟨B7, 1, none⟩) hlB7).trans B71
        have wB72 := (HW.out.cell (p := ⟨B7, 2, none⟩) hlB7).trans B72
        have wB73 := (HW.out.cell (p := ⟨B7, 3, none⟩) hlB7).trans B73
        have wB80 := (HW.out.cell (p := ⟨B8, 0, none⟩) hlB8).trans B80
        have wB81 := (HW.out.cell (p := ⟨B8, 1, none⟩) hlB8).trans B81
        have wB82 := (HW.out.cell (p := ⟨B8, 2, none⟩) hlB8).trans B82
        have wB83 := (HW.out.cell (p := ⟨B8, 3, none⟩) hlB8).trans B83
        by_cases hz : p.bl = 0
        · obtain ⟨e1, e2⟩ := HM.out hz
          rw [e1] at wB70 wB71 wB72 wB73
          rw [e2] at wB80 wB81 wB82 wB83
          rw [hz] at wq0 wB70 wB80
          clear hz e1 e2
          go_wp2
          go_ret
          exact ⟨rfl, by rw [HN0.out]; exact HBX.out.trans ((HT.out.mono (by omega)).trans (HW.out.mono (by omega)))⟩
        · have hz2 : (p.bl != 0) = true := by simpa using hz
          clear hz
          go_wp2
          go_ret
          exact ⟨rfl, by rw [HN0.out]; exact HBX.out.trans ((HT.out.mono (by omega)).trans (HW.out.mono (by omega)))⟩
      · rw [if_pos (by rfl)]
        go_simp
        have hb : Below V2.heap.size V2 (V2.alloc (.cells #[.int .i64 0, .int .i64 0, .int .i64 0, .int .i64 0] 31)) := (Below.refl _ _).alloc (Nat.le_refl _) _
        have r7 := heap_alloc_new V2 (.cells #[.int .i64 0, .int .i64 0, .int .i64 0, .int .i64 0] 31)
        have g7 := hHeld.size
        replace r8 := row_in hb r8 (lt_of_at r8)
        have hS := hHeld.trans (hb.mono hHeld.size)
        generalize V2.alloc (.cells #[.int .i64 0, .int .i64 0, .int .i64 0, .int .i64 0] 31) = V3 at *
        obtain ⟨B7, hB7⟩ : ∃ B, B = V2.heap.size := ⟨_, rfl⟩
        have ne87 : B8 ≠ B7 := by rw [hB7]; exact Nat.ne_of_lt lt8
        rw [← hB7] at r7 g7
        try rw [← hB7]
        clear hb hB7
        have lt7 := lt_of_at r7
        replace lt8 := lt_of_at r8
        refine hK.out _ _ (hS) (fun hHeld => ?_)
        clear hK K
        try simp only [Act.put, List.setIfInBounds_toArray, List.set_cons_zero, List.set_cons_succ]
        refine wpAnyH_ready (rs := [8]) (by kernel_rfl) (by simp) ?_
        refine (AllReadyH.cons (i := 8) (o := ({ dst := some 19, op := Go.Op.call { callee := Go.Callee.value (Go.Operand.func 9), args := #[Go.Operand.tmp 14, Go.Operand.tmp 16, Go.Operand.tmp 18], argTypes := #[31, 3, 3] }, type := 31, pos := "law.go:112", after := #[{ on := 3, ground := Go.Ground.data }, { on := 5, ground := Go.Ground.data }, { on := 7, ground := Go.Ground.data }, { on := 2, ground := Go.Ground.chain }], guard := none } : Oper)) rfl (fun K hK => ?_) AllReadyH.nil)
        rw [if_pos (by rfl)]
        go_simp
        refine (HPT.out V3).mono ?_
        rintro e V4 ⟨he, hb⟩
        subst he
        go_simp
        replace r8 := row_in hb r8 (lt_of_at r8)
        replace r7 := row_in hb r7 (lt_of_at r7)
        replace lt8 := lt_of_at r8
        replace lt7 := lt_of_at r7
        refine hK.out _ _ (hHeld.trans (hb.mono hHeld.size)) (fun hHeld => ?_)
        clear hK K
        try simp only [Act.put, List.setIfInBounds_toArray, List.set_cons_zero, List.set_cons_succ]
        refine wpAnyH_ready (rs := [11]) (by kernel_rfl) (by simp) ?_
        refine (AllReadyH.cons (i := 11) (o := ({ dst := none, op := Go.Op.store 31 (Go.Operand.tmp 7) (Go.Operand.tmp 13), type := 0, pos := "law.go:112", after := #[{ on := 9, ground := Go.Ground.data }, { on := 2, ground := Go.Ground.data }, { on := 8, ground := Go.Ground.chain }, { on := 0, ground := Go.Ground.phase }, { on := 1, ground := Go.Ground.phase }, { on := 2, ground := Go.Ground.phase }, { on := 3, ground := Go.Ground.textOnly Go.Departure.lateStores }, { on := 4, ground := Go.Ground.textOnly Go.Departure.lateStores }, { on := 5, ground := Go.Ground.textOnly Go.Departure.lateStores }, { on := 6, ground := Go.Ground.textOnly Go.Departure.lateStores }, { on := 7, ground := Go.Ground.textOnly Go.Departure.lateStores }, { on := 8, ground := Go.Ground.textOnly Go.Departure.lateStoresUnsure }, { on := 9, ground := Go.Ground.phase }, { on := 10, ground := Go.Ground.phase }], guard := none } : Oper)) rfl (fun K hK => ?_) AllReadyH.nil)
        rw [if_pos (by rfl)]
        refine wp_store_row 31 (.tmp 7) (.tmp 13) rfl B7 (#[.int .i64 M.bl, .int .i64 M.off, .int .i64 M.lo, .int .i64 M.hi]) rfl rfl 31 (#[.int .i64 0, .int .i64 0, .int .i64 0, .int .i64 0]) r7 sizePtr rfl (by simp [Value.oneCell']) ?_
        have hS := hHeld.trans ((Onl.setRow B7 V4 (#[.int .i64 M.bl, .int .i64 M.off, .int .i64 M.lo, .int .i64 M.hi])).toBelow g7 hHeld.size)
        have hon := Onl.setRow B7 V4 (#[.int .i64 M.bl, .int .i64 M.off, .int .i64 M.lo, .int .i64 M.hi])
        replace r7 := setRow_heap V4 B7 _ (#[.int .i64 M.bl, .int .i64 M.off, .int .i64 M.lo, .int .i64 M.hi]) _ _ r7
        replace r8 := (setRow_other V4 B7 _ (#[.int .i64 M.bl, .int .i64 M.off, .int .i64 M.lo, .int .i64 M.hi]) ne87).trans r8
        generalize V4.setRow B7 (#[.int .i64 M.bl, .int .i64 M.off, .int .i64 M.lo, .int .i64 M.hi]) = V5 at *
        clear hon
        replace lt8 := lt_of_at r8
        replace lt7 := lt_of_at r7
        refine hK.out _ _ (hS) (fun hHeld => ?_)
        clear hK K
        try simp only [Act.put, List.setIfInBounds_toArray, List.set_cons_zero, List.set_cons_succ]
        refine wpAnyH_ready (rs := [12]) (by kernel_rfl) (by simp) ?_
        refine (AllReadyH.cons (i := 12) (o := ({ dst := none, op := Go.Op.store 31 (Go.Operand.tmp 8) (Go.Operand.tmp 19), type := 0, pos := "law.go:112", after := #[{ on := 10, ground := Go.Ground.data }, { on := 8, ground := Go.Ground.data }, { on := 11, ground := Go.Ground.chain }, { on := 0, ground := Go.Ground.phase }, { on := 1, ground := Go.Ground.phase }, { on := 2, ground := Go.Ground.phase }, { on := 3, ground := Go.Ground.phase }, { on := 4, ground := Go.Ground.phase }, { on := 5, ground := Go.Ground.phase }, { on := 6, ground := Go.Ground.phase }, { on := 7, ground := Go.Ground.phase }, { on := 8, ground := Go.Ground.phase }, { on := 9, ground := Go.Ground.phase }, { on := 10, ground := Go.Ground.phase }, { on := 11, ground := Go.Ground.phase }], guard := none } : Oper)) rfl (fun K hK => ?_) AllReadyH.nil)
        rw [if_pos (by rfl)]
        refine wp_store_row 31 (.tmp 8) (.tmp 19) rfl B8 (#[.int .i64 N.bl, .int .i64 N.off, .int .i64 N.lo, .int .i64 N.hi]) rfl rfl 31 (#[.int .i64 0, .int .i64 0, .int .i64 0, .int .i64 0]) r8 sizePtr rfl (by simp [Value.oneCell']) ?_
        have hS := hHeld.trans ((Onl.setRow B8 V5 (#[.int .i64 N.bl, .int .i64 N.off, .int .i64 N.lo, .int .i64 N.hi])).toBelow g8 hHeld.size)
        have hon := Onl.setRow B8 V5 (#[.int .i64 N.bl, .int .i64 N.off, .int .i64 N.lo, .int .i64 N.hi])
        replace r8 := setRow_heap V5 B8 _ (#[.int .i64 N.bl, .int .i64 N.off, .int .i64 N.lo, .int .i64 N.hi]) _ _ r8
        replace r7 := (setRow_other V5 B8 _ (#[.int .i64 N.bl, .int .i64 N.off, .int .i64 N.lo, .int .i64 N.hi]) (Ne.symm ne87)).trans r7
        generalize V5.setRow B8 (#[.int .i64 N.bl, .int .i64 N.off, .int .i64 N.lo, .int .i64 N.hi]) = V6 at *
        clear hon
        replace lt8 := lt_of_at r8
        replace lt7 := lt_of_at r7
        refine hK.out _ _ (hS) (fun hHeld => ?_)
        clear hK K
        try simp only [Act.put, List.setIfInBounds_toArray, List.set_cons_zero, List.set_cons_succ]
        refine wpAnyH_done (by kernel_rfl) ?_ _
        have HT := Lib.hid hHeld
        clear hHeld
        obtain ⟨B70, B71, B72, B73⟩ := cells4 r7
        obtain ⟨B80, B81, B82, B83⟩ := cells4 r8
        have hlB7 := lt_of_at r7
        have hlB8 := lt_of_at r8
        replace q0 := (HT.out.cell (p := ⟨n0, 0, none⟩) hn0).trans q0
        replace q1 := (HT.out.cell (p := ⟨n0, 1, none⟩) hn0).trans q1
        replace q2 := (HT.out.cell (p := ⟨n0, 2, none⟩) hn0).trans q2
        replace q3 := (HT.out.cell (p := ⟨n0, 3, none⟩) hn0).trans q3
        replace u0 := (HT.out.cell (p := ⟨n1, 0, none⟩) hn1).trans u0
        replace u1 := (HT.out.cell (p := ⟨n1, 1, none⟩) hn1).trans u1
        replace hn0 := Nat.lt_of_lt_of_le hn0 HT.out.size
        replace hn1 := Nat.lt_of_lt_of_le hn1 HT.out.size
        generalize hVV : V6 = T at *
        clear hVV r7 r8 g7 g8
        go_wp2_with fail
        refine wp_region_held_drew (S := fun W : World => Below T.heap.size T W) (by kernel_rfl) ((Below.refl _ _).drew) (fun hHeld => ?_)
        generalize T.drew = V0 at *
        refine wpAnyH_take (i := 0) (oi := ({ dst := some 20, op := Go.Op.load 31 (Go.Operand.tmp 7), type := 31, pos := "law.go:113", after := #[], guard := none } : Oper)) (v := .agg #[.int .i64 M.bl, .int .i64 M.off, .int .i64 M.lo, .int .i64 M.hi]) rfl (by kernel_rfl) (by kernel_rfl) (by kernel_rfl) (fun _ _ _ h => h) (Or.inl ⟨by rfl, ?hy1⟩) (by assumption) ?_
        case hy1 => ((intro W hSW; have e0 := (hSW.cell (p := ⟨B7, 0, none⟩) hlB7).trans B70; have e1 := (hSW.cell (p := ⟨B7, 1, none⟩) hlB7).trans B71; have e2 := (hSW.cell (p := ⟨B7, 2, none⟩) hlB7).trans B72; have e3 := (hSW.cell (p := ⟨B7, 3, none⟩) hlB7).trans B73; go_simp); (try with_reducible rfl); (try exact ⟨rfl, rfl, rfl⟩))
        simp only [Act.put, List.setIfInBounds_toArray, List.set_cons_zero, List.set_cons_succ]
        refine wpAnyH_take (i := 1) (oi := ({ dst := some 21, op := Go.Op.load 31 (Go.Operand.tmp 3), type := 31, pos := "law.go:113", after := #[], guard := none } : Oper)) (v := .agg #[.int .i64 p.bl, .int .i64 p.off, .int .i64 p.lo, .int .i64 p.hi]) rfl (by kernel_rfl) (by kernel_rfl) (by kernel_rfl) (fun _ _ _ h => h) (Or.inl ⟨by rfl, ?hy2⟩) (by assumption) ?_
        case hy2 => ((intro W hSW; have e0 := (hSW.cell (p := ⟨n0, 0, none⟩) hn0).trans q0; have e1 := (hSW.cell (p := ⟨n0, 1, none⟩) hn0).trans q1; have e2 := (hSW.cell (p := ⟨n0, 2, none⟩) hn0).trans q2; have e3 := (hSW.cell (p := ⟨n0, 3, none⟩) hn0).trans q3; go_simp); (try with_reducible rfl); (try exact ⟨rfl, rfl, rfl⟩))
        simp only [Act.put, List.setIfInBounds_toArray, List.set_cons_zero, List.set_cons_succ]
        refine wpAnyH_take (i := 2) (oi := ({ dst := some 22, op := Go.Op.move (Go.Operand.tmp 1), type := 3, pos := "law.go:113", after := #[], guard := none } : Oper)) (v := .int .i64 by_) rfl (by kernel_rfl) (by kernel_rfl) (by kernel_rfl) (fun _ _ _ h => h) (Or.inl ⟨by rfl, ?hy3⟩) (by assumption) ?_
        case hy3 => ((intro W hSW; (try dsimp only at hSW); go_simp); (try with_reducible rfl); (try exact ⟨rfl, rfl, rfl⟩))
        simp only [Act.put, List.setIfInBounds_toArray, List.set_cons_zero, List.set_cons_succ]
        refine wpAnyH_ready (rs := [3]) (by kernel_rfl) (by simp) ?_
        refine (AllReadyH.cons (i := 3) (o := ({ dst := some 23, op := Go.Op.call { callee := Go.Callee.value (Go.Operand.func 8), args := #[Go.Operand.tmp 21, Go.Operand.tmp 22], argTypes := #[39, 3] }, type := 39, pos := "law.go:113", after := #[{ on := 1, ground := Go.Ground.data }, { on := 2, ground := Go.Ground.data }], guard := none } : Oper)) rfl (fun K hK => ?_) AllReadyH.nil)
        rw [if_pos (by rfl)]
        go_simp
        refine (HRM.out V0).mono ?_
        rintro e V1 ⟨he, hb⟩
        subst he
        go_simp
        refine hK.out _ _ (hHeld.trans (hb.mono hHeld.size)) (fun hHeld => ?_)
        clear hK K
        try simp only [Act.put, List.setIfInBounds_toArray, List.set_cons_zero, List.set_cons_succ]
        refine wpAnyH_take (i := 4) (oi := ({ dst := some 24, op := Go.Op.binOp Go.BinOp.neq 39 (Go.Operand.tmp 20) (Go.Operand.tmp 23) 39, type := 4, pos := "law.go:113", after := #[{ on := 0, ground := Go.Ground.data }, { on := 3, ground := Go.Ground.data }], guard := none } : Oper)) (v := .bool false) rfl (by kernel_rfl) (by kernel_rfl) (by kernel_rfl) (fun _ _ _ h => h) (Or.inl ⟨by rfl, ?hy4⟩) (by assumption) ?_
        case hy4 => ((intro W hSW; (try dsimp only at hSW); go_simp); (try with_reducible rfl); (try exact ⟨rfl, rfl, rfl⟩))
        simp only [Act.put, List.setIfInBounds_toArray, List.set_cons_zero, List.set_cons_succ]
        refine wpAnyH_take (i := 5) (oi := ({ dst := some 25, op := Go.Op.move (Go.Operand.tmp 24), type := 4, pos := "law.go:113", after := #[{ on := 4, ground := Go.Ground.data }, { on := 3, ground := Go.Ground.chain }], guard := none } : Oper)) (v := .bool false) rfl (by kernel_rfl) (by kernel_rfl) (by kernel_rfl) (fun _ _ _ h => h) (Or.inl ⟨by rfl, ?hy5⟩) (by assumption) ?_
        case hy5 => ((intro W hSW; (try dsimp only at hSW); go_simp); (try with_reducible rfl); (try exact ⟨rfl, rfl, rfl⟩))
        simp only [Act.put, List.setIfInBounds_toArray, List.set_cons_zero, List.set_cons_succ]
        refine wpAnyH_take (i := 6) (oi := ({ dst := some 26, op := Go.Op.load 31 (Go.Operand.tmp 8), type := 31, pos := "law.go:113", after := #[{ on := 5, ground := Go.Ground.guard }], guard := some (5, false) } : Oper)) (v := .agg #[.int .i64 N.bl, .int .i64 N.off, .int .i64 N.lo, .int .i64 N.hi]) rfl (by kernel_rfl) (by kernel_rfl) (by kernel_rfl) (fun _ _ _ h => h) (Or.inl ⟨by rfl, ?hy6⟩) (by assumption) ?_
        case hy6 => ((intro W hSW; have e0 := (hSW.cell (p := ⟨B8, 0, none⟩) hlB8).trans B80; have e1 := (hSW.cell (p := ⟨B8, 1, none⟩) hlB8).trans B81; have e2 := (hSW.cell (p := ⟨B8, 2, none⟩) hlB8).trans B82; have e3 := (hSW.cell (p := ⟨B8, 3, none⟩) hlB8).trans B83; go_simp); (try with_reducible rfl); (try exact ⟨rfl, rfl, rfl⟩))
        simp only [Act.put, List.setIfInBounds_toArray, List.set_cons_zero, List.set_cons_succ]
        refine wpAnyH_take (i := 7) (oi := ({ dst := some 27, op := Go.Op.load 31 (Go.Operand.tmp 3), type := 31, pos := "law.go:113", after := #[{ on := 5, ground := Go.Ground.guard }], guard := some (5, false) } : Oper)) (v := .agg #[.int .i64 p.bl, .int .i64 p.off, .int .i64 p.lo, .int .i64 p.hi]) rfl (by kernel_rfl) (by kernel_rfl) (by kernel_rfl) (fun _ _ _ h => h) (Or.inl ⟨by rfl, ?hy7⟩) (by assumption) ?_
        case hy7 => ((intro W hSW; have e0 := (hSW.cell (p := ⟨n0, 0, none⟩) hn0).trans q0; have e1 := (hSW.cell (p := ⟨n0, 1, none⟩) hn0).trans q1; have e2 := (hSW.cell (p := ⟨n0, 2, none⟩) hn0).trans q2; have e3 := (hSW.cell (p := ⟨n0, 3, none⟩) hn0).trans q3; go_simp); (try with_reducible rfl); (try exact ⟨rfl, rfl, rfl⟩))
        simp only [Act.put, List.setIfInBounds_toArray, List.set_cons_zero, List.set_cons_succ]
        refine wpAnyH_take (i := 8) (oi := ({ dst := some 28, op := Go.Op.indexAddr 32 (Go.Operand.tmp 5) (Go.Operand.const (Go.Value.int Go.IntKind.i64 0)), type := 0, pos := "law.go:113", after := #[{ on := 5, ground := Go.Ground.guard }], guard := some (5, false) } : Oper)) (v := .pointer (some ⟨n1, 0, none⟩)) rfl (by kernel_rfl) (by kernel_rfl) (by kernel_rfl) (fun _ _ _ h => h) (Or.inl ⟨by rfl, ?hy8⟩) (by assumption) ?_
        case hy8 => ((intro W hSW; (try dsimp only at hSW); go_simp); (try with_reducible rfl); (try exact ⟨rfl, rfl, rfl⟩))
        simp only [Act.put, List.setIfInBounds_toArray, List.set_cons_zero, List.set_cons_succ]
        refine wpAnyH_take (i := 9) (oi := ({ dst := some 29, op := Go.Op.load 3 (Go.Operand.tmp 28), type := 3, pos := "law.go:113", after := #[{ on := 8, ground := Go.Ground.data }, { on := 5, ground := Go.Ground.guard }], guard := some (5, false) } : Oper)) (v := .int .i64 x0) rfl (by kernel_rfl) (by kernel_rfl) (by kernel_rfl) (fun _ _ _ h => h) (Or.inl ⟨by rfl, ?hy9⟩) (by assumption) ?_
        case hy9 => ((intro W hSW; have e0 := (hSW.cell (p := ⟨n1, 0, none⟩) hn1).trans u0; go_simp); (try with_reducible rfl); (try exact ⟨rfl, rfl, rfl⟩))
        simp only [Act.put, List.setIfInBounds_toArray, List.set_cons_zero, List.set_cons_succ]
        refine wpAnyH_take (i := 10) (oi := ({ dst := some 30, op := Go.Op.indexAddr 32 (Go.Operand.tmp 5) (Go.Operand.const (Go.Value.int Go.IntKind.i64 1)), type := 0, pos := "law.go:113", after := #[{ on := 5, ground := Go.Ground.guard }], guard := some (5, false) } : Oper)) (v := .pointer (some ⟨n1, 1, none⟩)) rfl (by kernel_rfl) (by kernel_rfl) (by kernel_rfl) (fun _ _ _ h => h) (Or.inl ⟨by rfl, ?hy10⟩) (by assumption) ?_
        case hy10 => ((intro W hSW; (try dsimp only at hSW); go_simp); (try with_reducible rfl); (try exact ⟨rfl, rfl, rfl⟩))
        simp only [Act.put, List.setIfInBounds_toArray, List.set_cons_zero, List.set_cons_succ]
        refine wpAnyH_take (i := 11) (oi := ({ dst := some 31, op := Go.Op.load 3 (Go.Operand.tmp 30), type := 3, pos := "law.go:113", after := #[{ on := 10, ground := Go.Ground.data }, { on := 5, ground := Go.Ground.guard }], guard := some (5, false) } : Oper)) (v := .int .i64 x1) rfl (by kernel_rfl) (by kernel_rfl) (by kernel_rfl) (fun _ _ _ h => h) (Or.inl ⟨by rfl, ?hy11⟩) (by assumption) ?_
        case hy11 => ((intro W hSW; have e0 := (hSW.cell (p := ⟨n1, 1, none⟩) hn1).trans u1; go_simp); (try with_reducible rfl); (try exact ⟨rfl, rfl, rfl⟩))
        simp only [Act.put, List.setIfInBounds_toArray, List.set_cons_zero, List.set_cons_succ]
        refine wpAnyH_ready (rs := [12]) (by kernel_rfl) (by simp) ?_
        refine (AllReadyH.cons (i := 12) (o := ({ dst := some 32, op := Go.Op.call { callee := Go.Callee.value (Go.Operand.func 10), args := #[Go.Operand.tmp 27, Go.Operand.tmp 29, Go.Operand.tmp 31], argTypes := #[39, 3, 3] }, type := 39, pos := "law.go:113", after := #[{ on := 7, ground := Go.Ground.data }, { on := 9, ground := Go.Ground.data }, { on := 11, ground := Go.Ground.data }, { on := 5, ground := Go.Ground.chain }, { on := 5, ground := Go.Ground.guard }], guard := some (5, false) } : Oper)) rfl (fun K hK => ?_) AllReadyH.nil)
        rw [if_pos (by rfl)]
        go_simp
        refine (HRP.out V1).mono ?_
        rintro e V2 ⟨he, hb⟩
        subst he
        go_simp
        refine hK.out _ _ (hHeld.trans (hb.mono hHeld.size)) (fun hHeld => ?_)
        clear hK K
        try simp only [Act.put, List.setIfInBounds_toArray, List.set_cons_zero, List.set_cons_succ]
        refine wpAnyH_take (i := 13) (oi := ({ dst := some 33, op := Go.Op.binOp Go.BinOp.neq 39 (Go.Operand.tmp 26) (Go.Operand.tmp 32) 39, type := 4, pos := "law.go:113", after := #[{ on := 6, ground := Go.Ground.data }, { on := 12, ground := Go.Ground.data }, { on := 5, ground := Go.Ground.guard }], guard := some (5, false) } : Oper)) (v := .bool false) rfl (by kernel_rfl) (by kernel_rfl) (by kernel_rfl) (fun _ _ _ h => h) (Or.inl ⟨by rfl, ?hy12⟩) (by assumption) ?_
        case hy12 => ((intro W hSW; (try dsimp only at hSW); go_simp); (try with_reducible rfl); (try exact ⟨rfl, rfl, rfl⟩))
        simp only [Act.put, List.setIfInBounds_toArray, List.set_cons_zero, List.set_cons_succ]
        refine wpAnyH_take (i := 14) (oi := ({ dst := some 34, op := Go.Op.pick (Go.Operand.tmp 25) (Go.Operand.const (Go.Value.bool true)) (Go.Operand.tmp 33), type := 4, pos := "law.go:113", after := #[{ on := 5, ground := Go.Ground.data }, { on := 13, ground := Go.Ground.data }], guard := none } : Oper)) (v := .bool false) rfl (by kernel_rfl) (by kernel_rfl) (by kernel_rfl) (fun _ _ _ h => h) (Or.inl ⟨by rfl, ?hy13⟩) (by assumption) ?_
        case hy13 => ((intro W hSW; (try dsimp only at hSW); go_simp); (try with_reducible rfl); (try exact ⟨rfl, rfl, rfl⟩))
        simp only [Act.put, List.setIfInBounds_toArray, List.set_cons_zero, List.set_cons_succ]
        refine wpAnyH_done (by kernel_rfl) ?_ _
        have HW := Lib.hid hHeld
        clear hHeld
        have z1 := HBX.out.size
        rw [HN0.out] at z1
        have z2 := HT.out.size
        have wq0 := (HW.out.cell (p := ⟨n0, 0, none⟩) hn0).trans q0
        have wq1 := (HW.out.cell (p := ⟨n0, 1, none⟩) hn0).trans q1
        have wq2 := (HW.out.cell (p := ⟨n0, 2, none⟩) hn0).trans q2
        have wq3 := (HW.out.cell (p := ⟨n0, 3, none⟩) hn0).trans q3
        have wB70 := (HW.out.cell (p := ⟨B7, 0, none⟩) hlB7).trans B70
        have wB71 := (HW.out.cell (p := ⟨B7, 1, none⟩) hlB7).trans B71
        have wB72 := (HW.out.cell (p := ⟨B7, 2, none⟩) hlB7).trans B72
        have wB73 := (HW.out.cell (p := ⟨B7, 3, none⟩) hlB7).trans B73
        have wB80 := (HW.out.cell (p := ⟨B8, 0, none⟩) hlB8).trans B80
        have wB81 := (HW.out.cell (p := ⟨B8, 1, none⟩) hlB8).trans B81
        have wB82 := (HW.out.cell (p := ⟨B8, 2, none⟩) hlB8).trans B82
        have wB83 := (HW.out.cell (p := ⟨B8, 3, none⟩) hlB8).trans B83
        by_cases hz : p.bl = 0
        · obtain ⟨e1, e2⟩ := HM.out hz
          rw [e1] at wB70 wB71 wB72 wB73
          rw [e2] at wB80 wB81 wB82 wB83
          rw [hz] at wq0 wB70 wB80
          clear hz e1 e2
          go_wp2
          go_ret
          exact ⟨rfl, by rw [HN0.out]; exact HBX.out.trans ((HT.out.mono (by omega)).trans (HW.out.mono (by omega)))⟩
        · have hz2 : (p.bl != 0) = true := by simpa using hz
          clear hz
          go_wp2
          go_ret
          exact ⟨rfl, by rw [HN0.out]; exact HBX.out.trans ((HT.out.mono (by omega)).trans (HW.out.mono (by omega)))⟩
  · rw [if_pos (by rfl)]
    go_simp
    have hb : Below V0.heap.size V0 (V0.alloc (.cells #[.int .i64 0, .int .i64 0, .int .i64 0, .int .i64 0] 31)) := (Below.refl _ _).alloc (Nat.le_refl _) _
    have r7 := heap_alloc_new V0 (.cells #[.int .i64 0, .int .i64 0, .int .i64 0, .int .i64 0] 31)
    have g7 := hHeld.size
    have hS := hHeld.trans (hb.mono hHeld.size)
    generalize V0.alloc (.cells #[.int .i64 0, .int .i64 0, .int .i64 0, .int .i64 0] 31) = V1 at *
    obtain ⟨B7, hB7⟩ : ∃ B, B = V0.heap.size := ⟨_, rfl⟩
    rw [← hB7] at r7 g7
    try rw [← hB7]
    clear hb hB7
    have lt7 := lt_of_at r7
    refine hK.out _ _ (hS) (fun hHeld => ?_)
    clear hK K
    try simp only [Act.put, List.setIfInBounds_toArray, List.set_cons_zero, List.set_cons_succ]
    refine wpAnyH_ready (rs := [2, 10]) (by kernel_rfl) (by simp) ?_
    refine (AllReadyH.cons (i := 2) (o := ({ dst := some 13, op := Go.Op.call { callee := Go.Callee.value (Go.Operand.func 7), args := #[Go.Operand.tmp 11, Go.Operand.tmp 12], argTypes := #[31, 3] }, type := 31, pos := "law.go:112", after := #[{ on := 0, ground := Go.Ground.data }, { on := 1, ground := Go.Ground.data }], guard := none } : Oper)) rfl (fun K hK => ?_) (AllReadyH.cons (i := 10) (o := ({ dst := some 8, op := Go.Op.alloc 31, type := 0, pos := "law.go:112", after := #[], guard := none } : Oper)) rfl (fun K hK => ?_) AllReadyH.nil))
    · rw [if_pos (by rfl)]
      go_simp
      refine (HMV.out V1).mono ?_
      rintro e V2 ⟨he, hb⟩
      subst he
      go_simp
      replace r7 := row_in hb r7 (lt_of_at r7)
      replace lt7 := lt_of_at r7
      refine hK.out _ _ (hHeld.trans (hb.mono hHeld.size)) (fun hHeld => ?_)
      clear hK K
      try simp only [Act.put, List.setIfInBounds_toArray, List.set_cons_zero, List.set_cons_succ]
      refine wpAnyH_ready (rs := [8, 10]) (by kernel_rfl) (by simp) ?_
      refine (AllReadyH.cons (i := 8) (o := ({ dst := some 19, op := Go.Op.call { callee := Go.Callee.value (Go.Operand.func 9), args := #[Go.Operand.tmp 14, Go.Operand.tmp 16, Go.Operand.tmp 18], argTypes := #[31, 3, 3] }, type := 31, pos := "law.go:112", after := #[{ on := 3, ground := Go.Ground.data }, { on := 5, ground := Go.Ground.data }, { on := 7, ground := Go.Ground.data }, { on := 2, ground := Go.Ground.chain }], guard := none } : Oper)) rfl (fun K hK => ?_) (AllReadyH.cons (i := 10) (o := ({ dst := some 8, op := Go.Op.alloc 31, type := 0, pos := "law.go:112", after := #[], guard := none } : Oper)) rfl (fun K hK => ?_) AllReadyH.nil))
      · rw [if_pos (by rfl)]
        go_simp
        refine (HPT.out V2).mono ?_
        rintro e V3 ⟨he, hb⟩
        subst he
        go_simp
        replace r7 := row_in hb r7 (lt_of_at r7)
        replace lt7 := lt_of_at r7
        refine hK.out _ _ (hHeld.trans (hb.mono hHeld.size)) (fun hHeld => ?_)
        clear hK K
        try simp only [Act.put, List.setIfInBounds_toArray, List.set_cons_zero, List.set_cons_succ]
        refine wpAnyH_ready (rs := [10]) (by kernel_rfl) (by simp) ?_
        refine (AllReadyH.cons (i := 10) (o := ({ dst := some 8, op := Go.Op.alloc 31, type := 0, pos := "law.go:112", after := #[], guard := none } : Oper)) rfl (fun K hK => ?_) AllReadyH.nil)
        rw [if_pos (by rfl)]
        go_simp
        have hb : Below V3.heap.size V3 (V3.alloc (.cells #[.int .i64 0, .int .i64 0, .int .i64 0, .int .i64 0] 31)) := (Below.refl _ _).alloc (Nat.le_refl _) _
        have r8 := heap_alloc_new V3 (.cells #[.int .i64 0, .int .i64 0, .int .i64 0, .int .i64 0] 31)
        have g8 := hHeld.size
        replace r7 := row_in hb r7 (lt_of_at r7)
        have hS := hHeld.trans (hb.mono hHeld.size)
        generalize V3.alloc (.cells #[.int .i64 0, .int .i64 0, .int .i64 0, .int .i64 0] 31) = V4 at *
        obtain ⟨B8, hB8⟩ : ∃ B, B = V3.heap.size := ⟨_, rfl⟩
        have ne78 : B7 ≠ B8 := by rw [hB8]; exact Nat.ne_of_lt lt7
        rw [← hB8] at r8 g8
        try rw [← hB8]
        clear hb hB8
        have lt8 := lt_of_at r8
        replace lt7 := lt_of_at r7
        refine hK.out _ _ (hS) (fun hHeld => ?_)
        clear hK K
        try simp only [Act.put, List.setIfInBounds_toArray, List.set_cons_zero, List.set_cons_succ]
        refine wpAnyH_ready (rs := [11]) (by kernel_rfl) (by simp) ?_
        refine (AllReadyH.cons (i := 11) (o := ({ dst := none, op := Go.Op.store 31 (Go.Operand.tmp 7) (Go.Operand.tmp 13), type := 0, pos := "law.go:112", after := #[{ on := 9, ground := Go.Ground.data }, { on := 2, ground := Go.Ground.data }, { on := 8, ground := Go.Ground.chain }, { on := 0, ground := Go.Ground.phase }, { on := 1, ground := Go.Ground.phase }, { on := 2, ground := Go.Ground.phase }, { on := 3, ground := Go.Ground.textOnly Go.Departure.lateStores }, { on := 4, ground := Go.Ground.textOnly Go.Departure.lateStores }, { on := 5, ground := Go.Ground.textOnly Go.Departure.lateStores }, { on := 6, ground := Go.Ground.textOnly Go.Departure.lateStores }, { on := 7, ground := Go.Ground.textOnly Go.Departure.lateStores }, { on := 8, ground := Go.Ground.textOnly Go.Departure.lateStoresUnsure }, { on := 9, ground := Go.Ground.phase }, { on := 10, ground := Go.Ground.phase }], guard := none } : Oper)) rfl (fun K hK => ?_) AllReadyH.nil)
        rw [if_pos (by rfl)]
        refine wp_store_row 31 (.tmp 7) (.tmp 13) rfl B7 (#[.int .i64 M.bl, .int .i64 M.off, .int .i64 M.lo, .int .i64 M.hi]) rfl rfl 31 (#[.int .i64 0, .int .i64 0, .int .i64 0, .int .i64 0]) r7 sizePtr rfl (by simp [Value.oneCell']) ?_
        have hS := hHeld.trans ((Onl.setRow B7 V4 (#[.int .i64 M.bl, .int .i64 M.off, .int .i64 M.lo, .int .i64 M.hi])).toBelow g7 hHeld.size)
        have hon := Onl.setRow B7 V4 (#[.int .i64 M.bl, .int .i64 M.off, .int .i64 M.lo, .int .i64 M.hi])
        replace r7 := setRow_heap V4 B7 _ (#[.int .i64 M.bl, .int .i64 M.off, .int .i64 M.lo, .int .i64 M.hi]) _ _ r7
        replace r8 := (setRow_other V4 B7 _ (#[.int .i64 M.bl, .int .i64 M.off, .int .i64 M.lo, .int .i64 M.hi]) (Ne.symm ne78)).trans r8
        generalize V4.setRow B7 (#[.int .i64 M.bl, .int .i64 M.off, .int .i64 M.lo, .int .i64 M.hi]) = V5 at *
        clear hon
        replace lt7 := lt_of_at r7
        replace lt8 := lt_of_at r8
        refine hK.out _ _ (hS) (fun hHeld => ?_)
        clear hK K
        try simp only [Act.put, List.setIfInBounds_toArray, List.set_cons_zero, List.set_cons_succ]
        refine wpAnyH_ready (rs := [12]) (by kernel_rfl) (by simp) ?_
        refine (AllReadyH.cons (i := 12) (o := ({ dst := none, op := Go.Op.store 31 (Go.Operand.tmp 8) (Go.Operand.tmp 19), type := 0, pos := "law.go:112", after := #[{ on := 10, ground := Go.Ground.data }, { on := 8, ground := Go.Ground.data }, { on := 11, ground := Go.Ground.chain }, { on := 0, ground := Go.Ground.phase }, { on := 1, ground := Go.Ground.phase }, { on := 2, ground := Go.Ground.phase }, { on := 3, ground := Go.Ground.phase }, { on := 4, ground := Go.Ground.phase }, { on := 5, ground := Go.Ground.phase }, { on := 6, ground := Go.Ground.phase }, { on := 7, ground := Go.Ground.phase }, { on := 8, ground := Go.Ground.phase }, { on := 9, ground := Go.Ground.phase }, { on := 10, ground := Go.Ground.phase }, { on := 11, ground := Go.Ground.phase }], guard := none } : Oper)) rfl (fun K hK => ?_) AllReadyH.nil)
        rw [if_pos (by rfl)]
        refine wp_store_row 31 (.tmp 8) (.tmp 19) rfl B8 (#[.int .i64 N.bl, .int .i64 N.off, .int .i64 N.lo, .int .i64 N.hi]) rfl rfl 31 (#[.int .i64 0, .int .i64 0, .int .i64 0, .int .i64 0]) r8 sizePtr rfl (by simp [Value.oneCell']) ?_
        have hS := hHeld.trans ((Onl.setRow B8 V5 (#[.int .i64 N.bl, .int .i64 N.off, .int .i64 N.lo, .int .i64 N.hi])).toBelow g8 hHeld.size)
        have hon := Onl.setRow B8 V5 (#[.int .i64 N.bl, .int .i64 N.off, .int .i64 N.lo, .int .i64 N.hi])
        replace r8 := setRow_heap V5 B8 _ (#[.int .i64 N.bl, .int .i64 N.off, .int .i64 N.lo, .int .i64 N.hi]) _ _ r8
        replace r7 := (setRow_other V5 B8 _ (#[.int .i64 N.bl, .int .i64 N.off, .int .i64 N.lo, .int .i64 N.hi]) ne78).trans r7
        generalize V5.setRow B8 (#[.int .i64 N.bl, .int .i64 N.off, .int .i64 N.lo, .int .i64 N.hi]) = V6 at *
        clear hon
        replace lt7 := lt_of_at r7
        replace lt8 := lt_of_at r8
        refine hK.out _ _ (hS) (fun hHeld => ?_)
        clear hK K
        try simp only [Act.put, List.setIfInBounds_toArray, List.set_cons_zero, List.set_cons_succ]
        refine wpAnyH_done (by kernel_rfl) ?_ _
        have HT := Lib.hid hHeld
        clear hHeld
        obtain ⟨B70, B71, B72, B73⟩ := cells4 r7
        obtain ⟨B80, B81, B82, B83⟩ := cells4 r8
        have hlB7 := lt_of_at r7
        have hlB8 := lt_of_at r8
        replace q0 := (HT.out.cell (p := ⟨n0, 0, none⟩) hn0).trans q0
        replace q1 := (HT.out.cell (p := ⟨n0, 1, none⟩) hn0).trans q1
        replace q2 := (HT.out.cell (p := ⟨n0, 2, none⟩) hn0).trans q2
        replace q3 := (HT.out.cell (p := ⟨n0, 3, none⟩) hn0).trans q3
        replace u0 := (HT.out.cell (p := ⟨n1, 0, none⟩) hn1).trans u0
        replace u1 := (HT.out.cell (p := ⟨n1, 1, none⟩) hn1).trans u1
        replace hn0 := Nat.lt_of_lt_of_le hn0 HT.out.size
        replace hn1 := Nat.lt_of_lt_of_le hn1 HT.out.size
        generalize hVV : V6 = T at *
        clear hVV r7 r8 g7 g8
        go_wp2_with fail
        refine wp_region_held_drew (S := fun W : World => Below T.heap.size T W) (by kernel_rfl) ((Below.refl _ _).drew) (fun hHeld => ?_)
        generalize T.drew = V0 at *
        refine wpAnyH_take (i := 0) (oi := ({ dst := some 20, op := Go.Op.load 31 (Go.Operand.tmp 7), type := 31, pos := "law.go:113", after := #[], guard := none } : Oper)) (v := .agg #[.int .i64 M.bl, .int .i64 M.off, .int .i64 M.lo, .int .i64 M.hi]) rfl (by kernel_rfl) (by kernel_rfl) (by kernel_rfl) (fun _ _ _ h => h) (Or.inl ⟨by rfl, ?hy1⟩) (by assumption) ?_
        case hy1 => ((intro W hSW; have e0 := (hSW.cell (p := ⟨B7, 0, none⟩) hlB7).trans B70; have e1 := (hSW.cell (p := ⟨B7, 1, none⟩) hlB7).trans B71; have e2 := (hSW.cell (p := ⟨B7, 2, none⟩) hlB7).trans B72; have e3 := (hSW.cell (p := ⟨B7, 3, none⟩) hlB7).trans B73; go_simp); (try with_reducible rfl); (try exact ⟨rfl, rfl, rfl⟩))
        simp only [Act.put, List.setIfInBounds_toArray, List.set_cons_zero, List.set_cons_succ]
        refine wpAnyH_take (i := 1) (oi := ({ dst := some 21, op := Go.Op.load 31 (Go.Operand.tmp 3), type := 31, pos := "law.go:113", after := #[], guard := none } : Oper)) (v := .agg #[.int .i64 p.bl, .int .i64 p.off, .int .i64 p.lo, .int .i64 p.hi]) rfl (by kernel_rfl) (by kernel_rfl) (by kernel_rfl) (fun _ _ _ h => h) (Or.inl ⟨by rfl, ?hy2⟩) (by assumption) ?_
        case hy2 => ((intro W hSW; have e0 := (hSW.cell (p := ⟨n0, 0, none⟩) hn0).trans q0; have e1 := (hSW.cell (p := ⟨n0, 1, none⟩) hn0).trans q1; have e2 := (hSW.cell (p := ⟨n0, 2, none⟩) hn0).trans q2; have e3 := (hSW.cell (p := ⟨n0, 3, none⟩) hn0).trans q3; go_simp); (try with_reducible rfl); (try exact ⟨rfl, rfl, rfl⟩))
        simp only [Act.put, List.setIfInBounds_toArray, List.set_cons_zero, List.set_cons_succ]
        refine wpAnyH_take (i := 2) (oi := ({ dst := some 22, op := Go.Op.move (Go.Operand.tmp 1), type := 3, pos := "law.go:113", after := #[], guard := none } : Oper)) (v := .int .i64 by_) rfl (by kernel_rfl) (by kernel_rfl) (by kernel_rfl) (fun _ _ _ h => h) (Or.inl ⟨by rfl, ?hy3⟩) (by assumption) ?_
        case hy3 => ((intro W hSW; (try dsimp only at hSW); go_simp); (try with_reducible rfl); (try exact ⟨rfl, rfl, rfl⟩))
        simp only [Act.put, List.setIfInBounds_toArray, List.set_cons_zero, List.set_cons_succ]
        refine wpAnyH_ready (rs := [3]) (by kernel_rfl) (by simp) ?_
        refine (AllReadyH.cons (i := 3) (o := ({ dst := some 23, op := Go.Op.call { callee := Go.Callee.value (Go.Operand.func 8), args := #[Go.Operand.tmp 21, Go.Operand.tmp 22], argTypes := #[39, 3] }, type := 39, pos := "law.go:113", after := #[{ on := 1, ground := Go.Ground.data }, { on := 2, ground := Go.Ground.data }], guard := none } : Oper)) rfl (fun K hK => ?_) AllReadyH.nil)
        rw [if_pos (by rfl)]
        go_simp
        refine (HRM.out V0).mono ?_
        rintro e V1 ⟨he, hb⟩
        subst he
        go_simp
        refine hK.out _ _ (hHeld.trans (hb.mono hHeld.size)) (fun hHeld => ?_)
        clear hK K
        try simp only [Act.put, List.setIfInBounds_toArray, List.set_cons_zero, List.set_cons_succ]
        refine wpAnyH_take (i := 4) (oi := ({ dst := some 24, op := Go.Op.binOp Go.BinOp.neq 39 (Go.Operand.tmp 20) (Go.Operand.tmp 23) 39, type := 4, pos := "law.go:113", after := #[{ on := 0, ground := Go.Ground.data }, { on := 3, ground := Go.Ground.data }], guard := none } : Oper)) (v := .bool false) rfl (by kernel_rfl) (by kernel_rfl) (by kernel_rfl) (fun _ _ _ h => h) (Or.inl ⟨by rfl, ?hy4⟩) (by assumption) ?_
        case hy4 => ((intro W hSW; (try dsimp only at hSW); go_simp); (try with_reducible rfl); (try exact ⟨rfl, rfl, rfl⟩))
        simp only [Act.put, List.setIfInBounds_toArray, List.set_cons_zero, List.set_cons_succ]
        refine wpAnyH_take (i := 5) (oi := ({ dst := some 25, op := Go.Op.move (Go.Operand.tmp 24), type := 4, pos := "law.go:113", after := #[{ on := 4, ground := Go.Ground.data }, { on := 3, ground := Go.Ground.chain }], guard := none } : Oper)) (v := .bool false) rfl (by kernel_rfl) (by kernel_rfl) (by kernel_rfl) (fun _ _ _ h => h) (Or.inl ⟨by rfl, ?hy5⟩) (by assumption) ?_
        case hy5 => ((intro W hSW; (try dsimp only at hSW); go_simp); (try with_reducible rfl); (try exact ⟨rfl, rfl, rfl⟩))
        simp only [Act.put, List.setIfInBounds_toArray, List.set_cons_zero, List.set_cons_succ]
        refine wpAnyH_take (i := 6) (oi := ({ dst := some 26, op := Go.Op.load 31 (Go.Operand.tmp 8), type := 31, pos := "law.go:113", after := #[{ on := 5, ground := Go.Ground.guard }], guard := some (5, false) } : Oper)) (v := .agg #[.int .i64 N.bl, .int .i64 N.off, .int .i64 N.lo, .int .i64 N.hi]) rfl (by kernel_rfl) (by kernel_rfl) (by kernel_rfl) (fun _ _ _ h => h) (Or.inl ⟨by rfl, ?hy6⟩) (by assumption) ?_
        case hy6 => ((intro W hSW; have e0 := (hSW.cell (p := ⟨B8, 0, none⟩) hlB8).trans B80; have e1 := (hSW.cell (p := ⟨B8, 1, none⟩) hlB8).trans B81; have e2 := (hSW.cell (p := ⟨B8, 2, none⟩) hlB8).trans B82; have e3 := (hSW.cell (p := ⟨B8, 3, none⟩) hlB8).trans B83; go_simp); (try with_reducible rfl); (try exact ⟨rfl, rfl, rfl⟩))
        simp only [Act.put, List.setIfInBounds_toArray, List.set_cons_zero, List.set_cons_succ]
        refine wpAnyH_take (i := 7) (oi := ({ dst := some 27, op := Go.Op.load 31 (Go.Operand.tmp 3), type := 31, pos := "law.go:113", after := #[{ on := 5, ground := Go.Ground.guard }], guard := some (5, false) } : Oper)) (v := .agg #[.int .i64 p.bl, .int .i64 p.off, .int .i64 p.lo, .int .i64 p.hi]) rfl (by kernel_rfl) (by kernel_rfl) (by kernel_rfl) (fun _ _ _ h => h) (Or.inl ⟨by rfl, ?hy7⟩) (by assumption) ?_
        case hy7 => ((intro W hSW; have e0 := (hSW.cell (p := ⟨n0, 0, none⟩) hn0).trans q0; have e1 := (hSW.cell (p := ⟨n0, 1, none⟩) hn0).trans q1; have e2 := (hSW.cell (p := ⟨n0, 2, none⟩) hn0).trans q2; have e3 := (hSW.cell (p := ⟨n0, 3, none⟩) hn0).trans q3; go_simp); (try with_reducible rfl); (try exact ⟨rfl, rfl, rfl⟩))
        simp only [Act.put, List.setIfInBounds_toArray, List.set_cons_zero, List.set_cons_succ]
        refine wpAnyH_take (i := 8) (oi := ({ dst := some 28, op := Go.Op.indexAddr 32 (Go.Operand.tmp 5) (Go.Operand.const (Go.Value.int Go.IntKind.i64 0)), type := 0, pos := "law.go:113", after := #[{ on := 5, ground := Go.Ground.guard }], guard := some (5, false) } : Oper)) (v := .pointer (some ⟨n1, 0, none⟩)) rfl (by kernel_rfl) (by kernel_rfl) (by kernel_rfl) (fun _ _ _ h => h) (Or.inl ⟨by rfl, ?hy8⟩) (by assumption) ?_
        case hy8 => ((intro W hSW; (try dsimp only at hSW); go_simp); (try with_reducible rfl); (try exact ⟨rfl, rfl, rfl⟩))
        simp only [Act.put, List.setIfInBounds_toArray, List.set_cons_zero, List.set_cons_succ]
        refine wpAnyH_take (i := 9) (oi := ({ dst := some 29, op := Go.Op.load 3 (Go.Operand.tmp 28), type := 3, pos := "law.go:113", after := #[{ on := 8, ground := Go.Ground.data }, { on := 5, ground := Go.Ground.guard }], guard := some (5, false) } : Oper)) (v := .int .i64 x0) rfl (by kernel_rfl) (by kernel_rfl) (by kernel_rfl) (fun _ _ _ h => h) (Or.inl ⟨by rfl, ?hy9⟩) (by assumption) ?_
        case hy9 => ((intro W hSW; have e0 := (hSW.cell (p := ⟨n1, 0, none⟩) hn1).trans u0; go_simp); (try with_reducible rfl); (try exact ⟨rfl, rfl, rfl⟩))
        simp only [Act.put, List.setIfInBounds_toArray, List.set_cons_zero, List.set_cons_succ]
        refine wpAnyH_take (i := 10) (oi := ({ dst := some 30, op := Go.Op.indexAddr 32 (Go.Operand.tmp 5) (Go.Operand.const (Go.Value.int Go.IntKind.i64 1)), type := 0, pos := "law.go:113", after := #[{ on := 5, ground := Go.Ground.guard }], guard := some (5, false) } : Oper)) (v := .pointer (some ⟨n1, 1, none⟩)) rfl (by kernel_rfl) (by kernel_rfl) (by kernel_rfl) (fun _ _ _ h => h) (Or.inl ⟨by rfl, ?hy10⟩) (by assumption) ?_
        case hy10 => ((intro W hSW; (try dsimp only at hSW); go_simp); (try with_reducible rfl); (try exact ⟨rfl, rfl, rfl⟩))
        simp only [Act.put, List.setIfInBounds_toArray, List.set_cons_zero, List.set_cons_succ]
        refine wpAnyH_take (i := 11) (oi := ({ dst := some 31, op := Go.Op.load 3 (Go.Operand.tmp 30), type := 3, pos := "law.go:113", after := #[{ on := 10, ground := Go.Ground.data }, { on := 5, ground := Go.Ground.guard }], guard := some (5, false) } : Oper)) (v := .int .i64 x1) rfl (by kernel_rfl) (by kernel_rfl) (by kernel_rfl) (fun _ _ _ h => h) (Or.inl ⟨by rfl, ?hy11⟩) (by assumption) ?_
        case hy11 => ((intro W hSW; have e0 := (hSW.cell (p := ⟨n1, 1, none⟩) hn1).trans u1; go_simp); (try with_reducible rfl); (try exact ⟨rfl, rfl, rfl⟩))
        simp only [Act.put, List.setIfInBounds_toArray, List.set_cons_zero, List.set_cons_succ]
        refine wpAnyH_ready (rs := [12]) (by kernel_rfl) (by simp) ?_
        refine (AllReadyH.cons (i := 12) (o := ({ dst := some 32, op := Go.Op.call { callee := Go.Callee.value (Go.Operand.func 10), args := #[Go.Operand.tmp 27, Go.Operand.tmp 29, Go.Operand.tmp 31], argTypes := #[39, 3, 3] }, type := 39, pos := "law.go:113", after := #[{ on := 7, ground := Go.Ground.data }, { on := 9, ground := Go.Ground.data }, { on := 11, ground := Go.Ground.data }, { on := 5, ground := Go.Ground.chain }, { on := 5, ground := Go.Ground.guard }], guard := some (5, false) } : Oper)) rfl (fun K hK => ?_) AllReadyH.nil)
        rw [if_pos (by rfl)]
        go_simp
        refine (HRP.out V1).mono ?_
        rintro e V2 ⟨he, hb⟩
        subst he
        go_simp
        refine hK.out _ _ (hHeld.trans (hb.mono hHeld.size)) (fun hHeld => ?_)
        clear hK K
        try simp only [Act.put, List.setIfInBounds_toArray, List.set_cons_zero, List.set_cons_succ]
        refine wpAnyH_take (i := 13) (oi := ({ dst := some 33, op := Go.Op.binOp Go.BinOp.neq 39 (Go.Operand.tmp 26) (Go.Operand.tmp 32) 39, type := 4, pos := "law.go:113", after := #[{ on := 6, ground := Go.Ground.data }, { on := 12, ground := Go.Ground.data }, { on := 5, ground := Go.Ground.guard }], guard := some (5, false) } : Oper)) (v := .bool false) rfl (by kernel_rfl) (by kernel_rfl) (by kernel_rfl) (fun _ _ _ h => h) (Or.inl ⟨by rfl, ?hy12⟩) (by assumption) ?_
        case hy12 => ((intro W hSW; (try dsimp only at hSW); go_simp); (try with_reducible rfl); (try exact ⟨rfl, rfl, rfl⟩))
        simp only [Act.put, List.setIfInBounds_toArray, List.set_cons_zero, List.set_cons_succ]
        refine wpAnyH_take (i := 14) (oi := ({ dst := some 34, op := Go.Op.pick (Go.Operand.tmp 25) (Go.Operand.const (Go.Value.bool true)) (Go.Operand.tmp 33), type := 4, pos := "law.go:113", after := #[{ on := 5, ground := Go.Ground.data }, { on := 13, ground := Go.Ground.data }], guard := none } : Oper)) (v := .bool false) rfl (by kernel_rfl) (by kernel_rfl) (by kernel_rfl) (fun _ _ _ h => h) (Or.inl ⟨by rfl, ?hy13⟩) (by assumption) ?_
        case hy13 => ((intro W hSW; (try dsimp only at hSW); go_simp); (try with_reducible rfl); (try exact ⟨rfl, rfl, rfl⟩))
        simp only [Act.put, List.setIfInBounds_toArray, List.set_cons_zero, List.set_cons_succ]
        refine wpAnyH_done (by kernel_rfl) ?_ _
        have HW := Lib.hid hHeld
        clear hHeld
        have z1 := HBX.out.size
        rw [HN0.out] at z1
        have z2 := HT.out.size
        have wq0 := (HW.out.cell (p := ⟨n0, 0, none⟩) hn0).trans q0
        have wq1 := (HW.out.cell (p := ⟨n0, 1, none⟩) hn0).trans q1
        have wq2 := (HW.out.cell (p := ⟨n0, 2, none⟩) hn0).trans q2
        have wq3 := (HW.out.cell (p := ⟨n0, 3, none⟩) hn0).trans q3
        have wB70 := (HW.out.cell (p := ⟨B7, 0, none⟩) hlB7).trans B70
        have wB71 := (HW.out.cell (p := ⟨B7, 1, none⟩) hlB7).trans B71
        have wB72 := (HW.out.cell (p := ⟨B7, 2, none⟩) hlB7).trans B72
        have wB73 := (HW.out.cell (p := ⟨B7, 3, none⟩) hlB7).trans B73
        have wB80 := (HW.out.cell (p := ⟨B8, 0, none⟩) hlB8).trans B80
        have wB81 := (HW.out.cell (p := ⟨B8, 1, none⟩) hlB8).trans B81
        have wB82 := (HW.out.cell (p := ⟨B8, 2, none⟩) hlB8).trans B82
        have wB83 := (HW.out.cell (p := ⟨B8, 3, none⟩) hlB8).trans B83
        by_cases hz : p.bl = 0
        · obtain ⟨e1, e2⟩ := HM.out hz
          rw [e1] at wB70 wB71 wB72 wB73
          rw [e2] at wB80 wB81 wB82 wB83
          rw [hz] at wq0 wB70 wB80
          clear hz e1 e2
          go_wp2
          go_ret
          exact ⟨rfl, by rw [HN0.out]; exact HBX.out.trans ((HT.out.mono (by omega)).trans (HW.out.mono (by omega)))⟩
        · have hz2 : (p.bl != 0) = true := by simpa using hz
          clear hz
          go_wp2
          go_ret
          exact ⟨rfl, by rw [HN0.out]; exact HBX.out.trans ((HT.out.mono (by omega)).trans (HW.out.mono (by omega)))⟩
      · rw [if_pos (by rfl)]
        go_simp
        have hb : Below V2.heap.size V2 (V2.alloc (.cells #[.int .i64 0, .int .i64 0, .int .i64 0, .int .i64 0] 31)) := (Below.refl _ _).alloc (Nat.le_refl _) _
        have r8 := heap_alloc_new V2 (.cells #[.int .i64 0, .int .i64 0, .int .i64 0, .int .i64 0] 31)
        have g8 := hHeld.size
        replace r7 := row_in hb r7 (lt_of_at r7)
        have hS := hHeld.trans (hb.mono hHeld.size)
        generalize V2.alloc (.cells #[.int .i64 0, .int .i64 0, .int .i64 0, .int .i64 0] 31) = V3 at *
        obtain ⟨B8, hB8⟩ : ∃ B, B = V2.heap.size := ⟨_, rfl⟩
        have ne78 : B7 ≠ B8 := by rw [hB8]; exact Nat.ne_of_lt lt7
        rw [← hB8] at r8 g8
        try rw [← hB8]
        clear hb hB8
        have lt8 := lt_of_at r8
        replace lt7 := lt_of_at r7
        refine hK.out _ _ (hS) (fun hHeld => ?_)
        clear hK K
        try simp only [Act.put, List.setIfInBounds_toArray, List.set_cons_zero, List.set_cons_succ]
        refine wpAnyH_ready (rs := [8]) (by kernel_rfl) (by simp) ?_
        refine (AllReadyH.cons (i := 8) (o := ({ dst := some 19, op := Go.Op.call { callee := Go.Callee.value (Go.Operand.func 9), args := #[Go.Operand.tmp 14, Go.Operand.tmp 16, Go.Operand.tmp 18], argTypes := #[31, 3, 3] }, type := 31, pos := "law.go:112", after := #[{ on := 3, ground := Go.Ground.data }, { on := 5, ground := Go.Ground.data }, { on := 7, ground := Go.Ground.data }, { on := 2, ground := Go.Ground.chain }], guard := none } : Oper)) rfl (fun K hK => ?_) AllReadyH.nil)
        rw [if_pos (by rfl)]
        go_simp
        refine (HPT.out V3).mono ?_
        rintro e V4 ⟨he, hb⟩
        subst he
        go_simp
        replace r7 := row_in hb r7 (lt_of_at r7)
        replace r8 := row_in hb r8 (lt_of_at r8)
        replace lt7 := lt_of_at r7
        replace lt8 := lt_of_at r8
        refine hK.out _ _ (hHeld.trans (hb.mono hHeld.size)) (fun hHeld => ?_)
        clear hK K
        try simp only [Act.put, List.setIfInBounds_toArray, List.set_cons_zero, List.set_cons_succ]
        refine wpAnyH_ready (rs := [11]) (by kernel_rfl) (by simp) ?_
        refine (AllReadyH.cons (i := 11) (o := ({ dst := none, op := Go.Op.store 31 (Go.Operand.tmp 7) (Go.Operand.tmp 13), type := 0, pos := "law.go:112", after := #[{ on := 9, ground := Go.Ground.data }, { on := 2, ground := Go.Ground.data }, { on := 8, ground := Go.Ground.chain }, { on := 0, ground := Go.Ground.phase }, { on := 1, ground := Go.Ground.phase }, { on := 2, ground := Go.Ground.phase }, { on := 3, ground := Go.Ground.textOnly Go.Departure.lateStores }, { on := 4, ground := Go.Ground.textOnly Go.Departure.lateStores }, { on := 5, ground := Go.Ground.textOnly Go.Departure.lateStores }, { on := 6, ground := Go.Ground.textOnly Go.Departure.lateStores }, { on := 7, ground := Go.Ground.textOnly Go.Departure.lateStores }, { on := 8, ground := Go.Ground.textOnly Go.Departure.lateStoresUnsure }, { on := 9, ground := Go.Ground.phase }, { on := 10, ground := Go.Ground.phase }], guard := none } : Oper)) rfl (fun K hK => ?_) AllReadyH.nil)
        rw [if_pos (by rfl)]
        refine wp_store_row 31 (.tmp 7) (.tmp 13) rfl B7 (#[.int .i64 M.bl, .int .i64 M.off, .int .i64 M.lo, .int .i64 M.hi]) rfl rfl 31 (#[.int .i64 0, .int .i64 0, .int .i64 0, .int .i64 0]) r7 sizePtr rfl (by simp [Value.oneCell']) ?_
        have hS := hHeld.trans ((Onl.setRow B7 V4 (#[.int .i64 M.bl, .int .i64 M.off, .int .i64 M.lo, .int .i64 M.hi])).toBelow g7 hHeld.size)
        have hon := Onl.setRow B7 V4 (#[.int .i64 M.bl, .int .i64 M.off, .int .i64 M.lo, .int .i64 M.hi])
        replace r7 := setRow_heap V4 B7 _ (#[.int .i64 M.bl, .int .i64 M.off, .int .i64 M.lo, .int .i64 M.hi]) _ _ r7
        replace r8 := (setRow_other V4 B7 _ (#[.int .i64 M.bl, .int .i64 M.off, .int .i64 M.lo, .int .i64 M.hi]) (Ne.symm ne78)).trans r8
        generalize V4.setRow B7 (#[.int .i64 M.bl, .int .i64 M.off, .int .i64 M.lo, .int .i64 M.hi]) = V5 at *
        clear hon
        replace lt7 := lt_of_at r7
        replace lt8 := lt_of_at r8
        refine hK.out _ _ (hS) (fun hHeld => ?_)
        clear hK K
        try simp only [Act.put, List.setIfInBounds_toArray, List.set_cons_zero, List.set_cons_succ]
        refine wpAnyH_ready (rs := [12]) (by kernel_rfl) (by simp) ?_
        refine (AllReadyH.cons (i := 12) (o := ({ dst := none, op := Go.Op.store 31 (Go.Operand.tmp 8) (Go.Operand.tmp 19), type := 0, pos := "law.go:112", after := #[{ on := 10, ground := Go.Ground.data }, { on := 8, ground := Go.Ground.data }, { on := 11, ground := Go.Ground.chain }, { on := 0, ground := Go.Ground.phase }, { on := 1, ground := Go.Ground.phase }, { on := 2, ground := Go.Ground.phase }, { on := 3, ground := Go.Ground.phase }, { on := 4, ground := Go.Ground.phase }, { on := 5, ground := Go.Ground.phase }, { on := 6, ground := Go.Ground.phase }, { on := 7, ground := Go.Ground.phase }, { on := 8, ground := Go.Ground.phase }, { on := 9, ground := Go.Ground.phase }, { on := 10, ground := Go.Ground.phase }, { on := 11, ground := Go.Ground.phase }], guard := none } : Oper)) rfl (fun K hK => ?_) AllReadyH.nil)
        rw [if_pos (by rfl)]
        refine wp_store_row 31 (.tmp 8) (.tmp 19) rfl B8 (#[.int .i64 N.bl, .int .i64 N.off, .int .i64 N.lo, .int .i64 N.hi]) rfl rfl 31 (#[.int .i64 0, .int .i64 0, .int .i64 0, .int .i64 0]) r8 sizePtr rfl (by simp [Value.oneCell']) ?_
        have hS := hHeld.trans ((Onl.setRow B8 V5 (#[.int .i64 N.bl, .int .i64 N.off, .int .i64 N.lo, .int .i64 N.hi])).toBelow g8 hHeld.size)
        have hon := Onl.setRow B8 V5 (#[.int .i64 N.bl, .int .i64 N.off, .int .i64 N.lo, .int .i64 N.hi])
        replace r8 := setRow_heap V5 B8 _ (#[.int .i64 N.bl, .int .i64 N.off, .int .i64 N.lo, .int .i64 N.hi]) _ _ r8
        replace r7 := (setRow_other V5 B8 _ (#[.int .i64 N.bl, .int .i64 N.off, .int .i64 N.lo, .int .i64 N.hi]) ne78).trans r7
        generalize V5.setRow B8 (#[.int .i64 N.bl, .int .i64 N.off, .int .i64 N.lo, .int .i64 N.hi]) = V6 at *
        clear hon
        replace lt7 := lt_of_at r7
        replace lt8 := lt_of_at r8
        refine hK.out _ _ (hS) (fun hHeld => ?_)
        clear hK K
        try simp only [Act.put, List.setIfInBounds_toArray, List.set_cons_zero, List.set_cons_succ]
        refine wpAnyH_done (by kernel_rfl) ?_ _
        have HT := Lib.hid hHeld
        clear hHeld
        obtain ⟨B70, B71, B72, B73⟩ := cells4 r7
        obtain ⟨B80, B81, B82, B83⟩ := cells4 r8
        have hlB7 := lt_of_at r7
        have hlB8 := lt_of_at r8
        replace q0 := (HT.out.cell (p := ⟨n0, 0, none⟩) hn0).trans q0
        replace q1 := (HT.out.cell (p := ⟨n0, 1, none⟩) hn0).trans q1
        replace q2 := (HT.out.cell (p := ⟨n0, 2, none⟩) hn0).trans q2
        replace q3 := (HT.out.cell (p := ⟨n0, 3, none⟩) hn0).trans q3
        replace u0 := (HT.out.cell (p := ⟨n1, 0, none⟩) hn1).trans u0
        replace u1 := (HT.out.cell (p := ⟨n1, 1, none⟩) hn1).trans u1
        replace hn0 := Nat.lt_of_lt_of_le hn0 HT.out.size
        replace hn1 := Nat.lt_of_lt_of_le hn1 HT.out.size
        generalize hVV : V6 = T at *
        clear hVV r7 r8 g7 g8
        go_wp2_with fail
        refine wp_region_held_drew (S := fun W : World => Below T.heap.size T W) (by kernel_rfl) ((Below.refl _ _).drew) (fun hHeld => ?_)
        generalize T.drew = V0 at *
        refine wpAnyH_take (i := 0) (oi := ({ dst := some 20, op := Go.Op.load 31 (Go.Operand.tmp 7), type := 31, pos := "law.go:113", after := #[], guard := none } : Oper)) (v := .agg #[.int .i64 M.bl, .int .i64 M.off, .int .i64 M.lo, .int .i64 M.hi]) rfl (by kernel_rfl) (by kernel_rfl) (by kernel_rfl) (fun _ _ _ h => h) (Or.inl ⟨by rfl, ?hy1⟩) (by assumption) ?_
        case hy1 => ((intro W hSW; have e0 := (hSW.cell (p := ⟨B7, 0, none⟩) hlB7).trans B70; have e1 := (hSW.cell (p := ⟨B7, 1, none⟩) hlB7).trans B71; have e2 := (hSW.cell (p := ⟨B7, 2, none⟩) hlB7).trans B72; have e3 := (hSW.cell (p := ⟨B7, 3, none⟩) hlB7).trans B73; go_simp); (try with_reducible rfl); (try exact ⟨rfl, rfl, rfl⟩))
        simp only [Act.put, List.setIfInBounds_toArray, List.set_cons_zero, List.set_cons_succ]
        refine wpAnyH_take (i := 1) (oi := ({ dst := some 21, op := Go.Op.load 31 (Go.Operand.tmp 3), type := 31, pos := "law.go:113", after := #[], guard := none } : Oper)) (v := .agg #[.int .i64 p.bl, .int .i64 p.off, .int .i64 p.lo, .int .i64 p.hi]) rfl (by kernel_rfl) (by kernel_rfl) (by kernel_rfl) (fun _ _ _ h => h) (Or.inl ⟨by rfl, ?hy2⟩) (by assumption) ?_
        case hy2 => ((intro W hSW; have e0 := (hSW.cell (p := ⟨n0, 0, none⟩) hn0).trans q0; have e1 := (hSW.cell (p := ⟨n0, 1, none⟩) hn0).trans q1; have e2 := (hSW.cell (p := ⟨n0, 2, none⟩) hn0).trans q2; have e3 := (hSW.cell (p := ⟨n0, 3, none⟩) hn0).trans q3; go_simp); (try with_reducible rfl); (try exact ⟨rfl, rfl, rfl⟩))
        simp only [Act.put, List.setIfInBounds_toArray, List.set_cons_zero, List.set_cons_succ]
        refine wpAnyH_take (i := 2) (oi := ({ dst := some 22, op := Go.Op.move (Go.Operand.tmp 1), type := 3, pos := "law.go:113", after := #[], guard := none } : Oper)) (v := .int .i64 by_) rfl (by kernel_rfl) (by kernel_rfl) (by kernel_rfl) (fun _ _ _ h => h) (Or.inl ⟨by rfl, ?hy3⟩) (by assumption) ?_
        case hy3 => ((intro W hSW; (try dsimp only at hSW); go_simp); (try with_reducible rfl); (try exact ⟨rfl, rfl, rfl⟩))
        simp only [Act.put, List.setIfInBounds_toArray, List.set_cons_zero, List.set_cons_succ]
        refine wpAnyH_ready (rs := [3]) (by kernel_rfl) (by simp) ?_
        refine (AllReadyH.cons (i := 3) (o := ({ dst := some 23, op := Go.Op.call { callee := Go.Callee.value (Go.Operand.func 8), args := #[Go.Operand.tmp 21, Go.Operand.tmp 22], argTypes := #[39, 3] }, type := 39, pos := "law.go:113", after := #[{ on := 1, ground := Go.Ground.data }, { on := 2, ground := Go.Ground.data }], guard := none } : Oper)) rfl (fun K hK => ?_) AllReadyH.nil)
        rw [if_pos (by rfl)]
        go_simp
        refine (HRM.out V0).mono ?_
        rintro e V1 ⟨he, hb⟩
        subst he
        go_simp
        refine hK.out _ _ (hHeld.trans (hb.mono hHeld.size)) (fun hHeld => ?_)
        clear hK K
        try simp only [Act.put, List.setIfInBounds_toArray, List.set_cons_zero, List.set_cons_succ]
        refine wpAnyH_take (i := 4) (oi := ({ dst := some 24, op := Go.Op.binOp Go.BinOp.neq 39 (Go.Operand.tmp 20) (Go.Operand.tmp 23) 39, type := 4, pos := "law.go:113", after := #[{ on := 0, ground := Go.Ground.data }, { on := 3, ground := Go.Ground.data }], guard := none } : Oper)) (v := .bool false) rfl (by kernel_rfl) (by kernel_rfl) (by kernel_rfl) (fun _ _ _ h => h) (Or.inl ⟨by rfl, ?hy4⟩) (by assumption) ?_
        case hy4 => ((intro W hSW; (try dsimp only at hSW); go_simp); (try with_reducible rfl); (try exact ⟨rfl, rfl, rfl⟩))
        simp only [Act.put, List.setIfInBounds_toArray, List.set_cons_zero, List.set_cons_succ]
        refine wpAnyH_take (i := 5) (oi := ({ dst := some 25, op := Go.Op.move (Go.Operand.tmp 24), type := 4, pos := "law.go:113", after := #[{ on := 4, ground := Go.Ground.data }, { on := 3, ground := Go.Ground.chain }], guard := none } : Oper)) (v := .bool false) rfl (by kernel_rfl) (by kernel_rfl) (by kernel_rfl) (fun _ _ _ h => h) (Or.inl ⟨by rfl, ?hy5⟩) (by assumption) ?_
        case hy5 => ((intro W hSW; (try dsimp only at hSW); go_simp); (try with_reducible rfl); (try exact ⟨rfl, rfl, rfl⟩))
        simp only [Act.put, List.setIfInBounds_toArray, List.set_cons_zero, List.set_cons_succ]
        refine wpAnyH_take (i := 6) (oi := ({ dst := some 26, op := Go.Op.load 31 (Go.Operand.tmp 8), type := 31, pos := "law.go:113", after := #[{ on := 5, ground := Go.Ground.guard }], guard := some (5, false) } : Oper)) (v := .agg #[.int .i64 N.bl, .int .i64 N.off, .int .i64 N.lo, .int .i64 N.hi]) rfl (by kernel_rfl) (by kernel_rfl) (by kernel_rfl) (fun _ _ _ h => h) (Or.inl ⟨by rfl, ?hy6⟩) (by assumption) ?_
        case hy6 => ((intro W hSW; have e0 := (hSW.cell (p := ⟨B8, 0, none⟩) hlB8).trans B80; have e1 := (hSW.cell (p := ⟨B8, 1, none⟩) hlB8).trans B81; have e2 := (hSW.cell (p := ⟨B8, 2, none⟩) hlB8).trans B82; have e3 := (hSW.cell (p := ⟨B8, 3, none⟩) hlB8).trans B83; go_simp); (try with_reducible rfl); (try exact ⟨rfl, rfl, rfl⟩))
        simp only [Act.put, List.setIfInBounds_toArray, List.set_cons_zero, List.set_cons_succ]
        refine wpAnyH_take (i := 7) (oi := ({ dst := some 27, op := Go.Op.load 31 (Go.Operand.tmp 3), type := 31, pos := "law.go:113", after := #[{ on := 5, ground := Go.Ground.guard }], guard := some (5, false) } : Oper)) (v := .agg #[.int .i64 p.bl, .int .i64 p.off, .int .i64 p.lo, .int .i64 p.hi]) rfl (by kernel_rfl) (by kernel_rfl) (by kernel_rfl) (fun _ _ _ h => h) (Or.inl ⟨by rfl, ?hy7⟩) (by assumption) ?_
        case hy7 => ((intro W hSW; have e0 := (hSW.cell (p := ⟨n0, 0, none⟩) hn0).trans q0; have e1 := (hSW.cell (p := ⟨n0, 1, none⟩) hn0).trans q1; have e2 := (hSW.cell (p := ⟨n0, 2, none⟩) hn0).trans q2; have e3 := (hSW.cell (p := ⟨n0, 3, none⟩) hn0).trans q3; go_simp); (try with_reducible rfl); (try exact ⟨rfl, rfl, rfl⟩))
        simp only [Act.put, List.setIfInBounds_toArray, List.set_cons_zero, List.set_cons_succ]
        refine wpAnyH_take (i := 8) (oi := ({ dst := some 28, op := Go.Op.indexAddr 32 (Go.Operand.tmp 5) (Go.Operand.const (Go.Value.int Go.IntKind.i64 0)), type := 0, pos := "law.go:113", after := #[{ on := 5, ground := Go.Ground.guard }], guard := some (5, false) } : Oper)) (v := .pointer (some ⟨n1, 0, none⟩)) rfl (by kernel_rfl) (by kernel_rfl) (by kernel_rfl) (fun _ _ _ h => h) (Or.inl ⟨by rfl, ?hy8⟩) (by assumption) ?_
        case hy8 => ((intro W hSW; (try dsimp only at hSW); go_simp); (try with_reducible rfl); (try exact ⟨rfl, rfl, rfl⟩))
        simp only [Act.put, List.setIfInBounds_toArray, List.set_cons_zero, List.set_cons_succ]
        refine wpAnyH_take (i := 9) (oi := ({ dst := some 29, op := Go.Op.load 3 (Go.Operand.tmp 28), type := 3, pos := "law.go:113", after := #[{ on := 8, ground := Go.Ground.data }, { on := 5, ground := Go.Ground.guard }], guard := some (5, false) } : Oper)) (v := .int .i64 x0) rfl (by kernel_rfl) (by kernel_rfl) (by kernel_rfl) (fun _ _ _ h => h) (Or.inl ⟨by rfl, ?hy9⟩) (by assumption) ?_
        case hy9 => ((intro W hSW; have e0 := (hSW.cell (p := ⟨n1, 0, none⟩) hn1).trans u0; go_simp); (try with_reducible rfl); (try exact ⟨rfl, rfl, rfl⟩))
        simp only [Act.put, List.setIfInBounds_toArray, List.set_cons_zero, List.set_cons_succ]
        refine wpAnyH_take (i := 10) (oi := ({ dst := some 30, op := Go.Op.indexAddr 32 (Go.Operand.tmp 5) (Go.Operand.const (Go.Value.int Go.IntKind.i64 1)), type := 0, pos := "law.go:113", after := #[{ on := 5, ground := Go.Ground.guard }], guard := some (5, false) } : Oper)) (v := .pointer (some ⟨n1, 1, none⟩)) rfl (by kernel_rfl) (by kernel_rfl) (by kernel_rfl) (fun _ _ _ h => h) (Or.inl ⟨by rfl, ?hy10⟩) (by assumption) ?_
        case hy10 => ((intro W hSW; (try dsimp only at hSW); go_simp); (try with_reducible rfl); (try exact ⟨rfl, rfl, rfl⟩))
        simp only [Act.put, List.setIfInBounds_toArray, List.set_cons_zero, List.set_cons_succ]
        refine wpAnyH_take (i := 11) (oi := ({ dst := some 31, op := Go.Op.load 3 (Go.Operand.tmp 30), type := 3, pos := "law.go:113", after := #[{ on := 10, ground := Go.Ground.data }, { on := 5, ground := Go.Ground.guard }], guard := some (5, false) } : Oper)) (v := .int .i64 x1) rfl (by kernel_rfl) (by kernel_rfl) (by kernel_rfl) (fun _ _ _ h => h) (Or.inl ⟨by rfl, ?hy11⟩) (by assumption) ?_
        case hy11 => ((intro W hSW; have e0 := (hSW.cell (p := ⟨n1, 1, none⟩) hn1).trans u1; go_simp); (try with_reducible rfl); (try exact ⟨rfl, rfl, rfl⟩))
        simp only [Act.put, List.setIfInBounds_toArray, List.set_cons_zero, List.set_cons_succ]
        refine wpAnyH_ready (rs := [12]) (by kernel_rfl) (by simp) ?_
        refine (AllReadyH.cons (i := 12) (o := ({ dst := some 32, op := Go.Op.call { callee := Go.Callee.value (Go.Operand.func 10), args := #[Go.Operand.tmp 27, Go.Operand.tmp 29, Go.Operand.tmp 31], argTypes := #[39, 3, 3] }, type := 39, pos := "law.go:113", after := #[{ on := 7, ground := Go.Ground.data }, { on := 9, ground := Go.Ground.data }, { on := 11, ground := Go.Ground.data }, { on := 5, ground := Go.Ground.chain }, { on := 5, ground := Go.Ground.guard }], guard := some (5, false) } : Oper)) rfl (fun K hK => ?_) AllReadyH.nil)
        rw [if_pos (by rfl)]
        go_simp
        refine (HRP.out V1).mono ?_
        rintro e V2 ⟨he, hb⟩
        subst he
        go_simp
        refine hK.out _ _ (hHeld.trans (hb.mono hHeld.size)) (fun hHeld => ?_)
        clear hK K
        try simp only [Act.put, List.setIfInBounds_toArray, List.set_cons_zero, List.set_cons_succ]
        refine wpAnyH_take (i := 13) (oi := ({ dst := some 33, op := Go.Op.binOp Go.BinOp.neq 39 (Go.Operand.tmp 26) (Go.Operand.tmp 32) 39, type := 4, pos := "law.go:113", after := #[{ on := 6, ground := Go.Ground.data }, { on := 12, ground := Go.Ground.data }, { on := 5, ground := Go.Ground.guard }], guard := some (5, false) } : Oper)) (v := .bool false) rfl (by kernel_rfl) (by kernel_rfl) (by kernel_rfl) (fun _ _ _ h => h) (Or.inl ⟨by rfl, ?hy12⟩) (by assumption) ?_
        case hy12 => ((intro W hSW; (try dsimp only at hSW); go_simp); (try with_reducible rfl); (try exact ⟨rfl, rfl, rfl⟩))
        simp only [Act.put, List.setIfInBounds_toArray, List.set_cons_zero, List.set_cons_succ]
        refine wpAnyH_take (i := 14) (oi := ({ dst := some 34, op := Go.Op.pick (Go.Operand.tmp 25) (Go.Operand.const (Go.Value.bool true)) (Go.Operand.tmp 33), type := 4, pos := "law.go:113", after := #[{ on := 5, ground := Go.Ground.data }, { on := 13, ground := Go.Ground.data }], guard := none } : Oper)) (v := .bool false) rfl (by kernel_rfl) (by kernel_rfl) (by kernel_rfl) (fun _ _ _ h => h) (Or.inl ⟨by rfl, ?hy13⟩) (by assumption) ?_
        case hy13 => ((intro W hSW; (try dsimp only at hSW); go_simp); (try with_reducible rfl); (try exact ⟨rfl, rfl, rfl⟩))
        simp only [Act.put, List.setIfInBounds_toArray, List.set_cons_zero, List.set_cons_succ]
        refine wpAnyH_done (by kernel_rfl) ?_ _
        have HW := Lib.hid hHeld
        clear hHeld
        have z1 := HBX.out.size
        rw [HN0.out] at z1
        have z2 := HT.out.size
        have wq0 := (HW.out.cell (p := ⟨n0, 0, none⟩) hn0).trans q0
        have wq1 := (HW.out.cell (p := ⟨n0, 1, none⟩) hn0).trans q1
        have wq2 := (HW.out.cell (p := ⟨n0, 2, none⟩) hn0).trans q2
        have wq3 := (HW.out.cell (p := ⟨n0, 3, none⟩) hn0).trans q3
        have wB70 := (HW.out.cell (p := ⟨B7, 0, none⟩) hlB7).trans B70
        have wB71 := (HW.out.cell (p := ⟨B7, 1, none⟩) hlB7).trans B71
        have wB72 := (HW.out.cell (p := ⟨B7, 2, none⟩) hlB7).trans B72
        have wB73 := (HW.out.cell (p := ⟨B7, 3, none⟩) hlB7).trans B73
        have wB80 := (HW.out.cell (p := ⟨B8, 0, none⟩) hlB8).trans B80
        have wB81 := (HW.out.cell (p := ⟨B8, 1, none⟩) hlB8).trans B81
        have wB82 := (HW.out.cell (p := ⟨B8, 2, none⟩) hlB8).trans B82
        have wB83 := (HW.out.cell (p := ⟨B8, 3, none⟩) hlB8).trans B83
        by_cases hz : p.bl = 0
        · obtain ⟨e1, e2⟩ := HM.out hz
          rw [e1] at wB70 wB71 wB72 wB73
          rw [e2] at wB80 wB81 wB82 wB83
          rw [hz] at wq0 wB70 wB80
          clear hz e1 e2
          go_wp2
          go_ret
          exact ⟨rfl, by rw [HN0.out]; exact HBX.out.trans ((HT.out.mono (by omega)).trans (HW.out.mono (by omega)))⟩
        · have hz2 : (p.bl != 0) = true := by simpa using hz
          clear hz
          go_wp2
          go_ret
          exact ⟨rfl, by rw [HN0.out]; exact HBX.out.trans ((HT.out.mono (by omega)).trans (HW.out.mono (by omega)))⟩
    · rw [if_pos (by rfl)]
      go_simp
      have hb : Below V1.heap.size V1 (V1.alloc (.cells #[.int .i64 0, .int .i64 0, .int .i64 0, .int .i64 0] 31)) := (Below.refl _ _).alloc (Nat.le_refl _) _
      have r8 := heap_alloc_new V1 (.cells #[.int .i64 0, .int .i64 0, .int .i64 0, .int .i64 0] 31)
      have g8 := hHeld.size
      replace r7 := row_in hb r7 (lt_of_at r7)
      have hS := hHeld.trans (hb.mono hHeld.size)
      generalize V1.alloc (.cells #[.int .i64 0, .int .i64 0, .int .i64 0, .int .i64 0] 31) = V2 at *
      obtain ⟨B8, hB8⟩ : ∃ B, B = V1.heap.size := ⟨_, rfl⟩
      have ne78 : B7 ≠ B8 := by rw [hB8]; exact Nat.ne_of_lt lt7
      rw [← hB8] at r8 g8
      try rw [← hB8]
      clear hb hB8
      have lt8 := lt_of_at r8
      replace lt7 := lt_of_at r7
      refine hK.out _ _ (hS) (fun hHeld => ?_)
      clear hK K
      try simp only [Act.put, List.setIfInBounds_toArray, List.set_cons_zero, List.set_cons_succ]
      refine wpAnyH_ready (rs := [2]) (by kernel_rfl) (by simp) ?_
      refine (AllReadyH.cons (i := 2) (o := ({ dst := some 13, op := Go.Op.call { callee := Go.Callee.value (Go.Operand.func 7), args := #[Go.Operand.tmp 11, Go.Operand.tmp 12], argTypes := #[31, 3] }, type := 31, pos := "law.go:112", after := #[{ on := 0, ground := Go.Ground.data }, { on := 1, ground := Go.Ground.data }], guard := none } : Oper)) rfl (fun K hK => ?_) AllReadyH.nil)
      rw [if_pos (by rfl)]
      go_simp
      refine (HMV.out V2).mono ?_
      rintro e V3 ⟨he, hb⟩
      subst he
      go_simp
      replace r7 := row_in hb r7 (lt_of_at r7)
      replace r8 := row_in hb r8 (lt_of_at r8)
      replace lt7 := lt_of_at r7
      replace lt8 := lt_of_at r8
      refine hK.out _ _ (hHeld.trans (hb.mono hHeld.size)) (fun hHeld => ?_)
      clear hK K
      try simp only [Act.put, List.setIfInBounds_toArray, List.set_cons_zero, List.set_cons_succ]
      refine wpAnyH_ready (rs := [8]) (by kernel_rfl) (by simp) ?_
      refine (AllReadyH.cons (i := 8) (o := ({ dst := some 19, op := Go.Op.call { callee := Go.Callee.value (Go.Operand.func 9), args := #[Go.Operand.tmp 14, Go.Operand.tmp 16, Go.Operand.tmp 18], argTypes := #[31, 3, 3] }, type := 31, pos := "law.go:112", after := #[{ on := 3, ground := Go.Ground.data }, { on := 5, ground := Go.Ground.data }, { on := 7, ground := Go.Ground.data }, { on := 2, ground := Go.Ground.chain }], guard := none } : Oper)) rfl (fun K hK => ?_) AllReadyH.nil)
      rw [if_pos (by rfl)]
      go_simp
      refine (HPT.out V3).mono ?_
      rintro e V4 ⟨he, hb⟩
      subst he
      go_simp
      replace r7 := row_in hb r7 (lt_of_at r7)
      replace r8 := row_in hb r8 (lt_of_at r8)
      replace lt7 := lt_of_at r7
      replace lt8 := lt_of_at r8
      refine hK.out _ _ (hHeld.trans (hb.mono hHeld.size)) (fun hHeld => ?_)
      clear hK K
      try simp only [Act.put, List.setIfInBounds_toArray, List.set_cons_zero, List.set_cons_succ]
      refine wpAnyH_ready (rs := [11]) (by kernel_rfl) (by simp) ?_
      refine (AllReadyH.cons (i := 11) (o := ({ dst := none, op := Go.Op.store 31 (Go.Operand.tmp 7) (Go.Operand.tmp 13), type := 0, pos := "law.go:112", after := #[{ on := 9, ground := Go.Ground.data }, { on := 2, ground := Go.Ground.data }, { on := 8, ground := Go.Ground.chain }, { on := 0, ground := Go.Ground.phase }, { on := 1, ground := Go.Ground.phase }, { on := 2, ground := Go.Ground.phase }, { on := 3, ground := Go.Ground.textOnly Go.Departure.lateStores }, { on := 4, ground := Go.Ground.textOnly Go.Departure.lateStores }, { on := 5, ground := Go.Ground.textOnly Go.Departure.lateStores }, { on := 6, ground := Go.Ground.textOnly Go.Departure.lateStores }, { on := 7, ground := Go.Ground.textOnly Go.Departure.lateStores }, { on := 8, ground := Go.Ground.textOnly Go.Departure.lateStoresUnsure }, { on := 9, ground := Go.Ground.phase }, { on := 10, ground := Go.Ground.phase }], guard := none } : Oper)) rfl (fun K hK => ?_) AllReadyH.nil)
      rw [if_pos (by rfl)]
      refine wp_store_row 31 (.tmp 7) (.tmp 13) rfl B7 (#[.int .i64 M.bl, .int .i64 M.off, .int .i64 M.lo, .int .i64 M.hi]) rfl rfl 31 (#[.int .i64 0, .int .i64 0, .int .i64 0, .int .i64 0]) r7 sizePtr rfl (by simp [Value.oneCell']) ?_
      have hS := hHeld.trans ((Onl.setRow B7 V4 (#[.int .i64 M.bl, .int .i64 M.off, .int .i64 M.lo, .int .i64 M.hi])).toBelow g7 hHeld.size)
      have hon := Onl.setRow B7 V4 (#[.int .i64 M.bl, .int .i64 M.off, .int .i64 M.lo, .int .i64 M.hi])
      replace r7 := setRow_heap V4 B7 _ (#[.int .i64 M.bl, .int .i64 M.off, .int .i64 M.lo, .int .i64 M.hi]) _ _ r7
      replace r8 := (setRow_other V4 B7 _ (#[.int .i64 M.bl, .int .i64 M.off, .int .i64 M.lo, .int .i64 M.hi]) (Ne.symm ne78)).trans r8
      generalize V4.setRow B7 (#[.int .i64 M.bl, .int .i64 M.off, .int .i64 M.lo, .int .i64 M.hi]) = V5 at *
      clear hon
      replace lt7 := lt_of_at r7
      replace lt8 := lt_of_at r8
      refine hK.out _ _ (hS) (fun hHeld => ?_)
      clear hK K
      try simp only [Act.put, List.setIfInBounds_toArray, List.set_cons_zero, List.set_cons_succ]
      refine wpAnyH_ready (rs := [12]) (by kernel_rfl) (by simp) ?_
      refine (AllReadyH.cons (i := 12) (o := ({ dst := none, op := Go.Op.store 31 (Go.Operand.tmp 8) (Go.Operand.tmp 19), type := 0, pos := "law.go:112", after := #[{ on := 10, ground := Go.Ground.data }, { on := 8, ground := Go.Ground.data }, { on := 11, ground := Go.Ground.chain }, { on := 0, ground := Go.Ground.phase }, { on := 1, ground := Go.Ground.phase }, { on := 2, ground := Go.Ground.phase }, { on := 3, ground := Go.Ground.phase }, { on := 4, ground := Go.Ground.phase }, { on := 5, ground := Go.Ground.phase }, { on := 6, ground := Go.Ground.phase }, { on := 7, ground := Go.Ground.phase }, { on := 8, ground := Go.Ground.phase }, { on := 9, ground := Go.Ground.phase }, { on := 10, ground := Go.Ground.phase }, { on := 11, ground := Go.Ground.phase }], guard := none } : Oper)) rfl (fun K hK => ?_) AllReadyH.nil)
      rw [if_pos (by rfl)]
      refine wp_store_row 31 (.tmp 8) (.tmp 19) rfl B8 (#[.int .i64 N.bl, .int .i64 N.off, .int .i64 N.lo, .int .i64 N.hi]) rfl rfl 31 (#[.int .i64 0, .int .i64 0, .int .i64 0, .int .i64 0]) r8 sizePtr rfl (by simp [Value.oneCell']) ?_
      have hS := hHeld.trans ((Onl.setRow B8 V5 (#[.int .i64 N.bl, .int .i64 N.off, .int .i64 N.lo, .int .i64 N.hi])).toBelow g8 hHeld.size)
      have hon := Onl.setRow B8 V5 (#[.int .i64 N.bl, .int .i64 N.off, .int .i64 N.lo, .int .i64 N.hi])
      replace r8 := setRow_heap V5 B8 _ (#[.int .i64 N.bl, .int .i64 N.off, .int .i64 N.lo, .int .i64 N.hi]) _ _ r8
      replace r7 := (setRow_other V5 B8 _ (#[.int .i64 N.bl, .int .i64 N.off, .int .i64 N.lo, .int .i64 N.hi]) ne78).trans r7
      generalize V5.setRow B8 (#[.int .i64 N.bl, .int .i64 N.off, .int .i64 N.lo, .int .i64 N.hi]) = V6 at *
      clear hon
      replace lt7 := lt_of_at r7
      replace lt8 := lt_of_at r8
      refine hK.out _ _ (hS) (fun hHeld => ?_)
      clear hK K
      try simp only [Act.put, List.setIfInBounds_toArray, List.set_cons_zero, List.set_cons_succ]
      refine wpAnyH_done (by kernel_rfl) ?_ _
      have HT := Lib.hid hHeld
      clear hHeld
      obtain ⟨B70, B71, B72, B73⟩ := cells4 r7
      obtain ⟨B80, B81, B82, B83⟩ := cells4 r8
      have hlB7 := lt_of_at r7
      have hlB8 := lt_of_at r8
      replace q0 := (HT.out.cell (p := ⟨n0, 0, none⟩) hn0).trans q0
      replace q1 := (HT.out.cell (p := ⟨n0, 1, none⟩) hn0).trans q1
      replace q2 := (HT.out.cell (p := ⟨n0, 2, none⟩) hn0).trans q2
      replace q3 := (HT.out.cell (p := ⟨n0, 3, none⟩) hn0).trans q3
      replace u0 := (HT.out.cell (p := ⟨n1, 0, none⟩) hn1).trans u0
      replace u1 := (HT.out.cell (p := ⟨n1, 1, none⟩) hn1).trans u1
      replace hn0 := Nat.lt_of_lt_of_le hn0 HT.out.size
      replace hn1 := Nat.lt_of_lt_of_le hn1 HT.out.size
      generalize hVV : V6 = T at *
      clear hVV r7 r8 g7 g8
      go_wp2_with fail
      refine wp_region_held_drew (S := fun W : World => Below T.heap.size T W) (by kernel_rfl) ((Below.refl _ _).drew) (fun hHeld => ?_)
      generalize T.drew = V0 at *
      refine wpAnyH_take (i := 0) (oi := ({ dst := some 20, op := Go.Op.load 31 (Go.Operand.tmp 7), type := 31, pos := "law.go:113", after := #[], guard := none } : Oper)) (v := .agg #[.int .i64 M.bl, .int .i64 M.off, .int .i64 M.lo, .int .i64 M.hi]) rfl (by kernel_rfl) (by kernel_rfl) (by kernel_rfl) (fun _ _ _ h => h) (Or.inl ⟨by rfl, ?hy1⟩) (by assumption) ?_
      case hy1 => ((intro W hSW; have e0 := (hSW.cell (p := ⟨B7, 0, none⟩) hlB7).trans B70; have e1 := (hSW.cell (p := ⟨B7, 1, none⟩) hlB7).trans B71; have e2 := (hSW.cell (p := ⟨B7, 2, none⟩) hlB7).trans B72; have e3 := (hSW.cell (p := ⟨B7, 3, none⟩) hlB7).trans B73; go_simp); (try with_reducible rfl); (try exact ⟨rfl, rfl, rfl⟩))
      simp only [Act.put, List.setIfInBounds_toArray, List.set_cons_zero, List.set_cons_succ]
      refine wpAnyH_take (i := 1) (oi := ({ dst := some 21, op := Go.Op.load 31 (Go.Operand.tmp 3), type := 31, pos := "law.go:113", after := #[], guard := none } : Oper)) (v := .agg #[.int .i64 p.bl, .int .i64 p.off, .int .i64 p.lo, .int .i64 p.hi]) rfl (by kernel_rfl) (by kernel_rfl) (by kernel_rfl) (fun _ _ _ h => h) (Or.inl ⟨by rfl, ?hy2⟩) (by assumption) ?_
      case hy2 => ((intro W hSW; have e0 := (hSW.cell (p := ⟨n0, 0, none⟩) hn0).trans q0; have e1 := (hSW.cell (p := ⟨n0, 1, none⟩) hn0).trans q1; have e2 := (hSW.cell (p := ⟨n0, 2, none⟩) hn0).trans q2; have e3 := (hSW.cell (p := ⟨n0, 3, none⟩) hn0).trans q3; go_simp); (try with_reducible rfl); (try exact ⟨rfl, rfl, rfl⟩))
      simp only [Act.put, List.setIfInBounds_toArray, List.set_cons_zero, List.set_cons_succ]
      refine wpAnyH_take (i := 2) (oi := ({ dst := some 22, op := Go.Op.move (Go.Operand.tmp 1), type := 3, pos := "law.go:113", after := #[], guard := none } : Oper)) (v := .int .i64 by_) rfl (by kernel_rfl) (by kernel_rfl) (by kernel_rfl) (fun _ _ _ h => h) (Or.inl ⟨by rfl, ?hy3⟩) (by assumption) ?_
      case hy3 => ((intro W hSW; (try dsimp only at hSW); go_simp); (try with_reducible rfl); (try exact ⟨rfl, rfl, rfl⟩))
      simp only [Act.put, List.setIfInBounds_toArray, List.set_cons_zero, List.set_cons_succ]
      refine wpAnyH_ready (rs := [3]) (by kernel_rfl) (by simp) ?_
      refine (AllReadyH.cons (i := 3) (o := ({ dst := some 23, op := Go.Op.call { callee := Go.Callee.value (Go.Operand.func 8), args := #[Go.Operand.tmp 21, Go.Operand.tmp 22], argTypes := #[39, 3] }, type := 39, pos := "law.go:113", after := #[{ on := 1, ground := Go.Ground.data }, { on := 2, ground := Go.Ground.data }], guard := none } : Oper)) rfl (fun K hK => ?_) AllReadyH.nil)
      rw [if_pos (by rfl)]
      go_simp
      refine (HRM.out V0).mono ?_
      rintro e V1 ⟨he, hb⟩
      subst he
      go_simp
      refine hK.out _ _ (hHeld.trans (hb.mono hHeld.size)) (fun hHeld => ?_)
      clear hK K
      try simp only [Act.put, List.setIfInBounds_toArray, List.set_cons_zero, List.set_cons_succ]
      refine wpAnyH_take (i := 4) (oi := ({ dst := some 24, op := Go.Op.binOp Go.BinOp.neq 39 (Go.Operand.tmp 20) (Go.Operand.tmp 23) 39, type := 4, pos := "law.go:113", after := #[{ on := 0, ground := Go.Ground.data }, { on := 3, ground := Go.Ground.data }], guard := none } : Oper)) (v := .bool false) rfl (by kernel_rfl) (by kernel_rfl) (by kernel_rfl) (fun _ _ _ h => h) (Or.inl ⟨by rfl, ?hy4⟩) (by assumption) ?_
      case hy4 => ((intro W hSW; (try dsimp only at hSW); go_simp); (try with_reducible rfl); (try exact ⟨rfl, rfl, rfl⟩))
      simp only [Act.put, List.setIfInBounds_toArray, List.set_cons_zero, List.set_cons_succ]
      refine wpAnyH_take (i := 5) (oi := ({ dst := some 25, op := Go.Op.move (Go.Operand.tmp 24), type := 4, pos := "law.go:113", after := #[{ on := 4, ground := Go.Ground.data }, { on := 3, ground := Go.Ground.chain }], guard := none } : Oper)) (v := .bool false) rfl (by kernel_rfl) (by kernel_rfl) (by kernel_rfl) (fun _ _ _ h => h) (Or.inl ⟨by rfl, ?hy5⟩) (by assumption) ?_
      case hy5 => ((intro W hSW; (try dsimp only at hSW); go_simp); (try with_reducible rfl); (try exact ⟨rfl, rfl, rfl⟩))
      simp only [Act.put, List.setIfInBounds_toArray, List.set_cons_zero, List.set_cons_succ]
      refine wpAnyH_take (i := 6) (oi := ({ dst := some 26, op := Go.Op.load 31 (Go.Operand.tmp 8), type := 31, pos := "law.go:113", after := #[{ on := 5, ground := Go.Ground.guard }], guard := some (5, false) } : Oper)) (v := .agg #[.int .i64 N.bl, .int .i64 N.off, .int .i64 N.lo, .int .i64 N.hi]) rfl (by kernel_rfl) (by kernel_rfl) (by kernel_rfl) (fun _ _ _ h => h) (Or.inl ⟨by rfl, ?hy6⟩) (by assumption) ?_
      case hy6 => ((intro W hSW; have e0 := (hSW.cell (p := ⟨B8, 0, none⟩) hlB8).trans B80; have e1 := (hSW.cell (p := ⟨B8, 1, none⟩) hlB8).trans B81; have e2 := (hSW.cell (p := ⟨B8, 2, none⟩) hlB8).trans B82; have e3 := (hSW.cell (p := ⟨B8, 3, none⟩) hlB8).trans B83; go_simp); (try with_reducible rfl); (try exact ⟨rfl, rfl, rfl⟩))
      simp only [Act.put, List.setIfInBounds_toArray, List.set_cons_zero, List.set_cons_succ]
      refine wpAnyH_take (i := 7) (oi := ({ dst := some 27, op := Go.Op.load 31 (Go.Operand.tmp 3), type := 31, pos := "law.go:113", after := #[{ on := 5, ground := Go.Ground.guard }], guard := some (5, false) } : Oper)) (v := .agg #[.int .i64 p.bl, .int .i64 p.off, .int .i64 p.lo, .int .i64 p.hi]) rfl (by kernel_rfl) (by kernel_rfl) (by kernel_rfl) (fun _ _ _ h => h) (Or.inl ⟨by rfl, ?hy7⟩) (by assumption) ?_
      case hy7 => ((intro W hSW; have e0 := (hSW.cell (p := ⟨n0, 0, none⟩) hn0).trans q0; have e1 := (hSW.cell (p := ⟨n0, 1, none⟩) hn0).trans q1; have e2 := (hSW.cell (p := ⟨n0, 2, none⟩) hn0).trans q2; have e3 := (hSW.cell (p := ⟨n0, 3, none⟩) hn0).trans q3; go_simp); (try with_reducible rfl); (try exact ⟨rfl, rfl, rfl⟩))
      simp only [Act.put, List.setIfInBounds_toArray, List.set_cons_zero, List.set_cons_succ]
      refine wpAnyH_take (i := 8) (oi := ({ dst := some 28, op := Go.Op.indexAddr 32 (Go.Operand.tmp 5) (Go.Operand.const (Go.Value.int Go.IntKind.i64 0)), type := 0, pos := "law.go:113", after := #[{ on := 5, ground := Go.Ground.guard }], guard := some (5, false) } : Oper)) (v := .pointer (some ⟨n1, 0, none⟩)) rfl (by kernel_rfl) (by kernel_rfl) (by kernel_rfl) (fun _ _ _ h => h) (Or.inl ⟨by rfl, ?hy8⟩) (by assumption) ?_
      case hy8 => ((intro W hSW; (try dsimp only at hSW); go_simp); (try with_reducible rfl); (try exact ⟨rfl, rfl, rfl⟩))
      simp only [Act.put, List.setIfInBounds_toArray, List.set_cons_zero, List.set_cons_succ]
      refine wpAnyH_take (i := 9) (oi := ({ dst := some 29, op := Go.Op.load 3 (Go.Operand.tmp 28), type := 3, pos := "law.go:113", after := #[{ on := 8, ground := Go.Ground.data }, { on := 5, ground := Go.Ground.guard }], guard := some (5, false) } : Oper)) (v := .int .i64 x0) rfl (by kernel_rfl) (by kernel_rfl) (by kernel_rfl) (fun _ _ _ h => h) (Or.inl ⟨by rfl, ?hy9⟩) (by assumption) ?_
      case hy9 => ((intro W hSW; have e0 := (hSW.cell (p := ⟨n1, 0, none⟩) hn1).trans u0; go_simp); (try with_reducible rfl); (try exact ⟨rfl, rfl, rfl⟩))
      simp only [Act.put, List.setIfInBounds_toArray, List.set_cons_zero, List.set_cons_succ]
      refine wpAnyH_take (i := 10) (oi := ({ dst := some 30, op := Go.Op.indexAddr 32 (Go.Operand.tmp 5) (Go.Operand.const (Go.Value.int Go.IntKind.i64 1)), type := 0, pos := "law.go:113", after := #[{ on := 5, ground := Go.Ground.guard }], guard := some (5, false) } : Oper)) (v := .pointer (some ⟨n1, 1, none⟩)) rfl (by kernel_rfl) (by kernel_rfl) (by kernel_rfl) (fun _ _ _ h => h) (Or.inl ⟨by rfl, ?hy10⟩) (by assumption) ?_
      case hy10 => ((intro W hSW; (try dsimp only at hSW); go_simp); (try with_reducible rfl); (try exact ⟨rfl, rfl, rfl⟩))
      simp only [Act.put, List.setIfInBounds_toArray, List.set_cons_zero, List.set_cons_succ]
      refine wpAnyH_take (i := 11) (oi := ({ dst := some 31, op := Go.Op.load 3 (Go.Operand.tmp 30), type := 3, pos := "law.go:113", after := #[{ on := 10, ground := Go.Ground.data }, { on := 5, ground := Go.Ground.guard }], guard := some (5, false) } : Oper)) (v := .int .i64 x1) rfl (by kernel_rfl) (by kernel_rfl) (by kernel_rfl) (fun _ _ _ h => h) (Or.inl ⟨by rfl, ?hy11⟩) (by assumption) ?_
      case hy11 => ((intro W hSW; have e0 := (hSW.cell (p := ⟨n1, 1, none⟩) hn1).trans u1; go_simp); (try with_reducible rfl); (try exact ⟨rfl, rfl, rfl⟩))
      simp only [Act.put, List.setIfInBounds_toArray, List.set_cons_zero, List.set_cons_succ]
      refine wpAnyH_ready (rs := [12]) (by kernel_rfl) (by simp) ?_
      refine (AllReadyH.cons (i := 12) (o := ({ dst := some 32, op := Go.Op.call { callee := Go.Callee.value (Go.Operand.func 10), args := #[Go.Operand.tmp 27, Go.Operand.tmp 29, Go.Operand.tmp 31], argTypes := #[39, 3, 3] }, type := 39, pos := "law.go:113", after := #[{ on := 7, ground := Go.Ground.data }, { on := 9, ground := Go.Ground.data }, { on := 11, ground := Go.Ground.data }, { on := 5, ground := Go.Ground.chain }, { on := 5, ground := Go.Ground.guard }], guard := some (5, false) } : Oper)) rfl (fun K hK => ?_) AllReadyH.nil)
      rw [if_pos (by rfl)]
      go_simp
      refine (HRP.out V1).mono ?_
      rintro e V2 ⟨he, hb⟩
      subst he
      go_simp
      refine hK.out _ _ (hHeld.trans (hb.mono hHeld.size)) (fun hHeld => ?_)
      clear hK K
      try simp only [Act.put, List.setIfInBounds_toArray, List.set_cons_zero, List.set_cons_succ]
      refine wpAnyH_take (i := 13) (oi := ({ dst := some 33, op := Go.Op.binOp Go.BinOp.neq 39 (Go.Operand.tmp 26) (Go.Operand.tmp 32) 39, type := 4, pos := "law.go:113", after := #[{ on := 6, ground := Go.Ground.data }, { on := 12, ground := Go.Ground.data }, { on := 5, ground := Go.Ground.guard }], guard := some (5, false) } : Oper)) (v := .bool false) rfl (by kernel_rfl) (by kernel_rfl) (by kernel_rfl) (fun _ _ _ h => h) (Or.inl ⟨by rfl, ?hy12⟩) (by assumption) ?_
      case hy12 => ((intro W hSW; (try dsimp only at hSW); go_simp); (try with_reducible rfl); (try exact ⟨rfl, rfl, rfl⟩))
      simp only [Act.put, List.setIfInBounds_toArray, List.set_cons_zero, List.set_cons_succ]
      refine wpAnyH_take (i := 14) (oi := ({ dst := some 34, op := Go.Op.pick (Go.Operand.tmp 25) (Go.Operand.const (Go.Value.bool true)) (Go.Operand.tmp 33), type := 4, pos := "law.go:113", after := #[{ on := 5, ground := Go.Ground.data }, { on := 13, ground := Go.Ground.data }], guard := none } : Oper)) (v := .bool false) rfl (by kernel_rfl) (by kernel_rfl) (by kernel_rfl) (fun _ _ _ h => h) (Or.inl ⟨by rfl, ?hy13⟩) (by assumption) ?_
      case hy13 => ((intro W hSW; (try dsimp only at hSW); go_simp); (try with_reducible rfl); (try exact ⟨rfl, rfl, rfl⟩))
      simp only [Act.put, List.setIfInBounds_toArray, List.set_cons_zero, List.set_cons_succ]
      refine wpAnyH_done (by kernel_rfl) ?_ _
      have HW := Lib.hid hHeld
      clear hHeld
      have z1 := HBX.out.size
      rw [HN0.out] at z1
      have z2 := HT.out.size
      have wq0 := (HW.out.cell (p := ⟨n0, 0, none⟩) hn0).trans q0
      have wq1 := (HW.out.cell (p := ⟨n0, 1, none⟩) hn0).trans q1
      have wq2 := (HW.out.cell (p := ⟨n0, 2, none⟩) hn0).trans q2
      have wq3 := (HW.out.cell (p := ⟨n0, 3, none⟩) hn0).trans q3
      have wB70 := (HW.out.cell (p := ⟨B7, 0, none⟩) hlB7).trans B70
      have wB71 := (HW.out.cell (p := ⟨B7, 1, none⟩) hlB7).trans B71
      have wB72 := (HW.out.cell (p := ⟨B7, 2, none⟩) hlB7).trans B72
      have wB73 := (HW.out.cell (p := ⟨B7, 3, none⟩) hlB7).trans B73
      have wB80 := (HW.out.cell (p := ⟨B8, 0, none⟩) hlB8).trans B80
      have wB81 := (HW.out.cell (p := ⟨B8, 1, none⟩) hlB8).trans B81
      have wB82 := (HW.out.cell (p := ⟨B8, 2, none⟩) hlB8).trans B82
      have wB83 := (HW.out.cell (p := ⟨B8, 3, none⟩) hlB8).trans B83
      by_cases hz : p.bl = 0
      · obtain ⟨e1, e2⟩ := HM.out hz
        rw [e1] at wB70 wB71 wB72 wB73
        rw [e2] at wB80 wB81 wB82 wB83
        rw [hz] at wq0 wB70 wB80
        clear hz e1 e2
        go_wp2
        go_ret
        exact ⟨rfl, by rw [HN0.out]; exact HBX.out.trans ((HT.out.mono (by omega)).trans (HW.out.mono (by omega)))⟩
      · have hz2 : (p.bl != 0) = true := by simpa using hz
        clear hz
        go_wp2
        go_ret
        exact ⟨rfl, by rw [HN0.out]; exact HBX.out.trans ((HT.out.mono (by omega)).trans (HW.out.mono (by omega)))⟩
  · rw [if_pos (by rfl)]
    go_simp
    have hb : Below V0.heap.size V0 (V0.alloc (.cells #[.int .i64 0, .int .i64 0, .int .i64 0, .int .i64 0] 31)) := (Below.refl _ _).alloc (Nat.le_refl _) _
    have r8 := heap_alloc_new V0 (.cells #[.int .i64 0, .int .i64 0, .int .i64 0, .int .i64 0] 31)
    have g8 := hHeld.size
    have hS := hHeld.trans (hb.mono hHeld.size)
    generalize V0.alloc (.cells #[.int .i64 0, .int .i64 0, .int .i64 0, .int .i64 0] 31) = V1 at *
    obtain ⟨B8, hB8⟩ : ∃ B, B = V0.heap.size := ⟨_, rfl⟩
    rw [← hB8] at r8 g8
    try rw [← hB8]
    clear hb hB8
    have lt8 := lt_of_at r8
    refine hK.out _ _ (hS) (fun hHeld => ?_)
    clear hK K
    try simp only [Act.put, List.setIfInBounds_toArray, List.set_cons_zero, List.set_cons_succ]
    refine wpAnyH_ready (rs := [2, 9]) (by kernel_rfl) (by simp) ?_
    refine (AllReadyH.cons (i := 2) (o := ({ dst := some 13, op := Go.Op.call { callee := Go.Callee.value (Go.Operand.func 7), args := #[Go.Operand.tmp 11, Go.Operand.tmp 12], argTypes := #[31, 3] }, type := 31, pos := "law.go:112", after := #[{ on := 0, ground := Go.Ground.data }, { on := 1, ground := Go.Ground.data }], guard := none } : Oper)) rfl (fun K hK => ?_) (AllReadyH.cons (i := 9) (o := ({ dst := some 7, op := Go.Op.alloc 31, type := 0, pos := "law.go:112", after := #[], guard := none } : Oper)) rfl (fun K hK => ?_) AllReadyH.nil))
    · rw [if_pos (by rfl)]
      go_simp
      refine (HMV.out V1).mono ?_
      rintro e V2 ⟨he, hb⟩
      subst he
      go_simp
      replace r8 := row_in hb r8 (lt_of_at r8)
      replace lt8 := lt_of_at r8
      refine hK.out _ _ (hHeld.trans (hb.mono hHeld.size)) (fun hHeld => ?_)
      clear hK K
      try simp only [Act.put, List.setIfInBounds_toArray, List.set_cons_zero, List.set_cons_succ]
      refine wpAnyH_ready (rs := [8, 9]) (by kernel_rfl) (by simp) ?_
      refine (AllReadyH.cons (i := 8) (o := ({ dst := some 19, op := Go.Op.call { callee := Go.Callee.value (Go.Operand.func 9), args := #[Go.Operand.tmp 14, Go.Operand.tmp 16, Go.Operand.tmp 18], argTypes := #[31, 3, 3] }, type := 31, pos := "law.go:112", after := #[{ on := 3, ground := Go.Ground.data }, { on := 5, ground := Go.Ground.data }, { on := 7, ground := Go.Ground.data }, { on := 2, ground := Go.Ground.chain }], guard := none } : Oper)) rfl (fun K hK => ?_) (AllReadyH.cons (i := 9) (o := ({ dst := some 7, op := Go.Op.alloc 31, type := 0, pos := "law.go:112", after := #[], guard := none } : Oper)) rfl (fun K hK => ?_) AllReadyH.nil))
      · rw [if_pos (by rfl)]
        go_simp
        refine (HPT.out V2).mono ?_
        rintro e V3 ⟨he, hb⟩
        subst he
        go_simp
        replace r8 := row_in hb r8 (lt_of_at r8)
        replace lt8 := lt_of_at r8
        refine hK.out _ _ (hHeld.trans (hb.mono hHeld.size)) (fun hHeld => ?_)
        clear hK K
        try simp only [Act.put, List.setIfInBounds_toArray, List.set_cons_zero, List.set_cons_succ]
        refine wpAnyH_ready (rs := [9]) (by kernel_rfl) (by simp) ?_
        refine (AllReadyH.cons (i := 9) (o := ({ dst := some 7, op := Go.Op.alloc 31, type := 0, pos := "law.go:112", after := #[], guard := none } : Oper)) rfl (fun K hK => ?_) AllReadyH.nil)
        rw [if_pos (by rfl)]
        go_simp
        have hb : Below V3.heap.size V3 (V3.alloc (.cells #[.int .i64 0, .int .i64 0, .int .i64 0, .int .i64 0] 31)) := (Below.refl _ _).alloc (Nat.le_refl _) _
        have r7 := heap_alloc_new V3 (.cells #[.int .i64 0, .int .i64 0, .int .i64 0, .int .i64 0] 31)
        have g7 := hHeld.size
        replace r8 := row_in hb r8 (lt_of_at r8)
        have hS := hHeld.trans (hb.mono hHeld.size)
        generalize V3.alloc (.cells #[.int .i64 0, .int .i64 0, .int .i64 0, .int .i64 0] 31) = V4 at *
        obtain ⟨B7, hB7⟩ : ∃ B, B = V3.heap.size := ⟨_, rfl⟩
        have ne87 : B8 ≠ B7 := by rw [hB7]; exact Nat.ne_of_lt lt8
        rw [← hB7] at r7 g7
        try rw [← hB7]
        clear hb hB7
        have lt7 := lt_of_at r7
        replace lt8 := lt_of_at r8
        refine hK.out _ _ (hS) (fun hHeld => ?_)
        clear hK K
        try simp only [Act.put, List.setIfInBounds_toArray, List.set_cons_zero, List.set_cons_succ]
        refine wpAnyH_ready (rs := [11]) (by kernel_rfl) (by simp) ?_
        refine (AllReadyH.cons (i := 11) (o := ({ dst := none, op := Go.Op.store 31 (Go.Operand.tmp 7) (Go.Operand.tmp 13), type := 0, pos := "law.go:112", after := #[{ on := 9, ground := Go.Ground.data }, { on := 2, ground := Go.Ground.data }, { on := 8, ground := Go.Ground.chain }, { on := 0, ground := Go.Ground.phase }, { on := 1, ground := Go.Ground.phase }, { on := 2, ground := Go.Ground.phase }, { on := 3, ground := Go.Ground.textOnly Go.Departure.lateStores }, { on := 4, ground := Go.Ground.textOnly Go.Departure.lateStores }, { on := 5, ground := Go.Ground.textOnly Go.Departure.lateStores }, { on := 6, ground := Go.Ground.textOnly Go.Departure.lateStores }, { on := 7, ground := Go.Ground.textOnly Go.Departure.lateStores }, { on := 8, ground := Go.Ground.textOnly Go.Departure.lateStoresUnsure }, { on := 9, ground := Go.Ground.phase }, { on := 10, ground := Go.Ground.phase }], guard := none } : Oper)) rfl (fun K hK => ?_) AllReadyH.nil)
        rw [if_pos (by rfl)]
        refine wp_store_row 31 (.tmp 7) (.tmp 13) rfl B7 (#[.int .i64 M.bl, .int .i64 M.off, .int .i64 M.lo, .int .i64 M.hi]) rfl rfl 31 (#[.int .i64 0, .int .i64 0, .int .i64 0, .int .i64 0]) r7 sizePtr rfl (by simp [Value.oneCell']) ?_
        have hS := hHeld.trans ((Onl.setRow B7 V4 (#[.int .i64 M.bl, .int .i64 M.off, .int .i64 M.lo, .int .i64 M.hi])).toBelow g7 hHeld.size)
        have hon := Onl.setRow B7 V4 (#[.int .i64 M.bl, .int .i64 M.off, .int .i64 M.lo, .int .i64 M.hi])
        replace r7 := setRow_heap V4 B7 _ (#[.int .i64 M.bl, .int .i64 M.off, .int .i64 M.lo, .int .i64 M.hi]) _ _ r7
        replace r8 := (setRow_other V4 B7 _ (#[.int .i64 M.bl, .int .i64 M.off, .int .i64 M.lo, .int .i64 M.hi]) ne87).trans r8
        generalize V4.setRow B7 (#[.int .i64 M.bl, .int .i64 M.off, .int .i64 M.lo, .int .i64 M.hi]) = V5 at *
        clear hon
        replace lt8 := lt_of_at r8
        replace lt7 := lt_of_at r7
        refine hK.out _ _ (hS) (fun hHeld => ?_)
        clear hK K
        try simp only [Act.put, List.setIfInBounds_toArray, List.set_cons_zero, List.set_cons_succ]
        refine wpAnyH_ready (rs := [12]) (by kernel_rfl) (by simp) ?_
        refine (AllReadyH.cons (i := 12) (o := ({ dst := none, op := Go.Op.store 31 (Go.Operand.tmp 8) (Go.Operand.tmp 19), type := 0, pos := "law.go:112", after := #[{ on := 10, ground := Go.Ground.data }, { on := 8, ground := Go.Ground.data }, { on := 11, ground := Go.Ground.chain }, { on := 0, ground := Go.Ground.phase }, { on := 1, ground := Go.Ground.phase }, { on := 2, ground := Go.Ground.phase }, { on := 3, ground := Go.Ground.phase }, { on := 4, ground := Go.Ground.phase }, { on := 5, ground := Go.Ground.phase }, { on := 6, ground := Go.Ground.phase }, { on := 7, ground := Go.Ground.phase }, { on := 8, ground := Go.Ground.phase }, { on := 9, ground := Go.Ground.phase }, { on := 10, ground := Go.Ground.phase }, { on := 11, ground := Go.Ground.phase }], guard := none } : Oper)) rfl (fun K hK => ?_) AllReadyH.nil)
        rw [if_pos (by rfl)]
        refine wp_store_row 31 (.tmp 8) (.tmp 19) rfl B8 (#[.int .i64 N.bl, .int .i64 N.off, .int .i64 N.lo, .int .i64 N.hi]) rfl rfl 31 (#[.int .i64 0, .int .i64 0, .int .i64 0, .int .i64 0]) r8 sizePtr rfl (by simp [Value.oneCell']) ?_
        have hS := hHeld.trans ((Onl.setRow B8 V5 (#[.int .i64 N.bl, .int .i64 N.off, .int .i64 N.lo, .int .i64 N.hi])).toBelow g8 hHeld.size)
        have hon := Onl.setRow B8 V5 (#[.int .i64 N.bl, .int .i64 N.off, .int .i64 N.lo, .int .i64 N.hi])
        replace r8 := setRow_heap V5 B8 _ (#[.int .i64 N.bl, .int .i64 N.off, .int .i64 N.lo, .int .i64 N.hi]) _ _ r8
        replace r7 := (setRow_other V5 B8 _ (#[.int .i64 N.bl, .int .i64 N.off, .int .i64 N.lo, .int .i64 N.hi]) (Ne.symm ne87)).trans r7
        generalize V5.setRow B8 (#[.int .i64 N.bl, .int .i64 N.off, .int .i64 N.lo, .int .i64 N.hi]) = V6 at *
        clear hon
        replace lt8 := lt_of_at r8
        replace lt7 := lt_of_at r7
        refine hK.out _ _ (hS) (fun hHeld => ?_)
        clear hK K
        try simp only [Act.put, List.setIfInBounds_toArray, List.set_cons_zero, List.set_cons_succ]
        refine wpAnyH_done (by kernel_rfl) ?_ _
        have HT := Lib.hid hHeld
        clear hHeld
        obtain ⟨B70, B71, B72, B73⟩ := cells4 r7
        obtain ⟨B80, B81, B82, B83⟩ := cells4 r8
        have hlB7 := lt_of_at r7
        have hlB8 := lt_of_at r8
        replace q0 := (HT.out.cell (p := ⟨n0, 0, none⟩) hn0).trans q0
        replace q1 := (HT.out.cell (p := ⟨n0, 1, none⟩) hn0).trans q1
        replace q2 := (HT.out.cell (p := ⟨n0, 2, none⟩) hn0).trans q2
        replace q3 := (HT.out.cell (p := ⟨n0, 3, none⟩) hn0).trans q3
        replace u0 := (HT.out.cell (p := ⟨n1, 0, none⟩) hn1).trans u0
        replace u1 := (HT.out.cell (p := ⟨n1, 1, none⟩) hn1).trans u1
        replace hn0 := Nat.lt_of_lt_of_le hn0 HT.out.size
        replace hn1 := Nat.lt_of_lt_of_le hn1 HT.out.size
        generalize hVV : V6 = T at *
        clear hVV r7 r8 g7 g8
        go_wp2_with fail
        refine wp_region_held_drew (S := fun W : World => Below T.heap.size T W) (by kernel_rfl) ((Below.refl _ _).drew) (fun hHeld => ?_)
        generalize T.drew = V0 at *
        refine wpAnyH_take (i := 0) (oi := ({ dst := some 20, op := Go.Op.load 31 (Go.Operand.tmp 7), type := 31, pos := "law.go:113", after := #[], guard := none } : Oper)) (v := .agg #[.int .i64 M.bl, .int .i64 M.off, .int .i64 M.lo, .int .i64 M.hi]) rfl (by kernel_rfl) (by kernel_rfl) (by kernel_rfl) (fun _ _ _ h => h) (Or.inl ⟨by rfl, ?hy1⟩) (by assumption) ?_
        case hy1 => ((intro W hSW; have e0 := (hSW.cell (p := ⟨B7, 0, none⟩) hlB7).trans B70; have e1 := (hSW.cell (p := ⟨B7, 1, none⟩) hlB7).trans B71; have e2 := (hSW.cell (p := ⟨B7, 2, none⟩) hlB7).trans B72; have e3 := (hSW.cell (p := ⟨B7, 3, none⟩) hlB7).trans B73; go_simp); (try with_reducible rfl); (try exact ⟨rfl, rfl, rfl⟩))
        simp only [Act.put, List.setIfInBounds_toArray, List.set_cons_zero, List.set_cons_succ]
        refine wpAnyH_take (i := 1) (oi := ({ dst := some 21, op := Go.Op.load 31 (Go.Operand.tmp 3), type := 31, pos := "law.go:113", after := #[], guard := none } : Oper)) (v := .agg #[.int .i64 p.bl, .int .i64 p.off, .int .i64 p.lo, .int .i64 p.hi]) rfl (by kernel_rfl) (by kernel_rfl) (by kernel_rfl) (fun _ _ _ h => h) (Or.inl ⟨by rfl, ?hy2⟩) (by assumption) ?_
        case hy2 => ((intro W hSW; have e0 := (hSW.cell (p := ⟨n0, 0, none⟩) hn0).trans q0; have e1 := (hSW.cell (p := ⟨n0, 1, none⟩) hn0).trans q1; have e2 := (hSW.cell (p := ⟨n0, 2, none⟩) hn0).trans q2; have e3 := (hSW.cell (p := ⟨n0, 3, none⟩) hn0).trans q3; go_simp); (try with_reducible rfl); (try exact ⟨rfl, rfl, rfl⟩))
        simp only [Act.put, List.setIfInBounds_toArray, List.set_cons_zero, List.set_cons_succ]
        refine wpAnyH_take (i := 2) (oi := ({ dst := some 22, op := Go.Op.move (Go.Operand.tmp 1), type := 3, pos := "law.go:113", after := #[], guard := none } : Oper)) (v := .int .i64 by_) rfl (by kernel_rfl) (by kernel_rfl) (by kernel_rfl) (fun _ _ _ h => h) (Or.inl ⟨by rfl, ?hy3⟩) (by assumption) ?_
        case hy3 => ((intro W hSW; (try dsimp only at hSW); go_simp); (try with_reducible rfl); (try exact ⟨rfl, rfl, rfl⟩))
        simp only [Act.put, List.setIfInBounds_toArray, List.set_cons_zero, List.set_cons_succ]
        refine wpAnyH_ready (rs := [3]) (by kernel_rfl) (by simp) ?_
        refine (AllReadyH.cons (i := 3) (o := ({ dst := some 23, op := Go.Op.call { callee := Go.Callee.value (Go.Operand.func 8), args := #[Go.Operand.tmp 21, Go.Operand.tmp 22], argTypes := #[39, 3] }, type := 39, pos := "law.go:113", after := #[{ on := 1, ground := Go.Ground.data }, { on := 2, ground := Go.Ground.data }], guard := none } : Oper)) rfl (fun K hK => ?_) AllReadyH.nil)
        rw [if_pos (by rfl)]
        go_simp
        refine (HRM.out V0).mono ?_
        rintro e V1 ⟨he, hb⟩
        subst he
        go_simp
        refine hK.out _ _ (hHeld.trans (hb.mono hHeld.size)) (fun hHeld => ?_)
        clear hK K
        try simp only [Act.put, List.setIfInBounds_toArray, List.set_cons_zero, List.set_cons_succ]
        refine wpAnyH_take (i := 4) (oi := ({ dst := some 24, op := Go.Op.binOp Go.BinOp.neq 39 (Go.Operand.tmp 20) (Go.Operand.tmp 23) 39, type := 4, pos := "law.go:113", after := #[{ on := 0, ground := Go.Ground.data }, { on := 3, ground := Go.Ground.data }], guard := none } : Oper)) (v := .bool false) rfl (by kernel_rfl) (by kernel_rfl) (by kernel_rfl) (fun _ _ _ h => h) (Or.inl ⟨by rfl, ?hy4⟩) (by assumption) ?_
        case hy4 => ((intro W hSW; (try dsimp only at hSW); go_simp); (try with_reducible rfl); (try exact ⟨rfl, rfl, rfl⟩))
        simp only [Act.put, List.setIfInBounds_toArray, List.set_cons_zero, List.set_cons_succ]
        refine wpAnyH_take (i := 5) (oi := ({ dst := some 25, op := Go.Op.move (Go.Operand.tmp 24), type := 4, pos := "law.go:113", after := #[{ on := 4, ground := Go.Ground.data }, { on := 3, ground := Go.Ground.chain }], guard := none } : Oper)) (v := .bool false) rfl (by kernel_rfl) (by kernel_rfl) (by kernel_rfl) (fun _ _ _ h => h) (Or.inl ⟨by rfl, ?hy5⟩) (by assumption) ?_
        case hy5 => ((intro W hSW; (try dsimp only at hSW); go_simp); (try with_reducible rfl); (try exact ⟨rfl, rfl, rfl⟩))
        simp only [Act.put, List.setIfInBounds_toArray, List.set_cons_zero, List.set_cons_succ]
        refine wpAnyH_take (i := 6) (oi := ({ dst := some 26, op := Go.Op.load 31 (Go.Operand.tmp 8), type := 31, pos := "law.go:113", after := #[{ on := 5, ground := Go.Ground.guard }], guard := some (5, false) } : Oper)) (v := .agg #[.int .i64 N.bl, .int .i64 N.off, .int .i64 N.lo, .int .i64 N.hi]) rfl (by kernel_rfl) (by kernel_rfl) (by kernel_rfl) (fun _ _ _ h => h) (Or.inl ⟨by rfl, ?hy6⟩) (by assumption) ?_
        case hy6 => ((intro W hSW; have e0 := (hSW.cell (p := ⟨B8, 0, none⟩) hlB8).trans B80; have e1 := (hSW.cell (p := ⟨B8, 1, none⟩) hlB8).trans B81; have e2 := (hSW.cell (p := ⟨B8, 2, none⟩) hlB8).trans B82; have e3 := (hSW.cell (p := ⟨B8, 3, none⟩) hlB8).trans B83; go_simp); (try with_reducible rfl); (try exact ⟨rfl, rfl, rfl⟩))
        simp only [Act.put, List.setIfInBounds_toArray, List.set_cons_zero, List.set_cons_succ]
        refine wpAnyH_take (i := 7) (oi := ({ dst := some 27, op := Go.Op.load 31 (Go.Operand.tmp 3), type := 31, pos := "law.go:113", after := #[{ on := 5, ground := Go.Ground.guard }], guard := some (5, false) } : Oper)) (v := .agg #[.int .i64 p.bl, .int .i64 p.off, .int .i64 p.lo, .int .i64 p.hi]) rfl (by kernel_rfl) (by kernel_rfl) (by kernel_rfl) (fun _ _ _ h => h) (Or.inl ⟨by rfl, ?hy7⟩) (by assumption) ?_
        case hy7 => ((intro W hSW; have e0 := (hSW.cell (p := ⟨n0, 0, none⟩) hn0).trans q0; have e1 := (hSW.cell (p := ⟨n0, 1, none⟩) hn0).trans q1; have e2 := (hSW.cell (p := ⟨n0, 2, none⟩) hn0).trans q2; have e3 := (hSW.cell (p := ⟨n0, 3, none⟩) hn0).trans q3; go_simp); (try with_reducible rfl); (try exact ⟨rfl, rfl, rfl⟩))
        simp only [Act.put, List.setIfInBounds_toArray, List.set_cons_zero, List.set_cons_succ]
        refine wpAnyH_take (i := 8) (oi := ({ dst := some 28, op := Go.Op.indexAddr 32 (Go.Operand.tmp 5) (Go.Operand.const (Go.Value.int Go.IntKind.i64 0)), type := 0, pos := "law.go:113", after := #[{ on := 5, ground := Go.Ground.guard }], guard := some (5, false) } : Oper)) (v := .pointer (some ⟨n1, 0, none⟩)) rfl (by kernel_rfl) (by kernel_rfl) (by kernel_rfl) (fun _ _ _ h => h) (Or.inl ⟨by rfl, ?hy8⟩) (by assumption) ?_
        case hy8 => ((intro W hSW; (try dsimp only at hSW); go_simp); (try with_reducible rfl); (try exact ⟨rfl, rfl, rfl⟩))
        simp only [Act.put, List.setIfInBounds_toArray, List.set_cons_zero, List.set_cons_succ]
        refine wpAnyH_take (i := 9) (oi := ({ dst := some 29, op := Go.Op.load 3 (Go.Operand.tmp 28), type := 3, pos := "law.go:113", after := #[{ on := 8, ground := Go.Ground.data }, { on := 5, ground := Go.Ground.guard }], guard := some (5, false) } : Oper)) (v := .int .i64 x0) rfl (by kernel_rfl) (by kernel_rfl) (by kernel_rfl) (fun _ _ _ h => h) (Or.inl ⟨by rfl, ?hy9⟩) (by assumption) ?_
        case hy9 => ((intro W hSW; have e0 := (hSW.cell (p := ⟨n1, 0, none⟩) hn1).trans u0; go_simp); (try with_reducible rfl); (try exact ⟨rfl, rfl, rfl⟩))
        simp only [Act.put, List.setIfInBounds_toArray, List.set_cons_zero, List.set_cons_succ]
        refine wpAnyH_take (i := 10) (oi := ({ dst := some 30, op := Go.Op.indexAddr 32 (Go.Operand.tmp 5) (Go.Operand.const (Go.Value.int Go.IntKind.i64 1)), type := 0, pos := "law.go:113", after := #[{ on := 5, ground := Go.Ground.guard }], guard := some (5, false) } : Oper)) (v := .pointer (some ⟨n1, 1, none⟩)) rfl (by kernel_rfl) (by kernel_rfl) (by kernel_rfl) (fun _ _ _ h => h) (Or.inl ⟨by rfl, ?hy10⟩) (by assumption) ?_
        case hy10 => ((intro W hSW; (try dsimp only at hSW); go_simp); (try with_reducible rfl); (try exact ⟨rfl, rfl, rfl⟩))
        simp only [Act.put, List.setIfInBounds_toArray, List.set_cons_zero, List.set_cons_succ]
        refine wpAnyH_take (i := 11) (oi := ({ dst := some 31, op := Go.Op.load 3 (Go.Operand.tmp 30), type := 3, pos := "law.go:113", after := #[{ on := 10, ground := Go.Ground.data }, { on := 5, ground := Go.Ground.guard }], guard := some (5, false) } : Oper)) (v := .int .i64 x1) rfl (by kernel_rfl) (by kernel_rfl) (by kernel_rfl) (fun _ _ _ h => h) (Or.inl ⟨by rfl, ?hy11⟩) (by assumption) ?_
        case hy11 => ((intro W hSW; have e0 := (hSW.cell (p := ⟨n1, 1, none⟩) hn1).trans u1; go_simp); (try with_reducible rfl); (try exact ⟨rfl, rfl, rfl⟩))
        simp only [Act.put, List.setIfInBounds_toArray, List.set_cons_zero, List.set_cons_succ]
        refine wpAnyH_ready (rs := [12]) (by kernel_rfl) (by simp) ?_
        refine (AllReadyH.cons (i := 12) (o := ({ dst := some 32, op := Go.Op.call { callee := Go.Callee.value (Go.Operand.func 10), args := #[Go.Operand.tmp 27, Go.Operand.tmp 29, Go.Operand.tmp 31], argTypes := #[39, 3, 3] }, type := 39, pos := "law.go:113", after := #[{ on := 7, ground := Go.Ground.data }, { on := 9, ground := Go.Ground.data }, { on := 11, ground := Go.Ground.data }, { on := 5, ground := Go.Ground.chain }, { on := 5, ground := Go.Ground.guard }], guard := some (5, false) } : Oper)) rfl (fun K hK => ?_) AllReadyH.nil)
        rw [if_pos (by rfl)]
        go_simp
        refine (HRP.out V1).mono ?_
        rintro e V2 ⟨he, hb⟩
        subst he
        go_simp
        refine hK.out _ _ (hHeld.trans (hb.mono hHeld.size)) (fun hHeld => ?_)
        clear hK K
        try simp only [Act.put, List.setIfInBounds_toArray, List.set_cons_zero, List.set_cons_succ]
        refine wpAnyH_take (i := 13) (oi := ({ dst := some 33, op := Go.Op.binOp Go.BinOp.neq 39 (Go.Operand.tmp 26) (Go.Operand.tmp 32) 39, type := 4, pos := "law.go:113", after := #[{ on := 6, ground := Go.Ground.data }, { on := 12, ground := Go.Ground.data }, { on := 5, ground := Go.Ground.guard }], guard := some (5, false) } : Oper)) (v := .bool false) rfl (by kernel_rfl) (by kernel_rfl) (by kernel_rfl) (fun _ _ _ h => h) (Or.inl ⟨by rfl, ?hy12⟩) (by assumption) ?_
        case hy12 => ((intro W hSW; (try dsimp only at hSW); go_simp); (try with_reducible rfl); (try exact ⟨rfl, rfl, rfl⟩))
        simp only [Act.put, List.setIfInBounds_toArray, List.set_cons_zero, List.set_cons_succ]
        refine wpAnyH_take (i := 14) (oi := ({ dst := some 34, op := Go.Op.pick (Go.Operand.tmp 25) (Go.Operand.const (Go.Value.bool true)) (Go.Operand.tmp 33), type := 4, pos := "law.go:113", after := #[{ on := 5, ground := Go.Ground.data }, { on := 13, ground := Go.Ground.data }], guard := none } : Oper)) (v := .bool false) rfl (by kernel_rfl) (by kernel_rfl) (by kernel_rfl) (fun _ _ _ h => h) (Or.inl ⟨by rfl, ?hy13⟩) (by assumption) ?_
        case hy13 => ((intro W hSW; (try dsimp only at hSW); go_simp); (try with_reducible rfl); (try exact ⟨rfl, rfl, rfl⟩))
        simp only [Act.put, List.setIfInBounds_toArray, List.set_cons_zero, List.set_cons_succ]
        refine wpAnyH_done (by kernel_rfl) ?_ _
        have HW := Lib.hid hHeld
        clear hHeld
        have z1 := HBX.out.size
        rw [HN0.out] at z1
        have z2 := HT.out.size
        have wq0 := (HW.out.cell (p := ⟨n0, 0, none⟩) hn0).trans q0
        have wq1 := (HW.out.cell (p := ⟨n0, 1, none⟩) hn0).trans q1
        have wq2 := (HW.out.cell (p := ⟨n0, 2, none⟩) hn0).trans q2
        have wq3 := (HW.out.cell (p := ⟨n0, 3, none⟩) hn0).trans q3
        have wB70 := (HW.out.cell (p := ⟨B7, 0, none⟩) hlB7).trans B70
        have wB71 := (HW.out.cell (p := ⟨B7, 1, none⟩) hlB7).trans B71
        have wB72 := (HW.out.cell (p := ⟨B7, 2, none⟩) hlB7).trans B72
        have wB73 := (HW.out.cell (p := ⟨B7, 3, none⟩) hlB7).trans B73
        have wB80 := (HW.out.cell (p := ⟨B8, 0, none⟩) hlB8).trans B80
        have wB81 := (HW.out.cell (p := ⟨B8, 1, none⟩) hlB8).trans B81
        have wB82 := (HW.out.cell (p := ⟨B8, 2, none⟩) hlB8).trans B82
        have wB83 := (HW.out.cell (p := ⟨B8, 3, none⟩) hlB8).trans B83
        by_cases hz : p.bl = 0
        · obtain ⟨e1, e2⟩ := HM.out hz
          rw [e1] at wB70 wB71 wB72 wB73
          rw [e2] at wB80 wB81 wB82 wB83
          rw [hz] at wq0 wB70 wB80
          clear hz e1 e2
          go_wp2
          go_ret
          exact ⟨rfl, by rw [HN0.out]; exact HBX.out.trans ((HT.out.mono (by omega)).trans (HW.out.mono (by omega)))⟩
        · have hz2 : (p.bl != 0) = true := by simpa using hz
          clear hz
          go_wp2
          go_ret
          exact ⟨rfl, by rw [HN0.out]; exact HBX.out.trans ((HT.out.mono (by omega)).trans (HW.out.mono (by omega)))⟩
      · rw [if_pos (by rfl)]
        go_simp
        have hb : Below V2.heap.size V2 (V2.alloc (.cells #[.int .i64 0, .int .i64 0, .int .i64 0, .int .i64 0] 31)) := (Below.refl _ _).alloc (Nat.le_refl _) _
        have r7 := heap_alloc_new V2 (.cells #[.int .i64 0, .int .i64 0, .int .i64 0, .int .i64 0] 31)
        have g7 := hHeld.size
        replace r8 := row_in hb r8 (lt_of_at r8)
        have hS := hHeld.trans (hb.mono hHeld.size)
        generalize V2.alloc (.cells #[.int .i64 0, .int .i64 0, .int .i64 0, .int .i64 0] 31) = V3 at *
        obtain ⟨B7, hB7⟩ : ∃ B, B = V2.heap.size := ⟨_, rfl⟩
        have ne87 : B8 ≠ B7 := by rw [hB7]; exact Nat.ne_of_lt lt8
        rw [← hB7] at r7 g7
        try rw [← hB7]
        clear hb hB7
        have lt7 := lt_of_at r7
        replace lt8 := lt_of_at r8
        refine hK.out _ _ (hS) (fun hHeld => ?_)
        clear hK K
        try simp only [Act.put, List.setIfInBounds_toArray, List.set_cons_zero, List.set_cons_succ]
        refine wpAnyH_ready (rs := [8]) (by kernel_rfl) (by simp) ?_
        refine (AllReadyH.cons (i := 8) (o := ({ dst := some 19, op := Go.Op.call { callee := Go.Callee.value (Go.Operand.func 9), args := #[Go.Operand.tmp 14, Go.Operand.tmp 16, Go.Operand.tmp 18], argTypes := #[31, 3, 3] }, type := 31, pos := "law.go:112", after := #[{ on := 3, ground := Go.Ground.data }, { on := 5, ground := Go.Ground.data }, { on := 7, ground := Go.Ground.data }, { on := 2, ground := Go.Ground.chain }], guard := none } : Oper)) rfl (fun K hK => ?_) AllReadyH.nil)
        rw [if_pos (by rfl)]
        go_simp
        refine (HPT.out V3).mono ?_
        rintro e V4 ⟨he, hb⟩
        subst he
        go_simp
        replace r8 := row_in hb r8 (lt_of_at r8)
        replace r7 := row_in hb r7 (lt_of_at r7)
        replace lt8 := lt_of_at r8
        replace lt7 := lt_of_at r7
        refine hK.out _ _ (hHeld.trans (hb.mono hHeld.size)) (fun hHeld => ?_)
        clear hK K
        try simp only [Act.put, List.setIfInBounds_toArray, List.set_cons_zero, List.set_cons_succ]
        refine wpAnyH_ready (rs := [11]) (by kernel_rfl) (by simp) ?_
        refine (AllReadyH.cons (i := 11) (o := ({ dst := none, op := Go.Op.store 31 (Go.Operand.tmp 7) (Go.Operand.tmp 13), type := 0, pos := "law.go:112", after := #[{ on := 9, ground := Go.Ground.data }, { on := 2, ground := Go.Ground.data }, { on := 8, ground := Go.Ground.chain }, { on := 0, ground := Go.Ground.phase }, { on := 1, ground := Go.Ground.phase }, { on := 2, ground := Go.Ground.phase }, { on := 3, ground := Go.Ground.textOnly Go.Departure.lateStores }, { on := 4, ground := Go.Ground.textOnly Go.Departure.lateStores }, { on := 5, ground := Go.Ground.textOnly Go.Departure.lateStores }, { on := 6, ground := Go.Ground.textOnly Go.Departure.lateStores }, { on := 7, ground := Go.Ground.textOnly Go.Departure.lateStores }, { on := 8, ground := Go.Ground.textOnly Go.Departure.lateStoresUnsure }, { on := 9, ground := Go.Ground.phase }, { on := 10, ground := Go.Ground.phase }], guard := none } : Oper)) rfl (fun K hK => ?_) AllReadyH.nil)
        rw [if_pos (by rfl)]
        refine wp_store_row 31 (.tmp 7) (.tmp 13) rfl B7 (#[.int .i64 M.bl, .int .i64 M.off, .int .i64 M.lo, .int .i64 M.hi]) rfl rfl 31 (#[.int .i64 0, .int .i64 0, .int .i64 0, .int .i64 0]) r7 sizePtr rfl (by simp [Value.oneCell']) ?_
        have hS := hHeld.trans ((Onl.setRow B7 V4 (#[.int .i64 M.bl, .int .i64 M.off, .int .i64 M.lo, .int .i64 M.hi])).toBelow g7 hHeld.size)
        have hon := Onl.setRow B7 V4 (#[.int .i64 M.bl, .int .i64 M.off, .int .i64 M.lo, .int .i64 M.hi])
        replace r7 := setRow_heap V4 B7 _ (#[.int .i64 M.bl, .int .i64 M.off, .int .i64 M.lo, .int .i64 M.hi]) _ _ r7
        replace r8 := (setRow_other V4 B7 _ (#[.int .i64 M.bl, .int .i64 M.off, .int .i64 M.lo, .int .i64 M.hi]) ne87).trans r8
        generalize V4.setRow B7 (#[.int .i64 M.bl, .int .i64 M.off, .int .i64 M.lo, .int .i64 M.hi]) = V5 at *
        clear hon
        replace lt8 := lt_of_at r8
        replace lt7 := lt_of_at r7
        refine hK.out _ _ (hS) (fun hHeld => ?_)
        clear hK K
        try simp only [Act.put, List.setIfInBounds_toArray, List.set_cons_zero, List.set_cons_succ]
        refine wpAnyH_ready (rs := [12]) (by kernel_rfl) (by simp) ?_
        refine (AllReadyH.cons (i := 12) (o := ({ dst := none, op := Go.Op.store 31 (Go.Operand.tmp 8) (Go.Operand.tmp 19), type := 0, pos := "law.go:112", after := #[{ on := 10, ground := Go.Ground.data }, { on := 8, ground := Go.Ground.data }, { on := 11, ground := Go.Ground.chain }, { on := 0, ground := Go.Ground.phase }, { on := 1, ground := Go.Ground.phase }, { on := 2, ground := Go.Ground.phase }, { on := 3, ground := Go.Ground.phase }, { on := 4, ground := Go.Ground.phase }, { on := 5, ground := Go.Ground.phase }, { on := 6, ground := Go.Ground.phase }, { on := 7, ground := Go.Ground.phase }, { on := 8, ground := Go.Ground.phase }, { on := 9, ground := Go.Ground.phase }, { on := 10, ground := Go.Ground.phase }, { on := 11, ground := Go.Ground.phase }], guard := none } : Oper)) rfl (fun K hK => ?_) AllReadyH.nil)
        rw [if_pos (by rfl)]
        refine wp_store_row 31 (.tmp 8) (.tmp 19) rfl B8 (#[.int .i64 N.bl, .int .i64 N.off, .int .i64 N.lo, .int .i64 N.hi]) rfl rfl 31 (#[.int .i64 0, .int .i64 0, .int .i64 0, .int .i64 0]) r8 sizePtr rfl (by simp [Value.oneCell']) ?_
        have hS := hHeld.trans ((Onl.setRow B8 V5 (#[.int .i64 N.bl, .int .i64 N.off, .int .i64 N.lo, .int .i64 N.hi])).toBelow g8 hHeld.size)
        have hon := Onl.setRow B8 V5 (#[.int .i64 N.bl, .int .i64 N.off, .int .i64 N.lo, .int .i64 N.hi])
        replace r8 := setRow_heap V5 B8 _ (#[.int .i64 N.bl, .int .i64 N.off, .int .i64 N.lo, .int .i64 N.hi]) _ _ r8
        replace r7 := (setRow_other V5 B8 _ (#[.int .i64 N.bl, .int .i64 N.off, .int .i64 N.lo, .int .i64 N.hi]) (Ne.symm ne87)).trans r7
        generalize V5.setRow B8 (#[.int .i64 N.bl, .int .i64 N.off, .int .i64 N.lo, .int .i64 N.hi]) = V6 at *
        clear hon
        replace lt8 := lt_of_at r8
        replace lt7 := lt_of_at r7
        refine hK.out _ _ (hS) (fun hHeld => ?_)
        clear hK K
        try simp only [Act.put, List.setIfInBounds_toArray, List.set_cons_zero, List.set_cons_succ]
        refine wpAnyH_done (by kernel_rfl) ?_ _
        have HT := Lib.hid hHeld
        clear hHeld
        obtain ⟨B70, B71, B72, B73⟩ := cells4 r7
        obtain ⟨B80, B81, B82, B83⟩ := cells4 r8
        have hlB7 := lt_of_at r7
        have hlB8 := lt_of_at r8
        replace q0 := (HT.out.cell (p := ⟨n0, 0, none⟩) hn0).trans q0
        replace q1 := (HT.out.cell (p := ⟨n0, 1, none⟩) hn0).trans q1
        replace q2 := (HT.out.cell (p := ⟨n0, 2, none⟩) hn0).trans q2
        replace q3 := (HT.out.cell (p := ⟨n0, 3, none⟩) hn0).trans q3
        replace u0 := (HT.out.cell (p := ⟨n1, 0, none⟩) hn1).trans u0
        replace u1 := (HT.out.cell (p := ⟨n1, 1, none⟩) hn1).trans u1
        replace hn0 := Nat.lt_of_lt_of_le hn0 HT.out.size
        replace hn1 := Nat.lt_of_lt_of_le hn1 HT.out.size
        generalize hVV : V6 = T at *
        clear hVV r7 r8 g7 g8
        go_wp2_with fail
        refine wp_region_held_drew (S := fun W : World => Below T.heap.size T W) (by kernel_rfl) ((Below.refl _ _).drew) (fun hHeld => ?_)
        generalize T.drew = V0 at *
        refine wpAnyH_take (i := 0) (oi := ({ dst := some 20, op := Go.Op.load 31 (Go.Operand.tmp 7), type := 31, pos := "law.go:113", after := #[], guard := none } : Oper)) (v := .agg #[.int .i64 M.bl, .int .i64 M.off, .int .i64 M.lo, .int .i64 M.hi]) rfl (by kernel_rfl) (by kernel_rfl) (by kernel_rfl) (fun _ _ _ h => h) (Or.inl ⟨by rfl, ?hy1⟩) (by assumption) ?_
        case hy1 => ((intro W hSW; have e0 := (hSW.cell (p := ⟨B7, 0, none⟩) hlB7).trans B70; have e1 := (hSW.cell (p := ⟨B7, 1, none⟩) hlB7).trans B71; have e2 := (hSW.cell (p := ⟨B7, 2, none⟩) hlB7).trans B72; have e3 := (hSW.cell (p := ⟨B7, 3, none⟩) hlB7).trans B73; go_simp); (try with_reducible rfl); (try exact ⟨rfl, rfl, rfl⟩))
        simp only [Act.put, List.setIfInBounds_toArray, List.set_cons_zero, List.set_cons_succ]
        refine wpAnyH_take (i := 1) (oi := ({ dst := some 21, op := Go.Op.load 31 (Go.Operand.tmp 3), type := 31, pos := "law.go:113", after := #[], guard := none } : Oper)) (v := .agg #[.int .i64 p.bl, .int .i64 p.off, .int .i64 p.lo, .int .i64 p.hi]) rfl (by kernel_rfl) (by kernel_rfl) (by kernel_rfl) (fun _ _ _ h => h) (Or.inl ⟨by rfl, ?hy2⟩) (by assumption) ?_
        case hy2 => ((intro W hSW; have e0 := (hSW.cell (p := ⟨n0, 0, none⟩) hn0).trans q0; have e1 := (hSW.cell (p := ⟨n0, 1, none⟩) hn0).trans q1; have e2 := (hSW.cell (p := ⟨n0, 2, none⟩) hn0).trans q2; have e3 := (hSW.cell (p := ⟨n0, 3, none⟩) hn0).trans q3; go_simp); (try with_reducible rfl); (try exact ⟨rfl, rfl, rfl⟩))
        simp only [Act.put, List.setIfInBounds_toArray, List.set_cons_zero, List.set_cons_succ]
        refine wpAnyH_take (i := 2) (oi := ({ dst := some 22, op := Go.Op.move (Go.Operand.tmp 1), type := 3, pos := "law.go:113", after := #[], guard := none } : Oper)) (v := .int .i64 by_) rfl (by kernel_rfl) (by kernel_rfl) (by kernel_rfl) (fun _ _ _ h => h) (Or.inl ⟨by rfl, ?hy3⟩) (by assumption) ?_
        case hy3 => ((intro W hSW; (try dsimp only at hSW); go_simp); (try with_reducible rfl); (try exact ⟨rfl, rfl, rfl⟩))
        simp only [Act.put, List.setIfInBounds_toArray, List.set_cons_zero, List.set_cons_succ]
        refine wpAnyH_ready (rs := [3]) (by kernel_rfl) (by simp) ?_
        refine (AllReadyH.cons (i := 3) (o := ({ dst := some 23, op := Go.Op.call { callee := Go.Callee.value (Go.Operand.func 8), args := #[Go.Operand.tmp 21, Go.Operand.tmp 22], argTypes := #[39, 3] }, type := 39, pos := "law.go:113", after := #[{ on := 1, ground := Go.Ground.data }, { on := 2, ground := Go.Ground.data }], guard := none } : Oper)) rfl (fun K hK => ?_) AllReadyH.nil)
        rw [if_pos (by rfl)]
        go_simp
        refine (HRM.out V0).mono ?_
        rintro e V1 ⟨he, hb⟩
        subst he
        go_simp
        refine hK.out _ _ (hHeld.trans (hb.mono hHeld.size)) (fun hHeld => ?_)
        clear hK K
        try simp only [Act.put, List.setIfInBounds_toArray, List.set_cons_zero, List.set_cons_succ]
        refine wpAnyH_take (i := 4) (oi := ({ dst := some 24, op := Go.Op.binOp Go.BinOp.neq 39 (Go.Operand.tmp 20) (Go.Operand.tmp 23) 39, type := 4, pos := "law.go:113", after := #[{ on := 0, ground := Go.Ground.data }, { on := 3, ground := Go.Ground.data }], guard := none } : Oper)) (v := .bool false) rfl (by kernel_rfl) (by kernel_rfl) (by kernel_rfl) (fun _ _ _ h => h) (Or.inl ⟨by rfl, ?hy4⟩) (by assumption) ?_
        case hy4 => ((intro W hSW; (try dsimp only at hSW); go_simp); (try with_reducible rfl); (try exact ⟨rfl, rfl, rfl⟩))
        simp only [Act.put, List.setIfInBounds_toArray, List.set_cons_zero, List.set_cons_succ]
        refine wpAnyH_take (i := 5) (oi := ({ dst := some 25, op := Go.Op.move (Go.Operand.tmp 24), type := 4, pos := "law.go:113", after := #[{ on := 4, ground := Go.Ground.data }, { on := 3, ground := Go.Ground.chain }], guard := none } : Oper)) (v := .bool false) rfl (by kernel_rfl) (by kernel_rfl) (by kernel_rfl) (fun _ _ _ h => h) (Or.inl ⟨by rfl, ?hy5⟩) (by assumption) ?_
        case hy5 => ((intro W hSW; (try dsimp only at hSW); go_simp); (try with_reducible rfl); (try exact ⟨rfl, rfl, rfl⟩))
        simp only [Act.put, List.setIfInBounds_toArray, List.set_cons_zero, List.set_cons_succ]
        refine wpAnyH_take (i := 6) (oi := ({ dst := some 26, op := Go.Op.load 31 (Go.Operand.tmp 8), type := 31, pos := "law.go:113", after := #[{ on := 5, ground := Go.Ground.guard }], guard := some (5, false) } : Oper)) (v := .agg #[.int .i64 N.bl, .int .i64 N.off, .int .i64 N.lo, .int .i64 N.hi]) rfl (by kernel_rfl) (by kernel_rfl) (by kernel_rfl) (fun _ _ _ h => h) (Or.inl ⟨by rfl, ?hy6⟩) (by assumption) ?_
        case hy6 => ((intro W hSW; have e0 := (hSW.cell (p := ⟨B8, 0, none⟩) hlB8).trans B80; have e1 := (hSW.cell (p := ⟨B8, 1, none⟩) hlB8).trans B81; have e2 := (hSW.cell (p := ⟨B8, 2, none⟩) hlB8).trans B82; have e3 := (hSW.cell (p := ⟨B8, 3, none⟩) hlB8).trans B83; go_simp); (try with_reducible rfl); (try exact ⟨rfl, rfl, rfl⟩))
        simp only [Act.put, List.setIfInBounds_toArray, List.set_cons_zero, List.set_cons_succ]
        refine wpAnyH_take (i := 7) (oi := ({ dst := some 27, op := Go.Op.load 31 (Go.Operand.tmp 3), type := 31, pos := "law.go:113", after := #[{ on := 5, ground := Go.Ground.guard }], guard := some (5, false) } : Oper)) (v := .agg #[.int .i64 p.bl, .int .i64 p.off, .int .i64 p.lo, .int .i64 p.hi]) rfl (by kernel_rfl) (by kernel_rfl) (by kernel_rfl) (fun _ _ _ h => h) (Or.inl ⟨by rfl, ?hy7⟩) (by assumption) ?_
        case hy7 => ((intro W hSW; have e0 := (hSW.cell (p := ⟨n0, 0, none⟩) hn0).trans q0; have e1 := (hSW.cell (p := ⟨n0, 1, none⟩) hn0).trans q1; have e2 := (hSW.cell (p := ⟨n0, 2, none⟩) hn0).trans q2; have e3 := (hSW.cell (p := ⟨n0, 3, none⟩) hn0).trans q3; go_simp); (try with_reducible rfl); (try exact ⟨rfl, rfl, rfl⟩))
        simp only [Act.put, List.setIfInBounds_toArray, List.set_cons_zero, List.set_cons_succ]
        refine wpAnyH_take (i := 8) (oi := ({ dst := some 28, op := Go.Op.indexAddr 32 (Go.Operand.tmp 5) (Go.Operand.const (Go.Value.int Go.IntKind.i64 0)), type := 0, pos := "law.go:113", after := #[{ on := 5, ground := Go.Ground.guard }], guard := some (5, false) } : Oper)) (v := .pointer (some ⟨n1, 0, none⟩)) rfl (by kernel_rfl) (by kernel_rfl) (by kernel_rfl) (fun _ _ _ h => h) (Or.inl ⟨by rfl, ?hy8⟩) (by assumption) ?_
        case hy8 => ((intro W hSW; (try dsimp only at hSW); go_simp); (try with_reducible rfl); (try exact ⟨rfl, rfl, rfl⟩))
        simp only [Act.put, List.setIfInBounds_toArray, List.set_cons_zero, List.set_cons_succ]
        refine wpAnyH_take (i := 9) (oi := ({ dst := some 29, op := Go.Op.load 3 (Go.Operand.tmp 28), type := 3, pos := "law.go:113", after := #[{ on := 8, ground := Go.Ground.data }, { on := 5, ground := Go.Ground.guard }], guard := some (5, false) } : Oper)) (v := .int .i64 x0) rfl (by kernel_rfl) (by kernel_rfl) (by kernel_rfl) (fun _ _ _ h => h) (Or.inl ⟨by rfl, ?hy9⟩) (by assumption) ?_
        case hy9 => ((intro W hSW; have e0 := (hSW.cell (p := ⟨n1, 0, none⟩) hn1).trans u0; go_simp); (try with_reducible rfl); (try exact ⟨rfl, rfl, rfl⟩))
        simp only [Act.put, List.setIfInBounds_toArray, List.set_cons_zero, List.set_cons_succ]
        refine wpAnyH_take (i := 10) (oi := ({ dst := some 30, op := Go.Op.indexAddr 32 (Go.Operand.tmp 5) (Go.Operand.const (Go.Value.int Go.IntKind.i64 1)), type := 0, pos := "law.go:113", after := #[{ on := 5, ground := Go.Ground.guard }], guard := some (5, false) } : Oper)) (v := .pointer (some ⟨n1, 1, none⟩)) rfl (by kernel_rfl) (by kernel_rfl) (by kernel_rfl) (fun _ _ _ h => h) (Or.inl ⟨by rfl, ?hy10⟩) (by assumption) ?_
        case hy10 => ((intro W hSW; (try dsimp only at hSW); go_simp); (try with_reducible rfl); (try exact ⟨rfl, rfl, rfl⟩))
        simp only [Act.put, List.setIfInBounds_toArray, List.set_cons_zero, List.set_cons_succ]
        refine wpAnyH_take (i := 11) (oi := ({ dst := some 31, op := Go.Op.load 3 (Go.Operand.tmp 30), type := 3, pos := "law.go:113", after := #[{ on := 10, ground := Go.Ground.data }, { on := 5, ground := Go.Ground.guard }], guard := some (5, false) } : Oper)) (v := .int .i64 x1) rfl (by kernel_rfl) (by kernel_rfl) (by kernel_rfl) (fun _ _ _ h => h) (Or.inl ⟨by rfl, ?hy11⟩) (by assumption) ?_
        case hy11 => ((intro W hSW; have e0 := (hSW.cell (p := ⟨n1, 1, none⟩) hn1).trans u1; go_simp); (try with_reducible rfl); (try exact ⟨rfl, rfl, rfl⟩))
        simp only [Act.put, List.setIfInBounds_toArray, List.set_cons_zero, List.set_cons_succ]
        refine wpAnyH_ready (rs := [12]) (by kernel_rfl) (by simp) ?_
        refine (AllReadyH.cons (i := 12) (o := ({ dst := some 32, op := Go.Op.call { callee := Go.Callee.value (Go.Operand.func 10), args := #[Go.Operand.tmp 27, Go.Operand.tmp 29, Go.Operand.tmp 31], argTypes := #[39, 3, 3] }, type := 39, pos := "law.go:113", after := #[{ on := 7, ground := Go.Ground.data }, { on := 9, ground := Go.Ground.data }, { on := 11, ground := Go.Ground.data }, { on := 5, ground := Go.Ground.chain }, { on := 5, ground := Go.Ground.guard }], guard := some (5, false) } : Oper)) rfl (fun K hK => ?_) AllReadyH.nil)
        rw [if_pos (by rfl)]
        go_simp
        refine (HRP.out V1).mono ?_
        rintro e V2 ⟨he, hb⟩
        subst he
        go_simp
        refine hK.out _ _ (hHeld.trans (hb.mono hHeld.size)) (fun hHeld => ?_)
        clear hK K
        try simp only [Act.put, List.setIfInBounds_toArray, List.set_cons_zero, List.set_cons_succ]
        refine wpAnyH_take (i := 13) (oi := ({ dst := some 33, op := Go.Op.binOp Go.BinOp.neq 39 (Go.Operand.tmp 26) (Go.Operand.tmp 32) 39, type := 4, pos := "law.go:113", after := #[{ on := 6, ground := Go.Ground.data }, { on := 12, ground := Go.Ground.data }, { on := 5, ground := Go.Ground.guard }], guard := some (5, false) } : Oper)) (v := .bool false) rfl (by kernel_rfl) (by kernel_rfl) (by kernel_rfl) (fun _ _ _ h => h) (Or.inl ⟨by rfl, ?hy12⟩) (by assumption) ?_
        case hy12 => ((intro W hSW; (try dsimp only at hSW); go_simp); (try with_reducible rfl); (try exact ⟨rfl, rfl, rfl⟩))
        simp only [Act.put, List.setIfInBounds_toArray, List.set_cons_zero, List.set_cons_succ]
        refine wpAnyH_take (i := 14) (oi := ({ dst := some 34, op := Go.Op.pick (Go.Operand.tmp 25) (Go.Operand.const (Go.Value.bool true)) (Go.Operand.tmp 33), type := 4, pos := "law.go:113", after := #[{ on := 5, ground := Go.Ground.data }, { on := 13, ground := Go.Ground.data }], guard := none } : Oper)) (v := .bool false) rfl (by kernel_rfl) (by kernel_rfl) (by kernel_rfl) (fun _ _ _ h => h) (Or.inl ⟨by rfl, ?hy13⟩) (by assumption) ?_
        case hy13 => ((intro W hSW; (try dsimp only at hSW); go_simp); (try with_reducible rfl); (try exact ⟨rfl, rfl, rfl⟩))
        simp only [Act.put, List.setIfInBounds_toArray, List.set_cons_zero, List.set_cons_succ]
        refine wpAnyH_done (by kernel_rfl) ?_ _
        have HW := Lib.hid hHeld
        clear hHeld
        have z1 := HBX.out.size
        rw [HN0.out] at z1
        have z2 := HT.out.size
        have wq0 := (HW.out.cell (p := ⟨n0, 0, none⟩) hn0).trans q0
        have wq1 := (HW.out.cell (p := ⟨n0, 1, none⟩) hn0).trans q1
        have wq2 := (HW.out.cell (p := ⟨n0, 2, none⟩) hn0).trans q2
        have wq3 := (HW.out.cell (p := ⟨n0, 3, none⟩) hn0).trans q3
        have wB70 := (HW.out.cell (p := ⟨B7, 0, none⟩) hlB7).trans B70
        have wB71 := (HW.out.cell (p := ⟨B7, 1, none⟩) hlB7).trans B71
        have wB72 := (HW.out.cell (p := ⟨B7, 2, none⟩) hlB7).trans B72
        have wB73 := (HW.out.cell (p := ⟨B7, 3, none⟩) hlB7).trans B73
        have wB80 := (HW.out.cell (p := ⟨B8, 0, none⟩) hlB8).trans B80
        have wB81 := (HW.out.cell (p := ⟨B8, 1, none⟩) hlB8).trans B81
        have wB82 := (HW.out.cell (p := ⟨B8, 2, none⟩) hlB8).trans B82
        have wB83 := (HW.out.cell (p := ⟨B8, 3, none⟩) hlB8).trans B83
        by_cases hz : p.bl = 0
        · obtain ⟨e1, e2⟩ := HM.out hz
          rw [e1] at wB70 wB71 wB72 wB73
          rw [e2] at wB80 wB81 wB82 wB83
          rw [hz] at wq0 wB70 wB80
          clear hz e1 e2
          go_wp2
          go_ret
          exact ⟨rfl, by rw [HN0.out]; exact HBX.out.trans ((HT.out.mono (by omega)).trans (HW.out.mono (by omega)))⟩
        · have hz2 : (p.bl != 0) = true := by simpa using hz
          clear hz
          go_wp2
          go_ret
          exact ⟨rfl, by rw [HN0.out]; exact HBX.out.trans ((HT.out.mono (by omega)).trans (HW.out.mono (by omega)))⟩
    · rw [if_pos (by rfl)]
      go_simp
      have hb : Below V1.heap.size V1 (V1.alloc (.cells #[.int .i64 0, .int .i64 0, .int .i64 0, .int .i64 0] 31)) := (Below.refl _ _).alloc (Nat.le_refl _) _
      have r7 := heap_alloc_new V1 (.cells #[.int .i64 0, .int .i64 0, .int .i64 0, .int .i64 0] 31)
      have g7 := hHeld.size
      replace r8 := row_in hb r8 (lt_of_at r8)
      have hS := hHeld.trans (hb.mono hHeld.size)
      generalize V1.alloc (.cells #[.int .i64 0, .int .i64 0, .int .i64 0, .int .i64 0] 31) = V2 at *
      obtain ⟨B7, hB7⟩ : ∃ B, B = V1.heap.size := ⟨_, rfl⟩
      have ne87 : B8 ≠ B7 := by rw [hB7]; exact Nat.ne_of_lt lt8
      rw [← hB7] at r7 g7
      try rw [← hB7]
      clear hb hB7
      have lt7 := lt_of_at r7
      replace lt8 := lt_of_at r8
      refine hK.out _ _ (hS) (fun hHeld => ?_)
      clear hK K
      try simp only [Act.put, List.setIfInBounds_toArray, List.set_cons_zero, List.set_cons_succ]
      refine wpAnyH_ready (rs := [2]) (by kernel_rfl) (by simp) ?_
      refine (AllReadyH.cons (i := 2) (o := ({ dst := some 13, op := Go.Op.call { callee := Go.Callee.value (Go.Operand.func 7), args := #[Go.Operand.tmp 11, Go.Operand.tmp 12], argTypes := #[31, 3] }, type := 31, pos := "law.go:112", after := #[{ on := 0, ground := Go.Ground.data }, { on := 1, ground := Go.Ground.data }], guard := none } : Oper)) rfl (fun K hK => ?_) AllReadyH.nil)
      rw [if_pos (by rfl)]
      go_simp
      refine (HMV.out V2).mono ?_
      rintro e V3 ⟨he, hb⟩
      subst he
      go_simp
      replace r8 := row_in hb r8 (lt_of_at r8)
      replace r7 := row_in hb r7 (lt_of_at r7)
      replace lt8 := lt_of_at r8
      replace lt7 := lt_of_at r7
      refine hK.out _ _ (hHeld.trans (hb.mono hHeld.size)) (fun hHeld => ?_)
      clear hK K
      try simp only [Act.put, List.setIfInBounds_toArray, List.set_cons_zero, List.set_cons_succ]
      refine wpAnyH_ready (rs := [8]) (by kernel_rfl) (by simp) ?_
      refine (AllReadyH.cons (i := 8) (o := ({ dst := some 19, op := Go.Op.call { callee := Go.Callee.value (Go.Operand.func 9), args := #[Go.Operand.tmp 14, Go.Operand.tmp 16, Go.Operand.tmp 18], argTypes := #[31, 3, 3] }, type := 31, pos := "law.go:112", after := #[{ on := 3, ground := Go.Ground.data }, { on := 5, ground := Go.Ground.data }, { on := 7, ground := Go.Ground.data }, { on := 2, ground := Go.Ground.chain }], guard := none } : Oper)) rfl (fun K hK => ?_) AllReadyH.nil)
      rw [if_pos (by rfl)]
      go_simp
      refine (HPT.out V3).mono ?_
      rintro e V4 ⟨he, hb⟩
      subst he
      go_simp
      replace r8 := row_in hb r8 (lt_of_at r8)
      replace r7 := row_in hb r7 (lt_of_at r7)
      replace lt8 := lt_of_at r8
      replace lt7 := lt_of_at r7
      refine hK.out _ _ (hHeld.trans (hb.mono hHeld.size)) (fun hHeld => ?_)
      clear hK K
      try simp only [Act.put, List.setIfInBounds_toArray, List.set_cons_zero, List.set_cons_succ]
      refine wpAnyH_ready (rs := [11]) (by kernel_rfl) (by simp) ?_
      refine (AllReadyH.cons (i := 11) (o := ({ dst := none, op := Go.Op.store 31 (Go.Operand.tmp 7) (Go.Operand.tmp 13), type := 0, pos := "law.go:112", after := #[{ on := 9, ground := Go.Ground.data }, { on := 2, ground := Go.Ground.data }, { on := 8, ground := Go.Ground.chain }, { on := 0, ground := Go.Ground.phase }, { on := 1, ground := Go.Ground.phase }, { on := 2, ground := Go.Ground.phase }, { on := 3, ground := Go.Ground.textOnly Go.Departure.lateStores }, { on := 4, ground := Go.Ground.textOnly Go.Departure.lateStores }, { on := 5, ground := Go.Ground.textOnly Go.Departure.lateStores }, { on := 6, ground := Go.Ground.textOnly Go.Departure.lateStores }, { on := 7, ground := Go.Ground.textOnly Go.Departure.lateStores }, { on := 8, ground := Go.Ground.textOnly Go.Departure.lateStoresUnsure }, { on := 9, ground := Go.Ground.phase }, { on := 10, ground := Go.Ground.phase }], guard := none } : Oper)) rfl (fun K hK => ?_) AllReadyH.nil)
      rw [if_pos (by rfl)]
      refine wp_store_row 31 (.tmp 7) (.tmp 13) rfl B7 (#[.int .i64 M.bl, .int .i64 M.off, .int .i64 M.lo, .int .i64 M.hi]) rfl rfl 31 (#[.int .i64 0, .int .i64 0, .int .i64 0, .int .i64 0]) r7 sizePtr rfl (by simp [Value.oneCell']) ?_
      have hS := hHeld.trans ((Onl.setRow B7 V4 (#[.int .i64 M.bl, .int .i64 M.off, .int .i64 M.lo, .int .i64 M.hi])).toBelow g7 hHeld.size)
      have hon := Onl.setRow B7 V4 (#[.int .i64 M.bl, .int .i64 M.off, .int .i64 M.lo, .int .i64 M.hi])
      replace r7 := setRow_heap V4 B7 _ (#[.int .i64 M.bl, .int .i64 M.off, .int .i64 M.lo, .int .i64 M.hi]) _ _ r7
      replace r8 := (setRow_other V4 B7 _ (#[.int .i64 M.bl, .int .i64 M.off, .int .i64 M.lo, .int .i64 M.hi]) ne87).trans r8
      generalize V4.setRow B7 (#[.int .i64 M.bl, .int .i64 M.off, .int .i64 M.lo, .int .i64 M.hi]) = V5 at *
      clear hon
      replace lt8 := lt_of_at r8
      replace lt7 := lt_of_at r7
      refine hK.out _ _ (hS) (fun hHeld => ?_)
      clear hK K
      try simp only [Act.put, List.setIfInBounds_toArray, List.set_cons_zero, List.set_cons_succ]
      refine wpAnyH_ready (rs := [12]) (by kernel_rfl) (by simp) ?_
      refine (AllReadyH.cons (i := 12) (o := ({ dst := none, op := Go.Op.store 31 (Go.Operand.tmp 8) (Go.Operand.tmp 19), type := 0, pos := "law.go:112", after := #[{ on := 10, ground := Go.Ground.data }, { on := 8, ground := Go.Ground.data }, { on := 11, ground := Go.Ground.chain }, { on := 0, ground := Go.Ground.phase }, { on := 1, ground := Go.Ground.phase }, { on := 2, ground := Go.Ground.phase }, { on := 3, ground := Go.Ground.phase }, { on := 4, ground := Go.Ground.phase }, { on := 5, ground := Go.Ground.phase }, { on := 6, ground := Go.Ground.phase }, { on := 7, ground := Go.Ground.phase }, { on := 8, ground := Go.Ground.phase }, { on := 9, ground := Go.Ground.phase }, { on := 10, ground := Go.Ground.phase }, { on := 11, ground := Go.Ground.phase }], guard := none } : Oper)) rfl (fun K hK => ?_) AllReadyH.nil)
      rw [if_pos (by rfl)]
      refine wp_store_row 31 (.tmp 8) (.tmp 19) rfl B8 (#[.int .i64 N.bl, .int .i64 N.off, .int .i64 N.lo, .int .i64 N.hi]) rfl rfl 31 (#[.int .i64 0, .int .i64 0, .int .i64 0, .int .i64 0]) r8 sizePtr rfl (by simp [Value.oneCell']) ?_
      have hS := hHeld.trans ((Onl.setRow B8 V5 (#[.int .i64 N.bl, .int .i64 N.off, .int .i64 N.lo, .int .i64 N.hi])).toBelow g8 hHeld.size)
      have hon := Onl.setRow B8 V5 (#[.int .i64 N.bl, .int .i64 N.off, .int .i64 N.lo, .int .i64 N.hi])
      replace r8 := setRow_heap V5 B8 _ (#[.int .i64 N.bl, .int .i64 N.off, .int .i64 N.lo, .int .i64 N.hi]) _ _ r8
      replace r7 := (setRow_other V5 B8 _ (#[.int .i64 N.bl, .int .i64 N.off, .int .i64 N.lo, .int .i64 N.hi]) (Ne.symm ne87)).trans r7
      generalize V5.setRow B8 (#[.int .i64 N.bl, .int .i64 N.off, .int .i64 N.lo, .int .i64 N.hi]) = V6 at *
      clear hon
      replace lt8 := lt_of_at r8
      replace lt7 := lt_of_at r7
      refine hK.out _ _ (hS) (fun hHeld => ?_)
      clear hK K
      try simp only [Act.put, List.setIfInBounds_toArray, List.set_cons_zero, List.set_cons_succ]
      refine wpAnyH_done (by kernel_rfl) ?_ _
      have HT := Lib.hid hHeld
      clear hHeld
      obtain ⟨B70, B71, B72, B73⟩ := cells4 r7
      obtain ⟨B80, B81, B82, B83⟩ := cells4 r8
      have hlB7 := lt_of_at r7
      have hlB8 := lt_of_at r8
      replace q0 := (HT.out.cell (p := ⟨n0, 0, none⟩) hn0).trans q0
      replace q1 := (HT.out.cell (p := ⟨n0, 1, none⟩) hn0).trans q1
      replace q2 := (HT.out.cell (p := ⟨n0, 2, none⟩) hn0).trans q2
      replace q3 := (HT.out.cell (p := ⟨n0, 3, none⟩) hn0).trans q3
      replace u0 := (HT.out.cell (p := ⟨n1, 0, none⟩) hn1).trans u0
      replace u1 := (HT.out.cell (p := ⟨n1, 1, none⟩) hn1).trans u1
      replace hn0 := Nat.lt_of_lt_of_le hn0 HT.out.size
      replace hn1 := Nat.lt_of_lt_of_le hn1 HT.out.size
      generalize hVV : V6 = T at *
      clear hVV r7 r8 g7 g8
      go_wp2_with fail
      refine wp_region_held_drew (S := fun W : World => Below T.heap.size T W) (by kernel_rfl) ((Below.refl _ _).drew) (fun hHeld => ?_)
      generalize T.drew = V0 at *
      refine wpAnyH_take (i := 0) (oi := ({ dst := some 20, op := Go.Op.load 31 (Go.Operand.tmp 7), type := 31, pos := "law.go:113", after := #[], guard := none } : Oper)) (v := .agg #[.int .i64 M.bl, .int .i64 M.off, .int .i64 M.lo, .int .i64 M.hi]) rfl (by kernel_rfl) (by kernel_rfl) (by kernel_rfl) (fun _ _ _ h => h) (Or.inl ⟨by rfl, ?hy1⟩) (by assumption) ?_
      case hy1 => ((intro W hSW; have e0 := (hSW.cell (p := ⟨B7, 0, none⟩) hlB7).trans B70; have e1 := (hSW.cell (p := ⟨B7, 1, none⟩) hlB7).trans B71; have e2 := (hSW.cell (p := ⟨B7, 2, none⟩) hlB7).trans B72; have e3 := (hSW.cell (p := ⟨B7, 3, none⟩) hlB7).trans B73; go_simp); (try with_reducible rfl); (try exact ⟨rfl, rfl, rfl⟩))
      simp only [Act.put, List.setIfInBounds_toArray, List.set_cons_zero, List.set_cons_succ]
      refine wpAnyH_take (i := 1) (oi := ({ dst := some 21, op := Go.Op.load 31 (Go.Operand.tmp 3), type := 31, pos := "law.go:113", after := #[], guard := none } : Oper)) (v := .agg #[.int .i64 p.bl, .int .i64 p.off, .int .i64 p.lo, .int .i64 p.hi]) rfl (by kernel_rfl) (by kernel_rfl) (by kernel_rfl) (fun _ _ _ h => h) (Or.inl ⟨by rfl, ?hy2⟩) (by assumption) ?_
      case hy2 => ((intro W hSW; have e0 := (hSW.cell (p := ⟨n0, 0, none⟩) hn0).trans q0; have e1 := (hSW.cell (p := ⟨n0, 1, none⟩) hn0).trans q1; have e2 := (hSW.cell (p := ⟨n0, 2, none⟩) hn0).trans q2; have e3 := (hSW.cell (p := ⟨n0, 3, none⟩) hn0).trans q3; go_simp); (try with_reducible rfl); (try exact ⟨rfl, rfl, rfl⟩))
      simp only [Act.put, List.setIfInBounds_toArray, List.set_cons_zero, List.set_cons_succ]
      refine wpAnyH_take (i := 2) (oi := ({ dst := some 22, op := Go.Op.move (Go.Operand.tmp 1), type := 3, pos := "law.go:113", after := #[], guard := none } : Oper)) (v := .int .i64 by_) rfl (by kernel_rfl) (by kernel_rfl) (by kernel_rfl) (fun _ _ _ h => h) (Or.inl ⟨by rfl, ?hy3⟩) (by assumption) ?_
      case hy3 => ((intro W hSW; (try dsimp only at hSW); go_simp); (try with_reducible rfl); (try exact ⟨rfl, rfl, rfl⟩))
      simp only [Act.put, List.setIfInBounds_toArray, List.set_cons_zero, List.set_cons_succ]
      refine wpAnyH_ready (rs := [3]) (by kernel_rfl) (by simp) ?_
      refine (AllReadyH.cons (i := 3) (o := ({ dst := some 23, op := Go.Op.call { callee := Go.Callee.value (Go.Operand.func 8), args := #[Go.Operand.tmp 21, Go.Operand.tmp 22], argTypes := #[39, 3] }, type := 39, pos := "law.go:113", after := #[{ on := 1, ground := Go.Ground.data }, { on := 2, ground := Go.Ground.data }], guard := none } : Oper)) rfl (fun K hK => ?_) AllReadyH.nil)
      rw [if_pos (by rfl)]
      go_simp
      refine (HRM.out V0).mono ?_
      rintro e V1 ⟨he, hb⟩
      subst he
      go_simp
      refine hK.out _ _ (hHeld.trans (hb.mono hHeld.size)) (fun hHeld => ?_)
      clear hK K
      try simp only [Act.put, List.setIfInBounds_toArray, List.set_cons_zero, List.set_cons_succ]
      refine wpAnyH_take (i := 4) (oi := ({ dst := some 24, op := Go.Op.binOp Go.BinOp.neq 39 (Go.Operand.tmp 20) (Go.Operand.tmp 23) 39, type := 4, pos := "law.go:113", after := #[{ on := 0, ground := Go.Ground.data }, { on := 3, ground := Go.Ground.data }], guard := none } : Oper)) (v := .bool false) rfl (by kernel_rfl) (by kernel_rfl) (by kernel_rfl) (fun _ _ _ h => h) (Or.inl ⟨by rfl, ?hy4⟩) (by assumption) ?_
      case hy4 => ((intro W hSW; (try dsimp only at hSW); go_simp); (try with_reducible rfl); (try exact ⟨rfl, rfl, rfl⟩))
      simp only [Act.put, List.setIfInBounds_toArray, List.set_cons_zero, List.set_cons_succ]
      refine wpAnyH_take (i := 5) (oi := ({ dst := some 25, op := Go.Op.move (Go.Operand.tmp 24), type := 4, pos := "law.go:113", after := #[{ on := 4, ground := Go.Ground.data }, { on := 3, ground := Go.Ground.chain }], guard := none } : Oper)) (v := .bool false) rfl (by kernel_rfl) (by kernel_rfl) (by kernel_rfl) (fun _ _ _ h => h) (Or.inl ⟨by rfl, ?hy5⟩) (by assumption) ?_
      case hy5 => ((intro W hSW; (try dsimp only at hSW); go_simp); (try with_reducible rfl); (try exact ⟨rfl, rfl, rfl⟩))
      simp only [Act.put, List.setIfInBounds_toArray, List.set_cons_zero, List.set_cons_succ]
      refine wpAnyH_take (i := 6) (oi := ({ dst := some 26, op := Go.Op.load 31 (Go.Operand.tmp 8), type := 31, pos := "law.go:113", after := #[{ on := 5, ground := Go.Ground.guard }], guard := some (5, false) } : Oper)) (v := .agg #[.int .i64 N.bl, .int .i64 N.off, .int .i64 N.lo, .int .i64 N.hi]) rfl (by kernel_rfl) (by kernel_rfl) (by kernel_rfl) (fun _ _ _ h => h) (Or.inl ⟨by rfl, ?hy6⟩) (by assumption) ?_
      case hy6 => ((intro W hSW; have e0 := (hSW.cell (p := ⟨B8, 0, none⟩) hlB8).trans B80; have e1 := (hSW.cell (p := ⟨B8, 1, none⟩) hlB8).trans B81; have e2 := (hSW.cell (p := ⟨B8, 2, none⟩) hlB8).trans B82; have e3 := (hSW.cell (p := ⟨B8, 3, none⟩) hlB8).trans B83; go_simp); (try with_reducible rfl); (try exact ⟨rfl, rfl, rfl⟩))
      simp only [Act.put, List.setIfInBounds_toArray, List.set_cons_zero, List.set_cons_succ]
      refine wpAnyH_take (i := 7) (oi := ({ dst := some 27, op := Go.Op.load 31 (Go.Operand.tmp 3), type := 31, pos := "law.go:113", after := #[{ on := 5, ground := Go.Ground.guard }], guard := some (5, false) } : Oper)) (v := .agg #[.int .i64 p.bl, .int .i64 p.off, .int .i64 p.lo, .int .i64 p.hi]) rfl (by kernel_rfl) (by kernel_rfl) (by kernel_rfl) (fun _ _ _ h => h) (Or.inl ⟨by rfl, ?hy7⟩) (by assumption) ?_
      case hy7 => ((intro W hSW; have e0 := (hSW.cell (p := ⟨n0, 0, none⟩) hn0).trans q0; have e1 := (hSW.cell (p := ⟨n0, 1, none⟩) hn0).trans q1; have e2 := (hSW.cell (p := ⟨n0, 2, none⟩) hn0).trans q2; have e3 := (hSW.cell (p := ⟨n0, 3, none⟩) hn0).trans q3; go_simp); (try with_reducible rfl); (try exact ⟨rfl, rfl, rfl⟩))
      simp only [Act.put, List.setIfInBounds_toArray, List.set_cons_zero, List.set_cons_succ]
      refine wpAnyH_take (i := 8) (oi := ({ dst := some 28, op := Go.Op.indexAddr 32 (Go.Operand.tmp 5) (Go.Operand.const (Go.Value.int Go.IntKind.i64 0)), type := 0, pos := "law.go:113", after := #[{ on := 5, ground := Go.Ground.guard }], guard := some (5, false) } : Oper)) (v := .pointer (some ⟨n1, 0, none⟩)) rfl (by kernel_rfl) (by kernel_rfl) (by kernel_rfl) (fun _ _ _ h => h) (Or.inl ⟨by rfl, ?hy8⟩) (by assumption) ?_
      case hy8 => ((intro W hSW; (try dsimp only at hSW); go_simp); (try with_reducible rfl); (try exact ⟨rfl, rfl, rfl⟩))
      simp only [Act.put, List.setIfInBounds_toArray, List.set_cons_zero, List.set_cons_succ]
      refine wpAnyH_take (i := 9) (oi := ({ dst := some 29, op := Go.Op.load 3 (Go.Operand.tmp 28), type := 3, pos := "law.go:113", after := #[{ on := 8, ground := Go.Ground.data }, { on := 5, ground := Go.Ground.guard }], guard := some (5, false) } : Oper)) (v := .int .i64 x0) rfl (by kernel_rfl) (by kernel_rfl) (by kernel_rfl) (fun _ _ _ h => h) (Or.inl ⟨by rfl, ?hy9⟩) (by assumption) ?_
      case hy9 => ((intro W hSW; have e0 := (hSW.cell (p := ⟨n1, 0, none⟩) hn1).trans u0; go_simp); (try with_reducible rfl); (try exact ⟨rfl, rfl, rfl⟩))
      simp only [Act.put, List.setIfInBounds_toArray, List.set_cons_zero, List.set_cons_succ]
      refine wpAnyH_take (i := 10) (oi := ({ dst := some 30, op := Go.Op.indexAddr 32 (Go.Operand.tmp 5) (Go.Operand.const (Go.Value.int Go.IntKind.i64 1)), type := 0, pos := "law.go:113", after := #[{ on := 5, ground := Go.Ground.guard }], guard := some (5, false) } : Oper)) (v := .pointer (some ⟨n1, 1, none⟩)) rfl (by kernel_rfl) (by kernel_rfl) (by kernel_rfl) (fun _ _ _ h => h) (Or.inl ⟨by rfl, ?hy10⟩) (by assumption) ?_
      case hy10 => ((intro W hSW; (try dsimp only at hSW); go_simp); (try with_reducible rfl); (try exact ⟨rfl, rfl, rfl⟩))
      simp only [Act.put, List.setIfInBounds_toArray, List.set_cons_zero, List.set_cons_succ]
      refine wpAnyH_take (i := 11) (oi := ({ dst := some 31, op := Go.Op.load 3 (Go.Operand.tmp 30), type := 3, pos := "law.go:113", after := #[{ on := 10, ground := Go.Ground.data }, { on := 5, ground := Go.Ground.guard }], guard := some (5, false) } : Oper)) (v := .int .i64 x1) rfl (by kernel_rfl) (by kernel_rfl) (by kernel_rfl) (fun _ _ _ h => h) (Or.inl ⟨by rfl, ?hy11⟩) (by assumption) ?_
      case hy11 => ((intro W hSW; have e0 := (hSW.cell (p := ⟨n1, 1, none⟩) hn1).trans u1; go_simp); (try with_reducible rfl); (try exact ⟨rfl, rfl, rfl⟩))
      simp only [Act.put, List.setIfInBounds_toArray, List.set_cons_zero, List.set_cons_succ]
      refine wpAnyH_ready (rs := [12]) (by kernel_rfl) (by simp) ?_
      refine (AllReadyH.cons (i := 12) (o := ({ dst := some 32, op := Go.Op.call { callee := Go.Callee.value (Go.Operand.func 10), args := #[Go.Operand.tmp 27, Go.Operand.tmp 29, Go.Operand.tmp 31], argTypes := #[39, 3, 3] }, type := 39, pos := "law.go:113", after := #[{ on := 7, ground := Go.Ground.data }, { on := 9, ground := Go.Ground.data }, { on := 11, ground := Go.Ground.data }, { on := 5, ground := Go.Ground.chain }, { on := 5, ground := Go.Ground.guard }], guard := some (5, false) } : Oper)) rfl (fun K hK => ?_) AllReadyH.nil)
      rw [if_pos (by rfl)]
      go_simp
      refine (HRP.out V1).mono ?_
      rintro e V2 ⟨he, hb⟩
      subst he
      go_simp
      refine hK.out _ _ (hHeld.trans (hb.mono hHeld.size)) (fun hHeld => ?_)
      clear hK K
      try simp only [Act.put, List.setIfInBounds_toArray, List.set_cons_zero, List.set_cons_succ]
      refine wpAnyH_take (i := 13) (oi := ({ dst := some 33, op := Go.Op.binOp Go.BinOp.neq 39 (Go.Operand.tmp 26) (Go.Operand.tmp 32) 39, type := 4, pos := "law.go:113", after := #[{ on := 6, ground := Go.Ground.data }, { on := 12, ground := Go.Ground.data }, { on := 5, ground := Go.Ground.guard }], guard := some (5, false) } : Oper)) (v := .bool false) rfl (by kernel_rfl) (by kernel_rfl) (by kernel_rfl) (fun _ _ _ h => h) (Or.inl ⟨by rfl, ?hy12⟩) (by assumption) ?_
      case hy12 => ((intro W hSW; (try dsimp only at hSW); go_simp); (try with_reducible rfl); (try exact ⟨rfl, rfl, rfl⟩))
      simp only [Act.put, List.setIfInBounds_toArray, List.set_cons_zero, List.set_cons_succ]
      refine wpAnyH_take (i := 14) (oi := ({ dst := some 34, op := Go.Op.pick (Go.Operand.tmp 25) (Go.Operand.const (Go.Value.bool true)) (Go.Operand.tmp 33), type := 4, pos := "law.go:113", after := #[{ on := 5, ground := Go.Ground.data }, { on := 13, ground := Go.Ground.data }], guard := none } : Oper)) (v := .bool false) rfl (by kernel_rfl) (by kernel_rfl) (by kernel_rfl) (fun _ _ _ h => h) (Or.inl ⟨by rfl, ?hy13⟩) (by assumption) ?_
      case hy13 => ((intro W hSW; (try dsimp only at hSW); go_simp); (try with_reducible rfl); (try exact ⟨rfl, rfl, rfl⟩))
      simp only [Act.put, List.setIfInBounds_toArray, List.set_cons_zero, List.set_cons_succ]
      refine wpAnyH_done (by kernel_rfl) ?_ _
      have HW := Lib.hid hHeld
      clear hHeld
      have z1 := HBX.out.size
      rw [HN0.out] at z1
      have z2 := HT.out.size
      have wq0 := (HW.out.cell (p := ⟨n0, 0, none⟩) hn0).trans q0
      have wq1 := (HW.out.cell (p := ⟨n0, 1, none⟩) hn0).trans q1
      have wq2 := (HW.out.cell (p := ⟨n0, 2, none⟩) hn0).trans q2
      have wq3 := (HW.out.cell (p := ⟨n0, 3, none⟩) hn0).trans q3
      have wB70 := (HW.out.cell (p := ⟨B7, 0, none⟩) hlB7).trans B70
      have wB71 := (HW.out.cell (p := ⟨B7, 1, none⟩) hlB7).trans B71
      have wB72 := (HW.out.cell (p := ⟨B7, 2, none⟩) hlB7).trans B72
      have wB73 := (HW.out.cell (p := ⟨B7, 3, none⟩) hlB7).trans B73
      have wB80 := (HW.out.cell (p := ⟨B8, 0, none⟩) hlB8).trans B80
      have wB81 := (HW.out.cell (p := ⟨B8, 1, none⟩) hlB8).trans B81
      have wB82 := (HW.out.cell (p := ⟨B8, 2, none⟩) hlB8).trans B82
      have wB83 := (HW.out.cell (p := ⟨B8, 3, none⟩) hlB8).trans B83
      by_cases hz : p.bl = 0
      · obtain ⟨e1, e2⟩ := HM.out hz
        rw [e1] at wB70 wB71 wB72 wB73
        rw [e2] at wB80 wB81 wB82 wB83
        rw [hz] at wq0 wB70 wB80
        clear hz e1 e2
        go_wp2
        go_ret
        exact ⟨rfl, by rw [HN0.out]; exact HBX.out.trans ((HT.out.mono (by omega)).trans (HW.out.mono (by omega)))⟩
      · have hz2 : (p.bl != 0) = true := by simpa using hz
        clear hz
        go_wp2
        go_ret
        exact ⟨rfl, by rw [HN0.out]; exact HBX.out.trans ((HT.out.mono (by omega)).trans (HW.out.mono (by omega)))⟩

end Go.Proofs.Ytjianllngobhhaa
