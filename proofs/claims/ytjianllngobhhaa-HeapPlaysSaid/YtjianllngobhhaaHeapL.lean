/- Package heap: Free. Conditions: each theorem's. -/
import Derived.Test.YtjianllngobhhaaHeapK
import Derived.Laws.StructEq
namespace Go.Proofs.Ytjianllngobhhaa
open Go.RowKit Go.Maps
set_option linter.unusedVariables false
set_option linter.unusedSimpArgs false
set_option maxRecDepth 100000
open Hp
theorem cmp_ptr (p q : Ptr) (W : World) : (binOp .neq 31 p.v q.v).run Try.prog W = .ok (.bool (!decide (p = q))) W := by
  obtain ⟨a, b, c, d⟩ := p
  obtain ⟨a', b', c', d'⟩ := q
  have e : (!decide (Ptr.mk a b c d = Ptr.mk a' b' c' d')) = !(a == a' && (b == b' && (c == c' && d == d'))) := by
    simp only [Ptr.mk.injEq, Bool.decide_and]
    rfl
  rw [e]
  simp only [Ptr.v]
  go_simp
  by_cases h1 : a = a' <;> by_cases h2 : b = b' <;> by_cases h3 : c = c' <;> by_cases h4 : d = d' <;> simp [*]
theorem ifs3 {α : Type} {x y z u : Int} {A B : α} (h : ¬ (x = 0 ∧ y = 0 ∧ z = u)) : (if x = 0 then (if y = 0 then (if z = u then A else B) else B) else B) = B := by
  by_cases h1 : x = 0 <;> by_cases h2 : y = 0 <;> by_cases h3 : z = u <;> simp [*] at *
namespace Hp
def Ab.fr (A : Ab) (p : Ptr) : Int := if p.bl = 0 then 22 else match A.room p.bl with
  | none => 20
  | some (s, f) => if f = true ∧ p = ⟨p.bl, 0, 0, s⟩ then 0 else 23
def Ab.freeE (A : Ab) (p : Ptr) : Ab := if A.fr p = 0 then A.drop p.bl else A
end Hp
set_option maxHeartbeats 1000000 in
theorem free_t {w : World} {g : G} {h : Nat} (p : Ptr) (hp : p.ok) (H : HeapAt w g) (hh : g.h = h) (hE : tgE g p ≠ 0) :
    Calls Try.prog 18 #[.pointer (some ⟨h, 0, none⟩), p.v] w fun e w' => e = .returned (.int .i64 (tgE g p)) ∧ Below w.heap.size w w' := by
  have hB : Below w.heap.size w (w.alloc (.cells #[.int .i64 p.bl, .int .i64 p.off, .int .i64 p.lo, .int .i64 p.hi] 31)) := (Below.refl _ _).alloc (Nat.le_refl _) _
  have ht := target_any p hp (H.below hB) hh
  generalize tgE g p = E at *
  generalize tgV g p = tv at *
  have hE' : (E == 0) = false := by simpa using hE
  clear hE H
  obtain ⟨b, of, l, hi⟩ := p
  simp only [Ptr.v] at *
  go_enter Try.func18, Try.ntmps18
  go_wp2_with (go_at_call 32; refine ht.mono ?_; rintro e w2 ⟨rfl, hb2⟩)
  go_ret
  exact ⟨rfl, hB.trans (hb2.mono (by simp))⟩
theorem target_ok {w : World} {g : G} {h : Nat} (p : Ptr) (hp : p.ok) (H : HeapAt w g) (hh : g.h = h) {r : Room} (hz : p.bl ≠ 0) (hr : g.room p.bl = some r) :
    Calls Try.prog 32 #[.pointer (some ⟨h, 0, none⟩), p.v] w fun e w' => e = .returned (.tuple #[.pointer (some ⟨r.rb, 0, none⟩), .int .i64 0]) ∧ Below w.heap.size w w' := by
  have ht := target_any p hp H hh
  unfold tgE tgV at ht
  rw [if_neg hz, if_neg hz, hr] at ht
  exact ht
set_option maxHeartbeats 1000000 in
theorem free_no {w : World} {g : G} {h : Nat} (p : Ptr) (hp : p.ok) (H : HeapAt w g) (hh : g.h = h) {r : Room} (hz : p.bl ≠ 0) (hr : g.room p.bl = some r) (hf : r.free = false) :
    Calls Try.prog 18 #[.pointer (some ⟨h, 0, none⟩), p.v] w fun e w' => e = .returned (.int .i64 23) ∧ Below w.heap.size w w' := by
  have hB : Below w.heap.size w (w.alloc (.cells #[.int .i64 p.bl, .int .i64 p.off, .int .i64 p.lo, .int .i64 p.hi] 31)) := (Below.refl _ _).alloc (Nat.le_refl _) _
  have ht := target_ok p hp (H.below hB) hh hz hr
  have u1 := (H.room _ r hr).1
  rw [hf] at u1
  have c1 : w.cell? ⟨r.rb, 1, none⟩ = some (.bool false) := cell_of_row _ _ _ _ _ _ u1
  have hl := lt_of_at u1
  clear H u1 hz hr
  obtain ⟨b, of, l, hi⟩ := p
  simp only [Ptr.v] at *
  go_enter Try.func18, Try.ntmps18
  go_wp2_with (go_at_call 32; refine ht.mono ?_; rintro e w2 ⟨rfl, hb2⟩; have d1 : w2.cell? ⟨r.rb, 1, none⟩ = some (.bool false) := (hb2.cell (p := ⟨r.rb, 1, none⟩) (by simp; omega)).trans ((World.cell?_alloc_lt _ _ _ hl).trans c1); have hl2 : r.rb < w2.heap.size := World.block_lt_of_cell? _ _ d1)
  go_quiet (fail)
  go_wp2
  go_ret
  exact ⟨rfl, belowN (hB.trans (hb2.mono (by simp)))⟩
set_option maxHeartbeats 1000000 in
theorem free_ne {w : World} {g : G} {h : Nat} (p : Ptr) (hp : p.ok) (H : HeapAt w g) (hh : g.h = h) {r : Room} (hz : p.bl ≠ 0) (hr : g.room p.bl = some r) (hf : r.free = true) (hne : p ≠ ⟨p.bl, 0, 0, r.size⟩) :
    Calls Try.prog 18 #[.pointer (some ⟨h, 0, none⟩), p.v] w fun e w' => e = .returned (.int .i64 23) ∧ Below w.heap.size w w' := by
  have hB : Below w.heap.size w (w.alloc (.cells #[.int .i64 p.bl, .int .i64 p.off, .int .i64 p.lo, .int .i64 p.hi] 31)) := (Below.refl _ _).alloc (Nat.le_refl _) _
  have ht := target_ok p hp (H.below hB) hh hz hr
  have u1 := (H.room _ r hr).1
  rw [hf] at u1
  have U1 := Lib.hid u1
  have hl := lt_of_at u1
  have HPQ := Lib.hid hne
  have HHH := Lib.hid (And.intro H hh)
  have HRR := Lib.hid hr
  generalize hsz : r.size = sz at *
  clear H u1 hz hr hne hsz hh
  obtain ⟨b, of, l, hi⟩ := p
  simp only [Ptr.v] at *
  go_enter Try.func18, Try.ntmps18
  go_wp2_with (go_at_call 32; refine ht.mono ?_; rintro e X ⟨rfl, hb2⟩)
  have q : X.heap[w.heap.size]? = some (.cells #[.int .i64 b, .int .i64 of, .int .i64 l, .int .i64 hi] 31) := (hb2.block _ (by simp)).trans (heap_alloc_new w _)
  have hnX := lt_of_at q
  obtain ⟨q0, q1, q2, q3⟩ := cells4 q
  have rr : X.heap[r.rb]? = some (.cells #[.int .i64 sz, .bool true, r.us] 73) := (hb2.block _ (by simp; omega)).trans (row_up U1.out _)
  have hrX := lt_of_at rr
  have r0 : X.cell? ⟨r.rb, 0, none⟩ = some (.int .i64 sz) := cell_of_row _ _ _ _ _ _ rr
  have r1 : X.cell? ⟨r.rb, 1, none⟩ = some (.bool true) := cell_of_row _ _ _ _ _ _ rr
  have HB2 := Lib.hid (hB.trans (hb2.mono (by simp)))
  clear hb2 hB ht q rr hl
  generalize hn0 : w.heap.size = n0 at *
  have HN0 := Lib.hid hn0
  clear hn0
  have HEQ : Hid (¬ (of = 0 ∧ l = 0 ∧ hi = sz)) := Lib.hid (fun q => HPQ.out (by obtain ⟨rfl, rfl, rfl⟩ := q; rfl))
  refine wp_region_held_drew (S := fun W : World => Below X.heap.size X W) (by kernel_rfl) ((Below.refl _ _).drew) (fun hHeld => ?_)
  refine wpAnyH_take (i := 0) (oi := ({ dst := some 16, op := Go.Op.move (Go.Operand.tmp 5), type := 70, pos := "heap.go:68", after := #[], guard := none } : Oper)) (v := .pointer (some ⟨r.rb, 0, none⟩)) rfl (by kernel_rfl) (by kernel_rfl) (by kernel_rfl) (fun _ _ _ h => h) (Or.inl ⟨by rfl, ?hy1⟩) (by assumption) ?_
  case hy1 => ((intro W hSW; (try dsimp only at hSW); go_simp); (try with_reducible rfl); (try exact ⟨rfl, rfl, rfl⟩))
  simp only [Act.put, List.setIfInBounds_toArray, List.set_cons_zero, List.set_cons_succ]
  refine wpAnyH_take (i := 1) (oi := ({ dst := some 17, op := Go.Op.nilCheck (Go.Operand.tmp 16), type := 0, pos := "heap.go:68", after := #[{ on := 0, ground := Go.Ground.data }], guard := none } : Oper)) (v := .pointer (some ⟨r.rb, 0, none⟩)) rfl (by kernel_rfl) (by kernel_rfl) (by kernel_rfl) (fun _ _ _ h => h) (Or.inl ⟨by rfl, ?hy2⟩) (by assumption) ?_
  case hy2 => ((intro W hSW; (try dsimp only at hSW); go_simp); (try with_reducible rfl); (try exact ⟨rfl, rfl, rfl⟩))
  simp only [Act.put, List.setIfInBounds_toArray, List.set_cons_zero, List.set_cons_succ]
  refine wpAnyH_take (i := 2) (oi := ({ dst := some 18, op := Go.Op.fieldAddr 73 (Go.Operand.tmp 17) 1, type := 0, pos := "heap.go:68", after := #[{ on := 1, ground := Go.Ground.data }], guard := none } : Oper)) (v := .pointer (some ⟨r.rb, 1, none⟩)) rfl (by kernel_rfl) (by kernel_rfl) (by kernel_rfl) (fun _ _ _ h => h) (Or.inl ⟨by rfl, ?hy3⟩) (by assumption) ?_
  case hy3 => ((intro W hSW; (try dsimp only at hSW); go_simp); (try with_reducible rfl); (try exact ⟨rfl, rfl, rfl⟩))
  simp only [Act.put, List.setIfInBounds_toArray, List.set_cons_zero, List.set_cons_succ]
  refine wpAnyH_take (i := 3) (oi := ({ dst := some 19, op := Go.Op.load 4 (Go.Operand.tmp 18), type := 4, pos := "heap.go:68", after := #[{ on := 2, ground := Go.Ground.data }], guard := none } : Oper)) (v := .bool true) rfl (by kernel_rfl) (by kernel_rfl) (by kernel_rfl) (fun _ _ _ h => h) (Or.inl ⟨by rfl, ?hy4⟩) (by assumption) ?_
  case hy4 => ((intro W hSW; have e := (hSW.cell (p := ⟨r.rb, 1, none⟩) hrX).trans r1; go_simp); (try with_reducible rfl); (try exact ⟨rfl, rfl, rfl⟩))
  simp only [Act.put, List.setIfInBounds_toArray, List.set_cons_zero, List.set_cons_succ]
  refine wpAnyH_take (i := 4) (oi := ({ dst := some 20, op := Go.Op.unOp Go.UnOp.not 4 (Go.Operand.tmp 19), type := 4, pos := "heap.go:68", after := #[{ on := 3, ground := Go.Ground.data }], guard := none } : Oper)) (v := .bool false) rfl (by kernel_rfl) (by kernel_rfl) (by kernel_rfl) (fun _ _ _ h => h) (Or.inl ⟨by rfl, ?hy5⟩) (by assumption) ?_
  case hy5 => ((intro W hSW; (try dsimp only at hSW); go_simp); (try with_reducible rfl); (try exact ⟨rfl, rfl, rfl⟩))
  simp only [Act.put, List.setIfInBounds_toArray, List.set_cons_zero, List.set_cons_succ]
  refine wpAnyH_take (i := 5) (oi := ({ dst := some 21, op := Go.Op.move (Go.Operand.tmp 20), type := 4, pos := "heap.go:68", after := #[{ on := 4, ground := Go.Ground.data }], guard := none } : Oper)) (v := .bool false) rfl (by kernel_rfl) (by kernel_rfl) (by kernel_rfl) (fun _ _ _ h => h) (Or.inl ⟨by rfl, ?hy6⟩) (by assumption) ?_
  case hy6 => ((intro W hSW; (try dsimp only at hSW); go_simp); (try with_reducible rfl); (try exact ⟨rfl, rfl, rfl⟩))
  simp only [Act.put, List.setIfInBounds_toArray, List.set_cons_zero, List.set_cons_succ]
  refine wpAnyH_take (i := 6) (oi := ({ dst := some 22, op := Go.Op.load 31 (Go.Operand.tmp 3), type := 31, pos := "heap.go:68", after := #[{ on := 5, ground := Go.Ground.guard }], guard := some (5, false) } : Oper)) (v := .agg #[.int .i64 b, .int .i64 of, .int .i64 l, .int .i64 hi]) rfl (by kernel_rfl) (by kernel_rfl) (by kernel_rfl) (fun _ _ _ h => h) (Or.inl ⟨by rfl, ?hy7⟩) (by assumption) ?_
  case hy7 => ((intro W hSW; have e0 := (hSW.cell (p := ⟨n0, 0, none⟩) hnX).trans q0; have e1 := (hSW.cell (p := ⟨n0, 1, none⟩) hnX).trans q1; have e2 := (hSW.cell (p := ⟨n0, 2, none⟩) hnX).trans q2; have e3 := (hSW.cell (p := ⟨n0, 3, none⟩) hnX).trans q3; go_simp); (try with_reducible rfl); (try exact ⟨rfl, rfl, rfl⟩))
  simp only [Act.put, List.setIfInBounds_toArray, List.set_cons_zero, List.set_cons_succ]
  refine wpAnyH_take (i := 7) (oi := ({ dst := some 23, op := Go.Op.fieldAddr 31 (Go.Operand.tmp 3) 0, type := 0, pos := "heap.go:68", after := #[{ on := 5, ground := Go.Ground.guard }], guard := some (5, false) } : Oper)) (v := .pointer (some ⟨n0, 0, none⟩)) rfl (by kernel_rfl) (by kernel_rfl) (by kernel_rfl) (fun _ _ _ h => h) (Or.inl ⟨by rfl, ?hy8⟩) (by assumption) ?_
  case hy8 => ((intro W hSW; (try dsimp only at hSW); go_simp); (try with_reducible rfl); (try exact ⟨rfl, rfl, rfl⟩))
  simp only [Act.put, List.setIfInBounds_toArray, List.set_cons_zero, List.set_cons_succ]
  refine wpAnyH_take (i := 8) (oi := ({ dst := some 24, op := Go.Op.load 3 (Go.Operand.tmp 23), type := 3, pos := "heap.go:68", after := #[{ on := 7, ground := Go.Ground.data }, { on := 5, ground := Go.Ground.guard }], guard := some (5, false) } : Oper)) (v := .int .i64 b) rfl (by kernel_rfl) (by kernel_rfl) (by kernel_rfl) (fun _ _ _ h => h) (Or.inl ⟨by rfl, ?hy9⟩) (by assumption) ?_
  case hy9 => ((intro W hSW; have e0 := (hSW.cell (p := ⟨n0, 0, none⟩) hnX).trans q0; go_simp); (try with_reducible rfl); (try exact ⟨rfl, rfl, rfl⟩))
  simp only [Act.put, List.setIfInBounds_toArray, List.set_cons_zero, List.set_cons_succ]
  refine wpAnyH_take (i := 9) (oi := ({ dst := some 25, op := Go.Op.move (Go.Operand.tmp 5), type := 70, pos := "heap.go:68", after := #[{ on := 5, ground := Go.Ground.guard }], guard := some (5, false) } : Oper)) (v := .pointer (some ⟨r.rb, 0, none⟩)) rfl (by kernel_rfl) (by kernel_rfl) (by kernel_rfl) (fun _ _ _ h => h) (Or.inl ⟨by rfl, ?hy10⟩) (by assumption) ?_
  case hy10 => ((intro W hSW; (try dsimp only at hSW); go_simp); (try with_reducible rfl); (try exact ⟨rfl, rfl, rfl⟩))
  simp only [Act.put, List.setIfInBounds_toArray, List.set_cons_zero, List.set_cons_succ]
  refine wpAnyH_take (i := 10) (oi := ({ dst := some 26, op := Go.Op.nilCheck (Go.Operand.tmp 25), type := 0, pos := "heap.go:68", after := #[{ on := 9, ground := Go.Ground.data }, { on := 5, ground := Go.Ground.guard }], guard := some (5, false) } : Oper)) (v := .pointer (some ⟨r.rb, 0, none⟩)) rfl (by kernel_rfl) (by kernel_rfl) (by kernel_rfl) (fun _ _ _ h => h) (Or.inl ⟨by rfl, ?hy11⟩) (by assumption) ?_
  case hy11 => ((intro W hSW; (try dsimp only at hSW); go_simp); (try with_reducible rfl); (try exact ⟨rfl, rfl, rfl⟩))
  simp only [Act.put, List.setIfInBounds_toArray, List.set_cons_zero, List.set_cons_succ]
  refine wpAnyH_take (i := 11) (oi := ({ dst := some 27, op := Go.Op.fieldAddr 73 (Go.Operand.tmp 26) 0, type := 0, pos := "heap.go:68", after := #[{ on := 10, ground := Go.Ground.data }, { on := 5, ground := Go.Ground.guard }], guard := some (5, false) } : Oper)) (v := .pointer (some ⟨r.rb, 0, none⟩)) rfl (by kernel_rfl) (by kernel_rfl) (by kernel_rfl) (fun _ _ _ h => h) (Or.inl ⟨by rfl, ?hy12⟩) (by assumption) ?_
  case hy12 => ((intro W hSW; (try dsimp only at hSW); go_simp); (try with_reducible rfl); (try exact ⟨rfl, rfl, rfl⟩))
  simp only [Act.put, List.setIfInBounds_toArray, List.set_cons_zero, List.set_cons_succ]
  refine wpAnyH_take (i := 12) (oi := ({ dst := some 28, op := Go.Op.load 3 (Go.Operand.tmp 27), type := 3, pos := "heap.go:68", after := #[{ on := 11, ground := Go.Ground.data }, { on := 5, ground := Go.Ground.guard }], guard := some (5, false) } : Oper)) (v := .int .i64 sz) rfl (by kernel_rfl) (by kernel_rfl) (by kernel_rfl) (fun _ _ _ h => h) (Or.inl ⟨by rfl, ?hy13⟩) (by assumption) ?_
  case hy13 => ((intro W hSW; have e := (hSW.cell (p := ⟨r.rb, 0, none⟩) hrX).trans r0; go_simp); (try with_reducible rfl); (try exact ⟨rfl, rfl, rfl⟩))
  simp only [Act.put, List.setIfInBounds_toArray, List.set_cons_zero, List.set_cons_succ]
  refine wpAnyH_ready (rs := [13]) (by kernel_rfl) (by simp) ?_
  refine (AllReadyH.cons (i := 13) (o := ({ dst := some 29, op := Go.Op.call { callee := Go.Callee.value (Go.Operand.func 26), args := #[Go.Operand.tmp 24, Go.Operand.tmp 28], argTypes := #[3, 3] }, type := 31, pos := "heap.go:68", after := #[{ on := 8, ground := Go.Ground.data }, { on := 12, ground := Go.Ground.data }, { on := 5, ground := Go.Ground.chain }, { on := 5, ground := Go.Ground.guard }], guard := some (5, false) } : Oper)) rfl (fun K hK => ?_) AllReadyH.nil)
  rw [if_pos (by rfl)]
  go_simp
  refine (whole_any _ _ _).mono ?_
  rintro e w3 ⟨he, hb3⟩
  simp only [Ptr.v] at he
  subst he
  go_simp
  refine hK.out _ _ (hHeld.trans (hb3.mono hHeld.size)) (fun hHeld => ?_)
  clear hK K
  try simp only [Act.put, List.setIfInBounds_toArray, List.set_cons_zero, List.set_cons_succ]
  refine wpAnyH_take (i := 14) (oi := ({ dst := some 30, op := Go.Op.binOp Go.BinOp.neq 31 (Go.Operand.tmp 22) (Go.Operand.tmp 29) 31, type := 4, pos := "heap.go:68", after := #[{ on := 6, ground := Go.Ground.data }, { on := 13, ground := Go.Ground.data }, { on := 5, ground := Go.Ground.guard }], guard := some (5, false) } : Oper)) (v := .bool true) rfl (by kernel_rfl) (by kernel_rfl) (by kernel_rfl) (fun _ _ _ h => h) (Or.inl ⟨by rfl, ?hy14⟩) (by assumption) ?_
  case hy14 => ((intro W hSW; go_simp; (try exact fun a1 a2 a3 => HEQ.out ⟨a1, a2, a3⟩)); (try with_reducible rfl); (try exact ⟨rfl, rfl, rfl⟩))
  simp only [Act.put, List.setIfInBounds_toArray, List.set_cons_zero, List.set_cons_succ]
  refine wpAnyH_take (i := 15) (oi := ({ dst := some 31, op := Go.Op.pick (Go.Operand.tmp 21) (Go.Operand.const (Go.Value.bool true)) (Go.Operand.tmp 30), type := 4, pos := "heap.go:68", after := #[{ on := 5, ground := Go.Ground.data }, { on := 14, ground := Go.Ground.data }], guard := none } : Oper)) (v := .bool true) rfl (by kernel_rfl) (by kernel_rfl) (by kernel_rfl) (fun _ _ _ h => h) (Or.inl ⟨by rfl, ?hy15⟩) (by assumption) ?_
  case hy15 => ((intro W hSW; (try dsimp only at hSW); go_simp); (try with_reducible rfl); (try exact ⟨rfl, rfl, rfl⟩))
  simp only [Act.put, List.setIfInBounds_toArray, List.set_cons_zero, List.set_cons_succ]
  refine wpAnyH_done (by kernel_rfl) ?_ _
  have HH := Lib.hid hHeld
  clear hHeld
  go_wp2
  go_ret
  exact ⟨rfl, by rw [HN0.out]; exact HB2.out.trans (HH.out.mono (by omega))⟩
set_option maxHeartbeats 1000000 in
theorem free_ok {w : World} {g : G} {h : Nat} (p : Ptr) (hp : p.ok) (H : HeapAt w g) (hh : g.h = h) {r : Room} (hz : p.bl ≠ 0) (hr : g.room p.bl = some r) (hf : r.free = true) (hne : p = ⟨p.bl, 0, 0, r.size⟩) (hcn : g.cnt < 1073741824) :
    Calls Try.prog 18 #[.pointer (some ⟨h, 0, none⟩), p.v] w fun e w' => e = .returned (.int .i64 0) ∧ HeapAt w' ((g.emp p.bl r).gone p.bl) ∧ Stays g.own w ((g.emp p.bl r).gone p.bl).own w' := by
  have hB : Below w.heap.size w (w.alloc (.cells #[.int .i64 p.bl, .int .i64 p.off, .int .i64 p.lo, .int .i64 p.hi] 31)) := (Below.refl _ _).alloc (Nat.le_refl _) _
  have ht := target_ok p hp (H.below hB) hh hz hr
  have u1 := (H.room _ r hr).1
  rw [hf] at u1
  have U1 := Lib.hid u1
  have hl := lt_of_at u1
  have HPQ := Lib.hid hne
  have HHH := Lib.hid (And.intro H hh)
  have HRR := Lib.hid hr
  generalize hsz : r.size = sz at *
  clear H u1 hz hr hne hsz hh
  obtain ⟨b, of, l, hi⟩ := p
  simp only [Ptr.v] at *
  go_enter Try.func18, Try.ntmps18
  go_wp2_with (go_at_call 32; refine ht.mono ?_; rintro e X ⟨rfl, hb2⟩)
  have q : X.heap[w.heap.size]? = some (.cells #[.int .i64 b, .int .i64 of, .int .i64 l, .int .i64 hi] 31) := (hb2.block _ (by simp)).trans (heap_alloc_new w _)
  have hnX := lt_of_at q
  obtain ⟨q0, q1, q2, q3⟩ := cells4 q
  have rr : X.heap[r.rb]? = some (.cells #[.int .i64 sz, .bool true, r.us] 73) := (hb2.block _ (by simp; omega)).trans (row_up U1.out _)
  have hrX := lt_of_at rr
  have r0 : X.cell? ⟨r.rb, 0, none⟩ = some (.int .i64 sz) := cell_of_row _ _ _ _ _ _ rr
  have r1 : X.cell? ⟨r.rb, 1, none⟩ = some (.bool true) := cell_of_row _ _ _ _ _ _ rr
  have HB2 := Lib.hid (hB.trans (hb2.mono (by simp)))
  clear hb2 hB ht q rr hl
  generalize hn0 : w.heap.size = n0 at *
  have HN0 := Lib.hid hn0
  clear hn0
  obtain ⟨hof, hl0, hhi⟩ : of = 0 ∧ l = 0 ∧ hi = sz := by have := HPQ.out; injection this with _ a1 a2 a3; exact ⟨a1, a2, a3⟩
  subst hof hl0 hhi
  refine wp_region_held_drew (S := fun W : World => Below X.heap.size X W) (by kernel_rfl) ((Below.refl _ _).drew) (fun hHeld => ?_)
  refine wpAnyH_take (i := 0) (oi := ({ dst := some 16, op := Go.Op.move (Go.Operand.tmp 5), type := 70, pos := "heap.go:68", after := #[], guard := none } : Oper)) (v := .pointer (some ⟨r.rb, 0, none⟩)) rfl (by kernel_rfl) (by kernel_rfl) (by kernel_rfl) (fun _ _ _ h => h) (Or.inl ⟨by rfl, ?hy1⟩) (by assumption) ?_
  case hy1 => ((intro W hSW; (try dsimp only at hSW); go_simp); (try with_reducible rfl); (try exact ⟨rfl, rfl, rfl⟩))
  simp only [Act.put, List.setIfInBounds_toArray, List.set_cons_zero, List.set_cons_succ]
  refine wpAnyH_take (i := 1) (oi := ({ dst := some 17, op := Go.Op.nilCheck (Go.Operand.tmp 16), type := 0, pos := "heap.go:68", after := #[{ on := 0, ground := Go.Ground.data }], guard := none } : Oper)) (v := .pointer (some ⟨r.rb, 0, none⟩)) rfl (by kernel_rfl) (by kernel_rfl) (by kernel_rfl) (fun _ _ _ h => h) (Or.inl ⟨by rfl, ?hy2⟩) (by assumption) ?_
  case hy2 => ((intro W hSW; (try dsimp only at hSW); go_simp); (try with_reducible rfl); (try exact ⟨rfl, rfl, rfl⟩))
  simp only [Act.put, List.setIfInBounds_toArray, List.set_cons_zero, List.set_cons_succ]
  refine wpAnyH_take (i := 2) (oi := ({ dst := some 18, op := Go.Op.fieldAddr 73 (Go.Operand.tmp 17) 1, type := 0, pos := "heap.go:68", after := #[{ on := 1, ground := Go.Ground.data }], guard := none } : Oper)) (v := .pointer (some ⟨r.rb, 1, none⟩)) rfl (by kernel_rfl) (by kernel_rfl) (by kernel_rfl) (fun _ _ _ h => h) (Or.inl ⟨by rfl, ?hy3⟩) (by assumption) ?_
  case hy3 => ((intro W hSW; (try dsimp only at hSW); go_simp); (try with_reducible rfl); (try exact ⟨rfl, rfl, rfl⟩))
  simp only [Act.put, List.setIfInBounds_toArray, List.set_cons_zero, List.set_cons_succ]
  refine wpAnyH_take (i := 3) (oi := ({ dst := some 19, op := Go.Op.load 4 (Go.Operand.tmp 18), type := 4, pos := "heap.go:68", after := #[{ on := 2, ground := Go.Ground.data }], guard := none } : Oper)) (v := .bool true) rfl (by kernel_rfl) (by kernel_rfl) (by kernel_rfl) (fun _ _ _ h => h) (Or.inl ⟨by rfl, ?hy4⟩) (by assumption) ?_
  case hy4 => ((intro W hSW; have e := (hSW.cell (p := ⟨r.rb, 1, none⟩) hrX).trans r1; go_simp); (try with_reducible rfl); (try exact ⟨rfl, rfl, rfl⟩))
  simp only [Act.put, List.setIfInBounds_toArray, List.set_cons_zero, List.set_cons_succ]
  refine wpAnyH_take (i := 4) (oi := ({ dst := some 20, op := Go.Op.unOp Go.UnOp.not 4 (Go.Operand.tmp 19), type := 4, pos := "heap.go:68", after := #[{ on := 3, ground := Go.Ground.data }], guard := none } : Oper)) (v := .bool false) rfl (by kernel_rfl) (by kernel_rfl) (by kernel_rfl) (fun _ _ _ h => h) (Or.inl ⟨by rfl, ?hy5⟩) (by assumption) ?_
  case hy5 => ((intro W hSW; (try dsimp only at hSW); go_simp); (try with_reducible rfl); (try exact ⟨rfl, rfl, rfl⟩))
  simp only [Act.put, List.setIfInBounds_toArray, List.set_cons_zero, List.set_cons_succ]
  refine wpAnyH_take (i := 5) (oi := ({ dst := some 21, op := Go.Op.move (Go.Operand.tmp 20), type := 4, pos := "heap.go:68", after := #[{ on := 4, ground := Go.Ground.data }], guard := none } : Oper)) (v := .bool false) rfl (by kernel_rfl) (by kernel_rfl) (by kernel_rfl) (fun _ _ _ h => h) (Or.inl ⟨by rfl, ?hy6⟩) (by assumption) ?_
  case hy6 => ((intro W hSW; (try dsimp only at hSW); go_simp); (try with_reducible rfl); (try exact ⟨rfl, rfl, rfl⟩))
  simp only [Act.put, List.setIfInBounds_toArray, List.set_cons_zero, List.set_cons_succ]
  refine wpAnyH_take (i := 6) (oi := ({ dst := some 22, op := Go.Op.load 31 (Go.Operand.tmp 3), type := 31, pos := "heap.go:68", after := #[{ on := 5, ground := Go.Ground.guard }], guard := some (5, false) } : Oper)) (v := .agg #[.int .i64 b, .int .i64 0, .int .i64 0, .int .i64 hi]) rfl (by kernel_rfl) (by kernel_rfl) (by kernel_rfl) (fun _ _ _ h => h) (Or.inl ⟨by rfl, ?hy7⟩) (by assumption) ?_
  case hy7 => ((intro W hSW; have e0 := (hSW.cell (p := ⟨n0, 0, none⟩) hnX).trans q0; have e1 := (hSW.cell (p := ⟨n0, 1, none⟩) hnX).trans q1; have e2 := (hSW.cell (p := ⟨n0, 2, none⟩) hnX).trans q2; have e3 := (hSW.cell (p := ⟨n0, 3, none⟩) hnX).trans q3; go_simp); (try with_reducible rfl); (try exact ⟨rfl, rfl, rfl⟩))
  simp only [Act.put, List.setIfInBounds_toArray, List.set_cons_zero, List.set_cons_succ]
  refine wpAnyH_take (i := 7) (oi := ({ dst := some 23, op := Go.Op.fieldAddr 31 (Go.Operand.tmp 3) 0, type := 0, pos := "heap.go:68", after := #[{ on := 5, ground := Go.Ground.guard }], guard := some (5, false) } : Oper)) (v := .pointer (some ⟨n0, 0, none⟩)) rfl (by kernel_rfl) (by kernel_rfl) (by kernel_rfl) (fun _ _ _ h => h) (Or.inl ⟨by rfl, ?hy8⟩) (by assumption) ?_
  case hy8 => ((intro W hSW; (try dsimp only at hSW); go_simp); (try with_reducible rfl); (try exact ⟨rfl, rfl, rfl⟩))
  simp only [Act.put, List.setIfInBounds_toArray, List.set_cons_zero, List.set_cons_succ]
  refine wpAnyH_take (i := 8) (oi := ({ dst := some 24, op := Go.Op.load 3 (Go.Operand.tmp 23), type := 3, pos := "heap.go:68", after := #[{ on := 7, ground := Go.Ground.data }, { on := 5, ground := Go.Ground.guard }], guard := some (5, false) } : Oper)) (v := .int .i64 b) rfl (by kernel_rfl) (by kernel_rfl) (by kernel_rfl) (fun _ _ _ h => h) (Or.inl ⟨by rfl, ?hy9⟩) (by assumption) ?_
  case hy9 => ((intro W hSW; have e0 := (hSW.cell (p := ⟨n0, 0, none⟩) hnX).trans q0; go_simp); (try with_reducible rfl); (try exact ⟨rfl, rfl, rfl⟩))
  simp only [Act.put, List.setIfInBounds_toArray, List.set_cons_zero, List.set_cons_succ]
  refine wpAnyH_take (i := 9) (oi := ({ dst := some 25, op := Go.Op.move (Go.Operand.tmp 5), type := 70, pos := "heap.go:68", after := #[{ on := 5, ground := Go.Ground.guard }], guard := some (5, false) } : Oper)) (v := .pointer (some ⟨r.rb, 0, none⟩)) rfl (by kernel_rfl) (by kernel_rfl) (by kernel_rfl) (fun _ _ _ h => h) (Or.inl ⟨by rfl, ?hy10⟩) (by assumption) ?_
  case hy10 => ((intro W hSW; (try dsimp only at hSW); go_simp); (try with_reducible rfl); (try exact ⟨rfl, rfl, rfl⟩))
  simp only [Act.put, List.setIfInBounds_toArray, List.set_cons_zero, List.set_cons_succ]
  refine wpAnyH_take (i := 10) (oi := ({ dst := some 26, op := Go.Op.nilCheck (Go.Operand.tmp 25), type := 0, pos := "heap.go:68", after := #[{ on := 9, ground := Go.Ground.data }, { on := 5, ground := Go.Ground.guard }], guard := some (5, false) } : Oper)) (v := .pointer (some ⟨r.rb, 0, none⟩)) rfl (by kernel_rfl) (by kernel_rfl) (by kernel_rfl) (fun _ _ _ h => h) (Or.inl ⟨by rfl, ?hy11⟩) (by assumption) ?_
  case hy11 => ((intro W hSW; (try dsimp only at hSW); go_simp); (try with_reducible rfl); (try exact ⟨rfl, rfl, rfl⟩))
  simp only [Act.put, List.setIfInBounds_toArray, List.set_cons_zero, List.set_cons_succ]
  refine wpAnyH_take (i := 11) (oi := ({ dst := some 27, op := Go.Op.fieldAddr 73 (Go.Operand.tmp 26) 0, type := 0, pos := "heap.go:68", after := #[{ on := 10, ground := Go.Ground.data }, { on := 5, ground := Go.Ground.guard }], guard := some (5, false) } : Oper)) (v := .pointer (some ⟨r.rb, 0, none⟩)) rfl (by kernel_rfl) (by kernel_rfl) (by kernel_rfl) (fun _ _ _ h => h) (Or.inl ⟨by rfl, ?hy12⟩) (by assumption) ?_
  case hy12 => ((intro W hSW; (try dsimp only at hSW); go_simp); (try with_reducible rfl); (try exact ⟨rfl, rfl, rfl⟩))
  simp only [Act.put, List.setIfInBounds_toArray, List.set_cons_zero, List.set_cons_succ]
  refine wpAnyH_take (i := 12) (oi := ({ dst := some 28, op := Go.Op.load 3 (Go.Operand.tmp 27), type := 3, pos := "heap.go:68", after := #[{ on := 11, ground := Go.Ground.data }, { on := 5, ground := Go.Ground.guard }], guard := some (5, false) } : Oper)) (v := .int .i64 hi) rfl (by kernel_rfl) (by kernel_rfl) (by kernel_rfl) (fun _ _ _ h => h) (Or.inl ⟨by rfl, ?hy13⟩) (by assumption) ?_
  case hy13 => ((intro W hSW; have e := (hSW.cell (p := ⟨r.rb, 0, none⟩) hrX).trans r0; go_simp); (try with_reducible rfl); (try exact ⟨rfl, rfl, rfl⟩))
  simp only [Act.put, List.setIfInBounds_toArray, List.set_cons_zero, List.set_cons_succ]
  refine wpAnyH_ready (rs := [13]) (by kernel_rfl) (by simp) ?_
  refine (AllReadyH.cons (i := 13) (o := ({ dst := some 29, op := Go.Op.call { callee := Go.Callee.value (Go.Operand.func 26), args := #[Go.Operand.tmp 24, Go.Operand.tmp 28], argTypes := #[3, 3] }, type := 31, pos := "heap.go:68", after := #[{ on := 8, ground := Go.Ground.data }, { on := 12, ground := Go.Ground.data }, { on := 5, ground := Go.Ground.chain }, { on := 5, ground := Go.Ground.guard }], guard := some (5, false) } : Oper)) rfl (fun K hK => ?_) AllReadyH.nil)
  rw [if_pos (by rfl)]
  go_simp
  refine (whole_any _ _ _).mono ?_
  rintro e w3 ⟨he, hb3⟩
  simp only [Ptr.v] at he
  subst he
  go_simp
  refine hK.out _ _ (hHeld.trans (hb3.mono hHeld.size)) (fun hHeld => ?_)
  clear hK K
  try simp only [Act.put, List.setIfInBounds_toArray, List.set_cons_zero, List.set_cons_succ]
  refine wpAnyH_take (i := 14) (oi := ({ dst := some 30, op := Go.Op.binOp Go.BinOp.neq 31 (Go.Operand.tmp 22) (Go.Operand.tmp 29) 31, type := 4, pos := "heap.go:68", after := #[{ on := 6, ground := Go.Ground.data }, { on := 13, ground := Go.Ground.data }, { on := 5, ground := Go.Ground.guard }], guard := some (5, false) } : Oper)) (v := .bool false) rfl (by kernel_rfl) (by kernel_rfl) (by kernel_rfl) (fun _ _ _ h => h) (Or.inl ⟨by rfl, ?hy14⟩) (by assumption) ?_
  case hy14 => ((intro W hSW; go_simp; (try exact fun a1 a2 a3 => HEQ.out ⟨a1, a2, a3⟩)); (try with_reducible rfl); (try exact ⟨rfl, rfl, rfl⟩))
  simp only [Act.put, List.setIfInBounds_toArray, List.set_cons_zero, List.set_cons_succ]
  refine wpAnyH_take (i := 15) (oi := ({ dst := some 31, op := Go.Op.pick (Go.Operand.tmp 21) (Go.Operand.const (Go.Value.bool true)) (Go.Operand.tmp 30), type := 4, pos := "heap.go:68", after := #[{ on := 5, ground := Go.Ground.data }, { on := 14, ground := Go.Ground.data }], guard := none } : Oper)) (v := .bool false) rfl (by kernel_rfl) (by kernel_rfl) (by kernel_rfl) (fun _ _ _ h => h) (Or.inl ⟨by rfl, ?hy15⟩) (by assumption) ?_
  case hy15 => ((intro W hSW; (try dsimp only at hSW); go_simp); (try with_reducible rfl); (try exact ⟨rfl, rfl, rfl⟩))
  simp only [Act.put, List.setIfInBounds_toArray, List.set_cons_zero, List.set_cons_succ]
  refine wpAnyH_done (by kernel_rfl) ?_ _
  have HH := Lib.hid hHeld
  clear hHeld
  generalize hTT : (w3 : World) = T at *
  clear hTT
  have t0 : T.cell? ⟨n0, 0, none⟩ = some (.int .i64 b) := (HH.out.cell (p := ⟨n0, 0, none⟩) hnX).trans q0
  have hnT := World.block_lt_of_cell? _ _ t0
  simp only at hnT
  have HBT := HB2.out.trans (HH.out.mono (by omega))
  rw [← HN0.out] at HBT
  have hd := drop_any HHH.out.2 (HHH.out.1.below HBT) hp.1 HRR.out hcn
  go_wp2_with (go_at_call 33; refine hd.mono ?_; rintro e w5 ⟨rfl, hq1, hq2⟩)
  go_ret
  exact ⟨rfl, hq1, (Stays.below HBT).trans hq2⟩
/-- Free. -/
theorem free_any {w : World} {h : Nat} {o : Nat → Prop} {c : Nat} {A : Ab} (H : HpIs w h o c A) (hc : c < 1073741822) (p : Ptr) (hp : p.ok) :
    Calls Try.prog 18 #[.pointer (some ⟨h, 0, none⟩), p.v] w fun e w' => ∃ o', e = .returned (.int .i64 (A.fr p)) ∧ HpIs w' h o' (c + 1) (A.freeE p) ∧ Stays o w o' w' := by
  obtain ⟨g, H, hh, rfl, hg, rfl⟩ := H
  have same : ∀ (e : Ending) (w' : World) (E : Int), g.ab.fr p = E → E ≠ 0 → (e = .returned (.int .i64 E) ∧ Below w.heap.size w w') → ∃ o', e = .returned (.int .i64 (g.ab.fr p)) ∧ HpIs w' h o' (c + 1) (g.ab.freeE p) ∧ Stays g.own w o' w' := by
    rintro e w' E hE h0 ⟨rfl, hb⟩
    refine ⟨g.own, by rw [hE], ⟨g, H.below hb, hh, rfl, by omega, ?_⟩, Stays.below hb⟩
    unfold Ab.freeE
    rw [hE, if_neg h0]
  by_cases hz : p.bl = 0
  · have e1 : tgE g p = 22 := by unfold tgE; rw [if_pos hz]
    have e2 : g.ab.fr p = 22 := by unfold Ab.fr; rw [if_pos hz]
    exact (free_t p hp H hh (by rw [e1]; decide)).mono (fun e w' q => same e w' 22 e2 (by decide) (by rw [e1] at q; exact q))
  · rcases hr : g.room p.bl with _ | r
    · have e1 : tgE g p = 20 := by unfold tgE; rw [if_neg hz, hr]; rfl
      have e2 : g.ab.fr p = 20 := by unfold Ab.fr; rw [if_neg hz]; simp [G.ab, hr]
      exact (free_t p hp H hh (by rw [e1]; decide)).mono (fun e w' q => same e w' 20 e2 (by decide) (by rw [e1] at q; exact q))
    · have e0 : g.ab.fr p = if r.free = true ∧ p = ⟨p.bl, 0, 0, r.size⟩ then 0 else 23 := by unfold Ab.fr; rw [if_neg hz]; simp [G.ab, hr]
      cases hf : r.free with
      | false =>
        have e2 : g.ab.fr p = 23 := by rw [e0, hf]; rfl
        exact (free_no p hp H hh hz hr hf).mono (fun e w' q => same e w' 23 e2 (by decide) q)
      | true =>
        by_cases hq : p = ⟨p.bl, 0, 0, r.size⟩
        · have e2 : g.ab.fr p = 0 := by rw [e0, if_pos ⟨hf, hq⟩]
          refine (free_ok p hp H hh hz hr hf hq (by omega)).mono ?_
          rintro e w' ⟨rfl, h1, h2⟩
          refine ⟨_, by rw [e2], ⟨_, h1, hh, rfl, by show g.cnt + 1 ≤ c + 1; omega, ?_⟩, h2⟩
          unfold Ab.freeE
          rw [e2, if_pos rfl]
          exact (gone_ab H hr).symm
        · have e2 : g.ab.fr p = 23 := by rw [e0, if_neg (fun q => hq q.2)]
          exact (free_ne p hp H hh hz hr hf hq).mono (fun e w' q => same e w' 23 e2 (by decide) q)
end Go.Proofs.Ytjianllngobhhaa
