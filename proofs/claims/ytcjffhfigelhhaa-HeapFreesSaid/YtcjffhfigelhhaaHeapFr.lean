/- HeapFrees answers true. Conditions: each theorem's. -/
import Derived.Test.YtcjffhfigelhhaaHeapM
namespace Go.Proofs.Ytcjffhfigelhhaa
open Go.RowKit Go.Maps
set_option linter.unusedVariables false
set_option linter.unusedSimpArgs false
set_option maxRecDepth 100000
open Hp
namespace Hp
def frA (n : Int) (f : Bool) : Ab := ⟨1, fun b => if b = 1 then some (n, f) else none, fun _ _ => v0⟩
end Hp
theorem frA_make {n : Int} (f : Bool) (h0 : 0 ≤ n) (h1 : n < 256) : ab0.make n f = frA n f ∧ ab0.makeV n = ⟨1, 0, 0, n⟩ ∧ Ab.makeE n = 0 := by
  have hb : big n = false := by unfold big; simp; omega
  unfold Ab.make Ab.makeV Ab.makeE frA ab0
  rw [hb]
  exact ⟨rfl, rfl, rfl⟩
theorem qeq {Q : Ptr} {n : Int} (h : Q.bl = 1) (a : Q.off = 0) (b : Q.lo = 0) (c : Q.hi = n) : Q = ⟨1, 0, 0, n⟩ := by
  obtain ⟨x, y, z, u⟩ := Q
  simp only at h a b c
  subst h a b c
  rfl
theorem fr_yes {Q : Ptr} {n : Int} (h : Q = ⟨1, 0, 0, n⟩) : (frA n true).fr Q = 0 := by
  subst h
  unfold Ab.fr frA
  simp
theorem fr_may {Q : Ptr} {n : Int} (h : Q.bl = 1) : (frA n false).fr Q = 23 := by
  unfold Ab.fr frA
  rw [h]
  simp
theorem fr_no {Q : Ptr} {n : Int} (h : ¬ (Q.off = 0 ∧ Q.lo = 0 ∧ Q.hi = n)) (h1 : Q.bl = 1) : (frA n true).fr Q = 23 := by
  unfold Ab.fr frA
  rw [h1]
  simp only [if_true, Int.one_ne_zero, if_false]
  rw [if_neg]
  rintro ⟨-, e⟩
  apply h
  rw [e]
  exact ⟨rfl, rfl, rfl⟩
theorem lv_yes {Q : Ptr} {n : Int} (h : Q = ⟨1, 0, 0, n⟩) : (((frA n true).freeE Q).room 1).isSome = false := by
  unfold Ab.freeE
  rw [fr_yes h, if_pos rfl, h]
  rfl
theorem lv_no {Q : Ptr} {n : Int} {f : Bool} (h : (frA n f).fr Q = 23) : (((frA n f).freeE Q).room 1).isSome = true := by
  unfold Ab.freeE
  rw [h, if_neg (by decide)]
  rfl
theorem frp {Q : Ptr} {n : Int} {f : Bool} (h : (frA n f).fr Q = 23) : ((frA n f).freeE Q).fr ⟨1, 0, 0, n⟩ = if f = true then 0 else 23 := by
  unfold Ab.freeE
  rw [h, if_neg (by decide)]
  cases f
  · exact fr_may rfl
  · exact fr_yes rfl
theorem notAll {a b c n : Int} (h : ¬ (a = 0 ∧ b = 0 ∧ c = n)) : (a == 0) = true ∧ (b == 0) = true ∧ (c == n) = false ∨ (a == 0) = true ∧ (b == 0) = false ∨ (a == 0) = false := by
  by_cases e1 : a = 0
  · by_cases e2 : b = 0
    · by_cases e3 : c = n
      · exact absurd ⟨e1, e2, e3⟩ h
      · exact .inl ⟨by simpa using e1, by simpa using e2, by simpa using e3⟩
    · exact .inr (.inl ⟨by simpa using e1, by simpa using e2⟩)
  · exact .inr (.inr (by simpa using e1))
set_option maxHeartbeats 4000000 in
theorem heapFrees_walk (n x0 x1 x2 : Int) (may : Bool) (h0 : 0 ≤ n) (h1 : n < 256) (w : World) :
    Calls Try.prog 7 #[.int .u8 n, .agg #[.int .i64 x0, .int .i64 x1, .int .i64 x2], .bool may] w fun e w' => e = .returned (.bool true) ∧ Below w.heap.size w w' := by
  have hp1 : (Ptr.mk 1 0 0 n).ok := by unfold Ptr.ok in64; refine ⟨?_, ?_, ?_, ?_⟩ <;> dsimp only <;> omega
  have HP1OK := Lib.hid hp1
  have HMV : Hid (∀ W, Calls Try.prog 11 #[.agg #[.int .i64 1, .int .i64 0, .int .i64 0, .int .i64 n], .int .i64 x0] W fun e w' => e = .returned (mv ⟨1, 0, 0, n⟩ x0).v ∧ Below W.heap.size W w') := Lib.hid (fun W => move_any ⟨1, 0, 0, n⟩ x0 W hp1)
  have HPT : Hid (∀ W, Calls Try.prog 13 #[(mv ⟨1, 0, 0, n⟩ x0).v, .int .i64 x1, .int .i64 x2] W fun e w' => e = .returned (pt (mv ⟨1, 0, 0, n⟩ x0) x1 x2).v ∧ Below W.heap.size W w') := Lib.hid (fun W => part_any _ x1 x2 W (mv_ok hp1 _))
  have HQOK := Lib.hid (pt_ok (mv_ok hp1 x0) x1 x2)
  have HQ1 : Hid ((pt (mv ⟨1, 0, 0, n⟩ x0) x1 x2).bl = 1) := Lib.hid rfl
  generalize pt (mv ⟨1, 0, 0, n⟩ x0) x1 x2 = Q at *
  obtain ⟨k1, k2, k3⟩ := frA_make may h0 h1
  clear hp1
  go_enter Try.func7, Try.ntmps7
  go_wp2_with fail
  refine (new_any _).mono ?_
  rintro e w1 ⟨h, o, rfl, hpa, hoa, hba⟩
  have HPA := Lib.hid hpa
  have u := row_in hba (row_new (n := w.heap.size) rfl (.cells #[.int .i64 x0, .int .i64 x1, .int .i64 x2] 67)) (by simp)
  have HOA := Lib.hid hoa
  have HBA := Lib.hid (((Below.refl w.heap.size w).alloc (Nat.le_refl _) (.cells #[.int .i64 x0, .int .i64 x1, .int .i64 x2] 67)).trans (hba.mono (by simp)))
  clear hpa hoa
  go_wp2_with fail
  refine (awake_any _).mono ?_
  rintro e w2 ⟨rfl, hb2⟩
  have HP2 := Lib.hid (HPA.out.below hb2)
  replace u := row_in hb2 u (lt_of_at u)
  have HB2 := Lib.hid (HBA.out.trans (hb2.mono HBA.out.size))
  clear hb2
  go_wp2_with fail
  refine (make_any HP2.out (by omega) n may).mono ?_
  rintro e w3 ⟨o2, he, hp3, hs3⟩
  rw [k1] at hp3
  rw [k2, k3] at he
  simp only [Ptr.v] at he
  subst he
  have hno : ¬ o w.heap.size := fun e => by have := HOA.out _ e; simp at this; omega
  have hu3 := hs3.at_ u hno
  have hge : ∀ j, o j → w.heap.size ≤ j := fun j hj => by have := HOA.out j hj; simp at this; omega
  have HO2 : Hid (∀ j, o2 j → w.heap.size ≤ j) := Lib.hid (hs3.ge HB2.out.size hge)
  have HB3 := Lib.hid (HB2.out.trans (hs3.toBelow HB2.out.size hge))
  have HP3 := Lib.hid hp3
  clear hs3 hp3 u k1 k2 k3 hge hno
  obtain ⟨hu3, -⟩ := hu3
  have HLT := Lib.hid HP3.out.lt
  have hl0 := lt_of_at hu3
  go_wp2_with fail
  have rpX := heap_alloc_new w3 (.cells #[.int .i64 1, .int .i64 0, .int .i64 0, .int .i64 n] 31)
  have uX := row_up hu3 (.cells #[.int .i64 1, .int .i64 0, .int .i64 0, .int .i64 n] 31)
  have HPX := Lib.hid (HP3.out.alloc (.cells #[.int .i64 1, .int .i64 0, .int .i64 0, .int .i64 n] 31))
  have HBX := Lib.hid (HB3.out.alloc HB3.out.size (.cells #[.int .i64 1, .int .i64 0, .int .i64 0, .int .i64 n] 31))
  have HNO : Hid (¬ o2 w3.heap.size) := Lib.hid (fun e => by have := HLT.out _ e; omega)
  generalize w3.alloc (.cells #[.int .i64 1, .int .i64 0, .int .i64 0, .int .i64 n] 31) = X at *
  generalize w3.heap.size = m8 at *
  obtain ⟨q0, q1, q2, q3⟩ := cells4 rpX
  have hm8 := lt_of_at rpX
  have hn0 := lt_of_at uX
  have u0 : X.cell? ⟨w.heap.size, 0, none⟩ = some (.int .i64 x0) := cell_of_row _ _ _ _ _ _ uX
  have u1 : X.cell? ⟨w.heap.size, 1, none⟩ = some (.int .i64 x1) := cell_of_row _ _ _ _ _ _ uX
  have u2 : X.cell? ⟨w.heap.size, 2, none⟩ = some (.int .i64 x2) := cell_of_row _ _ _ _ _ _ uX
  have RP := Lib.hid rpX
  clear rpX uX hu3
  have hszX : w.heap.size ≤ X.heap.size := HBX.out.size
  generalize hnn0 : w.heap.size = n0 at *
  have HN0 := Lib.hid hnn0
  clear hnn0
  refine wp_region_held_drew (S := fun W : World => Below X.heap.size X W) (by kernel_rfl) ((Below.refl _ _).drew) (fun hHeld => ?_)
  generalize X.drew = V0 at *
  refine wpAnyH_take (i := 0) (oi := ({ dst := some 30, op := Go.Op.load 31 (Go.Operand.tmp 8), type := 31, pos := "law.go:196", after := #[], guard := none } : Oper)) (v := .agg #[.int .i64 1, .int .i64 0, .int .i64 0, .int .i64 n]) rfl (by kernel_rfl) (by kernel_rfl) (by kernel_rfl) (fun _ _ _ h => h) (Or.inl ⟨by rfl, ?hy1⟩) (by assumption) ?_
  case hy1 => ((intro W hSW; have e0 := (hSW.cell (p := ⟨m8, 0, none⟩) hm8).trans q0; have e1 := (hSW.cell (p := ⟨m8, 1, none⟩) hm8).trans q1; have e2 := (hSW.cell (p := ⟨m8, 2, none⟩) hm8).trans q2; have e3 := (hSW.cell (p := ⟨m8, 3, none⟩) hm8).trans q3; go_simp); (try with_reducible rfl); (try exact ⟨rfl, rfl, rfl⟩))
  simp only [Act.put, List.setIfInBounds_toArray, List.set_cons_zero, List.set_cons_succ]
  refine wpAnyH_take (i := 1) (oi := ({ dst := some 31, op := Go.Op.indexAddr 67 (Go.Operand.tmp 4) (Go.Operand.const (Go.Value.int Go.IntKind.i64 0)), type := 0, pos := "law.go:196", after := #[], guard := none } : Oper)) (v := .pointer (some ⟨n0, 0, none⟩)) rfl (by kernel_rfl) (by kernel_rfl) (by kernel_rfl) (fun _ _ _ h => h) (Or.inl ⟨by rfl, ?hy2⟩) (by assumption) ?_
  case hy2 => ((intro W hSW; (try dsimp only at hSW); go_simp); (try with_reducible rfl); (try exact ⟨rfl, rfl, rfl⟩))
  simp only [Act.put, List.setIfInBounds_toArray, List.set_cons_zero, List.set_cons_succ]
  refine wpAnyH_take (i := 2) (oi := ({ dst := some 32, op := Go.Op.load 3 (Go.Operand.tmp 31), type := 3, pos := "law.go:196", after := #[{ on := 1, ground := Go.Ground.data }], guard := none } : Oper)) (v := .int .i64 x0) rfl (by kernel_rfl) (by kernel_rfl) (by kernel_rfl) (fun _ _ _ h => h) (Or.inl ⟨by rfl, ?hy3⟩) (by assumption) ?_
  case hy3 => ((intro W hSW; have e0 := (hSW.cell (p := ⟨n0, 0, none⟩) hn0).trans u0; go_simp); (try with_reducible rfl); (try exact ⟨rfl, rfl, rfl⟩))
  simp only [Act.put, List.setIfInBounds_toArray, List.set_cons_zero, List.set_cons_succ]
  refine wpAnyH_take (i := 4) (oi := ({ dst := some 34, op := Go.Op.indexAddr 67 (Go.Operand.tmp 4) (Go.Operand.const (Go.Value.int Go.IntKind.i64 1)), type := 0, pos := "law.go:196", after := #[], guard := none } : Oper)) (v := .pointer (some ⟨n0, 1, none⟩)) rfl (by kernel_rfl) (by kernel_rfl) (by kernel_rfl) (fun _ _ _ h => h) (Or.inl ⟨by rfl, ?hy4⟩) (by assumption) ?_
  case hy4 => ((intro W hSW; (try dsimp only at hSW); go_simp); (try with_reducible rfl); (try exact ⟨rfl, rfl, rfl⟩))
  simp only [Act.put, List.setIfInBounds_toArray, List.set_cons_zero, List.set_cons_succ]
  refine wpAnyH_take (i := 5) (oi := ({ dst := some 35, op := Go.Op.load 3 (Go.Operand.tmp 34), type := 3, pos := "law.go:196", after := #[{ on := 4, ground := Go.Ground.data }], guard := none } : Oper)) (v := .int .i64 x1) rfl (by kernel_rfl) (by kernel_rfl) (by kernel_rfl) (fun _ _ _ h => h) (Or.inl ⟨by rfl, ?hy5⟩) (by assumption) ?_
  case hy5 => ((intro W hSW; have e0 := (hSW.cell (p := ⟨n0, 1, none⟩) hn0).trans u1; go_simp); (try with_reducible rfl); (try exact ⟨rfl, rfl, rfl⟩))
  simp only [Act.put, List.setIfInBounds_toArray, List.set_cons_zero, List.set_cons_succ]
  refine wpAnyH_take (i := 6) (oi := ({ dst := some 36, op := Go.Op.indexAddr 67 (Go.Operand.tmp 4) (Go.Operand.const (Go.Value.int Go.IntKind.i64 2)), type := 0, pos := "law.go:196", after := #[], guard := none } : Oper)) (v := .pointer (some ⟨n0, 2, none⟩)) rfl (by kernel_rfl) (by kernel_rfl) (by kernel_rfl) (fun _ _ _ h => h) (Or.inl ⟨by rfl, ?hy6⟩) (by assumption) ?_
  case hy6 => ((intro W hSW; (try dsimp only at hSW); go_simp); (try with_reducible rfl); (try exact ⟨rfl, rfl, rfl⟩))
  simp only [Act.put, List.setIfInBounds_toArray, List.set_cons_zero, List.set_cons_succ]
  refine wpAnyH_take (i := 7) (oi := ({ dst := some 37, op := Go.Op.load 3 (Go.Operand.tmp 36), type := 3, pos := "law.go:196", after := #[{ on := 6, ground := Go.Ground.data }], guard := none } : Oper)) (v := .int .i64 x2) rfl (by kernel_rfl) (by kernel_rfl) (by kernel_rfl) (fun _ _ _ h => h) (Or.inl ⟨by rfl, ?hy7⟩) (by assumption) ?_
  case hy7 => ((intro W hSW; have e0 := (hSW.cell (p := ⟨n0, 2, none⟩) hn0).trans u2; go_simp); (try with_reducible rfl); (try exact ⟨rfl, rfl, rfl⟩))
  simp only [Act.put, List.setIfInBounds_toArray, List.set_cons_zero, List.set_cons_succ]
  refine wpAnyH_ready (rs := [3, 9]) (by kernel_rfl) (by simp) ?_
  refine (AllReadyH.cons (i := 3) (o := ({ dst := some 33, op := Go.Op.call { callee := Go.Callee.value (Go.Operand.func 11), args := #[Go.Operand.tmp 30, Go.Operand.tmp 32], argTypes := #[31, 3] }, type := 31, pos := "law.go:196", after := #[{ on := 0, ground := Go.Ground.data }, { on := 2, ground := Go.Ground.data }], guard := none } : Oper)) rfl (fun K hK => ?_) (AllReadyH.cons (i := 9) (o := ({ dst := some 10, op := Go.Op.alloc 31, type := 0, pos := "law.go:196", after := #[], guard := none } : Oper)) rfl (fun K hK => ?_) AllReadyH.nil))
  · rw [if_pos (by rfl)]
    go_simp
    refine (HMV.out V0).mono ?_
    rintro e V1 ⟨he, hb⟩
    subst he
    go_simp
    refine hK.out _ _ (hHeld.trans (hb.mono hHeld.size)) (fun hHeld => ?_)
    clear hK K
    try simp only [Act.put, List.setIfInBounds_toArray, List.set_cons_zero, List.set_cons_succ]
    refine wpAnyH_ready (rs := [8, 9]) (by kernel_rfl) (by simp) ?_
    refine (AllReadyH.cons (i := 8) (o := ({ dst := some 38, op := Go.Op.call { callee := Go.Callee.value (Go.Operand.func 13), args := #[Go.Operand.tmp 33, Go.Operand.tmp 35, Go.Operand.tmp 37], argTypes := #[31, 3, 3] }, type := 31, pos := "law.go:196", after := #[{ on := 3, ground := Go.Ground.data }, { on := 5, ground := Go.Ground.data }, { on := 7, ground := Go.Ground.data }, { on := 3, ground := Go.Ground.chain }], guard := none } : Oper)) rfl (fun K hK => ?_) (AllReadyH.cons (i := 9) (o := ({ dst := some 10, op := Go.Op.alloc 31, type := 0, pos := "law.go:196", after := #[], guard := none } : Oper)) rfl (fun K hK => ?_) AllReadyH.nil))
    · rw [if_pos (by rfl)]
      go_simp
      refine (HPT.out V1).mono ?_
      rintro e V2 ⟨he, hb⟩
      subst he
      go_simp
      refine hK.out _ _ (hHeld.trans (hb.mono hHeld.size)) (fun hHeld => ?_)
      clear hK K
      try simp only [Act.put, List.setIfInBounds_toArray, List.set_cons_zero, List.set_cons_succ]
      refine wpAnyH_ready (rs := [9]) (by kernel_rfl) (by simp) ?_
      refine (AllReadyH.cons (i := 9) (o := ({ dst := some 10, op := Go.Op.alloc 31, type := 0, pos := "law.go:196", after := #[], guard := none } : Oper)) rfl (fun K hK => ?_) AllReadyH.nil)
      rw [if_pos (by rfl)]
      go_simp
      have hb : Below V2.heap.size V2 (V2.alloc (.cells #[.int .i64 0, .int .i64 0, .int .i64 0, .int .i64 0] 31)) := (Below.refl _ _).alloc (Nat.le_refl _) _
      have rq := heap_alloc_new V2 (.cells #[.int .i64 0, .int .i64 0, .int .i64 0, .int .i64 0] 31)
      have gq := hHeld.size
      have hS := hHeld.trans (hb.mono hHeld.size)
      generalize V2.alloc (.cells #[.int .i64 0, .int .i64 0, .int .i64 0, .int .i64 0] 31) = V3 at *
      obtain ⟨Bq, hBq⟩ : ∃ B, B = V2.heap.size := ⟨_, rfl⟩
      rw [← hBq] at rq gq
      try rw [← hBq]
      clear hb hBq
      have ltq := lt_of_at rq
      refine hK.out _ _ (hS) (fun hHeld => ?_)
      clear hK K
      try simp only [Act.put, List.setIfInBounds_toArray, List.set_cons_zero, List.set_cons_succ]
      refine wpAnyH_ready (rs := [10]) (by kernel_rfl) (by simp) ?_
      refine (AllReadyH.cons (i := 10) (o := ({ dst := none, op := Go.Op.store 31 (Go.Operand.tmp 10) (Go.Operand.tmp 38), type := 0, pos := "law.go:196", after := #[{ on := 9, ground := Go.Ground.data }, { on := 8, ground := Go.Ground.data }, { on := 8, ground := Go.Ground.chain }, { on := 0, ground := Go.Ground.phase }, { on := 1, ground := Go.Ground.phase }, { on := 2, ground := Go.Ground.phase }, { on := 3, ground := Go.Ground.phase }, { on := 4, ground := Go.Ground.phase }, { on := 5, ground := Go.Ground.phase }, { on := 6, ground := Go.Ground.phase }, { on := 7, ground := Go.Ground.phase }, { on := 8, ground := Go.Ground.phase }, { on := 9, ground := Go.Ground.phase }], guard := none } : Oper)) rfl (fun K hK => ?_) AllReadyH.nil)
      rw [if_pos (by rfl)]
      refine wp_store_row 31 (.tmp 10) (.tmp 38) rfl Bq (#[.int .i64 Q.bl, .int .i64 Q.off, .int .i64 Q.lo, .int .i64 Q.hi]) rfl rfl 31 (#[.int .i64 0, .int .i64 0, .int .i64 0, .int .i64 0]) rq sizePtr rfl (by simp [Value.oneCell']) ?_
      have hS := hHeld.trans ((Onl.setRow Bq V3 (#[.int .i64 Q.bl, .int .i64 Q.off, .int .i64 Q.lo, .int .i64 Q.hi])).toBelow gq hHeld.size)
      have hon := Onl.setRow Bq V3 (#[.int .i64 Q.bl, .int .i64 Q.off, .int .i64 Q.lo, .int .i64 Q.hi])
      replace rq := setRow_heap V3 Bq _ (#[.int .i64 Q.bl, .int .i64 Q.off, .int .i64 Q.lo, .int .i64 Q.hi]) _ _ rq
      generalize V3.setRow Bq (#[.int .i64 Q.bl, .int .i64 Q.off, .int .i64 Q.lo, .int .i64 Q.hi]) = V4 at *
      clear hon
      replace ltq := lt_of_at rq
      refine hK.out _ _ (hS) (fun hHeld => ?_)
      clear hK K
      try simp only [Act.put, List.setIfInBounds_toArray, List.set_cons_zero, List.set_cons_succ]
      refine wpAnyH_done (by kernel_rfl) ?_ _
      have HT := Lib.hid hHeld
      clear hHeld
      obtain ⟨B0, B1, B2, B3⟩ := cells4 rq
      have hlq := lt_of_at rq
      have hm8T := Nat.lt_of_lt_of_le hm8 HT.out.size
      generalize hVV : V4 = T at *
      clear hVV gq u0 u1 u2 hn0 q0 q1 q2 q3
      have rp := row_in HT.out RP.out (lt_of_at RP.out)
      have RPT := Lib.hid rp
      obtain ⟨q0, q1, q2, q3⟩ := cells4 rp
      clear rp rq
      have HPT2 := Lib.hid (HPX.out.below HT.out)
      by_cases hall : Q.off = 0 ∧ Q.lo = 0 ∧ Q.hi = n
      · obtain ⟨a1, a2, a3⟩ := hall
        have hQQ := Lib.hid (qeq HQ1.out a1 a2 a3)
        have d1 : (Q.off == 0) = true := by simpa using a1
        have d2 : (Q.lo == 0) = true := by simpa using a2
        have d3 : (Q.hi == n) = true := by simpa using a3
        have HQQ := hQQ
        clear a1 a2 a3 hQQ
        cases may
        · go_wp2_with fail
          refine (free_any HPT2.out (by omega) Q HQOK.out).mono ?_
          rintro e T1 ⟨o3, he, hp3, hs3⟩
          rw [show (frA n false).fr Q = 23 from fr_may HQ1.out] at he
          subst he
          have k8 := hs3.at_ RPT.out HNO.out
          obtain ⟨p0, p1, p2, p3⟩ := cells4 k8.1
          have hlp := lt_of_at k8.1
          have HS3 := Lib.hid hs3
          have HK8 := Lib.hid k8
          have HP3 := Lib.hid hp3
          clear hs3 k8 hp3
          go_wp2_with fail
          refine (live_any HP3.out 1 (by unfold in64; omega)).mono ?_
          rintro e T2 ⟨he, hb4⟩
          rw [show (((frA n false).freeE Q).room 1).isSome = true from lv_no (fr_may HQ1.out)] at he
          subst he
          have k9 := row_in hb4 HK8.out.1 hlp
          obtain ⟨r0, r1, r2, r3⟩ := cells4 k9
          have hlr := lt_of_at k9
          have HP4 := Lib.hid (HP3.out.below hb4)
          have HB4 := Lib.hid hb4
          clear hb4 k9 p0 p1 p2 p3
          go_wp2_with fail
          refine (free_any HP4.out (by omega) ⟨1, 0, 0, n⟩ HP1OK.out).mono ?_
          rintro e T3 ⟨o4, he, hp5, hs5⟩
          rw [show ((frA n false).freeE Q).fr ⟨1, 0, 0, n⟩ = 23 from frp (fr_may HQ1.out)] at he
          subst he
          go_wp2
          go_ret
          exact ⟨rfl, by rw [HN0.out]; exact HBX.out.trans ((HT.out.mono (by omega)).trans ((HS3.out.toBelow (by have := HT.out.size; omega) HO2.out).trans ((HB4.out.mono (by have := HT.out.size; have := HS3.out.size; omega)).trans (hs5.toBelow (by have := HT.out.size; have := HS3.out.size; have := HB4.out.size; omega) (HS3.out.ge (by have := HT.out.size; omega) HO2.out)))))⟩
        · go_wp2_with fail
          refine (free_any HPT2.out (by omega) Q HQOK.out).mono ?_
          rintro e T1 ⟨o3, he, hp3, hs3⟩
          rw [show (frA n true).fr Q = 0 from fr_yes HQQ.out] at he
          subst he
          have k8 := hs3.at_ RPT.out HNO.out
          obtain ⟨p0, p1, p2, p3⟩ := cells4 k8.1
          have hlp := lt_of_at k8.1
          have HS3 := Lib.hid hs3
          have HK8 := Lib.hid k8
          have HP3 := Lib.hid hp3
          clear hs3 k8 hp3
          go_wp2_with fail
          refine (live_any HP3.out 1 (by unfold in64; omega)).mono ?_
          rintro e T2 ⟨he, hb4⟩
          rw [show (((frA n true).freeE Q).room 1).isSome = false from lv_yes HQQ.out] at he
          subst he
          go_wp2
          go_ret
          exact ⟨rfl, by rw [HN0.out]; exact HBX.out.trans ((HT.out.mono (by omega)).trans ((HS3.out.toBelow (by have := HT.out.size; omega) HO2.out).trans (hb4.mono (by have := HT.out.size; have := HS3.out.size; omega))))⟩
      · have HALL := Lib.hid hall
        have c1 := notAll hall
        clear hall
        rcases c1 with ⟨d1, d2, d3⟩ | ⟨d1, d2⟩ | d1
        all_goals
          cases may
          · go_wp2_with fail
            refine (free_any HPT2.out (by omega) Q HQOK.out).mono ?_
            rintro e T1 ⟨o3, he, hp3, hs3⟩
            rw [show (frA n false).fr Q = 23 from fr_may HQ1.out] at he
            subst he
            have k8 := hs3.at_ RPT.out HNO.out
            obtain ⟨p0, p1, p2, p3⟩ := cells4 k8.1
            have hlp := lt_of_at k8.1
            have HS3 := Lib.hid hs3
            have HK8 := Lib.hid k8
            have HP3 := Lib.hid hp3
            clear hs3 k8 hp3
            go_wp2_with fail
            refine (live_any HP3.out 1 (by unfold in64; omega)).mono ?_
            rintro e T2 ⟨he, hb4⟩
            rw [show (((frA n false).freeE Q).room 1).isSome = true from lv_no (fr_may HQ1.out)] at he
            subst he
            have k9 := row_in hb4 HK8.out.1 hlp
            obtain ⟨r0, r1, r2, r3⟩ := cells4 k9
            have hlr := lt_of_at k9
            have HP4 := Lib.hid (HP3.out.below hb4)
            have HB4 := Lib.hid hb4
            clear hb4 k9 p0 p1 p2 p3
            go_wp2_with fail
            refine (free_any HP4.out (by omega) ⟨1, 0, 0, n⟩ HP1OK.out).mono ?_
            rintro e T3 ⟨o4, he, hp5, hs5⟩
            rw [show ((frA n false).freeE Q).fr ⟨1, 0, 0, n⟩ = 23 from frp (fr_may HQ1.out)] at he
            subst he
            go_wp2
            go_ret
            exact ⟨rfl, by rw [HN0.out]; exact HBX.out.trans ((HT.out.mono (by omega)).trans ((HS3.out.toBelow (by have := HT.out.size; omega) HO2.out).trans ((HB4.out.mono (by have := HT.out.size; have := HS3.out.size; omega)).trans (hs5.toBelow (by have := HT.out.size; have := HS3.out.size; have := HB4.out.size; omega) (HS3.out.ge (by have := HT.out.size; omega) HO2.out)))))⟩
          · go_wp2_with fail
            refine (free_any HPT2.out (by omega) Q HQOK.out).mono ?_
            rintro e T1 ⟨o3, he, hp3, hs3⟩
            rw [show (frA n true).fr Q = 23 from fr_no HALL.out HQ1.out] at he
            subst he
            have k8 := hs3.at_ RPT.out HNO.out
            obtain ⟨p0, p1, p2, p3⟩ := cells4 k8.1
            have hlp := lt_of_at k8.1
            have HS3 := Lib.hid hs3
            have HK8 := Lib.hid k8
            have HP3 := Lib.hid hp3
            clear hs3 k8 hp3
            go_wp2_with fail
            refine (live_any HP3.out 1 (by unfold in64; omega)).mono ?_
            rintro e T2 ⟨he, hb4⟩
            rw [show (((frA n true).freeE Q).room 1).isSome = true from lv_no (fr_no HALL.out HQ1.out)] at he
            subst he
            have k9 := row_in hb4 HK8.out.1 hlp
            obtain ⟨r0, r1, r2, r3⟩ := cells4 k9
            have hlr := lt_of_at k9
            have HP4 := Lib.hid (HP3.out.below hb4)
            have HB4 := Lib.hid hb4
            clear hb4 k9 p0 p1 p2 p3
            go_wp2_with fail
            refine (free_any HP4.out (by omega) ⟨1, 0, 0, n⟩ HP1OK.out).mono ?_
            rintro e T3 ⟨o4, he, hp5, hs5⟩
            rw [show ((frA n true).freeE Q).fr ⟨1, 0, 0, n⟩ = 0 from frp (fr_no HALL.out HQ1.out)] at he
            subst he
            go_wp2
            go_ret
            exact ⟨rfl, by rw [HN0.out]; exact HBX.out.trans ((HT.out.mono (by omega)).trans ((HS3.out.toBelow (by have := HT.out.size; omega) HO2.out).trans ((HB4.out.mono (by have := HT.out.size; have := HS3.out.size; omega)).trans (hs5.toBelow (by have := HT.out.size; have := HS3.out.size; have := HB4.out.size; omega) (HS3.out.ge (by have := HT.out.size; omega) HO2.out)))))⟩
    · rw [if_pos (by rfl)]
      go_simp
      have hb : Below V1.heap.size V1 (V1.alloc (.cells #[.int .i64 0, .int .i64 0, .int .i64 0, .int .i64 0] 31)) := (Below.refl _ _).alloc (Nat.le_refl _) _
      have rq := heap_alloc_new V1 (.cells #[.int .i64 0, .int .i64 0, .int .i64 0, .int .i64 0] 31)
      have gq := hHeld.size
      have hS := hHeld.trans (hb.mono hHeld.size)
      generalize V1.alloc (.cells #[.int .i64 0, .int .i64 0, .int .i64 0, .int .i64 0] 31) = V2 at *
      obtain ⟨Bq, hBq⟩ : ∃ B, B = V1.heap.size := ⟨_, rfl⟩
      rw [← hBq] at rq gq
      try rw [← hBq]
      clear hb hBq
      have ltq := lt_of_at rq
      refine hK.out _ _ (hS) (fun hHeld => ?_)
      clear hK K
      try simp only [Act.put, List.setIfInBounds_toArray, List.set_cons_zero, List.set_cons_succ]
      refine wpAnyH_ready (rs := [8]) (by kernel_rfl) (by simp) ?_
      refine (AllReadyH.cons (i := 8) (o := ({ dst := some 38, op := Go.Op.call { callee := Go.Callee.value (Go.Operand.func 13), args := #[Go.Operand.tmp 33, Go.Operand.tmp 35, Go.Operand.tmp 37], argTypes := #[31, 3, 3] }, type := 31, pos := "law.go:196", after := #[{ on := 3, ground := Go.Ground.data }, { on := 5, ground := Go.Ground.data }, { on := 7, ground := Go.Ground.data }, { on := 3, ground := Go.Ground.chain }], guard := none } : Oper)) rfl (fun K hK => ?_) AllReadyH.nil)
      rw [if_pos (by rfl)]
      go_simp
      refine (HPT.out V2).mono ?_
      rintro e V3 ⟨he, hb⟩
      subst he
      go_simp
      replace rq := row_in hb rq (lt_of_at rq)
      replace ltq := lt_of_at rq
      refine hK.out _ _ (hHeld.trans (hb.mono hHeld.size)) (fun hHeld => ?_)
      clear hK K
      try simp only [Act.put, List.setIfInBounds_toArray, List.set_cons_zero, List.set_cons_succ]
      refine wpAnyH_ready (rs := [10]) (by kernel_rfl) (by simp) ?_
      refine (AllReadyH.cons (i := 10) (o := ({ dst := none, op := Go.Op.store 31 (Go.Operand.tmp 10) (Go.Operand.tmp 38), type := 0, pos := "law.go:196", after := #[{ on := 9, ground := Go.Ground.data }, { on := 8, ground := Go.Ground.data }, { on := 8, ground := Go.Ground.chain }, { on := 0, ground := Go.Ground.phase }, { on := 1, ground := Go.Ground.phase }, { on := 2, ground := Go.Ground.phase }, { on := 3, ground := Go.Ground.phase }, { on := 4, ground := Go.Ground.phase }, { on := 5, ground := Go.Ground.phase }, { on := 6, ground := Go.Ground.phase }, { on := 7, ground := Go.Ground.phase }, { on := 8, ground := Go.Ground.phase }, { on := 9, ground := Go.Ground.phase }], guard := none } : Oper)) rfl (fun K hK => ?_) AllReadyH.nil)
      rw [if_pos (by rfl)]
      refine wp_store_row 31 (.tmp 10) (.tmp 38) rfl Bq (#[.int .i64 Q.bl, .int .i64 Q.off, .int .i64 Q.lo, .int .i64 Q.hi]) rfl rfl 31 (#[.int .i64 0, .int .i64 0, .int .i64 0, .int .i64 0]) rq sizePtr rfl (by simp [Value.oneCell']) ?_
      have hS := hHeld.trans ((Onl.setRow Bq V3 (#[.int .i64 Q.bl, .int .i64 Q.off, .int .i64 Q.lo, .int .i64 Q.hi])).toBelow gq hHeld.size)
      have hon := Onl.setRow Bq V3 (#[.int .i64 Q.bl, .int .i64 Q.off, .int .i64 Q.lo, .int .i64 Q.hi])
      replace rq := setRow_heap V3 Bq _ (#[.int .i64 Q.bl, .int .i64 Q.off, .int .i64 Q.lo, .int .i64 Q.hi]) _ _ rq
      generalize V3.setRow Bq (#[.int .i64 Q.bl, .int .i64 Q.off, .int .i64 Q.lo, .int .i64 Q.hi]) = V4 at *
      clear hon
      replace ltq := lt_of_at rq
      refine hK.out _ _ (hS) (fun hHeld => ?_)
      clear hK K
      try simp only [Act.put, List.setIfInBounds_toArray, List.set_cons_zero, List.set_cons_succ]
      refine wpAnyH_done (by kernel_rfl) ?_ _
      have HT := Lib.hid hHeld
      clear hHeld
      obtain ⟨B0, B1, B2, B3⟩ := cells4 rq
      have hlq := lt_of_at rq
      have hm8T := Nat.lt_of_lt_of_le hm8 HT.out.size
      generalize hVV : V4 = T at *
      clear hVV gq u0 u1 u2 hn0 q0 q1 q2 q3
      have rp := row_in HT.out RP.out (lt_of_at RP.out)
      have RPT := Lib.hid rp
      obtain ⟨q0, q1, q2, q3⟩ := cells4 rp
      clear rp rq
      have HPT2 := Lib.hid (HPX.out.below HT.out)
      by_cases hall : Q.off = 0 ∧ Q.lo = 0 ∧ Q.hi = n
      · obtain ⟨a1, a2, a3⟩ := hall
        have hQQ := Lib.hid (qeq HQ1.out a1 a2 a3)
        have d1 : (Q.off == 0) = true := by simpa using a1
        have d2 : (Q.lo == 0) = true := by simpa using a2
        have d3 : (Q.hi == n) = true := by simpa using a3
        have HQQ := hQQ
        clear a1 a2 a3 hQQ
        cases may
        · go_wp2_with fail
          refine (free_any HPT2.out (by omega) Q HQOK.out).mono ?_
          rintro e T1 ⟨o3, he, hp3, hs3⟩
          rw [show (frA n false).fr Q = 23 from fr_may HQ1.out] at he
          subst he
          have k8 := hs3.at_ RPT.out HNO.out
          obtain ⟨p0, p1, p2, p3⟩ := cells4 k8.1
          have hlp := lt_of_at k8.1
          have HS3 := Lib.hid hs3
          have HK8 := Lib.hid k8
          have HP3 := Lib.hid hp3
          clear hs3 k8 hp3
          go_wp2_with fail
          refine (live_any HP3.out 1 (by unfold in64; omega)).mono ?_
          rintro e T2 ⟨he, hb4⟩
          rw [show (((frA n false).freeE Q).room 1).isSome = true from lv_no (fr_may HQ1.out)] at he
          subst he
          have k9 := row_in hb4 HK8.out.1 hlp
          obtain ⟨r0, r1, r2, r3⟩ := cells4 k9
          have hlr := lt_of_at k9
          have HP4 := Lib.hid (HP3.out.below hb4)
          have HB4 := Lib.hid hb4
          clear hb4 k9 p0 p1 p2 p3
          go_wp2_with fail
          refine (free_any HP4.out (by omega) ⟨1, 0, 0, n⟩ HP1OK.out).mono ?_
          rintro e T3 ⟨o4, he, hp5, hs5⟩
          rw [show ((frA n false).freeE Q).fr ⟨1, 0, 0, n⟩ = 23 from frp (fr_may HQ1.out)] at he
          subst he
          go_wp2
          go_ret
          exact ⟨rfl, by rw [HN0.out]; exact HBX.out.trans ((HT.out.mono (by omega)).trans ((HS3.out.toBelow (by have := HT.out.size; omega) HO2.out).trans ((HB4.out.mono (by have := HT.out.size; have := HS3.out.size; omega)).trans (hs5.toBelow (by have := HT.out.size; have := HS3.out.size; have := HB4.out.size; omega) (HS3.out.ge (by have := HT.out.size; omega) HO2.out)))))⟩
        · go_wp2_with fail
          refine (free_any HPT2.out (by omega) Q HQOK.out).mono ?_
          rintro e T1 ⟨o3, he, hp3, hs3⟩
          rw [show (frA n true).fr Q = 0 from fr_yes HQQ.out] at he
          subst he
          have k8 := hs3.at_ RPT.out HNO.out
          obtain ⟨p0, p1, p2, p3⟩ := cells4 k8.1
          have hlp := lt_of_at k8.1
          have HS3 := Lib.hid hs3
          have HK8 := Lib.hid k8
          have HP3 := Lib.hid hp3
          clear hs3 k8 hp3
          go_wp2_with fail
          refine (live_any HP3.out 1 (by unfold in64; omega)).mono ?_
          rintro e T2 ⟨he, hb4⟩
          rw [show (((frA n true).freeE Q).room 1).isSome = false from lv_yes HQQ.out] at he
          subst he
          go_wp2
          go_ret
          exact ⟨rfl, by rw [HN0.out]; exact HBX.out.trans ((HT.out.mono (by omega)).trans ((HS3.out.toBelow (by have := HT.out.size; omega) HO2.out).trans (hb4.mono (by have := HT.out.size; have := HS3.out.size; omega))))⟩
      · have HALL := Lib.hid hall
        have c1 := notAll hall
        clear hall
        rcases c1 with ⟨d1, d2, d3⟩ | ⟨d1, d2⟩ | d1
        all_goals
          cases may
          · go_wp2_with fail
            refine (free_any HPT2.out (by omega) Q HQOK.out).mono ?_
            rintro e T1 ⟨o3, he, hp3, hs3⟩
            rw [show (frA n false).fr Q = 23 from fr_may HQ1.out] at he
            subst he
            have k8 := hs3.at_ RPT.out HNO.out
            obtain ⟨p0, p1, p2, p3⟩ := cells4 k8.1
            have hlp := lt_of_at k8.1
            have HS3 := Lib.hid hs3
            have HK8 := Lib.hid k8
            have HP3 := Lib.hid hp3
            clear hs3 k8 hp3
            go_wp2_with fail
            refine (live_any HP3.out 1 (by unfold in64; omega)).mono ?_
            rintro e T2 ⟨he, hb4⟩
            rw [show (((frA n false).freeE Q).room 1).isSome = true from lv_no (fr_may HQ1.out)] at he
            subst he
            have k9 := row_in hb4 HK8.out.1 hlp
            obtain ⟨r0, r1, r2, r3⟩ := cells4 k9
            have hlr := lt_of_at k9
            have HP4 := Lib.hid (HP3.out.below hb4)
            have HB4 := Lib.hid hb4
            clear hb4 k9 p0 p1 p2 p3
            go_wp2_with fail
            refine (free_any HP4.out (by omega) ⟨1, 0, 0, n⟩ HP1OK.out).mono ?_
            rintro e T3 ⟨o4, he, hp5, hs5⟩
            rw [show ((frA n false).freeE Q).fr ⟨1, 0, 0, n⟩ = 23 from frp (fr_may HQ1.out)] at he
            subst he
            go_wp2
            go_ret
            exact ⟨rfl, by rw [HN0.out]; exact HBX.out.trans ((HT.out.mono (by omega)).trans ((HS3.out.toBelow (by have := HT.out.size; omega) HO2.out).trans ((HB4.out.mono (by have := HT.out.size; have := HS3.out.size; omega)).trans (hs5.toBelow (by have := HT.out.size; have := HS3.out.size; have := HB4.out.size; omega) (HS3.out.ge (by have := HT.out.size; omega) HO2.out)))))⟩
          · go_wp2_with fail
            refine (free_any HPT2.out (by omega) Q HQOK.out).mono ?_
            rintro e T1 ⟨o3, he, hp3, hs3⟩
            rw [show (frA n true).fr Q = 23 from fr_no HALL.out HQ1.out] at he
            subst he
            have k8 := hs3.at_ RPT.out HNO.out
            obtain ⟨p0, p1, p2, p3⟩ := cells4 k8.1
            have hlp := lt_of_at k8.1
            have HS3 := Lib.hid hs3
            have HK8 := Lib.hid k8
            have HP3 := Lib.hid hp3
            clear hs3 k8 hp3
            go_wp2_with fail
            refine (live_any HP3.out 1 (by unfold in64; omega)).mono ?_
            rintro e T2 ⟨he, hb4⟩
            rw [show (((frA n true).freeE Q).room 1).isSome = true from lv_no (fr_no HALL.out HQ1.out)] at he
            subst he
            have k9 := row_in hb4 HK8.out.1 hlp
            obtain ⟨r0, r1, r2, r3⟩ := cells4 k9
            have hlr := lt_of_at k9
            have HP4 := Lib.hid (HP3.out.below hb4)
            have HB4 := Lib.hid hb4
            clear hb4 k9 p0 p1 p2 p3
            go_wp2_with fail
            refine (free_any HP4.out (by omega) ⟨1, 0, 0, n⟩ HP1OK.out).mono ?_
            rintro e T3 ⟨o4, he, hp5, hs5⟩
            rw [show ((frA n true).freeE Q).fr ⟨1, 0, 0, n⟩ = 0 from frp (fr_no HALL.out HQ1.out)] at he
            subst he
            go_wp2
            go_ret
            exact ⟨rfl, by rw [HN0.out]; exact HBX.out.trans ((HT.out.mono (by omega)).trans ((HS3.out.toBelow (by have := HT.out.size; omega) HO2.out).trans ((HB4.out.mono (by have := HT.out.size; have := HS3.out.size; omega)).trans (hs5.toBelow (by have := HT.out.size; have := HS3.out.size; have := HB4.out.size; omega) (HS3.out.ge (by have := HT.out.size; omega) HO2.out)))))⟩
  · rw [if_pos (by rfl)]
    go_simp
    have hb : Below V0.heap.size V0 (V0.alloc (.cells #[.int .i64 0, .int .i64 0, .int .i64 0, .int .i64 0] 31)) := (Below.refl _ _).alloc (Nat.le_refl _) _
    have rq := heap_alloc_new V0 (.cells #[.int .i64 0, .int .i64 0, .int .i64 0, .int .i64 0] 31)
    have gq := hHeld.size
    have hS := hHeld.trans (hb.mono hHeld.size)
    generalize V0.alloc (.cells #[.int .i64 0, .int .i64 0, .int .i64 0, .int .i64 0] 31) = V1 at *
    obtain ⟨Bq, hBq⟩ : ∃ B, B = V0.heap.size := ⟨_, rfl⟩
    rw [← hBq] at rq gq
    try rw [← hBq]
    clear hb hBq
    have ltq := lt_of_at rq
    refine hK.out _ _ (hS) (fun hHeld => ?_)
    clear hK K
    try simp only [Act.put, List.setIfInBounds_toArray, List.set_cons_zero, List.set_cons_succ]
    refine wpAnyH_ready (rs := [3]) (by kernel_rfl) (by simp) ?_
    refine (AllReadyH.cons (i := 3) (o := ({ dst := some 33, op := Go.Op.call { callee := Go.Callee.value (Go.Operand.func 11), args := #[Go.Operand.tmp 30, Go.Operand.tmp 32], argTypes := #[31, 3] }, type := 31, pos := "law.go:196", after := #[{ on := 0, ground := Go.Ground.data }, { on := 2, ground := Go.Ground.data }], guard := none } : Oper)) rfl (fun K hK => ?_) AllReadyH.nil)
    rw [if_pos (by rfl)]
    go_simp
    refine (HMV.out V1).mono ?_
    rintro e V2 ⟨he, hb⟩
    subst he
    go_simp
    replace rq := row_in hb rq (lt_of_at rq)
    replace ltq := lt_of_at rq
    refine hK.out _ _ (hHeld.trans (hb.mono hHeld.size)) (fun hHeld => ?_)
    clear hK K
    try simp only [Act.put, List.setIfInBounds_toArray, List.set_cons_zero, List.set_cons_succ]
    refine wpAnyH_ready (rs := [8]) (by kernel_rfl) (by simp) ?_
    refine (AllReadyH.cons (i := 8) (o := ({ dst := some 38, op := Go.Op.call { callee := Go.Callee.value (Go.Operand.func 13), args := #[Go.Operand.tmp 33, Go.Operand.tmp 35, Go.Operand.tmp 37], argTypes := #[31, 3, 3] }, type := 31, pos := "law.go:196", after := #[{ on := 3, ground := Go.Ground.data }, { on := 5, ground := Go.Ground.data }, { on := 7, ground := Go.Ground.data }, { on := 3, ground := Go.Ground.chain }], guard := none } : Oper)) rfl (fun K hK => ?_) AllReadyH.nil)
    rw [if_pos (by rfl)]
    go_simp
    refine (HPT.out V2).mono ?_
    rintro e V3 ⟨he, hb⟩
    subst he
    go_simp
    replace rq := row_in hb rq (lt_of_at rq)
    replace ltq := lt_of_at rq
    refine hK.out _ _ (hHeld.trans (hb.mono hHeld.size)) (fun hHeld => ?_)
    clear hK K
    try simp only [Act.put, List.setIfInBounds_toArray, List.set_cons_zero, List.set_cons_succ]
    refine wpAnyH_ready (rs := [10]) (by kernel_rfl) (by simp) ?_
    refine (AllReadyH.cons (i := 10) (o := ({ dst := none, op := Go.Op.store 31 (Go.Operand.tmp 10) (Go.Operand.tmp 38), type := 0, pos := "law.go:196", after := #[{ on := 9, ground := Go.Ground.data }, { on := 8, ground := Go.Ground.data }, { on := 8, ground := Go.Ground.chain }, { on := 0, ground := Go.Ground.phase }, { on := 1, ground := Go.Ground.phase }, { on := 2, ground := Go.Ground.phase }, { on := 3, ground := Go.Ground.phase }, { on := 4, ground := Go.Ground.phase }, { on := 5, ground := Go.Ground.phase }, { on := 6, ground := Go.Ground.phase }, { on := 7, ground := Go.Ground.phase }, { on := 8, ground := Go.Ground.phase }, { on := 9, ground := Go.Ground.phase }], guard := none } : Oper)) rfl (fun K hK => ?_) AllReadyH.nil)
    rw [if_pos (by rfl)]
    refine wp_store_row 31 (.tmp 10) (.tmp 38) rfl Bq (#[.int .i64 Q.bl, .int .i64 Q.off, .int .i64 Q.lo, .int .i64 Q.hi]) rfl rfl 31 (#[.int .i64 0, .int .i64 0, .int .i64 0, .int .i64 0]) rq sizePtr rfl (by simp [Value.oneCell']) ?_
    have hS := hHeld.trans ((Onl.setRow Bq V3 (#[.int .i64 Q.bl, .int .i64 Q.off, .int .i64 Q.lo, .int .i64 Q.hi])).toBelow gq hHeld.size)
    have hon := Onl.setRow Bq V3 (#[.int .i64 Q.bl, .int .i64 Q.off, .int .i64 Q.lo, .int .i64 Q.hi])
    replace rq := setRow_heap V3 Bq _ (#[.int .i64 Q.bl, .int .i64 Q.off, .int .i64 Q.lo, .int .i64 Q.hi]) _ _ rq
    generalize V3.setRow Bq (#[.int .i64 Q.bl, .int .i64 Q.off, .int .i64 Q.lo, .int .i64 Q.hi]) = V4 at *
    clear hon
    replace ltq := lt_of_at rq
    refine hK.out _ _ (hS) (fun hHeld => ?_)
    clear hK K
    try simp only [Act.put, List.setIfInBounds_toArray, List.set_cons_zero, List.set_cons_succ]
    refine wpAnyH_done (by kernel_rfl) ?_ _
    have HT := Lib.hid hHeld
    clear hHeld
    obtain ⟨B0, B1, B2, B3⟩ := cells4 rq
    have hlq := lt_of_at rq
    have hm8T := Nat.lt_of_lt_of_le hm8 HT.out.size
    generalize hVV : V4 = T at *
    clear hVV gq u0 u1 u2 hn0 q0 q1 q2 q3
    have rp := row_in HT.out RP.out (lt_of_at RP.out)
    have RPT := Lib.hid rp
    obtain ⟨q0, q1, q2, q3⟩ := cells4 rp
    clear rp rq
    have HPT2 := Lib.hid (HPX.out.below HT.out)
    by_cases hall : Q.off = 0 ∧ Q.lo = 0 ∧ Q.hi = n
    · obtain ⟨a1, a2, a3⟩ := hall
      have hQQ := Lib.hid (qeq HQ1.out a1 a2 a3)
      have d1 : (Q.off == 0) = true := by simpa using a1
      have d2 : (Q.lo == 0) = true := by simpa using a2
      have d3 : (Q.hi == n) = true := by simpa using a3
      have HQQ := hQQ
      clear a1 a2 a3 hQQ
      cases may
      · go_wp2_with fail
        refine (free_any HPT2.out (by omega) Q HQOK.out).mono ?_
        rintro e T1 ⟨o3, he, hp3, hs3⟩
        rw [show (frA n false).fr Q = 23 from fr_may HQ1.out] at he
        subst he
        have k8 := hs3.at_ RPT.out HNO.out
        obtain ⟨p0, p1, p2, p3⟩ := cells4 k8.1
        have hlp := lt_of_at k8.1
        have HS3 := Lib.hid hs3
        have HK8 := Lib.hid k8
        have HP3 := Lib.hid hp3
        clear hs3 k8 hp3
        go_wp2_with fail
        refine (live_any HP3.out 1 (by unfold in64; omega)).mono ?_
        rintro e T2 ⟨he, hb4⟩
        rw [show (((frA n false).freeE Q).room 1).isSome = true from lv_no (fr_may HQ1.out)] at he
        subst he
        have k9 := row_in hb4 HK8.out.1 hlp
        obtain ⟨r0, r1, r2, r3⟩ := cells4 k9
        have hlr := lt_of_at k9
        have HP4 := Lib.hid (HP3.out.below hb4)
        have HB4 := Lib.hid hb4
        clear hb4 k9 p0 p1 p2 p3
        go_wp2_with fail
        refine (free_any HP4.out (by omega) ⟨1, 0, 0, n⟩ HP1OK.out).mono ?_
        rintro e T3 ⟨o4, he, hp5, hs5⟩
        rw [show ((frA n false).freeE Q).fr ⟨1, 0, 0, n⟩ = 23 from frp (fr_may HQ1.out)] at he
        subst he
        go_wp2
        go_ret
        exact ⟨rfl, by rw [HN0.out]; exact HBX.out.trans ((HT.out.mono (by omega)).trans ((HS3.out.toBelow (by have := HT.out.size; omega) HO2.out).trans ((HB4.out.mono (by have := HT.out.size; have := HS3.out.size; omega)).trans (hs5.toBelow (by have := HT.out.size; have := HS3.out.size; have := HB4.out.size; omega) (HS3.out.ge (by have := HT.out.size; omega) HO2.out)))))⟩
      · go_wp2_with fail
        refine (free_any HPT2.out (by omega) Q HQOK.out).mono ?_
        rintro e T1 ⟨o3, he, hp3, hs3⟩
        rw [show (frA n true).fr Q = 0 from fr_yes HQQ.out] at he
        subst he
        have k8 := hs3.at_ RPT.out HNO.out
        obtain ⟨p0, p1, p2, p3⟩ := cells4 k8.1
        have hlp := lt_of_at k8.1
        have HS3 := Lib.hid hs3
        have HK8 := Lib.hid k8
        have HP3 := Lib.hid hp3
        clear hs3 k8 hp3
        go_wp2_with fail
        refine (live_any HP3.out 1 (by unfold in64; omega)).mono ?_
        rintro e T2 ⟨he, hb4⟩
        rw [show (((frA n true).freeE Q).room 1).isSome = false from lv_yes HQQ.out] at he
        subst he
        go_wp2
        go_ret
        exact ⟨rfl, by rw [HN0.out]; exact HBX.out.trans ((HT.out.mono (by omega)).trans ((HS3.out.toBelow (by have := HT.out.size; omega) HO2.out).trans (hb4.mono (by have := HT.out.size; have := HS3.out.size; omega))))⟩
    · have HALL := Lib.hid hall
      have c1 := notAll hall
      clear hall
      rcases c1 with ⟨d1, d2, d3⟩ | ⟨d1, d2⟩ | d1
      all_goals
        cases may
        · go_wp2_with fail
          refine (free_any HPT2.out (by omega) Q HQOK.out).mono ?_
          rintro e T1 ⟨o3, he, hp3, hs3⟩
          rw [show (frA n false).fr Q = 23 from fr_may HQ1.out] at he
          subst he
          have k8 := hs3.at_ RPT.out HNO.out
          obtain ⟨p0, p1, p2, p3⟩ := cells4 k8.1
          have hlp := lt_of_at k8.1
          have HS3 := Lib.hid hs3
          have HK8 := Lib.hid k8
          have HP3 := Lib.hid hp3
          clear hs3 k8 hp3
          go_wp2_with fail
          refine (live_any HP3.out 1 (by unfold in64; omega)).mono ?_
          rintro e T2 ⟨he, hb4⟩
          rw [show (((frA n false).freeE Q).room 1).isSome = true from lv_no (fr_may HQ1.out)] at he
          subst he
          have k9 := row_in hb4 HK8.out.1 hlp
          obtain ⟨r0, r1, r2, r3⟩ := cells4 k9
          have hlr := lt_of_at k9
          have HP4 := Lib.hid (HP3.out.below hb4)
          have HB4 := Lib.hid hb4
          clear hb4 k9 p0 p1 p2 p3
          go_wp2_with fail
          refine (free_any HP4.out (by omega) ⟨1, 0, 0, n⟩ HP1OK.out).mono ?_
          rintro e T3 ⟨o4, he, hp5, hs5⟩
          rw [show ((frA n false).freeE Q).fr ⟨1, 0, 0, n⟩ = 23 from frp (fr_may HQ1.out)] at he
          subst he
          go_wp2
          go_ret
          exact ⟨rfl, by rw [HN0.out]; exact HBX.out.trans ((HT.out.mono (by omega)).trans ((HS3.out.toBelow (by have := HT.out.size; omega) HO2.out).trans ((HB4.out.mono (by have := HT.out.size; have := HS3.out.size; omega)).trans (hs5.toBelow (by have := HT.out.size; have := HS3.out.size; have := HB4.out.size; omega) (HS3.out.ge (by have := HT.out.size; omega) HO2.out)))))⟩
        · go_wp2_with fail
          refine (free_any HPT2.out (by omega) Q HQOK.out).mono ?_
          rintro e T1 ⟨o3, he, hp3, hs3⟩
          rw [show (frA n true).fr Q = 23 from fr_no HALL.out HQ1.out] at he
          subst he
          have k8 := hs3.at_ RPT.out HNO.out
          obtain ⟨p0, p1, p2, p3⟩ := cells4 k8.1
          have hlp := lt_of_at k8.1
          have HS3 := Lib.hid hs3
          have HK8 := Lib.hid k8
          have HP3 := Lib.hid hp3
          clear hs3 k8 hp3
          go_wp2_with fail
          refine (live_any HP3.out 1 (by unfold in64; omega)).mono ?_
          rintro e T2 ⟨he, hb4⟩
          rw [show (((frA n true).freeE Q).room 1).isSome = true from lv_no (fr_no HALL.out HQ1.out)] at he
          subst he
          have k9 := row_in hb4 HK8.out.1 hlp
          obtain ⟨r0, r1, r2, r3⟩ := cells4 k9
          have hlr := lt_of_at k9
          have HP4 := Lib.hid (HP3.out.below hb4)
          have HB4 := Lib.hid hb4
          clear hb4 k9 p0 p1 p2 p3
          go_wp2_with fail
          refine (free_any HP4.out (by omega) ⟨1, 0, 0, n⟩ HP1OK.out).mono ?_
          rintro e T3 ⟨o4, he, hp5, hs5⟩
          rw [show ((frA n true).freeE Q).fr ⟨1, 0, 0, n⟩ = 0 from frp (fr_no HALL.out HQ1.out)] at he
          subst he
          go_wp2
          go_ret
          exact ⟨rfl, by rw [HN0.out]; exact HBX.out.trans ((HT.out.mono (by omega)).trans ((HS3.out.toBelow (by have := HT.out.size; omega) HO2.out).trans ((HB4.out.mono (by have := HT.out.size; have := HS3.out.size; omega)).trans (hs5.toBelow (by have := HT.out.size; have := HS3.out.size; have := HB4.out.size; omega) (HS3.out.ge (by have := HT.out.size; omega) HO2.out)))))⟩
end Go.Proofs.Ytcjffhfigelhhaa
