/- HeapPlays answers true. Conditions: each theorem's. -/
import Derived.Test.YtjianllngobhhaaHeapPlB
import Derived.Deep.CutBlock
namespace Go.Proofs.Ytjianllngobhhaa
open Go.RowKit Go.Maps
set_option linter.unusedVariables false
set_option linter.unusedSimpArgs false
set_option maxRecDepth 100000
open Hp
theorem sizeOp : (Try.prog.info? 37).map (·.size) = some 16 := by kernel_rfl
def op0 : Opv := ⟨0, 0, 0, 0, false, p0, 0, 0, v0⟩
theorem pj0 {w w1 w2 : World} {h : Nat} {o : Nat → Prop} (h1 : HpIs w1 h o 0 ab0) (h2 : ∀ j, o j → w.heap.size ≤ j) (h3 : Below w.heap.size w w1) (h4 : Below w1.heap.size w1 w2) : Pj w h w2.heap.size 0 (.slice none 0 0) (w2.alloc (.cells #[.slice none 0 0] 28)) := by
  have hb : Below w2.heap.size w2 (w2.alloc (.cells #[.slice none 0 0] 28)) := (Below.refl _ _).alloc (Nat.le_refl _) _
  have h5 := h3.trans (h4.mono h3.size)
  have hp := (h1.below h4).below hb
  refine ⟨[w2.heap.size], .slice none 0 0, [], ab0, [], ⟨⟨o, hp, rf_nil _ _, by simp, fun m hm => ?_, fun j hj => ⟨h2 j hj, ?_⟩, h5.trans (hb.mono h5.size)⟩, MdAt.nil _ _ _, ⟨by simp, h5.size⟩, by simp [Value.ownBlock], heap_alloc_new _ _⟩, rel0, by simp⟩
  · obtain rfl := List.mem_singleton.1 hm
    refine ⟨fun e => ?_, ?_, by simp⟩
    · have := (h1.below h4).lt _ e
      omega
    · rintro (e | ⟨b, hb, _⟩)
      · cases e
      · cases hb
  · rintro (e | ⟨b, hb, _⟩)
    · cases e
    · cases hb
set_option maxHeartbeats 32000000 in
theorem heapPlays_walk (A : Option Addr) (n c : Nat) (os : List Opv) (w : World) (hn : os.length = n) (hnc : n ≤ c) (hcm : c ≤ maxLen)
    (hin : 0 < n → ∃ g o, A = some ⟨g, o, none⟩ ∧ g < w.heap.size ∧ ∀ j, j < n → w.rangeAt g (o + j * 16) (os.getD j op0).l)
    (hwf : ∀ k ∈ os, k.ok) :
    Calls Try.prog 3 #[.slice A n c] w fun e w' => e = .returned (.bool true) ∧ Below w.heap.size w w' := by
  unfold maxLen at hcm
  have HIN := Lib.hid hin
  have HWF : Hid (∀ j, j < n → (os.getD j op0).ok) := Lib.hid (fun j hj => hwf _ (by rw [List.getD_eq_getElem?_getD, List.getElem?_eq_getElem (by omega)]; exact List.getElem_mem _))
  clear hin hwf hn
  go_enter Try.func3, Try.ntmps3
  go_wp2_with fail
  refine (new_any _).mono ?_
  rintro e w1 ⟨h, o, rfl, hpa, hoa, hba⟩
  have HPA := Lib.hid hpa
  have HOA := Lib.hid hoa
  clear hpa hoa
  go_wp2_with fail
  refine (awake_any _).mono ?_
  rintro e w2 ⟨rfl, hb2⟩
  have HP0 := Lib.hid (pj0 HPA.out HOA.out hba hb2)
  clear HPA HOA
  go_wp2_with fail
  generalize w2.alloc (.cells #[.slice none 0 0] 28) = w3 at *
  generalize w2.heap.size = bm at *
  clear hb2 hba
  go_loopw [5, 35] (fun md i wr => ∃ j : Nat, j ≤ n ∧ j ≤ 60 ∧ i = .int .i64 j ∧ Hid (Pj w h bm j md wr)) (fun _ i _ => n - (intOf i).toNat)
  case atStart => exact ⟨0, Nat.zero_le _, by omega, rfl, HP0⟩
  case round =>
    obtain ⟨j, hj, hj60, rfl, hp0⟩ := hrel
    by_cases hlt : j < n
    · have dj0 : (0 : Int) ≤ (j : Int) := by omega
      have dj1 : (j : Int) < (n : Int) := by omega
      obtain ⟨ga, og, rfl, hga, hcell⟩ := HIN.out (by omega)
      obtain ⟨L, v, l, A0, mp, hpt, hrl, hml⟩ := hp0.out
      have hr' : wr.rangeAt ga (og + j * 16) (os.getD j op0).l := fun k u hu => (hpt.be.cell (p := ⟨ga, og + j * 16 + k, none⟩) hga).trans (hcell j hlt k u hu)
      have hok := HWF.out j hlt
      obtain ⟨o, ho⟩ : ∃ o, os.getD j op0 = o := ⟨_, rfl⟩
      rw [ho] at hr' hok
      clear hcell ho
      have hwb := hpt.be.size
      have HPT := Lib.hid hpt
      have HRL := Lib.hid hrl
      have hgr : ga < wr.heap.size := by omega
      clear hpt hrl hp0
      obtain ⟨kind, oi, on, om, fr, ⟨pb, po, pl, ph⟩, qa, qb, ⟨vn, ⟨vb, vo, vl, vh⟩⟩⟩ := o
      obtain ⟨ok1, ok2, ok3, ok4, ok5, ok6, ok7⟩ := hok
      simp only [Opv.l] at hr'
      have HOK5 := Lib.hid ok5
      simp only [in64] at ok1 ok2 ok3 ok4 ok6 ok7
      try dsimp only at ok1 ok2 ok3 ok4 ok6 ok7
      have OK := Lib.hid (And.intro ok1 (And.intro ok2 (And.intro ok3 (And.intro ok4 (And.intro ok6 ok7)))))
      clear ok1 ok2 ok3 ok4 ok5 ok6 ok7
      obtain ⟨mda, mdc, hmde⟩ := rsl HPT.out.mds.row
      subst hmde
      by_cases h60 : j = 60
      · subst h60
        go_wp2_with ((with_reducible show wpList _ _ _ (Oper.mk (some 39) _ _ _ _ _ :: _) _ _); refine wpList_load_mid (op := ⟨some 39, _, _, _, _, _⟩) rfl 37 (.tmp 38) rfl ga (og + 60 * 16) rfl _ _ hr' Try.underlying37 rfl sizeOp ?_)
        go_ret
        exact ⟨rfl, HPT.out.be.alloc hwb _⟩
      · have d60 : ((j : Int) == 60) = false := beq_eq_false_iff_ne.mpr (by omega)
        obtain ⟨q, hq⟩ : ∃ q, q = decide (0 < mp.length ∧ 0 ≤ oi) := ⟨_, rfl⟩
        have HQ := Lib.hid hq
        clear hq
        go_upto_region 12 with ((with_reducible show wpList _ _ _ (Oper.mk (some 39) _ _ _ _ _ :: _) _ _); refine wpList_load_mid (op := ⟨some 39, _, _, _, _, _⟩) rfl 37 (.tmp 38) rfl ga (og + j * 16) rfl _ _ hr' Try.underlying37 rfl sizeOp ?_)
        generalize hX : (wr.alloc (.cells #[.int .i64 kind, .int .i64 oi, .int .i64 on, .int .i64 om, .bool fr, .int .i64 pb, .int .i64 po, .int .i64 pl, .int .i64 ph, .int .i64 qa, .int .i64 qb, .int .u64 vn, .int .i64 vb, .int .i64 vo, .int .i64 vl, .int .i64 vh] 37)).alloc (.cells #[.int .i64 pb, .int .i64 po, .int .i64 pl, .int .i64 ph] 31) = X
        have HPX : Hid (Px w h bm wr.heap.size (wr.heap.size + 1) ((wr.heap.size + 1) :: wr.heap.size :: L) (2 * j) v l A0 (.slice mda mp.length mdc) mp ⟨kind, oi, on, om, fr, ⟨pb, po, pl, ph⟩, qa, qb, ⟨vn, ⟨vb, vo, vl, vh⟩⟩⟩ ⟨pb, po, pl, ph⟩ X) := Lib.hid (by rw [← hX]; exact px0 HPT.out HOK5.out)
        clear hX hr' HPT HOK5 hwb hgr
        generalize (wr.heap.size + 1) :: wr.heap.size :: L = L1 at *
        generalize wr.heap.size + 1 = bp at *
        generalize wr.heap.size = bo at *
        have R := Lib.hid HPX.out.row
        obtain ⟨x0, x1, x2, x3, x4, x5, x6, x7, x8, x9, x10, x11, x12, x13, x14, x15⟩ := cells16 R.out
        go_cut [52] from 46 to 52 (fun s52 wx => s52 = .bool q ∧ wx = X)
        case first =>
          by_cases hm0 : 0 < mp.length
          · by_cases ho0 : 0 ≤ oi
            · have d2 : decide (oi ≥ 0) = true := decide_eq_true ho0
              have HE := Lib.hid (HQ.out.trans (decide_eq_true ⟨hm0, ho0⟩))
              clear ho0
              go_wp2
              go_meet
              exact ⟨by rw [HE.out], rfl⟩
            · have d2 : decide (oi ≥ 0) = false := decide_eq_false ho0
              have HE := Lib.hid (HQ.out.trans (decide_eq_false (fun e => ho0 e.2)))
              clear ho0
              go_wp2
              go_meet
              exact ⟨by rw [HE.out], rfl⟩
          · have HE := Lib.hid (HQ.out.trans (decide_eq_false (fun e => hm0 e.1)))
            go_wp2
            go_meet
            exact ⟨by rw [HE.out], rfl⟩
        case rest =>
          obtain ⟨rfl, rfl⟩ := hcut
          go_upto_if 52 with fail
          go_cut [8] from 53 to 98 (fun s8 wx => s8 = .pointer (some ⟨bp, 0, none⟩) ∧ ∃ p', Hid (Px w h bm bo bp L1 (2 * j) v l A0 (.slice mda mp.length mdc) mp ⟨kind, oi, on, om, fr, ⟨pb, po, pl, ph⟩, qa, qb, ⟨vn, ⟨vb, vo, vl, vh⟩⟩⟩ p' wx))
          case first =>
            cases q with
            | false =>
              clear HQ
              go_wp2
              go_meet
              exact ⟨rfl, _, HPX⟩
            | true =>
              have hq0 := of_decide_eq_true HQ.out.symm
              obtain ⟨kk, hkq⟩ : ∃ kk : Int, oi.tmod (mp.length : Int) = kk := ⟨_, rfl⟩
              have hkk : 0 ≤ kk ∧ kk < (mp.length : Int) := by
                rw [← hkq, Int.tmod_eq_emod_of_nonneg hq0.2]
                have h1 := Int.emod_nonneg oi (b := (mp.length : Int)) (by omega)
                have h2 := Int.emod_lt_of_pos oi (b := (mp.length : Int)) (by omega)
                exact ⟨h1, h2⟩
              obtain ⟨k, hkt⟩ : ∃ k : Nat, kk.toNat = k := ⟨_, rfl⟩
              have hkn : k < mp.length := by omega
              obtain ⟨gm, cap, hsl, hgL, hgw, hgX, kc0, kc1, kc2, kc3⟩ := HPX.out.pt.mds.get k hkn
              injection hsl with e1 _ e2
              subst e1 e2
              have HEK := HPX.out.pt.mds.ok _ (List.getElem_mem hkn)
              obtain ⟨E, hE⟩ : ∃ E, mp[k] = E := ⟨_, rfl⟩
              rw [hE] at HEK kc0 kc1 kc2 kc3
              have HEK := Lib.hid HEK
              have HE := Lib.hid hE
              have hm0 : 0 < mp.length := hq0.1
              have hmp : ¬ mp = [] := fun e => by rw [e] at hm0; simp at hm0
              have hlz : ((mp.length : Int) == 0) = false := beq_eq_false_iff_ne.mpr (by omega)
              have hlt2 : kk < (mp.length : Int) := hkk.2
              have hge2 : 0 ≤ kk := hkk.1
              have HKK : Hid (kk = (k : Int)) := Lib.hid (by omega)
              have HML := Lib.hid hml
              clear HQ hq0 hkk hE hml hgX
              as_aux_lemma =>
                have HGB : Hid (gm ≠ bp) := Lib.hid (fun e => HPX.out.nep (by rw [← e]; rfl))
                have HP := HPX
                clear HPX
                go_wp2_with fail
                obtain ⟨Y, hY⟩ : ∃ Y, Y = wc := ⟨_, rfl⟩
                subst hY
                refine wp_region_held_drew (S := fun W : World => W.heap[gm]? = Y.heap[gm]? ∧ W.heap[bo]? = Y.heap[bo]?) (by kernel_rfl) ⟨rfl, rfl⟩ (fun hHeld => ?_)
                replace HP := Lib.hid (HP.out.below ((Below.refl _ _).drew))
                generalize hYD : Y.drew = V0 at *
                clear hYD
                refine wpAnyH_take (i := 0) (oi := ({ dst := some 53, op := Go.Op.move (Go.Operand.tmp 5), type := 29, pos := "law.go:50", after := #[], guard := none } : Oper)) (v := .slice (some ⟨gm, 0, none⟩) mp.length mdc) rfl (by kernel_rfl) (by kernel_rfl) (by kernel_rfl) (fun _ _ _ h => h) (Or.inl ⟨by rfl, ?hy1⟩) (by assumption) ?_
                case hy1 => ((intro W hSW; (try dsimp only at hSW); go_simp); (try with_reducible rfl); (try exact ⟨rfl, rfl, rfl⟩))
                simp only [Act.put, List.setIfInBounds_toArray, List.set_cons_zero, List.set_cons_succ]
                refine wpAnyH_take (i := 1) (oi := ({ dst := some 54, op := Go.Op.fieldAddr 37 (Go.Operand.tmp 7) 1, type := 0, pos := "law.go:50", after := #[], guard := none } : Oper)) (v := .pointer (some ⟨bo, 1, none⟩)) rfl (by kernel_rfl) (by kernel_rfl) (by kernel_rfl) (fun _ _ _ h => h) (Or.inl ⟨by rfl, ?hy2⟩) (by assumption) ?_
                case hy2 => ((intro W hSW; (try dsimp only at hSW); go_simp); (try with_reducible rfl); (try exact ⟨rfl, rfl, rfl⟩))
                simp only [Act.put, List.setIfInBounds_toArray, List.set_cons_zero, List.set_cons_succ]
                refine wpAnyH_take (i := 2) (oi := ({ dst := some 55, op := Go.Op.load 3 (Go.Operand.tmp 54), type := 3, pos := "law.go:50", after := #[{ on := 1, ground := Go.Ground.data }], guard := none } : Oper)) (v := .int .i64 oi) rfl (by kernel_rfl) (by kernel_rfl) (by kernel_rfl) (fun _ _ _ h => h) (Or.inl ⟨by rfl, ?hy3⟩) (by assumption) ?_
                case hy3 => ((intro W hSW; have e0 := (World.cell?_of_block (w := Y) (a := ⟨bo, 1, none⟩) hSW.2).trans x1; clear hSW; go_simp); (try with_reducible rfl); (try exact ⟨rfl, rfl, rfl⟩))
                simp only [Act.put, List.setIfInBounds_toArray, List.set_cons_zero, List.set_cons_succ]
                refine wpAnyH_take (i := 3) (oi := ({ dst := some 56, op := Go.Op.move (Go.Operand.tmp 9), type := 3, pos := "law.go:50", after := #[], guard := none } : Oper)) (v := .int .i64 (mp.length : Int)) rfl (by kernel_rfl) (by kernel_rfl) (by kernel_rfl) (fun _ _ _ h => h) (Or.inl ⟨by rfl, ?hy4⟩) (by assumption) ?_
                case hy4 => ((intro W hSW; (try dsimp only at hSW); go_simp); (try with_reducible rfl); (try exact ⟨rfl, rfl, rfl⟩))
                simp only [Act.put, List.setIfInBounds_toArray, List.set_cons_zero, List.set_cons_succ]
                refine wpAnyH_take (i := 4) (oi := ({ dst := some 57, op := Go.Op.binOp Go.BinOp.rem 3 (Go.Operand.tmp 55) (Go.Operand.tmp 56) 3, type := 3, pos := "law.go:50", after := #[{ on := 2, ground := Go.Ground.data }, { on := 3, ground := Go.Ground.data }], guard := none } : Oper)) (v := .int .i64 kk) rfl (by kernel_rfl) (by kernel_rfl) (by kernel_rfl) (fun _ _ _ h => h) (Or.inl ⟨by rfl, ?hy5⟩) (by assumption) ?_
                case hy5 => ((intro W hSW; (try dsimp only at hSW); go_simp); (try with_reducible rfl); (try exact ⟨rfl, rfl, rfl⟩))
                simp only [Act.put, List.setIfInBounds_toArray, List.set_cons_zero, List.set_cons_succ]
                refine wpAnyH_take (i := 5) (oi := ({ dst := some 58, op := Go.Op.indexAddr 29 (Go.Operand.tmp 53) (Go.Operand.tmp 57), type := 0, pos := "law.go:50", after := #[{ on := 0, ground := Go.Ground.data }, { on := 4, ground := Go.Ground.data }], guard := none } : Oper)) (v := .pointer (some ⟨gm, k * 4, none⟩)) rfl (by kernel_rfl) (by kernel_rfl) (by kernel_rfl) (fun _ _ _ h => h) (Or.inl ⟨by rfl, ?hy6⟩) (by assumption) ?_
                case hy6 => ((intro W hSW; (try dsimp only at hSW); go_simp); (try with_reducible rfl); (try exact ⟨rfl, rfl, rfl⟩))
                simp only [Act.put, List.setIfInBounds_toArray, List.set_cons_zero, List.set_cons_succ]
                refine wpAnyH_take (i := 6) (oi := ({ dst := some 59, op := Go.Op.load 31 (Go.Operand.tmp 58), type := 31, pos := "law.go:50", after := #[{ on := 5, ground := Go.Ground.data }], guard := none } : Oper)) (v := .agg #[.int .i64 E.bl, .int .i64 E.off, .int .i64 E.lo, .int .i64 E.hi]) rfl (by kernel_rfl) (by kernel_rfl) (by kernel_rfl) (fun _ _ _ h => h) (Or.inl ⟨by rfl, ?hy7⟩) (by assumption) ?_
                case hy7 => ((intro W hSW; have e0 := (World.cell?_of_block (w := Y) (a := ⟨gm, k * 4, none⟩) hSW.1).trans kc0; have e1 := (World.cell?_of_block (w := Y) (a := ⟨gm, k * 4 + 1, none⟩) hSW.1).trans kc1; have e2 := (World.cell?_of_block (w := Y) (a := ⟨gm, k * 4 + 2, none⟩) hSW.1).trans kc2; have e3 := (World.cell?_of_block (w := Y) (a := ⟨gm, k * 4 + 3, none⟩) hSW.1).trans kc3; clear hSW; go_simp); (try with_reducible rfl); (try exact ⟨rfl, rfl, rfl⟩))
                simp only [Act.put, List.setIfInBounds_toArray, List.set_cons_zero, List.set_cons_succ]
                refine wpAnyH_take (i := 7) (oi := ({ dst := some 60, op := Go.Op.fieldAddr 37 (Go.Operand.tmp 7) 2, type := 0, pos := "law.go:50", after := #[], guard := none } : Oper)) (v := .pointer (some ⟨bo, 2, none⟩)) rfl (by kernel_rfl) (by kernel_rfl) (by kernel_rfl) (fun _ _ _ h => h) (Or.inl ⟨by rfl, ?hy8⟩) (by assumption) ?_
                case hy8 => ((intro W hSW; (try dsimp only at hSW); go_simp); (try with_reducible rfl); (try exact ⟨rfl, rfl, rfl⟩))
                simp only [Act.put, List.setIfInBounds_toArray, List.set_cons_zero, List.set_cons_succ]
                refine wpAnyH_take (i := 8) (oi := ({ dst := some 61, op := Go.Op.load 3 (Go.Operand.tmp 60), type := 3, pos := "law.go:50", after := #[{ on := 7, ground := Go.Ground.data }], guard := none } : Oper)) (v := .int .i64 on) rfl (by kernel_rfl) (by kernel_rfl) (by kernel_rfl) (fun _ _ _ h => h) (Or.inl ⟨by rfl, ?hy9⟩) (by assumption) ?_
                case hy9 => ((intro W hSW; have e0 := (World.cell?_of_block (w := Y) (a := ⟨bo, 2, none⟩) hSW.2).trans x2; clear hSW; go_simp); (try with_reducible rfl); (try exact ⟨rfl, rfl, rfl⟩))
                simp only [Act.put, List.setIfInBounds_toArray, List.set_cons_zero, List.set_cons_succ]
                refine wpAnyH_ready (rs := [9]) (by kernel_rfl) (by simp) ?_
                refine (AllReadyH.cons (i := 9) (o := ({ dst := some 62, op := Go.Op.call { callee := Go.Callee.value (Go.Operand.func 7), args := #[Go.Operand.tmp 59, Go.Operand.tmp 61], argTypes := #[31, 3] }, type := 31, pos := "law.go:50", after := #[{ on := 6, ground := Go.Ground.data }, { on := 8, ground := Go.Ground.data }], guard := none } : Oper)) rfl (fun K hK => ?_) AllReadyH.nil)
                rw [if_pos (by rfl)]
                go_simp
                refine (move_any E on V0 HEK.out).mono ?_
                rintro e V1 ⟨he, hb⟩
                simp only [Ptr.v] at he
                subst he
                have hSk : V1.heap[gm]? = Y.heap[gm]? ∧ V1.heap[bo]? = Y.heap[bo]? := ⟨((HP.out.pt.cp.kept hb) gm hgL).trans hHeld.1, ((HP.out.pt.cp.kept hb) bo HP.out.bos.1).trans hHeld.2⟩
                replace HP := Lib.hid (HP.out.below hb)
                clear hb
                go_simp
                refine hK.out _ _ (hSk) (fun hHeld => ?_)
                clear hK K
                try simp only [Act.put, List.setIfInBounds_toArray, List.set_cons_zero, List.set_cons_succ]
                refine wpAnyH_ready (rs := [10]) (by kernel_rfl) (by simp) ?_
                refine (AllReadyH.cons (i := 10) (o := ({ dst := none, op := Go.Op.store 31 (Go.Operand.tmp 8) (Go.Operand.tmp 62), type := 0, pos := "law.go:50", after := #[{ on := 9, ground := Go.Ground.data }, { on := 9, ground := Go.Ground.chain }, { on := 0, ground := Go.Ground.phase }, { on := 1, ground := Go.Ground.phase }, { on := 2, ground := Go.Ground.phase }, { on := 3, ground := Go.Ground.phase }, { on := 4, ground := Go.Ground.phase }, { on := 5, ground := Go.Ground.phase }, { on := 6, ground := Go.Ground.phase }, { on := 7, ground := Go.Ground.phase }, { on := 8, ground := Go.Ground.phase }, { on := 9, ground := Go.Ground.phase }], guard := none } : Oper)) rfl (fun K hK => ?_) AllReadyH.nil)
                rw [if_pos (by rfl)]
                refine wp_store_row 31 (.tmp 8) (.tmp 62) rfl bp (#[.int .i64 (mv E on).bl, .int .i64 (mv E on).off, .int .i64 (mv E on).lo, .int .i64 (mv E on).hi]) rfl rfl 31 _ HP.out.ptr sizePtr rfl (by simp [Value.oneCell']) ?_
                have hSk : (V1.setRow bp (#[.int .i64 (mv E on).bl, .int .i64 (mv E on).off, .int .i64 (mv E on).lo, .int .i64 (mv E on).hi])).heap[gm]? = Y.heap[gm]? ∧ (V1.setRow bp (#[.int .i64 (mv E on).bl, .int .i64 (mv E on).off, .int .i64 (mv E on).lo, .int .i64 (mv E on).hi])).heap[bo]? = Y.heap[bo]? := ⟨(setRow_other _ _ _ _ HGB.out).trans hHeld.1, (setRow_other _ _ _ _ HP.out.bos.2.2.1).trans hHeld.2⟩
                have HP2 := Lib.hid (HP.out.setP ((mv E on)) (mv_ok HEK.out on))
                clear HP
                have HP := HP2
                clear HP2
                generalize V1.setRow bp (#[.int .i64 (mv E on).bl, .int .i64 (mv E on).off, .int .i64 (mv E on).lo, .int .i64 (mv E on).hi]) = V2 at *
                refine hK.out _ _ (hSk) (fun hHeld => ?_)
                clear hK K
                try simp only [Act.put, List.setIfInBounds_toArray, List.set_cons_zero, List.set_cons_succ]
                refine wpAnyH_done (by kernel_rfl) ?_ _
                clear hHeld
                generalize hVV : V2 = T at *
                clear hVV
                have hr := HP.out.row
                have RT := Lib.hid hr
                clear hr x0 x1 x2 x3 x4 x5 x6 x7 x8 x9 x10 x11 x12 x13 x14 x15
                obtain ⟨x0, x1, x2, x3, x4, x5, x6, x7, x8, x9, x10, x11, x12, x13, x14, x15⟩ := cells16 RT.out
                clear kc0 kc1 kc2 kc3
                obtain ⟨hgT, kc0, kc1, kc2, kc3⟩ := HP.out.pt.mds.cells k hkn HE.out
                have hbT := lt_of_at RT.out
                go_wp2_with fail
                refine wp_region_held_drew (S := fun W : World => Below T.heap.size T W) (by kernel_rfl) ((Below.refl _ _).drew) (fun hHeld => ?_)
                generalize hYD : T.drew = V0 at *
                clear hYD
                refine wpAnyH_take (i := 0) (oi := ({ dst := some 63, op := Go.Op.move (Go.Operand.tmp 5), type := 29, pos := "law.go:51", after := #[], guard := none } : Oper)) (v := .slice (some ⟨gm, 0, none⟩) mp.length mdc) rfl (by kernel_rfl) (by kernel_rfl) (by kernel_rfl) (fun _ _ _ h => h) (Or.inl ⟨by rfl, ?hy1⟩) (by assumption) ?_
                case hy1 => ((intro W hSW; (try dsimp only at hSW); go_simp); (try with_reducible rfl); (try exact ⟨rfl, rfl, rfl⟩))
                simp only [Act.put, List.setIfInBounds_toArray, List.set_cons_zero, List.set_cons_succ]
                refine wpAnyH_take (i := 1) (oi := ({ dst := some 64, op := Go.Op.fieldAddr 37 (Go.Operand.tmp 7) 1, type := 0, pos := "law.go:51", after := #[], guard := none } : Oper)) (v := .pointer (some ⟨bo, 1, none⟩)) rfl (by kernel_rfl) (by kernel_rfl) (by kernel_rfl) (fun _ _ _ h => h) (Or.inl ⟨by rfl, ?hy2⟩) (by assumption) ?_
                case hy2 => ((intro W hSW; (try dsimp only at hSW); go_simp); (try with_reducible rfl); (try exact ⟨rfl, rfl, rfl⟩))
                simp only [Act.put, List.setIfInBounds_toArray, List.set_cons_zero, List.set_cons_succ]
                refine wpAnyH_take (i := 2) (oi := ({ dst := some 65, op := Go.Op.load 3 (Go.Operand.tmp 64), type := 3, pos := "law.go:51", after := #[{ on := 1, ground := Go.Ground.data }], guard := none } : Oper)) (v := .int .i64 oi) rfl (by kernel_rfl) (by kernel_rfl) (by kernel_rfl) (fun _ _ _ h => h) (Or.inl ⟨by rfl, ?hy3⟩) (by assumption) ?_
                case hy3 => ((intro W hSW; have e0 := (hSW.cell (p := ⟨bo, 1, none⟩) hbT).trans x1; clear hSW; go_simp); (try with_reducible rfl); (try exact ⟨rfl, rfl, rfl⟩))
                simp only [Act.put, List.setIfInBounds_toArray, List.set_cons_zero, List.set_cons_succ]
                refine wpAnyH_take (i := 3) (oi := ({ dst := some 66, op := Go.Op.move (Go.Operand.tmp 9), type := 3, pos := "law.go:51", after := #[], guard := none } : Oper)) (v := .int .i64 (mp.length : Int)) rfl (by kernel_rfl) (by kernel_rfl) (by kernel_rfl) (fun _ _ _ h => h) (Or.inl ⟨by rfl, ?hy4⟩) (by assumption) ?_
                case hy4 => ((intro W hSW; (try dsimp only at hSW); go_simp); (try with_reducible rfl); (try exact ⟨rfl, rfl, rfl⟩))
                simp only [Act.put, List.setIfInBounds_toArray, List.set_cons_zero, List.set_cons_succ]
                refine wpAnyH_take (i := 4) (oi := ({ dst := some 67, op := Go.Op.binOp Go.BinOp.rem 3 (Go.Operand.tmp 65) (Go.Operand.tmp 66) 3, type := 3, pos := "law.go:51", after := #[{ on := 2, ground := Go.Ground.data }, { on := 3, ground := Go.Ground.data }], guard := none } : Oper)) (v := .int .i64 kk) rfl (by kernel_rfl) (by kernel_rfl) (by kernel_rfl) (fun _ _ _ h => h) (Or.inl ⟨by rfl, ?hy5⟩) (by assumption) ?_
                case hy5 => ((intro W hSW; (try dsimp only at hSW); go_simp); (try with_reducible rfl); (try exact ⟨rfl, rfl, rfl⟩))
                simp only [Act.put, List.setIfInBounds_toArray, List.set_cons_zero, List.set_cons_succ]
                refine wpAnyH_take (i := 5) (oi := ({ dst := some 68, op := Go.Op.indexAddr 29 (Go.Operand.tmp 63) (Go.Operand.tmp 67), type := 0, pos := "law.go:51", after := #[{ on := 0, ground := Go.Ground.data }, { on := 4, ground := Go.Ground.data }], guard := none } : Oper)) (v := .pointer (some ⟨gm, k * 4, none⟩)) rfl (by kernel_rfl) (by kernel_rfl) (by kernel_rfl) (fun _ _ _ h => h) (Or.inl ⟨by rfl, ?hy6⟩) (by assumption) ?_
                case hy6 => ((intro W hSW; (try dsimp only at hSW); go_simp); (try with_reducible rfl); (try exact ⟨rfl, rfl, rfl⟩))
                simp only [Act.put, List.setIfInBounds_toArray, List.set_cons_zero, List.set_cons_succ]
                refine wpAnyH_take (i := 6) (oi := ({ dst := some 69, op := Go.Op.load 31 (Go.Operand.tmp 68), type := 31, pos := "law.go:51", after := #[{ on := 5, ground := Go.Ground.data }], guard := none } : Oper)) (v := .agg #[.int .i64 E.bl, .int .i64 E.off, .int .i64 E.lo, .int .i64 E.hi]) rfl (by kernel_rfl) (by kernel_rfl) (by kernel_rfl) (fun _ _ _ h => h) (Or.inl ⟨by rfl, ?hy7⟩) (by assumption) ?_
                case hy7 => ((intro W hSW; have e0 := (hSW.cell (p := ⟨gm, k * 4, none⟩) hgT).trans kc0; have e1 := (hSW.cell (p := ⟨gm, k * 4 + 1, none⟩) hgT).trans kc1; have e2 := (hSW.cell (p := ⟨gm, k * 4 + 2, none⟩) hgT).trans kc2; have e3 := (hSW.cell (p := ⟨gm, k * 4 + 3, none⟩) hgT).trans kc3; clear hSW; go_simp); (try with_reducible rfl); (try exact ⟨rfl, rfl, rfl⟩))
                simp only [Act.put, List.setIfInBounds_toArray, List.set_cons_zero, List.set_cons_succ]
                refine wpAnyH_take (i := 7) (oi := ({ dst := some 70, op := Go.Op.fieldAddr 37 (Go.Operand.tmp 7) 2, type := 0, pos := "law.go:51", after := #[], guard := none } : Oper)) (v := .pointer (some ⟨bo, 2, none⟩)) rfl (by kernel_rfl) (by kernel_rfl) (by kernel_rfl) (fun _ _ _ h => h) (Or.inl ⟨by rfl, ?hy8⟩) (by assumption) ?_
                case hy8 => ((intro W hSW; (try dsimp only at hSW); go_simp); (try with_reducible rfl); (try exact ⟨rfl, rfl, rfl⟩))
                simp only [Act.put, List.setIfInBounds_toArray, List.set_cons_zero, List.set_cons_succ]
                refine wpAnyH_take (i := 8) (oi := ({ dst := some 71, op := Go.Op.load 3 (Go.Operand.tmp 70), type := 3, pos := "law.go:51", after := #[{ on := 7, ground := Go.Ground.data }], guard := none } : Oper)) (v := .int .i64 on) rfl (by kernel_rfl) (by kernel_rfl) (by kernel_rfl) (fun _ _ _ h => h) (Or.inl ⟨by rfl, ?hy9⟩) (by assumption) ?_
                case hy9 => ((intro W hSW; have e0 := (hSW.cell (p := ⟨bo, 2, none⟩) hbT).trans x2; clear hSW; go_simp); (try with_reducible rfl); (try exact ⟨rfl, rfl, rfl⟩))
                simp only [Act.put, List.setIfInBounds_toArray, List.set_cons_zero, List.set_cons_succ]
                refine wpAnyH_ready (rs := [9, 10]) (by kernel_rfl) (by simp) ?_
                refine (AllReadyH.cons (i := 9) (o := ({ dst := some 72, op := Go.Op.call { callee := Go.Callee.value (Go.Operand.func 8), args := #[Go.Operand.tmp 69, Go.Operand.tmp 71], argTypes := #[39, 3] }, type := 39, pos := "law.go:51", after := #[{ on := 6, ground := Go.Ground.data }, { on := 8, ground := Go.Ground.data }], guard := none } : Oper)) rfl (fun K hK => ?_) (AllReadyH.cons (i := 10) (o := ({ dst := some 10, op := Go.Op.alloc 39, type := 0, pos := "law.go:51", after := #[], guard := none } : Oper)) rfl (fun K hK => ?_) AllReadyH.nil))
                · rw [if_pos (by rfl)]
                  go_simp
                  refine (rmove_any E on V0 HEK.out).mono ?_
                  rintro e V1 ⟨he, hb⟩
                  simp only [Ptr.v] at he
                  subst he
                  have hSk := hHeld.trans (hb.mono hHeld.size)
                  clear hb
                  go_simp
                  refine hK.out _ _ (hSk) (fun hHeld => ?_)
                  clear hK K
                  try simp only [Act.put, List.setIfInBounds_toArray, List.set_cons_zero, List.set_cons_succ]
                  refine wpAnyH_ready (rs := [10]) (by kernel_rfl) (by simp) ?_
                  refine (AllReadyH.cons (i := 10) (o := ({ dst := some 10, op := Go.Op.alloc 39, type := 0, pos := "law.go:51", after := #[], guard := none } : Oper)) rfl (fun K hK => ?_) AllReadyH.nil)
                  rw [if_pos (by rfl)]
                  go_simp
                  have hSk := hHeld.alloc hHeld.size (.cells #[.int .i64 0, .int .i64 0, .int .i64 0, .int .i64 0] 39)
                  have rq := heap_alloc_new V1 (.cells #[.int .i64 0, .int .i64 0, .int .i64 0, .int .i64 0] 39)
                  have gq : T.heap.size ≤ V1.heap.size := hHeld.size
                  generalize V1.alloc (.cells #[.int .i64 0, .int .i64 0, .int .i64 0, .int .i64 0] 39) = V2 at *
                  generalize V1.heap.size = Bq at *
                  refine hK.out _ _ (hSk) (fun hHeld => ?_)
                  clear hK K
                  try simp only [Act.put, List.setIfInBounds_toArray, List.set_cons_zero, List.set_cons_succ]
                  refine wpAnyH_ready (rs := [11]) (by kernel_rfl) (by simp) ?_
                  refine (AllReadyH.cons (i := 11) (o := ({ dst := none, op := Go.Op.store 39 (Go.Operand.tmp 10) (Go.Operand.tmp 72), type := 0, pos := "law.go:51", after := #[{ on := 10, ground := Go.Ground.data }, { on := 9, ground := Go.Ground.data }, { on := 9, ground := Go.Ground.chain }, { on := 0, ground := Go.Ground.phase }, { on := 1, ground := Go.Ground.phase }, { on := 2, ground := Go.Ground.phase }, { on := 3, ground := Go.Ground.phase }, { on := 4, ground := Go.Ground.phase }, { on := 5, ground := Go.Ground.phase }, { on := 6, ground := Go.Ground.phase }, { on := 7, ground := Go.Ground.phase }, { on := 8, ground := Go.Ground.phase }, { on := 9, ground := Go.Ground.phase }, { on := 10, ground := Go.Ground.phase }], guard := none } : Oper)) rfl (fun K hK => ?_) AllReadyH.nil)
                  rw [if_pos (by rfl)]
                  refine wp_store_row 39 (.tmp 10) (.tmp 72) rfl Bq (#[.int .i64 (mv E on).bl, .int .i64 (mv E on).off, .int .i64 (mv E on).lo, .int .i64 (mv E on).hi]) rfl rfl 39 _ rq sizeRP rfl (by simp [Value.oneCell']) ?_
                  have hSk := hHeld.trans ((Onl.setRow Bq V2 (#[.int .i64 (mv E on).bl, .int .i64 (mv E on).off, .int .i64 (mv E on).lo, .int .i64 (mv E on).hi])).toBelow gq hHeld.size)
                  replace rq := setRow_heap V2 Bq _ (#[.int .i64 (mv E on).bl, .int .i64 (mv E on).off, .int .i64 (mv E on).lo, .int .i64 (mv E on).hi]) _ _ rq
                  generalize V2.setRow Bq (#[.int .i64 (mv E on).bl, .int .i64 (mv E on).off, .int .i64 (mv E on).lo, .int .i64 (mv E on).hi]) = V3 at *
                  refine hK.out _ _ (hSk) (fun hHeld => ?_)
                  clear hK K
                  try simp only [Act.put, List.setIfInBounds_toArray, List.set_cons_zero, List.set_cons_succ]
                  refine wpAnyH_done (by kernel_rfl) ?_ _
                  replace HP := Lib.hid (HP.out.below hHeld)
                  clear hHeld gq
                  generalize hVV : V3 = U at *
                  clear hVV
                  have hr := HP.out.row
                  have RU := Lib.hid hr
                  clear hr x0 x1 x2 x3 x4 x5 x6 x7 x8 x9 x10 x11 x12 x13 x14 x15
                  obtain ⟨x0, x1, x2, x3, x4, x5, x6, x7, x8, x9, x10, x11, x12, x13, x14, x15⟩ := cells16 RU.out
                  obtain ⟨y0, y1, y2, y3⟩ := cells4 HP.out.ptr
                  obtain ⟨z0, z1, z2, z3⟩ := cells4 rq
                  have RQ := Lib.hid rq
                  have HPO := Lib.hid (mv_ok HEK.out on)
                  clear rq hbT hgT kc0 kc1 kc2 kc3 HE
                  generalize mv E on = M at *
                  by_cases hqb : 0 < qb
                  · have d5 : decide (qb > 0) = true := decide_eq_true hqb
                    have hbU := lt_of_at RU.out
                    have hpU := lt_of_at HP.out.ptr
                    clear hqb
                    go_wp2_with fail
                    have hbb : Below U.heap.size U (U.alloc (.cells #[.int .i64 M.bl, .int .i64 M.off, .int .i64 M.lo, .int .i64 M.hi] 39)) := (Below.refl _ _).alloc (Nat.le_refl _) _
                    have r11 := heap_alloc_new U (.cells #[.int .i64 M.bl, .int .i64 M.off, .int .i64 M.lo, .int .i64 M.hi] 39)
                    have HP5 := Lib.hid (HP.out.below hbb)
                    clear hbb hbU x0 x1 x2 x3 x4 x5 x6 x7 x8 x9 x10 x11 x12 x13 x14 x15 y0 y1 y2 y3 z0 z1 z2 z3 RQ RU HP
                    generalize U.alloc (.cells #[.int .i64 M.bl, .int .i64 M.off, .int .i64 M.lo, .int .i64 M.hi] 39) = U1 at *
                    have n11 : U.heap.size ≠ bp := Nat.ne_of_gt hpU
                    clear hpU
                    generalize U.heap.size = b11 at *
                    refine (part_any M qa qb _ HPO.out).mono ?_
                    rintro e U2 ⟨he, hb⟩
                    simp only [Ptr.v] at he
                    subst he
                    have HP6 := Lib.hid (HP5.out.below hb)
                    replace r11 := row_in hb r11 (lt_of_at r11)
                    clear hb HP5
                    go_wp2_with ((with_reducible show wpList _ _ _ (Oper.mk none (Op.store _ (Operand.tmp 8) (Operand.tmp 88)) _ _ _ _ :: _) _ _); refine wpList_store_row (o := ⟨none, .store 31 (.tmp 8) (.tmp 88), _, _, _, _⟩) rfl 31 (.tmp 8) (.tmp 88) rfl bp (#[.int .i64 (pt M qa qb).bl, .int .i64 (pt M qa qb).off, .int .i64 (pt M qa qb).lo, .int .i64 (pt M qa qb).hi]) rfl rfl 31 _ HP6.out.ptr sizePtr rfl (by simp [Value.oneCell']) ?_)
                    have HP7 := Lib.hid (HP6.out.setP (pt M qa qb) (pt_ok HPO.out qa qb))
                    replace r11 := (setRow_other U2 bp _ (#[.int .i64 (pt M qa qb).bl, .int .i64 (pt M qa qb).off, .int .i64 (pt M qa qb).lo, .int .i64 (pt M qa qb).hi]) n11).trans r11
                    clear HP6
                    generalize U2.setRow bp (#[.int .i64 (pt M qa qb).bl, .int .i64 (pt M qa qb).off, .int .i64 (pt M qa qb).lo, .int .i64 (pt M qa qb).hi]) = T at *
                    have hr := HP7.out.row
                    have RU := Lib.hid hr
                    clear hr
                    obtain ⟨x0, x1, x2, x3, x4, x5, x6, x7, x8, x9, x10, x11, x12, x13, x14, x15⟩ := cells16 RU.out
                    obtain ⟨y0, y1, y2, y3⟩ := cells4 HP7.out.ptr
                    obtain ⟨z0, z1, z2, z3⟩ := cells4 r11
                    have hbT := lt_of_at RU.out
                    have hpT := lt_of_at HP7.out.ptr
                    have h11 := lt_of_at r11
                    have HRP := Lib.hid (fun W => rpart_any M qa qb W HPO.out)
                    clear r11
                    generalize pt M qa qb = N at *
                    refine wp_region_held_drew (S := fun W : World => Below T.heap.size T W) (by kernel_rfl) ((Below.refl _ _).drew) (fun hHeld => ?_)
                    generalize hYD : T.drew = V0 at *
                    clear hYD
                    refine wpAnyH_take (i := 0) (oi := ({ dst := some 89, op := Go.Op.load 31 (Go.Operand.tmp 8), type := 31, pos := "law.go:57", after := #[], guard := none } : Oper)) (v := .agg #[.int .i64 N.bl, .int .i64 N.off, .int .i64 N.lo, .int .i64 N.hi]) rfl (by kernel_rfl) (by kernel_rfl) (by kernel_rfl) (fun _ _ _ h => h) (Or.inl ⟨by rfl, ?hy1⟩) (by assumption) ?_
                    case hy1 => ((intro W hSW; have e0 := (hSW.cell (p := ⟨bp, 0, none⟩) hpT).trans y0; have e1 := (hSW.cell (p := ⟨bp, 1, none⟩) hpT).trans y1; have e2 := (hSW.cell (p := ⟨bp, 2, none⟩) hpT).trans y2; have e3 := (hSW.cell (p := ⟨bp, 3, none⟩) hpT).trans y3; clear hSW; go_simp); (try with_reducible rfl); (try exact ⟨rfl, rfl, rfl⟩))
                    simp only [Act.put, List.setIfInBounds_toArray, List.set_cons_zero, List.set_cons_succ]
                    refine wpAnyH_take (i := 1) (oi := ({ dst := some 90, op := Go.Op.load 39 (Go.Operand.tmp 11), type := 39, pos := "law.go:57", after := #[], guard := none } : Oper)) (v := .agg #[.int .i64 M.bl, .int .i64 M.off, .int .i64 M.lo, .int .i64 M.hi]) rfl (by kernel_rfl) (by kernel_rfl) (by kernel_rfl) (fun _ _ _ h => h) (Or.inl ⟨by rfl, ?hy2⟩) (by assumption) ?_
                    case hy2 => ((intro W hSW; have e0 := (hSW.cell (p := ⟨b11, 0, none⟩) h11).trans z0; have e1 := (hSW.cell (p := ⟨b11, 1, none⟩) h11).trans z1; have e2 := (hSW.cell (p := ⟨b11, 2, none⟩) h11).trans z2; have e3 := (hSW.cell (p := ⟨b11, 3, none⟩) h11).trans z3; clear hSW; go_simp); (try with_reducible rfl); (try exact ⟨rfl, rfl, rfl⟩))
                    simp only [Act.put, List.setIfInBounds_toArray, List.set_cons_zero, List.set_cons_succ]
                    refine wpAnyH_take (i := 2) (oi := ({ dst := some 91, op := Go.Op.fieldAddr 37 (Go.Operand.tmp 7) 6, type := 0, pos := "law.go:57", after := #[], guard := none } : Oper)) (v := .pointer (some ⟨bo, 9, none⟩)) rfl (by kernel_rfl) (by kernel_rfl) (by kernel_rfl) (fun _ _ _ h => h) (Or.inl ⟨by rfl, ?hy3⟩) (by assumption) ?_
                    case hy3 => ((intro W hSW; (try dsimp only at hSW); go_simp); (try with_reducible rfl); (try exact ⟨rfl, rfl, rfl⟩))
                    simp only [Act.put, List.setIfInBounds_toArray, List.set_cons_zero, List.set_cons_succ]
                    refine wpAnyH_take (i := 3) (oi := ({ dst := some 92, op := Go.Op.indexAddr 32 (Go.Operand.tmp 91) (Go.Operand.const (Go.Value.int Go.IntKind.i64 0)), type := 0, pos := "law.go:57", after := #[{ on := 2, ground := Go.Ground.data }], guard := none } : Oper)) (v := .pointer (some ⟨bo, 9, none⟩)) rfl (by kernel_rfl) (by kernel_rfl) (by kernel_rfl) (fun _ _ _ h => h) (Or.inl ⟨by rfl, ?hy4⟩) (by assumption) ?_
                    case hy4 => ((intro W hSW; (try dsimp only at hSW); go_simp); (try with_reducible rfl); (try exact ⟨rfl, rfl, rfl⟩))
                    simp only [Act.put, List.setIfInBounds_toArray, List.set_cons_zero, List.set_cons_succ]
                    refine wpAnyH_take (i := 4) (oi := ({ dst := some 93, op := Go.Op.load 3 (Go.Operand.tmp 92), type := 3, pos := "law.go:57", after := #[{ on := 3, ground := Go.Ground.data }], guard := none } : Oper)) (v := .int .i64 qa) rfl (by kernel_rfl) (by kernel_rfl) (by kernel_rfl) (fun _ _ _ h => h) (Or.inl ⟨by rfl, ?hy5⟩) (by assumption) ?_
                    case hy5 => ((intro W hSW; have e0 := (hSW.cell (p := ⟨bo, 9, none⟩) hbT).trans x9; clear hSW; go_simp); (try with_reducible rfl); (try exact ⟨rfl, rfl, rfl⟩))
                    simp only [Act.put, List.setIfInBounds_toArray, List.set_cons_zero, List.set_cons_succ]
                    refine wpAnyH_take (i := 5) (oi := ({ dst := some 94, op := Go.Op.fieldAddr 37 (Go.Operand.tmp 7) 6, type := 0, pos := "law.go:57", after := #[], guard := none } : Oper)) (v := .pointer (some ⟨bo, 9, none⟩)) rfl (by kernel_rfl) (by kernel_rfl) (by kernel_rfl) (fun _ _ _ h => h) (Or.inl ⟨by rfl, ?hy6⟩) (by assumption) ?_
                    case hy6 => ((intro W hSW; (try dsimp only at hSW); go_simp); (try with_reducible rfl); (try exact ⟨rfl, rfl, rfl⟩))
                    simp only [Act.put, List.setIfInBounds_toArray, List.set_cons_zero, List.set_cons_succ]
                    refine wpAnyH_take (i := 6) (oi := ({ dst := some 95, op := Go.Op.indexAddr 32 (Go.Operand.tmp 94) (Go.Operand.const (Go.Value.int Go.IntKind.i64 1)), type := 0, pos := "law.go:57", after := #[{ on := 5, ground := Go.Ground.data }], guard := none } : Oper)) (v := .pointer (some ⟨bo, 10, none⟩)) rfl (by kernel_rfl) (by kernel_rfl) (by kernel_rfl) (fun _ _ _ h => h) (Or.inl ⟨by rfl, ?hy7⟩) (by assumption) ?_
                    case hy7 => ((intro W hSW; (try dsimp only at hSW); go_simp); (try with_reducible rfl); (try exact ⟨rfl, rfl, rfl⟩))
                    simp only [Act.put, List.setIfInBounds_toArray, List.set_cons_zero, List.set_cons_succ]
                    refine wpAnyH_take (i := 7) (oi := ({ dst := some 96, op := Go.Op.load 3 (Go.Operand.tmp 95), type := 3, pos := "law.go:57", after := #[{ on := 6, ground := Go.Ground.data }], guard := none } : Oper)) (v := .int .i64 qb) rfl (by kernel_rfl) (by kernel_rfl) (by kernel_rfl) (fun _ _ _ h => h) (Or.inl ⟨by rfl, ?hy8⟩) (by assumption) ?_
                    case hy8 => ((intro W hSW; have e0 := (hSW.cell (p := ⟨bo, 10, none⟩) hbT).trans x10; clear hSW; go_simp); (try with_reducible rfl); (try exact ⟨rfl, rfl, rfl⟩))
                    simp only [Act.put, List.setIfInBounds_toArray, List.set_cons_zero, List.set_cons_succ]
                    refine wpAnyH_ready (rs := [8]) (by kernel_rfl) (by simp) ?_
                    refine (AllReadyH.cons (i := 8) (o := ({ dst := some 97, op := Go.Op.call { callee := Go.Callee.value (Go.Operand.func 10), args := #[Go.Operand.tmp 90, Go.Operand.tmp 93, Go.Operand.tmp 96], argTypes := #[39, 3, 3] }, type := 39, pos := "law.go:57", after := #[{ on := 1, ground := Go.Ground.data }, { on := 4, ground := Go.Ground.data }, { on := 7, ground := Go.Ground.data }], guard := none } : Oper)) rfl (fun K hK => ?_) AllReadyH.nil)
                    rw [if_pos (by rfl)]
                    go_simp
                    refine (HRP.out V0).mono ?_
                    rintro e V1 ⟨he, hb⟩
                    simp only [Ptr.v] at he
                    subst he
                    have hSk := hHeld.trans (hb.mono hHeld.size)
                    clear hb
                    go_simp
                    refine hK.out _ _ (hSk) (fun hHeld => ?_)
                    clear hK K
                    try simp only [Act.put, List.setIfInBounds_toArray, List.set_cons_zero, List.set_cons_succ]
                    refine wpAnyH_take (i := 9) (oi := ({ dst := some 98, op := Go.Op.binOp Go.BinOp.neq 39 (Go.Operand.tmp 89) (Go.Operand.tmp 97) 39, type := 4, pos := "law.go:57", after := #[{ on := 0, ground := Go.Ground.data }, { on := 8, ground := Go.Ground.data }], guard := none } : Oper)) (v := .bool false) rfl (by kernel_rfl) (by kernel_rfl) (by kernel_rfl) (fun _ _ _ h => h) (Or.inl ⟨by rfl, ?hy9⟩) (by assumption) ?_
                    case hy9 => ((intro W hSW; (try dsimp only at hSW); go_simp); (try with_reducible rfl); (try exact ⟨rfl, rfl, rfl⟩))
                    simp only [Act.put, List.setIfInBounds_toArray, List.set_cons_zero, List.set_cons_succ]
                    refine wpAnyH_done (by kernel_rfl) ?_ _
                    replace HP7 := Lib.hid (HP7.out.below hHeld)
                    clear hHeld
                    generalize hVV : V1 = U4 at *
                    clear hVV
                    go_wp2
                    go_meet
                    exact ⟨rfl, _, HP7⟩
                  · have d5 : decide (qb > 0) = false := decide_eq_false hqb
                    clear hqb
                    go_wp2
                    go_meet
                    exact ⟨rfl, _, HP⟩
                · rw [if_pos (by rfl)]
                  go_simp
                  have hSk := hHeld.alloc hHeld.size (.cells #[.int .i64 0, .int .i64 0, .int .i64 0, .int .i64 0] 39)
                  have rq := heap_alloc_new V0 (.cells #[.int .i64 0, .int .i64 0, .int .i64 0, .int .i64 0] 39)
                  have gq : T.heap.size ≤ V0.heap.size := hHeld.size
                  generalize V0.alloc (.cells #[.int .i64 0, .int .i64 0, .int .i64 0, .int .i64 0] 39) = V1 at *
                  generalize V0.heap.size = Bq at *
                  refine hK.out _ _ (hSk) (fun hHeld => ?_)
                  clear hK K
                  try simp only [Act.put, List.setIfInBounds_toArray, List.set_cons_zero, List.set_cons_succ]
                  refine wpAnyH_ready (rs := [9]) (by kernel_rfl) (by simp) ?_
                  refine (AllReadyH.cons (i := 9) (o := ({ dst := some 72, op := Go.Op.call { callee := Go.Callee.value (Go.Operand.func 8), args := #[Go.Operand.tmp 69, Go.Operand.tmp 71], argTypes := #[39, 3] }, type := 39, pos := "law.go:51", after := #[{ on := 6, ground := Go.Ground.data }, { on := 8, ground := Go.Ground.data }], guard := none } : Oper)) rfl (fun K hK => ?_) AllReadyH.nil)
                  rw [if_pos (by rfl)]
                  go_simp
                  refine (rmove_any E on V1 HEK.out).mono ?_
                  rintro e V2 ⟨he, hb⟩
                  simp only [Ptr.v] at he
                  subst he
                  have hSk := hHeld.trans (hb.mono hHeld.size)
                  replace rq := row_in hb rq (lt_of_at rq)
                  clear hb
                  go_simp
                  refine hK.out _ _ (hSk) (fun hHeld => ?_)
                  clear hK K
                  try simp only [Act.put, List.setIfInBounds_toArray, List.set_cons_zero, List.set_cons_succ]
                  refine wpAnyH_ready (rs := [11]) (by kernel_rfl) (by simp) ?_
                  refine (AllReadyH.cons (i := 11) (o := ({ dst := none, op := Go.Op.store 39 (Go.Operand.tmp 10) (Go.Operand.tmp 72), type := 0, pos := "law.go:51", after := #[{ on := 10, ground := Go.Ground.data }, { on := 9, ground := Go.Ground.data }, { on := 9, ground := Go.Ground.chain }, { on := 0, ground := Go.Ground.phase }, { on := 1, ground := Go.Ground.phase }, { on := 2, ground := Go.Ground.phase }, { on := 3, ground := Go.Ground.phase }, { on := 4, ground := Go.Ground.phase }, { on := 5, ground := Go.Ground.phase }, { on := 6, ground := Go.Ground.phase }, { on := 7, ground := Go.Ground.phase }, { on := 8, ground := Go.Ground.phase }, { on := 9, ground := Go.Ground.phase }, { on := 10, ground := Go.Ground.phase }], guard := none } : Oper)) rfl (fun K hK => ?_) AllReadyH.nil)
                  rw [if_pos (by rfl)]
                  refine wp_store_row 39 (.tmp 10) (.tmp 72) rfl Bq (#[.int .i64 (mv E on).bl, .int .i64 (mv E on).off, .int .i64 (mv E on).lo, .int .i64 (mv E on).hi]) rfl rfl 39 _ rq sizeRP rfl (by simp [Value.oneCell']) ?_
                  have hSk := hHeld.trans ((Onl.setRow Bq V2 (#[.int .i64 (mv E on).bl, .int .i64 (mv E on).off, .int .i64 (mv E on).lo, .int .i64 (mv E on).hi])).toBelow gq hHeld.size)
                  replace rq := setRow_heap V2 Bq _ (#[.int .i64 (mv E on).bl, .int .i64 (mv E on).off, .int .i64 (mv E on).lo, .int .i64 (mv E on).hi]) _ _ rq
                  generalize V2.setRow Bq (#[.int .i64 (mv E on).bl, .int .i64 (mv E on).off, .int .i64 (mv E on).lo, .int .i64 (mv E on).hi]) = V3 at *
                  refine hK.out _ _ (hSk) (fun hHeld => ?_)
                  clear hK K
                  try simp only [Act.put, List.setIfInBounds_toArray, List.set_cons_zero, List.set_cons_succ]
                  refine wpAnyH_done (by kernel_rfl) ?_ _
                  replace HP := Lib.hid (HP.out.below hHeld)
                  clear hHeld gq
                  generalize hVV : V3 = U at *
                  clear hVV
                  have hr := HP.out.row
                  have RU := Lib.hid hr
                  clear hr x0 x1 x2 x3 x4 x5 x6 x7 x8 x9 x10 x11 x12 x13 x14 x15
                  obtain ⟨x0, x1, x2, x3, x4, x5, x6, x7, x8, x9, x10, x11, x12, x13, x14, x15⟩ := cells16 RU.out
                  obtain ⟨y0, y1, y2, y3⟩ := cells4 HP.out.ptr
                  obtain ⟨z0, z1, z2, z3⟩ := cells4 rq
                  have RQ := Lib.hid rq
                  have HPO := Lib.hid (mv_ok HEK.out on)
                  clear rq hbT hgT kc0 kc1 kc2 kc3 HE
                  generalize mv E on = M at *
                  by_cases hqb : 0 < qb
                  · have d5 : decide (qb > 0) = true := decide_eq_true hqb
                    have hbU := lt_of_at RU.out
                    have hpU := lt_of_at HP.out.ptr
                    clear hqb
                    go_wp2_with fail
                    have hbb : Below U.heap.size U (U.alloc (.cells #[.int .i64 M.bl, .int .i64 M.off, .int .i64 M.lo, .int .i64 M.hi] 39)) := (Below.refl _ _).alloc (Nat.le_refl _) _
                    have r11 := heap_alloc_new U (.cells #[.int .i64 M.bl, .int .i64 M.off, .int .i64 M.lo, .int .i64 M.hi] 39)
                    have HP5 := Lib.hid (HP.out.below hbb)
                    clear hbb hbU x0 x1 x2 x3 x4 x5 x6 x7 x8 x9 x10 x11 x12 x13 x14 x15 y0 y1 y2 y3 z0 z1 z2 z3 RQ RU HP
                    generalize U.alloc (.cells #[.int .i64 M.bl, .int .i64 M.off, .int .i64 M.lo, .int .i64 M.hi] 39) = U1 at *
                    have n11 : U.heap.size ≠ bp := Nat.ne_of_gt hpU
                    clear hpU
                    generalize U.heap.size = b11 at *
                    refine (part_any M qa qb _ HPO.out).mono ?_
                    rintro e U2 ⟨he, hb⟩
                    simp only [Ptr.v] at he
                    subst he
                    have HP6 := Lib.hid (HP5.out.below hb)
                    replace r11 := row_in hb r11 (lt_of_at r11)
                    clear hb HP5
                    go_wp2_with ((with_reducible show wpList _ _ _ (Oper.mk none (Op.store _ (Operand.tmp 8) (Operand.tmp 88)) _ _ _ _ :: _) _ _); refine wpList_store_row (o := ⟨none, .store 31 (.tmp 8) (.tmp 88), _, _, _, _⟩) rfl 31 (.tmp 8) (.tmp 88) rfl bp (#[.int .i64 (pt M qa qb).bl, .int .i64 (pt M qa qb).off, .int .i64 (pt M qa qb).lo, .int .i64 (pt M qa qb).hi]) rfl rfl 31 _ HP6.out.ptr sizePtr rfl (by simp [Value.oneCell']) ?_)
                    have HP7 := Lib.hid (HP6.out.setP (pt M qa qb) (pt_ok HPO.out qa qb))
                    replace r11 := (setRow_other U2 bp _ (#[.int .i64 (pt M qa qb).bl, .int .i64 (pt M qa qb).off, .int .i64 (pt M qa qb).lo, .int .i64 (pt M qa qb).hi]) n11).trans r11
                    clear HP6
                    generalize U2.setRow bp (#[.int .i64 (pt M qa qb).bl, .int .i64 (pt M qa qb).off, .int .i64 (pt M qa qb).lo, .int .i64 (pt M qa qb).hi]) = T at *
                    have hr := HP7.out.row
                    have RU := Lib.hid hr
                    clear hr
                    obtain ⟨x0, x1, x2, x3, x4, x5, x6, x7, x8, x9, x10, x11, x12, x13, x14, x15⟩ := cells16 RU.out
                    obtain ⟨y0, y1, y2, y3⟩ := cells4 HP7.out.ptr
                    obtain ⟨z0, z1, z2, z3⟩ := cells4 r11
                    have hbT := lt_of_at RU.out
                    have hpT := lt_of_at HP7.out.ptr
                    have h11 := lt_of_at r11
                    have HRP := Lib.hid (fun W => rpart_any M qa qb W HPO.out)
                    clear r11
                    generalize pt M qa qb = N at *
                    refine wp_region_held_drew (S := fun W : World => Below T.heap.size T W) (by kernel_rfl) ((Below.refl _ _).drew) (fun hHeld => ?_)
                    generalize hYD : T.drew = V0 at *
                    clear hYD
                    refine wpAnyH_take (i := 0) (oi := ({ dst := some 89, op := Go.Op.load 31 (Go.Operand.tmp 8), type := 31, pos := "law.go:57", after := #[], guard := none } : Oper)) (v := .agg #[.int .i64 N.bl, .int .i64 N.off, .int .i64 N.lo, .int .i64 N.hi]) rfl (by kernel_rfl) (by kernel_rfl) (by kernel_rfl) (fun _ _ _ h => h) (Or.inl ⟨by rfl, ?hy1⟩) (by assumption) ?_
                    case hy1 => ((intro W hSW; have e0 := (hSW.cell (p := ⟨bp, 0, none⟩) hpT).trans y0; have e1 := (hSW.cell (p := ⟨bp, 1, none⟩) hpT).trans y1; have e2 := (hSW.cell (p := ⟨bp, 2, none⟩) hpT).trans y2; have e3 := (hSW.cell (p := ⟨bp, 3, none⟩) hpT).trans y3; clear hSW; go_simp); (try with_reducible rfl); (try exact ⟨rfl, rfl, rfl⟩))
                    simp only [Act.put, List.setIfInBounds_toArray, List.set_cons_zero, List.set_cons_succ]
                    refine wpAnyH_take (i := 1) (oi := ({ dst := some 90, op := Go.Op.load 39 (Go.Operand.tmp 11), type := 39, pos := "law.go:57", after := #[], guard := none } : Oper)) (v := .agg #[.int .i64 M.bl, .int .i64 M.off, .int .i64 M.lo, .int .i64 M.hi]) rfl (by kernel_rfl) (by kernel_rfl) (by kernel_rfl) (fun _ _ _ h => h) (Or.inl ⟨by rfl, ?hy2⟩) (by assumption) ?_
                    case hy2 => ((intro W hSW; have e0 := (hSW.cell (p := ⟨b11, 0, none⟩) h11).trans z0; have e1 := (hSW.cell (p := ⟨b11, 1, none⟩) h11).trans z1; have e2 := (hSW.cell (p := ⟨b11, 2, none⟩) h11).trans z2; have e3 := (hSW.cell (p := ⟨b11, 3, none⟩) h11).trans z3; clear hSW; go_simp); (try with_reducible rfl); (try exact ⟨rfl, rfl, rfl⟩))
                    simp only [Act.put, List.setIfInBounds_toArray, List.set_cons_zero, List.set_cons_succ]
                    refine wpAnyH_take (i := 2) (oi := ({ dst := some 91, op := Go.Op.fieldAddr 37 (Go.Operand.tmp 7) 6, type := 0, pos := "law.go:57", after := #[], guard := none } : Oper)) (v := .pointer (some ⟨bo, 9, none⟩)) rfl (by kernel_rfl) (by kernel_rfl) (by kernel_rfl) (fun _ _ _ h => h) (Or.inl ⟨by rfl, ?hy3⟩) (by assumption) ?_
                    case hy3 => ((intro W hSW; (try dsimp only at hSW); go_simp); (try with_reducible rfl); (try exact ⟨rfl, rfl, rfl⟩))
                    simp only [Act.put, List.setIfInBounds_toArray, List.set_cons_zero, List.set_cons_succ]
                    refine wpAnyH_take (i := 3) (oi := ({ dst := some 92, op := Go.Op.indexAddr 32 (Go.Operand.tmp 91) (Go.Operand.const (Go.Value.int Go.IntKind.i64 0)), type := 0, pos := "law.go:57", after := #[{ on := 2, ground := Go.Ground.data }], guard := none } : Oper)) (v := .pointer (some ⟨bo, 9, none⟩)) rfl (by kernel_rfl) (by kernel_rfl) (by kernel_rfl) (fun _ _ _ h => h) (Or.inl ⟨by rfl, ?hy4⟩) (by assumption) ?_
                    case hy4 => ((intro W hSW; (try dsimp only at hSW); go_simp); (try with_reducible rfl); (try exact ⟨rfl, rfl, rfl⟩))
                    simp only [Act.put, List.setIfInBounds_toArray, List.set_cons_zero, List.set_cons_succ]
                    refine wpAnyH_take (i := 4) (oi := ({ dst := some 93, op := Go.Op.load 3 (Go.Operand.tmp 92), type := 3, pos := "law.go:57", after := #[{ on := 3, ground := Go.Ground.data }], guard := none } : Oper)) (v := .int .i64 qa) rfl (by kernel_rfl) (by kernel_rfl) (by kernel_rfl) (fun _ _ _ h => h) (Or.inl ⟨by rfl, ?hy5⟩) (by assumption) ?_
                    case hy5 => ((intro W hSW; have e0 := (hSW.cell (p := ⟨bo, 9, none⟩) hbT).trans x9; clear hSW; go_simp); (try with_reducible rfl); (try exact ⟨rfl, rfl, rfl⟩))
                    simp only [Act.put, List.setIfInBounds_toArray, List.set_cons_zero, List.set_cons_succ]
                    refine wpAnyH_take (i := 5) (oi := ({ dst := some 94, op := Go.Op.fieldAddr 37 (Go.Operand.tmp 7) 6, type := 0, pos := "law.go:57", after := #[], guard := none } : Oper)) (v := .pointer (some ⟨bo, 9, none⟩)) rfl (by kernel_rfl) (by kernel_rfl) (by kernel_rfl) (fun _ _ _ h => h) (Or.inl ⟨by rfl, ?hy6⟩) (by assumption) ?_
                    case hy6 => ((intro W hSW; (try dsimp only at hSW); go_simp); (try with_reducible rfl); (try exact ⟨rfl, rfl, rfl⟩))
                    simp only [Act.put, List.setIfInBounds_toArray, List.set_cons_zero, List.set_cons_succ]
                    refine wpAnyH_take (i := 6) (oi := ({ dst := some 95, op := Go.Op.indexAddr 32 (Go.Operand.tmp 94) (Go.Operand.const (Go.Value.int Go.IntKind.i64 1)), type := 0, pos := "law.go:57", after := #[{ on := 5, ground := Go.Ground.data }], guard := none } : Oper)) (v := .pointer (some ⟨bo, 10, none⟩)) rfl (by kernel_rfl) (by kernel_rfl) (by kernel_rfl) (fun _ _ _ h => h) (Or.inl ⟨by rfl, ?hy7⟩) (by assumption) ?_
                    case hy7 => ((intro W hSW; (try dsimp only at hSW); go_simp); (try with_reducible rfl); (try exact ⟨rfl, rfl, rfl⟩))
                    simp only [Act.put, List.setIfInBounds_toArray, List.set_cons_zero, List.set_cons_succ]
                    refine wpAnyH_take (i := 7) (oi := ({ dst := some 96, op := Go.Op.load 3 (Go.Operand.tmp 95), type := 3, pos := "law.go:57", after := #[{ on := 6, ground := Go.Ground.data }], guard := none } : Oper)) (v := .int .i64 qb) rfl (by kernel_rfl) (by kernel_rfl) (by kernel_rfl) (fun _ _ _ h => h) (Or.inl ⟨by rfl, ?hy8⟩) (by assumption) ?_
                    case hy8 => ((intro W hSW; have e0 := (hSW.cell (p := ⟨bo, 10, none⟩) hbT).trans x10; clear hSW; go_simp); (try with_reducible rfl); (try exact ⟨rfl, rfl, rfl⟩))
                    simp only [Act.put, List.setIfInBounds_toArray, List.set_cons_zero, List.set_cons_succ]
                    refine wpAnyH_ready (rs := [8]) (by kernel_rfl) (by simp) ?_
                    refine (AllReadyH.cons (i := 8) (o := ({ dst := some 97, op := Go.Op.call { callee := Go.Callee.value (Go.Operand.func 10), args := #[Go.Operand.tmp 90, Go.Operand.tmp 93, Go.Operand.tmp 96], argTypes := #[39, 3, 3] }, type := 39, pos := "law.go:57", after := #[{ on := 1, ground := Go.Ground.data }, { on := 4, ground := Go.Ground.data }, { on := 7, ground := Go.Ground.data }], guard := none } : Oper)) rfl (fun K hK => ?_) AllReadyH.nil)
                    rw [if_pos (by rfl)]
                    go_simp
                    refine (HRP.out V0).mono ?_
                    rintro e V1 ⟨he, hb⟩
                    simp only [Ptr.v] at he
                    subst he
                    have hSk := hHeld.trans (hb.mono hHeld.size)
                    clear hb
                    go_simp
                    refine hK.out _ _ (hSk) (fun hHeld => ?_)
                    clear hK K
                    try simp only [Act.put, List.setIfInBounds_toArray, List.set_cons_zero, List.set_cons_succ]
                    refine wpAnyH_take (i := 9) (oi := ({ dst := some 98, op := Go.Op.binOp Go.BinOp.neq 39 (Go.Operand.tmp 89) (Go.Operand.tmp 97) 39, type := 4, pos := "law.go:57", after := #[{ on := 0, ground := Go.Ground.data }, { on := 8, ground := Go.Ground.data }], guard := none } : Oper)) (v := .bool false) rfl (by kernel_rfl) (by kernel_rfl) (by kernel_rfl) (fun _ _ _ h => h) (Or.inl ⟨by rfl, ?hy9⟩) (by assumption) ?_
                    case hy9 => ((intro W hSW; (try dsimp only at hSW); go_simp); (try with_reducible rfl); (try exact ⟨rfl, rfl, rfl⟩))
                    simp only [Act.put, List.setIfInBounds_toArray, List.set_cons_zero, List.set_cons_succ]
                    refine wpAnyH_done (by kernel_rfl) ?_ _
                    replace HP7 := Lib.hid (HP7.out.below hHeld)
                    clear hHeld
                    generalize hVV : V1 = U4 at *
                    clear hVV
                    go_wp2
                    go_meet
                    exact ⟨rfl, _, HP7⟩
                  · have d5 : decide (qb > 0) = false := decide_eq_false hqb
                    clear hqb
                    go_wp2
                    go_meet
                    exact ⟨rfl, _, HP⟩
          case rest =>
            obtain ⟨rfl, p', hpx⟩ := hcut
            clear HQ HPX R x0 x1 x2 x3 x4 x5 x6 x7 x8 x9 x10 x11 x12 x13 x14 x15
            have HP := hpx
            clear hpx
            have R := Lib.hid HP.out.row
            obtain ⟨x0, x1, x2, x3, x4, x5, x6, x7, x8, x9, x10, x11, x12, x13, x14, x15⟩ := cells16 R.out
            obtain ⟨y0, y1, y2, y3⟩ := cells4 HP.out.ptr
            have hbW := lt_of_at R.out
            have hpW := lt_of_at HP.out.ptr
            go_upto_block 2 with fail
            generalize hX : wc.alloc (.cells #[.int .i64 p'.bl, .int .i64 p'.off, .int .i64 p'.lo, .int .i64 p'.hi] 39) = X2
            have HZ : Hid (Pz w h bm bo bp wc.heap.size (wc.heap.size :: L1) (2 * j) v v l A0 (.slice mda mp.length mdc) mp ⟨kind, oi, on, om, fr, ⟨pb, po, pl, ph⟩, qa, qb, ⟨vn, ⟨vb, vo, vl, vh⟩⟩⟩ p' X2) := Lib.hid (by rw [← hX]; exact HP.out.toZ)
            clear hX HP R x0 x1 x2 x3 x4 x5 x6 x7 x8 x9 x10 x11 x12 x13 x14 x15 y0 y1 y2 y3 hbW hpW
            generalize wc.heap.size :: L1 = L2 at *
            generalize wc.heap.size = bq at *
            have R := Lib.hid HZ.out.row
            obtain ⟨x0, x1, x2, x3, x4, x5, x6, x7, x8, x9, x10, x11, x12, x13, x14, x15⟩ := cells16 R.out
            obtain ⟨y0, y1, y2, y3⟩ := cells4 HZ.out.ptr
            obtain ⟨z0, z1, z2, z3⟩ := cells4 HZ.out.qtr
            obtain ⟨m0, hlm⟩ := HZ.out.mcell
            have hlo := lt_of_at R.out
            have hlp := lt_of_at HZ.out.ptr
            have hlq := lt_of_at HZ.out.qtr
            clear x1 x5 x6 x7 x8 x9 x10
            have HON : Hid (in64 on) := Lib.hid OK.out.2.2.1
            have HML := Lib.hid hml
            clear hml
            go_cut [5, 13, 14] from 100 to 226 (fun s5 s13 s14 wx => ∃ E md' mp' v' l' A' L', s13 = .int .i64 E ∧ s14 = .int .i64 E ∧ s5 = md' ∧ Hid (Pt w h bm L' (2 * j + 2) v' v' l' A' md' mp' wx ∧ Rel A' l' ∧ mp'.length ≤ j + 1))
            case first =>
              rcases Bool.eq_false_or_eq_true (kind == 1) with dk1 | dk1
              · as_aux_lemma =>
                  obtain ⟨MV, hMV⟩ : ∃ MV, MV = A0.makeV on := ⟨_, rfl⟩
                  have HMO : Hid MV.ok := Lib.hid (by rw [hMV]; exact makeV_ok HRL.out HON.out (Nat.le_trans HZ.out.pt.cp.len (by omega)))
                  have HRL2 := Lib.hid (HRL.out.make on fr)
                  rcases Bool.eq_false_or_eq_true (big on) with hbg | hbg
                  · have hpc : Calls Try.prog 11 #[.pointer (some ⟨h, 0, none⟩), .int .i64 on, .bool fr] X2 fun e w' => e = .returned (.tuple #[MV.v, .int .i64 1]) ∧ Cp w h L2 (2 * j + 1) v l (A0.make on fr) w' ∧ Kept L2 X2 w' := by
                      have hme : Ab.makeE on = 1 := by unfold Ab.makeE; rw [hbg]; rfl
                      rw [hMV, ← hme]
                      exact pMake HZ.out.pt.cp (by omega) on fr
                    have HQC : Hid (∀ W L', Cp w h L' (2 * j + 1) v l (A0.make on fr) W → Calls Try.prog 12 #[.agg #[v], .int .i64 on, .bool fr] W fun e w' => ∃ v', e = .returned (.tuple #[.agg #[v'], MV.v, .bool false]) ∧ Cp w h L' (2 * j + 1 + 1) v' (rMake l on fr) (A0.make on fr) w' ∧ Kept L' W w') := Lib.hid (fun W L' H => by
                      rw [hMV, HRL.out.makeV]
                      have := qMake H (by omega) on HON.out fr
                      rw [hbg] at this
                      exact this)
                    clear hMV
                    go_wp2_with fail
                    refine hpc.mono ?_
                    rintro e T1 ⟨he, hc1⟩
                    simp only [Ptr.v] at he
                    subst he
                    have HZ1 := Lib.hid (HZ.out.step hc1)
                    clear hc1 hpc x0 x2 x3 x4 x11 x12 x13 x14 x15 y0 y1 y2 y3 z0 z1 z2 z3 hlp hlq R m0 hlm hlo
                    have R := Lib.hid HZ1.out.row
                    obtain ⟨x0, x1, x2, x3, x4, x5, x6, x7, x8, x9, x10, x11, x12, x13, x14, x15⟩ := cells16 R.out
                    obtain ⟨y0, y1, y2, y3⟩ := cells4 HZ1.out.ptr
                    obtain ⟨z0, z1, z2, z3⟩ := cells4 HZ1.out.qtr
                    obtain ⟨m0, hlm⟩ := HZ1.out.mcell
                    have hlo := lt_of_at R.out
                    have hlp := lt_of_at HZ1.out.ptr
                    have hlq := lt_of_at HZ1.out.qtr
                    clear x0 x1 x3 x5 x6 x7 x8 x9 x10 x11 x12 x13 x14 x15 y0 y1 y2 y3 z0 z1 z2 z3 hlp hlq
                    go_wp2_with fail
                    generalize hX : T1.alloc (.cells #[.int .i64 MV.bl, .int .i64 MV.off, .int .i64 MV.lo, .int .i64 MV.hi] 31) = T2
                    have HZ2 : Hid (Pz w h bm bo bp bq (T1.heap.size :: L2) (2 * j + 1) v v l (A0.make on fr) (.slice mda mp.length mdc) mp ⟨kind, oi, on, om, fr, ⟨pb, po, pl, ph⟩, qa, qb, ⟨vn, ⟨vb, vo, vl, vh⟩⟩⟩ p' T2) := Lib.hid (by rw [← hX]; exact HZ1.out.alloc' _)
                    have r15 : T2.heap[T1.heap.size]? = some (.cells #[.int .i64 MV.bl, .int .i64 MV.off, .int .i64 MV.lo, .int .i64 MV.hi] 31) := by rw [← hX]; exact heap_alloc_new _ _
                    have n15 : T1.heap.size ≠ bm := Nat.ne_of_gt hlm
                    clear hX x2 x4 R m0 hlm hlo
                    generalize T1.heap.size = b15 at *
                    refine (HQC.out T2 _ HZ2.out.pt.cp).mono ?_
                    rintro e T3 ⟨v', he, hc3⟩
                    simp only [Ptr.v] at he
                    subst he
                    have HZ3 := Lib.hid (HZ2.out.step hc3)
                    replace r15 := (hc3.2 b15 (by simp)).trans r15
                    clear hc3 HQC
                    have h15 := lt_of_at r15
                    obtain ⟨t17, t18, tbb, u17, u18⟩ := two_box T3 (.slice none 0 0) v' #[.int .i64 0, .int .i64 0, .int .i64 0, .int .i64 0] #[.int .i64 MV.bl, .int .i64 MV.off, .int .i64 MV.lo, .int .i64 MV.hi] 28 39
                    go_upto_region 28 with (first | ((with_reducible show wpList _ _ _ (Oper.mk none (Op.store _ (Operand.tmp 17) (Operand.tmp 120)) _ _ _ _ :: _) _ _); refine wpList_store_row (o := ⟨none, .store 28 (.tmp 17) (.tmp 120), _, _, _, _⟩) rfl 28 (.tmp 17) (.tmp 120) rfl T3.heap.size #[v'] rfl rfl 28 _ t17 sizeRH rfl (by simp [HZ3.out.pt.cp.one]) ?_) | ((with_reducible show wpList _ _ _ (Oper.mk none (Op.store _ (Operand.tmp 18) (Operand.tmp 121)) _ _ _ _ :: _) _ _); refine wpList_store_row (o := ⟨none, .store 39 (.tmp 18) (.tmp 121), _, _, _, _⟩) rfl 39 (.tmp 18) (.tmp 121) rfl (T3.heap.size + 1) (#[.int .i64 MV.bl, .int .i64 MV.off, .int .i64 MV.lo, .int .i64 MV.hi]) rfl rfl 39 _ t18 sizeRP rfl (by simp [Value.oneCell']) ?_))
                    generalize hW : (((T3.alloc (.cells #[.slice none 0 0] 28)).alloc (.cells #[.int .i64 0, .int .i64 0, .int .i64 0, .int .i64 0] 39)).setRow T3.heap.size #[v']).setRow (T3.heap.size + 1) (#[.int .i64 MV.bl, .int .i64 MV.off, .int .i64 MV.lo, .int .i64 MV.hi]) = W2 at *
                    have HZ5 := Lib.hid (HZ3.out.below tbb)
                    replace r15 := row_in tbb r15 h15
                    obtain ⟨a0, a1, a2, a3⟩ := cells4 r15
                    obtain ⟨d0, d1, d2, d3⟩ := cells4 u18
                    have c0 : W2.cell? ⟨T3.heap.size, 0, none⟩ = some v' := by rw [cell_of_row _ _ _ _ _ _ u17]; rfl
                    have l15 := lt_of_at r15
                    have l17 := lt_of_at u17
                    have l18 := lt_of_at u18
                    have R15 := Lib.hid r15
                    clear r15 u17 u18 t17 t18 tbb hW h15
                    generalize T3.heap.size = b17 at *
                    go_wp2_with (((with_reducible show wpList _ _ _ (Oper.mk none (Op.store _ (Operand.tmp 4) (Operand.tmp 140)) _ _ _ _ :: _) _ _); refine wpList_store_row (o := ⟨none, .store 28 (.tmp 4) (.tmp 140), _, _, _, _⟩) rfl 28 (.tmp 4) (.tmp 140) rfl bm #[v'] rfl rfl 28 _ HZ5.out.pt.mb sizeRH rfl (by simp [HZ5.out.pt.cp.one]) ?_))
                    have HZ6 := Lib.hid (HZ5.out.setR v')
                    go_meet
                    exact ⟨_, _, mp, v', rMake l on fr, _, _, rfl, rfl, rfl, Lib.hid ⟨HZ6.out.fin (by omega), HRL2.out, by have := HML.out; omega⟩⟩
                  · have hpc : Calls Try.prog 11 #[.pointer (some ⟨h, 0, none⟩), .int .i64 on, .bool fr] X2 fun e w' => e = .returned (.tuple #[MV.v, .int .i64 0]) ∧ Cp w h L2 (2 * j + 1) v l (A0.make on fr) w' ∧ Kept L2 X2 w' := by
                      have hme : Ab.makeE on = 0 := by unfold Ab.makeE; rw [hbg]; rfl
                      rw [hMV, ← hme]
                      exact pMake HZ.out.pt.cp (by omega) on fr
                    have HQC : Hid (∀ W L', Cp w h L' (2 * j + 1) v l (A0.make on fr) W → Calls Try.prog 12 #[.agg #[v], .int .i64 on, .bool fr] W fun e w' => ∃ v', e = .returned (.tuple #[.agg #[v'], MV.v, .bool true]) ∧ Cp w h L' (2 * j + 1 + 1) v' (rMake l on fr) (A0.make on fr) w' ∧ Kept L' W w') := Lib.hid (fun W L' H => by
                      rw [hMV, HRL.out.makeV]
                      have := qMake H (by omega) on HON.out fr
                      rw [hbg] at this
                      exact this)
                    clear hMV
                    go_wp2_with fail
                    refine hpc.mono ?_
                    rintro e T1 ⟨he, hc1⟩
                    simp only [Ptr.v] at he
                    subst he
                    have HZ1 := Lib.hid (HZ.out.step hc1)
                    clear hc1 hpc x0 x2 x3 x4 x11 x12 x13 x14 x15 y0 y1 y2 y3 z0 z1 z2 z3 hlp hlq R m0 hlm hlo
                    have R := Lib.hid HZ1.out.row
                    obtain ⟨x0, x1, x2, x3, x4, x5, x6, x7, x8, x9, x10, x11, x12, x13, x14, x15⟩ := cells16 R.out
                    obtain ⟨y0, y1, y2, y3⟩ := cells4 HZ1.out.ptr
                    obtain ⟨z0, z1, z2, z3⟩ := cells4 HZ1.out.qtr
                    obtain ⟨m0, hlm⟩ := HZ1.out.mcell
                    have hlo := lt_of_at R.out
                    have hlp := lt_of_at HZ1.out.ptr
                    have hlq := lt_of_at HZ1.out.qtr
                    clear x0 x1 x3 x5 x6 x7 x8 x9 x10 x11 x12 x13 x14 x15 y0 y1 y2 y3 z0 z1 z2 z3 hlp hlq
                    go_wp2_with fail
                    generalize hX : T1.alloc (.cells #[.int .i64 MV.bl, .int .i64 MV.off, .int .i64 MV.lo, .int .i64 MV.hi] 31) = T2
                    have HZ2 : Hid (Pz w h bm bo bp bq (T1.heap.size :: L2) (2 * j + 1) v v l (A0.make on fr) (.slice mda mp.length mdc) mp ⟨kind, oi, on, om, fr, ⟨pb, po, pl, ph⟩, qa, qb, ⟨vn, ⟨vb, vo, vl, vh⟩⟩⟩ p' T2) := Lib.hid (by rw [← hX]; exact HZ1.out.alloc' _)
                    have r15 : T2.heap[T1.heap.size]? = some (.cells #[.int .i64 MV.bl, .int .i64 MV.off, .int .i64 MV.lo, .int .i64 MV.hi] 31) := by rw [← hX]; exact heap_alloc_new _ _
                    have n15 : T1.heap.size ≠ bm := Nat.ne_of_gt hlm
                    clear hX x2 x4 R m0 hlm hlo
                    generalize T1.heap.size = b15 at *
                    refine (HQC.out T2 _ HZ2.out.pt.cp).mono ?_
                    rintro e T3 ⟨v', he, hc3⟩
                    simp only [Ptr.v] at he
                    subst he
                    have HZ3 := Lib.hid (HZ2.out.step hc3)
                    replace r15 := (hc3.2 b15 (by simp)).trans r15
                    clear hc3 HQC
                    have h15 := lt_of_at r15
                    obtain ⟨t17, t18, tbb, u17, u18⟩ := two_box T3 (.slice none 0 0) v' #[.int .i64 0, .int .i64 0, .int .i64 0, .int .i64 0] #[.int .i64 MV.bl, .int .i64 MV.off, .int .i64 MV.lo, .int .i64 MV.hi] 28 39
                    go_upto_region 28 with (first | ((with_reducible show wpList _ _ _ (Oper.mk none (Op.store _ (Operand.tmp 17) (Operand.tmp 120)) _ _ _ _ :: _) _ _); refine wpList_store_row (o := ⟨none, .store 28 (.tmp 17) (.tmp 120), _, _, _, _⟩) rfl 28 (.tmp 17) (.tmp 120) rfl T3.heap.size #[v'] rfl rfl 28 _ t17 sizeRH rfl (by simp [HZ3.out.pt.cp.one]) ?_) | ((with_reducible show wpList _ _ _ (Oper.mk none (Op.store _ (Operand.tmp 18) (Operand.tmp 121)) _ _ _ _ :: _) _ _); refine wpList_store_row (o := ⟨none, .store 39 (.tmp 18) (.tmp 121), _, _, _, _⟩) rfl 39 (.tmp 18) (.tmp 121) rfl (T3.heap.size + 1) (#[.int .i64 MV.bl, .int .i64 MV.off, .int .i64 MV.lo, .int .i64 MV.hi]) rfl rfl 39 _ t18 sizeRP rfl (by simp [Value.oneCell']) ?_))
                    generalize hW : (((T3.alloc (.cells #[.slice none 0 0] 28)).alloc (.cells #[.int .i64 0, .int .i64 0, .int .i64 0, .int .i64 0] 39)).setRow T3.heap.size #[v']).setRow (T3.heap.size + 1) (#[.int .i64 MV.bl, .int .i64 MV.off, .int .i64 MV.lo, .int .i64 MV.hi]) = W2 at *
                    have HZ5 := Lib.hid (HZ3.out.below tbb)
                    replace r15 := row_in tbb r15 h15
                    obtain ⟨a0, a1, a2, a3⟩ := cells4 r15
                    obtain ⟨d0, d1, d2, d3⟩ := cells4 u18
                    have c0 : W2.cell? ⟨T3.heap.size, 0, none⟩ = some v' := by rw [cell_of_row _ _ _ _ _ _ u17]; rfl
                    have l15 := lt_of_at r15
                    have l17 := lt_of_at u17
                    have l18 := lt_of_at u18
                    have R15 := Lib.hid r15
                    clear r15 u17 u18 t17 t18 tbb hW h15
                    generalize T3.heap.size = b17 at *
                    go_upto_region 32 with (((with_reducible show wpList _ _ _ (Oper.mk none (Op.store _ (Operand.tmp 4) (Operand.tmp 140)) _ _ _ _ :: _) _ _); refine wpList_store_row (o := ⟨none, .store 28 (.tmp 4) (.tmp 140), _, _, _, _⟩) rfl 28 (.tmp 4) (.tmp 140) rfl bm #[v'] rfl rfl 28 _ HZ5.out.pt.mb sizeRH rfl (by simp [HZ5.out.pt.cp.one]) ?_))
                    have HZ6 := Lib.hid (HZ5.out.setR v')
                    have r15b : (W2.setRow bm #[v']).heap[b15]? = some (.cells #[.int .i64 MV.bl, .int .i64 MV.off, .int .i64 MV.lo, .int .i64 MV.hi] 31) := (setRow_other _ _ _ _ n15).trans R15.out
                    clear a0 a1 a2 a3 d0 d1 d2 d3 c0 l15 l17 l18 HZ5 R15
                    generalize W2.setRow bm #[v'] = W5 at *
                    obtain ⟨a0, a1, a2, a3⟩ := cells4 r15b
                    have h15 := lt_of_at r15b
                    clear r15b
                    have hm60 : mp.length ≤ 60 := by have := HML.out; omega
                    have hbs := HZ6.out.pt.be.size
                    obtain ⟨i0, hi0, hz0, hz1, hz2⟩ := info_parts infoPm
                    go_wp2_with (at_builtin; refine wpList_append_lies (o := ⟨some 145, _, _, _, _, _⟩) _ rfl (.tmp 142) (.tmp 144) 29 rfl w.heap.size 31 i0 (.agg #[.int .i64 0, .int .i64 0, .int .i64 0, .int .i64 0]) 4 32 Try.underlying29 hi0 hz0 hz1 hz2 rfl (by decide) _ mp.length (ptsL mp) rfl ((HZ6.out.alloc' _).pt.mds.row) ⟨W5.heap.size, 0, none⟩ 1 1 (ptL MV) rfl rfl (World.news_of_block (cs := #[.int .i64 MV.bl, .int .i64 MV.off, .int .i64 MV.lo, .int .i64 MV.hi]) (t := 31) (fr := (0, 0)) (heap_alloc_new W5 _)) (by simp [ptL, Value.oneCell']) (by omega) (by unfold maxLen; omega) (by omega) (by simp; omega) (W5.heap.size + 1) (by simp) ?_; intro gb cap w7 hown7 hgrow7 hat7 hlt7)
                    go_meet
                    exact ⟨_, _, mp ++ [MV], v', rMake l on fr, _, _, rfl, rfl, rfl, Lib.hid ⟨((HZ6.out.alloc' _).fin (by omega)).push HMO.out hown7 hgrow7 (hat7.imp id (fun e => by rw [e]; simp)) hlt7, HRL2.out, by have := HML.out; simp; omega⟩⟩
              · rcases Bool.eq_false_or_eq_true (kind == 2) with dk2 | dk2
                · as_aux_lemma =>
                    obtain ⟨LV, hLV⟩ : ∃ LV, LV = A0.load p' om := ⟨_, rfl⟩
                    obtain ⟨LE, hLE⟩ : ∃ LE, LE = A0.at_ p' om := ⟨_, rfl⟩
                    have hpc : Calls Try.prog 13 #[.pointer (some ⟨h, 0, none⟩), p'.v, .int .i64 om] X2 fun e w' => e = .returned (.tuple #[LV.v, .int .i64 LE]) ∧ Below X2.heap.size X2 w' := by rw [hLV, hLE]; exact pLoad HZ.out.pt.cp p' HZ.out.pok om
                    have HQC : Hid (∀ W L', Cp w h L' (2 * j) v l A0 W → Calls Try.prog 14 #[.agg #[v], p'.v, .int .i64 om] W fun e w' => e = .returned (.tuple #[LV.v, .int .i64 LE]) ∧ Below W.heap.size W w') := Lib.hid (fun W L' H => by rw [hLV, hLE]; exact qLoad H HRL.out p' HZ.out.pok om)
                    clear hLV hLE
                    go_wp2_with fail
                    refine hpc.mono ?_
                    rintro e T1 ⟨he, hb1⟩
                    simp only [Val.v] at he
                    subst he
                    have HZ1 := Lib.hid (HZ.out.below hb1)
                    clear hb1 hpc x0 x2 x3 x4 x11 x12 x13 x14 x15 y0 y1 y2 y3 z0 z1 z2 z3 hlp hlq R m0 hlm hlo
                    have R := Lib.hid HZ1.out.row
                    obtain ⟨x0, x1, x2, x3, x4, x5, x6, x7, x8, x9, x10, x11, x12, x13, x14, x15⟩ := cells16 R.out
                    obtain ⟨y0, y1, y2, y3⟩ := cells4 HZ1.out.ptr
                    obtain ⟨z0, z1, z2, z3⟩ := cells4 HZ1.out.qtr
                    obtain ⟨m0, hlm⟩ := HZ1.out.mcell
                    have hlo := lt_of_at R.out
                    have hlp := lt_of_at HZ1.out.ptr
                    have hlq := lt_of_at HZ1.out.qtr
                    clear x0 x1 x2 x4 x5 x6 x7 x8 x9 x10 x11 x12 x13 x14 x15
                    go_wp2_with fail
                    generalize hX : T1.alloc (.cells #[.int .u64 LV.num, .int .i64 LV.p.bl, .int .i64 LV.p.off, .int .i64 LV.p.lo, .int .i64 LV.p.hi] 35) = T2
                    have HZ2 : Hid (Pz w h bm bo bp bq (T1.heap.size :: L2) (2 * j) v v l A0 (.slice mda mp.length mdc) mp ⟨kind, oi, on, om, fr, ⟨pb, po, pl, ph⟩, qa, qb, ⟨vn, ⟨vb, vo, vl, vh⟩⟩⟩ p' T2) := Lib.hid (by rw [← hX]; exact HZ1.out.alloc' _)
                    have r20 : T2.heap[T1.heap.size]? = some (.cells #[.int .u64 LV.num, .int .i64 LV.p.bl, .int .i64 LV.p.off, .int .i64 LV.p.lo, .int .i64 LV.p.hi] 35) := by rw [← hX]; exact heap_alloc_new _ _
                    clear hX x3 y0 y1 y2 y3 z0 z1 z2 z3 hlp hlq R m0 hlm hlo
                    generalize T1.heap.size = b20 at *
                    refine (HQC.out T2 _ HZ2.out.pt.cp).mono ?_
                    rintro e T3 ⟨he, hb3⟩
                    simp only [Val.v] at he
                    subst he
                    have HZ3 := Lib.hid (HZ2.out.below hb3)
                    replace r20 := row_in hb3 r20 (lt_of_at r20)
                    clear hb3
                    go_wp2_with fail
                    generalize hX : T3.alloc (.cells #[.int .u64 LV.num, .int .i64 LV.p.bl, .int .i64 LV.p.off, .int .i64 LV.p.lo, .int .i64 LV.p.hi] 51) = Y
                    have HZ4 : Hid (Pz w h bm bo bp bq (b20 :: L2) (2 * j) v v l A0 (.slice mda mp.length mdc) mp ⟨kind, oi, on, om, fr, ⟨pb, po, pl, ph⟩, qa, qb, ⟨vn, ⟨vb, vo, vl, vh⟩⟩⟩ p' Y) := Lib.hid (by rw [← hX]; exact HZ3.out.alloc _)
                    have r22 : Y.heap[T3.heap.size]? = some (.cells #[.int .u64 LV.num, .int .i64 LV.p.bl, .int .i64 LV.p.off, .int .i64 LV.p.lo, .int .i64 LV.p.hi] 51) := by rw [← hX]; exact heap_alloc_new _ _
                    have hlr := lt_of_at r20
                    replace r20 : Y.heap[b20]? = some (.cells #[.int .u64 LV.num, .int .i64 LV.p.bl, .int .i64 LV.p.off, .int .i64 LV.p.lo, .int .i64 LV.p.hi] 35) := by rw [← hX]; exact (Below.heap_alloc _ _ _ hlr).trans r20
                    clear hX hlr
                    generalize T3.heap.size = b22 at *
                    obtain ⟨u0, u1, u2, u3, u4⟩ := cells5v r20
                    obtain ⟨t0, t1, t2, t3, t4⟩ := cells5v r22
                    have h20 := lt_of_at r20
                    have h22 := lt_of_at r22
                    clear r20 r22
                    refine wp_region_held_drew (S := fun W : World => Below Y.heap.size Y W) (by kernel_rfl) ((Below.refl _ _).drew) (fun hHeld => ?_)
                    generalize hYD : Y.drew = V0 at *
                    clear hYD
                    refine wpAnyH_take (i := 0) (oi := ({ dst := some 164, op := Go.Op.load 35 (Go.Operand.tmp 20), type := 35, pos := "law.go:78", after := #[], guard := none } : Oper)) (v := .agg #[.int .u64 LV.num, .int .i64 LV.p.bl, .int .i64 LV.p.off, .int .i64 LV.p.lo, .int .i64 LV.p.hi]) rfl (by kernel_rfl) (by kernel_rfl) (by kernel_rfl) (fun _ _ _ h => h) (Or.inl ⟨by rfl, ?hy1⟩) (by assumption) ?_
                    case hy1 => ((intro W hSW; have e0 := (hSW.cell (p := ⟨b20, 0, none⟩) h20).trans u0; have e1 := (hSW.cell (p := ⟨b20, 1, none⟩) h20).trans u1; have e2 := (hSW.cell (p := ⟨b20, 2, none⟩) h20).trans u2; have e3 := (hSW.cell (p := ⟨b20, 3, none⟩) h20).trans u3; have e4 := (hSW.cell (p := ⟨b20, 4, none⟩) h20).trans u4; clear hSW; go_simp); (try with_reducible rfl); (try exact ⟨rfl, rfl, rfl⟩))
                    simp only [Act.put, List.setIfInBounds_toArray, List.set_cons_zero, List.set_cons_succ]
                    refine wpAnyH_take (i := 2) (oi := ({ dst := some 166, op := Go.Op.load 51 (Go.Operand.tmp 22), type := 51, pos := "law.go:78", after := #[], guard := none } : Oper)) (v := .agg #[.int .u64 LV.num, .int .i64 LV.p.bl, .int .i64 LV.p.off, .int .i64 LV.p.lo, .int .i64 LV.p.hi]) rfl (by kernel_rfl) (by kernel_rfl) (by kernel_rfl) (fun _ _ _ h => h) (Or.inl ⟨by rfl, ?hy2⟩) (by assumption) ?_
                    case hy2 => ((intro W hSW; have e0 := (hSW.cell (p := ⟨b22, 0, none⟩) h22).trans t0; have e1 := (hSW.cell (p := ⟨b22, 1, none⟩) h22).trans t1; have e2 := (hSW.cell (p := ⟨b22, 2, none⟩) h22).trans t2; have e3 := (hSW.cell (p := ⟨b22, 3, none⟩) h22).trans t3; have e4 := (hSW.cell (p := ⟨b22, 4, none⟩) h22).trans t4; clear hSW; go_simp); (try with_reducible rfl); (try exact ⟨rfl, rfl, rfl⟩))
                    simp only [Act.put, List.setIfInBounds_toArray, List.set_cons_zero, List.set_cons_succ]
                    refine wpAnyH_ready (rs := [1]) (by kernel_rfl) (by simp) ?_
                    refine (AllReadyH.cons (i := 1) (o := ({ dst := some 165, op := Go.Op.call { callee := Go.Callee.value (Go.Operand.func 15), args := #[Go.Operand.tmp 164], argTypes := #[35] }, type := 51, pos := "law.go:78", after := #[{ on := 0, ground := Go.Ground.data }], guard := none } : Oper)) rfl (fun K hK => ?_) AllReadyH.nil)
                    rw [if_pos (by rfl)]
                    go_simp
                    refine (value_any LV V0).mono ?_
                    rintro e V1 ⟨he, hb⟩
                    simp only [Val.v] at he
                    subst he
                    have hSk := hHeld.trans (hb.mono hHeld.size)
                    clear hb
                    go_simp
                    refine hK.out _ _ (hSk) (fun hHeld => ?_)
                    clear hK K
                    try simp only [Act.put, List.setIfInBounds_toArray, List.set_cons_zero, List.set_cons_succ]
                    refine wpAnyH_take (i := 3) (oi := ({ dst := some 167, op := Go.Op.binOp Go.BinOp.neq 51 (Go.Operand.tmp 165) (Go.Operand.tmp 166) 51, type := 4, pos := "law.go:78", after := #[{ on := 1, ground := Go.Ground.data }, { on := 2, ground := Go.Ground.data }], guard := none } : Oper)) (v := .bool false) rfl (by kernel_rfl) (by kernel_rfl) (by kernel_rfl) (fun _ _ _ h => h) (Or.inl ⟨by rfl, ?hy3⟩) (by assumption) ?_
                    case hy3 => ((intro W hSW; (try dsimp only at hSW); go_simp); (try with_reducible rfl); (try exact ⟨rfl, rfl, rfl⟩))
                    simp only [Act.put, List.setIfInBounds_toArray, List.set_cons_zero, List.set_cons_succ]
                    refine wpAnyH_done (by kernel_rfl) ?_ _
                    have HZ5 := Lib.hid (HZ4.out.below hHeld)
                    clear hHeld u0 u1 u2 u3 u4 t0 t1 t2 t3 t4
                    generalize hVV : V1 = U at *
                    clear hVV
                    go_wp2
                    go_meet
                    exact ⟨_, _, mp, v, l, A0, _, rfl, rfl, rfl, Lib.hid ⟨HZ5.out.fin (by omega), HRL.out, by have := HML.out; omega⟩⟩
                · rcases Bool.eq_false_or_eq_true (kind == 3) with dk3 | dk3
                  · as_aux_lemma =>
                      obtain ⟨SE, hSE⟩ : ∃ SE, SE = A0.at_ p' om := ⟨_, rfl⟩
                      have hpc : Calls Try.prog 16 #[.pointer (some ⟨h, 0, none⟩), p'.v, .int .i64 om, Val.v ⟨vn, ⟨vb, vo, vl, vh⟩⟩] X2 fun e w' => e = .returned (.int .i64 SE) ∧ Cp w h L2 (2 * j + 1) v l (A0.store p' om ⟨vn, ⟨vb, vo, vl, vh⟩⟩) w' ∧ Kept L2 X2 w' := by rw [hSE]; exact pStore HZ.out.pt.cp (by omega) p' HZ.out.pok om _
                      have HQC : Hid (∀ W, Cp w h L2 (2 * j + 1) v l (A0.store p' om ⟨vn, ⟨vb, vo, vl, vh⟩⟩) W → Calls Try.prog 17 #[.agg #[v], p'.v, .int .i64 om, Val.v ⟨vn, ⟨vb, vo, vl, vh⟩⟩] W fun e w' => e = .returned (.tuple #[.agg #[v], .int .i64 SE]) ∧ (∃ l', Cp w h L2 (2 * j + 1 + 1) v l' (A0.store p' om ⟨vn, ⟨vb, vo, vl, vh⟩⟩) w' ∧ Rel (A0.store p' om ⟨vn, ⟨vb, vo, vl, vh⟩⟩) l' ∧ l'.length = l.length) ∧ Kept L2 W w') := Lib.hid (fun W H => by rw [hSE]; exact qStore H (by omega) HRL.out p' HZ.out.pok om _)
                      clear hSE
                      go_wp2_with fail
                      refine hpc.mono ?_
                      rintro e T1 ⟨rfl, hc1⟩
                      have HZ1 := Lib.hid (HZ.out.step hc1)
                      clear hc1 hpc x0 x2 x3 x4 x11 x12 x13 x14 x15 y0 y1 y2 y3 z0 z1 z2 z3 hlp hlq R m0 hlm hlo
                      have R := Lib.hid HZ1.out.row
                      obtain ⟨x0, x1, x2, x3, x4, x5, x6, x7, x8, x9, x10, x11, x12, x13, x14, x15⟩ := cells16 R.out
                      obtain ⟨y0, y1, y2, y3⟩ := cells4 HZ1.out.ptr
                      obtain ⟨z0, z1, z2, z3⟩ := cells4 HZ1.out.qtr
                      obtain ⟨m0, hlm⟩ := HZ1.out.mcell
                      have hlo := lt_of_at R.out
                      have hlp := lt_of_at HZ1.out.ptr
                      have hlq := lt_of_at HZ1.out.qtr
                      clear x0 x1 x2 x4 x5 x6 x7 x8 x9 x10 y0 y1 y2 y3 hlp
                      go_wp2_with fail
                      refine wp_region_held_drew (S := fun W : World => W.heap[bm]? = T1.heap[bm]? ∧ W.heap[bq]? = T1.heap[bq]? ∧ W.heap[bo]? = T1.heap[bo]?) (by kernel_rfl) ⟨rfl, rfl, rfl⟩ (fun hHeld => ?_)
                      have HP := Lib.hid (HZ1.out.below ((Below.refl _ _).drew))
                      generalize hYD : T1.drew = V0 at *
                      clear hYD
                      refine wpAnyH_take (i := 0) (oi := ({ dst := some 180, op := Go.Op.load 28 (Go.Operand.tmp 4), type := 28, pos := "law.go:84", after := #[], guard := none } : Oper)) (v := .agg #[v]) rfl (by kernel_rfl) (by kernel_rfl) (by kernel_rfl) (fun _ _ _ h => h) (Or.inl ⟨by rfl, ?hy1⟩) (by assumption) ?_
                      case hy1 => ((intro W hSW; have em0 := (World.cell?_of_block (w := T1) (a := ⟨bm, 0, none⟩) hSW.1).trans m0; clear hSW; go_simp); (try with_reducible rfl); (try exact ⟨rfl, rfl, rfl⟩))
                      simp only [Act.put, List.setIfInBounds_toArray, List.set_cons_zero, List.set_cons_succ]
                      refine wpAnyH_take (i := 1) (oi := ({ dst := some 181, op := Go.Op.load 39 (Go.Operand.tmp 12), type := 39, pos := "law.go:84", after := #[], guard := none } : Oper)) (v := .agg #[.int .i64 p'.bl, .int .i64 p'.off, .int .i64 p'.lo, .int .i64 p'.hi]) rfl (by kernel_rfl) (by kernel_rfl) (by kernel_rfl) (fun _ _ _ h => h) (Or.inl ⟨by rfl, ?hy2⟩) (by assumption) ?_
                      case hy2 => ((intro W hSW; have ez0 := (World.cell?_of_block (w := T1) (a := ⟨bq, 0, none⟩) hSW.2.1).trans z0; have ez1 := (World.cell?_of_block (w := T1) (a := ⟨bq, 1, none⟩) hSW.2.1).trans z1; have ez2 := (World.cell?_of_block (w := T1) (a := ⟨bq, 2, none⟩) hSW.2.1).trans z2; have ez3 := (World.cell?_of_block (w := T1) (a := ⟨bq, 3, none⟩) hSW.2.1).trans z3; clear hSW; go_simp); (try with_reducible rfl); (try exact ⟨rfl, rfl, rfl⟩))
                      simp only [Act.put, List.setIfInBounds_toArray, List.set_cons_zero, List.set_cons_succ]
                      refine wpAnyH_take (i := 2) (oi := ({ dst := some 182, op := Go.Op.fieldAddr 37 (Go.Operand.tmp 7) 3, type := 0, pos := "law.go:84", after := #[], guard := none } : Oper)) (v := .pointer (some ⟨bo, 3, none⟩)) rfl (by kernel_rfl) (by kernel_rfl) (by kernel_rfl) (fun _ _ _ h => h) (Or.inl ⟨by rfl, ?hy3⟩) (by assumption) ?_
                      case hy3 => ((intro W hSW; (try dsimp only at hSW); go_simp); (try with_reducible rfl); (try exact ⟨rfl, rfl, rfl⟩))
                      simp only [Act.put, List.setIfInBounds_toArray, List.set_cons_zero, List.set_cons_succ]
                      refine wpAnyH_take (i := 3) (oi := ({ dst := some 183, op := Go.Op.load 3 (Go.Operand.tmp 182), type := 3, pos := "law.go:84", after := #[{ on := 2, ground := Go.Ground.data }], guard := none } : Oper)) (v := .int .i64 om) rfl (by kernel_rfl) (by kernel_rfl) (by kernel_rfl) (fun _ _ _ h => h) (Or.inl ⟨by rfl, ?hy4⟩) (by assumption) ?_
                      case hy4 => ((intro W hSW; have ex3 := (World.cell?_of_block (w := T1) (a := ⟨bo, 3, none⟩) hSW.2.2).trans x3; clear hSW; go_simp); (try with_reducible rfl); (try exact ⟨rfl, rfl, rfl⟩))
                      simp only [Act.put, List.setIfInBounds_toArray, List.set_cons_zero, List.set_cons_succ]
                      refine wpAnyH_take (i := 4) (oi := ({ dst := some 184, op := Go.Op.fieldAddr 37 (Go.Operand.tmp 7) 7, type := 0, pos := "law.go:84", after := #[], guard := none } : Oper)) (v := .pointer (some ⟨bo, 11, none⟩)) rfl (by kernel_rfl) (by kernel_rfl) (by kernel_rfl) (fun _ _ _ h => h) (Or.inl ⟨by rfl, ?hy5⟩) (by assumption) ?_
                      case hy5 => ((intro W hSW; (try dsimp only at hSW); go_simp); (try with_reducible rfl); (try exact ⟨rfl, rfl, rfl⟩))
                      simp only [Act.put, List.setIfInBounds_toArray, List.set_cons_zero, List.set_cons_succ]
                      refine wpAnyH_take (i := 5) (oi := ({ dst := some 185, op := Go.Op.load 35 (Go.Operand.tmp 184), type := 35, pos := "law.go:84", after := #[{ on := 4, ground := Go.Ground.data }], guard := none } : Oper)) (v := .agg #[.int .u64 vn, .int .i64 vb, .int .i64 vo, .int .i64 vl, .int .i64 vh]) rfl (by kernel_rfl) (by kernel_rfl) (by kernel_rfl) (fun _ _ _ h => h) (Or.inl ⟨by rfl, ?hy6⟩) (by assumption) ?_
                      case hy6 => ((intro W hSW; have ex11 := (World.cell?_of_block (w := T1) (a := ⟨bo, 11, none⟩) hSW.2.2).trans x11; have ex12 := (World.cell?_of_block (w := T1) (a := ⟨bo, 12, none⟩) hSW.2.2).trans x12; have ex13 := (World.cell?_of_block (w := T1) (a := ⟨bo, 13, none⟩) hSW.2.2).trans x13; have ex14 := (World.cell?_of_block (w := T1) (a := ⟨bo, 14, none⟩) hSW.2.2).trans x14; have ex15 := (World.cell?_of_block (w := T1) (a := ⟨bo, 15, none⟩) hSW.2.2).trans x15; clear hSW; go_simp); (try with_reducible rfl); (try exact ⟨rfl, rfl, rfl⟩))
                      simp only [Act.put, List.setIfInBounds_toArray, List.set_cons_zero, List.set_cons_succ]
                      refine wpAnyH_ready (rs := [6]) (by kernel_rfl) (by simp) ?_
                      refine (AllReadyH.cons (i := 6) (o := ({ dst := some 186, op := Go.Op.call { callee := Go.Callee.value (Go.Operand.func 15), args := #[Go.Operand.tmp 185], argTypes := #[35] }, type := 51, pos := "law.go:84", after := #[{ on := 5, ground := Go.Ground.data }], guard := none } : Oper)) rfl (fun K hK => ?_) AllReadyH.nil)
                      rw [if_pos (by rfl)]
                      go_simp
                      refine (value_any ⟨vn, ⟨vb, vo, vl, vh⟩⟩ V0).mono ?_
                      rintro e V1 ⟨he, hb⟩
                      simp only [Val.v] at he
                      subst he
                      have hSk : V1.heap[bm]? = T1.heap[bm]? ∧ V1.heap[bq]? = T1.heap[bq]? ∧ V1.heap[bo]? = T1.heap[bo]? := ⟨((HP.out.pt.cp.kept hb) bm HP.out.pt.bms.1).trans hHeld.1, ((HP.out.pt.cp.kept hb) bq HP.out.bqs.1).trans hHeld.2.1, ((HP.out.pt.cp.kept hb) bo HP.out.bos.1).trans hHeld.2.2⟩
                      replace HP := Lib.hid (HP.out.below hb)
                      clear hb
                      go_simp
                      refine hK.out _ _ (hSk) (fun hHeld => ?_)
                      clear hK K
                      try simp only [Act.put, List.setIfInBounds_toArray, List.set_cons_zero, List.set_cons_succ]
                      refine wpAnyH_ready (rs := [7]) (by kernel_rfl) (by simp) ?_
                      refine (AllReadyH.cons (i := 7) (o := ({ dst := some 187, op := Go.Op.call { callee := Go.Callee.value (Go.Operand.func 17), args := #[Go.Operand.tmp 180, Go.Operand.tmp 181, Go.Operand.tmp 183, Go.Operand.tmp 186], argTypes := #[28, 39, 3, 51] }, type := 56, pos := "law.go:84", after := #[{ on := 0, ground := Go.Ground.data }, { on := 1, ground := Go.Ground.data }, { on := 3, ground := Go.Ground.data }, { on := 6, ground := Go.Ground.data }, { on := 6, ground := Go.Ground.chain }], guard := none } : Oper)) rfl (fun K hK => ?_) AllReadyH.nil)
                      rw [if_pos (by rfl)]
                      go_simp
                      refine (HQC.out V1 HP.out.pt.cp).mono ?_
                      rintro e V2 ⟨rfl, ⟨l', hc3, hr3, hl3⟩, hk3⟩
                      have hSk : V2.heap[bm]? = T1.heap[bm]? ∧ V2.heap[bq]? = T1.heap[bq]? ∧ V2.heap[bo]? = T1.heap[bo]? := ⟨(hk3 bm HP.out.pt.bms.1).trans hHeld.1, (hk3 bq HP.out.bqs.1).trans hHeld.2.1, (hk3 bo HP.out.bos.1).trans hHeld.2.2⟩
                      have HZ3 := Lib.hid (HP.out.step ⟨hc3, hk3⟩)
                      have HRL2 := Lib.hid hr3
                      clear HP hc3 hr3 hl3 hk3
                      go_simp
                      refine hK.out _ _ (hSk) (fun hHeld => ?_)
                      clear hK K
                      try simp only [Act.put, List.setIfInBounds_toArray, List.set_cons_zero, List.set_cons_succ]
                      refine wpAnyH_take (i := 8) (oi := ({ dst := some 179, op := Go.Op.move (Go.Operand.tmp 187), type := 56, pos := "law.go:84", after := #[{ on := 7, ground := Go.Ground.data }], guard := none } : Oper)) (v := .tuple #[.agg #[v], .int .i64 SE]) rfl (by kernel_rfl) (by kernel_rfl) (by kernel_rfl) (fun _ _ _ h => h) (Or.inl ⟨by rfl, ?hy7⟩) (by assumption) ?_
                      case hy7 => ((intro W hSW; (try dsimp only at hSW); go_simp); (try with_reducible rfl); (try exact ⟨rfl, rfl, rfl⟩))
                      simp only [Act.put, List.setIfInBounds_toArray, List.set_cons_zero, List.set_cons_succ]
                      refine wpAnyH_take (i := 9) (oi := ({ dst := some 188, op := Go.Op.extract (Go.Operand.tmp 179) 0, type := 28, pos := "law.go:84", after := #[{ on := 8, ground := Go.Ground.data }], guard := none } : Oper)) (v := .agg #[v]) rfl (by kernel_rfl) (by kernel_rfl) (by kernel_rfl) (fun _ _ _ h => h) (Or.inl ⟨by rfl, ?hy8⟩) (by assumption) ?_
                      case hy8 => ((intro W hSW; (try dsimp only at hSW); go_simp); (try with_reducible rfl); (try exact ⟨rfl, rfl, rfl⟩))
                      simp only [Act.put, List.setIfInBounds_toArray, List.set_cons_zero, List.set_cons_succ]
                      refine wpAnyH_take (i := 10) (oi := ({ dst := some 189, op := Go.Op.extract (Go.Operand.tmp 179) 1, type := 3, pos := "law.go:84", after := #[{ on := 8, ground := Go.Ground.data }, { on := 11, ground := Go.Ground.gcOnly Go.Departure.lateStores }], guard := none } : Oper)) (v := .int .i64 SE) rfl (by kernel_rfl) (by kernel_rfl) (by kernel_rfl) (fun _ _ _ h => h) (Or.inl ⟨by rfl, ?hy9⟩) (by assumption) ?_
                      case hy9 => ((intro W hSW; (try dsimp only at hSW); go_simp); (try with_reducible rfl); (try exact ⟨rfl, rfl, rfl⟩))
                      simp only [Act.put, List.setIfInBounds_toArray, List.set_cons_zero, List.set_cons_succ]
                      refine wpAnyH_ready (rs := [11]) (by kernel_rfl) (by simp) ?_
                      refine (AllReadyH.cons (i := 11) (o := ({ dst := none, op := Go.Op.store 28 (Go.Operand.tmp 4) (Go.Operand.tmp 188), type := 0, pos := "law.go:84", after := #[{ on := 9, ground := Go.Ground.data }, { on := 7, ground := Go.Ground.chain }, { on := 0, ground := Go.Ground.phase }, { on := 1, ground := Go.Ground.phase }, { on := 2, ground := Go.Ground.phase }, { on := 3, ground := Go.Ground.phase }, { on := 4, ground := Go.Ground.phase }, { on := 5, ground := Go.Ground.phase }, { on := 6, ground := Go.Ground.phase }, { on := 7, ground := Go.Ground.phase }, { on := 8, ground := Go.Ground.phase }, { on := 9, ground := Go.Ground.phase }, { on := 10, ground := Go.Ground.textOnly Go.Departure.lateStores }], guard := none } : Oper)) rfl (fun K hK => ?_) AllReadyH.nil)
                      rw [if_pos (by rfl)]
                      refine wp_store_row 28 (.tmp 4) (.tmp 188) rfl bm #[v] rfl rfl 28 _ HZ3.out.pt.mb sizeRH rfl (by simp [HZ3.out.pt.cp.one]) ?_
                      have hSk : (V2.setRow bm #[v]).heap[bm]? = T1.heap[bm]? ∧ (V2.setRow bm #[v]).heap[bq]? = T1.heap[bq]? ∧ (V2.setRow bm #[v]).heap[bo]? = T1.heap[bo]? := ⟨(setRow_heap V2 bm _ #[v] _ _ HZ3.out.pt.mb).trans (HZ1.out.pt.mb).symm, (setRow_other _ _ _ _ HZ3.out.bqs.2).trans hHeld.2.1, (setRow_other _ _ _ _ HZ3.out.bos.2).trans hHeld.2.2⟩
                      have HZ4 := Lib.hid (HZ3.out.setR v)
                      generalize V2.setRow bm #[v] = V3 at *
                      refine hK.out _ _ (hSk) (fun hHeld => ?_)
                      clear hK K
                      try simp only [Act.put, List.setIfInBounds_toArray, List.set_cons_zero, List.set_cons_succ]
                      refine wpAnyH_take (i := 12) (oi := ({ dst := some 14, op := Go.Op.assign (Go.Operand.tmp 189), type := 3, pos := "law.go:84", after := #[{ on := 10, ground := Go.Ground.data }, { on := 11, ground := Go.Ground.chain }, { on := 0, ground := Go.Ground.phase }, { on := 1, ground := Go.Ground.phase }, { on := 2, ground := Go.Ground.phase }, { on := 3, ground := Go.Ground.phase }, { on := 4, ground := Go.Ground.phase }, { on := 5, ground := Go.Ground.phase }, { on := 6, ground := Go.Ground.phase }, { on := 7, ground := Go.Ground.phase }, { on := 8, ground := Go.Ground.phase }, { on := 9, ground := Go.Ground.phase }, { on := 10, ground := Go.Ground.phase }, { on := 11, ground := Go.Ground.phase }], guard := none } : Oper)) (v := .int .i64 SE) rfl (by kernel_rfl) (by kernel_rfl) (by kernel_rfl) (fun _ _ _ h => h) (Or.inl ⟨by rfl, ?hy10⟩) (by assumption) ?_
                      case hy10 => ((intro W hSW; (try dsimp only at hSW); go_simp); (try with_reducible rfl); (try exact ⟨rfl, rfl, rfl⟩))
                      simp only [Act.put, List.setIfInBounds_toArray, List.set_cons_zero, List.set_cons_succ]
                      refine wpAnyH_done (by kernel_rfl) ?_ _
                      clear hHeld
                      go_wp2
                      go_meet
                      exact ⟨_, _, mp, v, l', _, _, rfl, rfl, rfl, Lib.hid ⟨HZ4.out.fin (by omega), HRL2.out, by have := HML.out; omega⟩⟩
                  · rcases Bool.eq_false_or_eq_true (kind == 4) with dk4 | dk4
                    · as_aux_lemma =>
                        obtain ⟨CE, hCE⟩ : ∃ CE, CE = A0.fr p' := ⟨_, rfl⟩
                        have hpc : Calls Try.prog 18 #[.pointer (some ⟨h, 0, none⟩), p'.v] X2 fun e w' => e = .returned (.int .i64 CE) ∧ Cp w h L2 (2 * j + 1) v l (A0.freeE p') w' ∧ Kept L2 X2 w' := by rw [hCE]; exact pFree HZ.out.pt.cp (by omega) p' HZ.out.pok
                        have HQC : Hid (∀ W, Cp w h L2 (2 * j + 1) v l (A0.freeE p') W → Calls Try.prog 19 #[.agg #[v], p'.v] W fun e w' => e = .returned (.tuple #[.agg #[v], .int .i64 CE]) ∧ (∃ l', Cp w h L2 (2 * j + 1 + 1) v l' (A0.freeE p') w' ∧ Rel (A0.freeE p') l' ∧ l'.length = l.length) ∧ Kept L2 W w') := Lib.hid (fun W H => by rw [hCE]; exact qFree H (by omega) HRL.out p' HZ.out.pok)
                        clear hCE
                        go_wp2_with fail
                        refine hpc.mono ?_
                        rintro e T1 ⟨rfl, hc1⟩
                        have HZ1 := Lib.hid (HZ.out.step hc1)
                        clear hc1 hpc x0 x2 x3 x4 x11 x12 x13 x14 x15 y0 y1 y2 y3 z0 z1 z2 z3 hlp hlq R m0 hlm hlo
                        have R := Lib.hid HZ1.out.row
                        obtain ⟨x0, x1, x2, x3, x4, x5, x6, x7, x8, x9, x10, x11, x12, x13, x14, x15⟩ := cells16 R.out
                        obtain ⟨y0, y1, y2, y3⟩ := cells4 HZ1.out.ptr
                        obtain ⟨z0, z1, z2, z3⟩ := cells4 HZ1.out.qtr
                        obtain ⟨m0, hlm⟩ := HZ1.out.mcell
                        have hlo := lt_of_at R.out
                        have hlp := lt_of_at HZ1.out.ptr
                        have hlq := lt_of_at HZ1.out.qtr
                        clear x0 x1 x2 x3 x4 x5 x6 x7 x8 x9 x10 x11 x12 x13 x14 x15
                        go_wp2_with fail
                        refine (HQC.out _ HZ1.out.pt.cp).mono ?_
                        rintro e T3 ⟨rfl, ⟨l', hc3, hr3, hl3⟩, hk3⟩
                        have HZ3 := Lib.hid (HZ1.out.step ⟨hc3, hk3⟩)
                        have HRL2 := Lib.hid hr3
                        clear y0 y1 y2 y3 z0 z1 z2 z3 hlp hlq R m0 hlm hlo hc3 hr3 hl3 hk3
                        have HZ4 := Lib.hid (HZ3.out.setR v)
                        go_wp2_with (((with_reducible show wpList _ _ _ (Oper.mk none (Op.store _ (Operand.tmp 4) (Operand.tmp 199)) _ _ _ _ :: _) _ _); refine wpList_store_row (o := ⟨none, .store 28 (.tmp 4) (.tmp 199), _, _, _, _⟩) rfl 28 (.tmp 4) (.tmp 199) rfl bm #[v] rfl rfl 28 _ HZ3.out.pt.mb sizeRH rfl (by simp [HZ3.out.pt.cp.one]) ?_))
                        go_meet
                        exact ⟨_, _, mp, v, l', _, _, rfl, rfl, rfl, Lib.hid ⟨HZ4.out.fin (by omega), HRL2.out, by have := HML.out; omega⟩⟩
                    · rcases Bool.eq_false_or_eq_true (kind == 5) with dk5 | dk5
                      · as_aux_lemma =>
                          obtain ⟨CE, hCE⟩ : ∃ CE, CE = A0.nb on := ⟨_, rfl⟩
                          have hpc : Calls Try.prog 20 #[.pointer (some ⟨h, 0, none⟩), .int .i64 on] X2 fun e w' => e = .returned (.int .i64 CE) ∧ Cp w h L2 (2 * j + 1) v l (A0.endE on) w' ∧ Kept L2 X2 w' := by rw [hCE]; exact pEnd HZ.out.pt.cp (by omega) on HON.out
                          have HQC : Hid (∀ W, Cp w h L2 (2 * j + 1) v l (A0.endE on) W → Calls Try.prog 21 #[.agg #[v], .int .i64 on] W fun e w' => e = .returned (.tuple #[.agg #[v], .int .i64 CE]) ∧ (∃ l', Cp w h L2 (2 * j + 1 + 1) v l' (A0.endE on) w' ∧ Rel (A0.endE on) l' ∧ l'.length = l.length) ∧ Kept L2 W w') := Lib.hid (fun W H => by rw [hCE]; exact qEnd H (by omega) HRL.out on HON.out)
                          clear hCE
                          go_wp2_with fail
                          refine hpc.mono ?_
                          rintro e T1 ⟨rfl, hc1⟩
                          have HZ1 := Lib.hid (HZ.out.step hc1)
                          clear hc1 hpc x0 x2 x3 x4 x11 x12 x13 x14 x15 y0 y1 y2 y3 z0 z1 z2 z3 hlp hlq R m0 hlm hlo
                          have R := Lib.hid HZ1.out.row
                          obtain ⟨x0, x1, x2, x3, x4, x5, x6, x7, x8, x9, x10, x11, x12, x13, x14, x15⟩ := cells16 R.out
                          obtain ⟨y0, y1, y2, y3⟩ := cells4 HZ1.out.ptr
                          obtain ⟨z0, z1, z2, z3⟩ := cells4 HZ1.out.qtr
                          obtain ⟨m0, hlm⟩ := HZ1.out.mcell
                          have hlo := lt_of_at R.out
                          have hlp := lt_of_at HZ1.out.ptr
                          have hlq := lt_of_at HZ1.out.qtr
                          clear x0 x1 x3 x4 x5 x6 x7 x8 x9 x10 x11 x12 x13 x14 x15 y0 y1 y2 y3 z0 z1 z2 z3 hlp hlq
                          go_wp2_with fail
                          refine (HQC.out _ HZ1.out.pt.cp).mono ?_
                          rintro e T3 ⟨rfl, ⟨l', hc3, hr3, hl3⟩, hk3⟩
                          have HZ3 := Lib.hid (HZ1.out.step ⟨hc3, hk3⟩)
                          have HRL2 := Lib.hid hr3
                          clear x2 R m0 hlm hlo hc3 hr3 hl3 hk3
                          have HZ4 := Lib.hid (HZ3.out.setR v)
                          go_wp2_with (((with_reducible show wpList _ _ _ (Oper.mk none (Op.store _ (Operand.tmp 4) (Operand.tmp 212)) _ _ _ _ :: _) _ _); refine wpList_store_row (o := ⟨none, .store 28 (.tmp 4) (.tmp 212), _, _, _, _⟩) rfl 28 (.tmp 4) (.tmp 212) rfl bm #[v] rfl rfl 28 _ HZ3.out.pt.mb sizeRH rfl (by simp [HZ3.out.pt.cp.one]) ?_))
                          go_meet
                          exact ⟨_, _, mp, v, l', _, _, rfl, rfl, rfl, Lib.hid ⟨HZ4.out.fin (by omega), HRL2.out, by have := HML.out; omega⟩⟩
                      · rcases Bool.eq_false_or_eq_true (kind == 6) with dk6 | dk6
                        · as_aux_lemma =>
                            obtain ⟨CE, hCE⟩ : ∃ CE, CE = A0.nb on := ⟨_, rfl⟩
                            have hpc : Calls Try.prog 22 #[.pointer (some ⟨h, 0, none⟩), .int .i64 on] X2 fun e w' => e = .returned (.int .i64 CE) ∧ Cp w h L2 (2 * j + 1) v l (A0.clearE on) w' ∧ Kept L2 X2 w' := by rw [hCE]; exact pClear HZ.out.pt.cp (by omega) on HON.out
                            have HQC : Hid (∀ W, Cp w h L2 (2 * j + 1) v l (A0.clearE on) W → Calls Try.prog 23 #[.agg #[v], .int .i64 on] W fun e w' => e = .returned (.tuple #[.agg #[v], .int .i64 CE]) ∧ (∃ l', Cp w h L2 (2 * j + 1 + 1) v l' (A0.clearE on) w' ∧ Rel (A0.clearE on) l' ∧ l'.length = l.length) ∧ Kept L2 W w') := Lib.hid (fun W H => by rw [hCE]; exact qClear H (by omega) HRL.out on HON.out)
                            clear hCE
                            go_wp2_with fail
                            refine hpc.mono ?_
                            rintro e T1 ⟨rfl, hc1⟩
                            have HZ1 := Lib.hid (HZ.out.step hc1)
                            clear hc1 hpc x0 x2 x3 x4 x11 x12 x13 x14 x15 y0 y1 y2 y3 z0 z1 z2 z3 hlp hlq R m0 hlm hlo
                            have R := Lib.hid HZ1.out.row
                            obtain ⟨x0, x1, x2, x3, x4, x5, x6, x7, x8, x9, x10, x11, x12, x13, x14, x15⟩ := cells16 R.out
                            obtain ⟨y0, y1, y2, y3⟩ := cells4 HZ1.out.ptr
                            obtain ⟨z0, z1, z2, z3⟩ := cells4 HZ1.out.qtr
                            obtain ⟨m0, hlm⟩ := HZ1.out.mcell
                            have hlo := lt_of_at R.out
                            have hlp := lt_of_at HZ1.out.ptr
                            have hlq := lt_of_at HZ1.out.qtr
                            clear x0 x1 x3 x4 x5 x6 x7 x8 x9 x10 x11 x12 x13 x14 x15 y0 y1 y2 y3 z0 z1 z2 z3 hlp hlq
                            go_wp2_with fail
                            refine (HQC.out _ HZ1.out.pt.cp).mono ?_
                            rintro e T3 ⟨rfl, ⟨l', hc3, hr3, hl3⟩, hk3⟩
                            have HZ3 := Lib.hid (HZ1.out.step ⟨hc3, hk3⟩)
                            have HRL2 := Lib.hid hr3
                            clear x2 R m0 hlm hlo hc3 hr3 hl3 hk3
                            have HZ4 := Lib.hid (HZ3.out.setR v)
                            go_wp2_with (((with_reducible show wpList _ _ _ (Oper.mk none (Op.store _ (Operand.tmp 4) (Operand.tmp 225)) _ _ _ _ :: _) _ _); refine wpList_store_row (o := ⟨none, .store 28 (.tmp 4) (.tmp 225), _, _, _, _⟩) rfl 28 (.tmp 4) (.tmp 225) rfl bm #[v] rfl rfl 28 _ HZ3.out.pt.mb sizeRH rfl (by simp [HZ3.out.pt.cp.one]) ?_))
                            go_meet
                            exact ⟨_, _, mp, v, l', _, _, rfl, rfl, rfl, Lib.hid ⟨HZ4.out.fin (by omega), HRL2.out, by have := HML.out; omega⟩⟩
                        · go_wp2
                          go_meet
                          exact ⟨_, _, mp, v, l, A0, _, rfl, rfl, rfl, Lib.hid ⟨HZ.out.fin (by omega), HRL.out, by have := HML.out; omega⟩⟩
            case rest =>
              as_aux_lemma =>
                obtain ⟨E, md', mp', v', l', A', L', h13, h14, h5, hpt⟩ := hcut
                subst h13 h14 h5
                clear HZ HON HML OK x0 x2 x3 x4 x11 x12 x13 x14 x15 y0 y1 y2 y3 z0 z1 z2 z3 hlp hlq R m0 hlm hlo
                obtain ⟨mda2, mdc2, hmde⟩ := rsl hpt.out.1.mds.row
                subst hmde
                have HT : Hid (Pt w h bm L' (2 * j + 2) v' v' l' A' (.slice mda2 mp'.length mdc2) mp' wc) := Lib.hid hpt.out.1
                have HRL3 := Lib.hid hpt.out.2.1
                have hml := hpt.out.2.2
                clear hpt HRL
                have e1 : wrap64 ((mp'.length : Int) + 1) = (mp'.length : Int) + 1 := IntWalk.wrap64_in _ (by omega)
                go_wp2_with fail
                go_loopw [24] (fun b wx => ∃ k : Nat, k ≤ mp'.length + 3 ∧ b = .int .i64 ((k : Int) - 1) ∧ Hid (Pt w h bm L' (2 * j + 2) v' v' l' A' (.slice mda2 mp'.length mdc2) mp' wx)) (fun b _ => mp'.length + 3 - (intOf b + 1).toNat)
                case atStart => exact ⟨0, by omega, rfl, HT⟩
                case round =>
                  obtain ⟨k, hk, rfl, hT⟩ := hrel
                  by_cases hkl : k < mp'.length + 3
                  · have d1 : decide ((k : Int) - 1 ≤ (mp'.length : Int) + 1) = true := decide_eq_true (by omega)
                    have e2 : wrap64 ((k : Int) - 1 + 1) = ((k + 1 : Nat) : Int) - 1 := by rw [IntWalk.wrap64_in _ (by omega)]; omega
                    obtain ⟨kk, hkk⟩ : ∃ kk : Int, (k : Int) - 1 = kk := ⟨_, rfl⟩
                    rw [hkk] at d1 e2 ⊢
                    have HKB : Hid (in64 kk) := Lib.hid (by unfold in64; omega)
                    have HKK := Lib.hid hkk
                    clear hkk
                    obtain ⟨Y, hY⟩ : ∃ Y, Y = wr := ⟨_, rfl⟩
                    subst hY
                    obtain ⟨B, hB⟩ : ∃ B, B = rLiv l' kk := ⟨_, rfl⟩
                    have HPL : Hid (∀ W, Below Y.heap.size Y W → Calls Try.prog 24 #[.pointer (some ⟨h, 0, none⟩), .int .i64 kk] W fun e w' => e = .returned (.bool B) ∧ Below W.heap.size W w') := Lib.hid (fun W hW => by rw [hB]; exact pLive (hT.out.below hW).cp HRL3.out kk HKB.out)
                    have HQL : Hid (∀ W, Below Y.heap.size Y W → Calls Try.prog 25 #[.agg #[v'], .int .i64 kk] W fun e w' => e = .returned (.bool B) ∧ Below W.heap.size W w') := Lib.hid (fun W hW => by rw [hB]; exact qLive (hT.out.below hW).cp kk HKB.out)
                    have m0 : Y.cell? ⟨bm, 0, none⟩ = some v' := by rw [cell_of_row _ _ _ _ _ _ hT.out.mb]; rfl
                    have hlm := lt_of_at hT.out.mb
                    clear hB
                    go_wp2_with fail
                    refine wp_region_held_drew (S := fun W : World => Below Y.heap.size Y W) (by kernel_rfl) ((Below.refl _ _).drew) (fun hHeld => ?_)
                    generalize hYD : Y.drew = V0 at *
                    clear hYD
                    refine wpAnyH_take (i := 0) (oi := ({ dst := some 237, op := Go.Op.move (Go.Operand.tmp 3), type := 23, pos := "law.go:99", after := #[], guard := none } : Oper)) (v := .pointer (some ⟨h, 0, none⟩)) rfl (by kernel_rfl) (by kernel_rfl) (by kernel_rfl) (fun _ _ _ h => h) (Or.inl ⟨by rfl, ?hy1⟩) (by assumption) ?_
                    case hy1 => ((intro W hSW; (try dsimp only at hSW); go_simp); (try with_reducible rfl); (try exact ⟨rfl, rfl, rfl⟩))
                    simp only [Act.put, List.setIfInBounds_toArray, List.set_cons_zero, List.set_cons_succ]
                    refine wpAnyH_take (i := 1) (oi := ({ dst := some 238, op := Go.Op.move (Go.Operand.tmp 24), type := 3, pos := "law.go:99", after := #[], guard := none } : Oper)) (v := .int .i64 kk) rfl (by kernel_rfl) (by kernel_rfl) (by kernel_rfl) (fun _ _ _ h => h) (Or.inl ⟨by rfl, ?hy2⟩) (by assumption) ?_
                    case hy2 => ((intro W hSW; (try dsimp only at hSW); go_simp); (try with_reducible rfl); (try exact ⟨rfl, rfl, rfl⟩))
                    simp only [Act.put, List.setIfInBounds_toArray, List.set_cons_zero, List.set_cons_succ]
                    refine wpAnyH_take (i := 3) (oi := ({ dst := some 240, op := Go.Op.load 28 (Go.Operand.tmp 4), type := 28, pos := "law.go:99", after := #[], guard := none } : Oper)) (v := .agg #[v']) rfl (by kernel_rfl) (by kernel_rfl) (by kernel_rfl) (fun _ _ _ h => h) (Or.inl ⟨by rfl, ?hy3⟩) (by assumption) ?_
                    case hy3 => ((intro W hSW; have e0 := (hSW.cell (p := ⟨bm, 0, none⟩) hlm).trans m0; clear hSW; go_simp); (try with_reducible rfl); (try exact ⟨rfl, rfl, rfl⟩))
                    simp only [Act.put, List.setIfInBounds_toArray, List.set_cons_zero, List.set_cons_succ]
                    refine wpAnyH_take (i := 4) (oi := ({ dst := some 241, op := Go.Op.move (Go.Operand.tmp 24), type := 3, pos := "law.go:99", after := #[], guard := none } : Oper)) (v := .int .i64 kk) rfl (by kernel_rfl) (by kernel_rfl) (by kernel_rfl) (fun _ _ _ h => h) (Or.inl ⟨by rfl, ?hy4⟩) (by assumption) ?_
                    case hy4 => ((intro W hSW; (try dsimp only at hSW); go_simp); (try with_reducible rfl); (try exact ⟨rfl, rfl, rfl⟩))
                    simp only [Act.put, List.setIfInBounds_toArray, List.set_cons_zero, List.set_cons_succ]
                    refine wpAnyH_ready (rs := [2]) (by kernel_rfl) (by simp) ?_
                    refine (AllReadyH.cons (i := 2) (o := ({ dst := some 239, op := Go.Op.call { callee := Go.Callee.value (Go.Operand.func 24), args := #[Go.Operand.tmp 237, Go.Operand.tmp 238], argTypes := #[23, 3] }, type := 4, pos := "law.go:99", after := #[{ on := 0, ground := Go.Ground.data }, { on := 1, ground := Go.Ground.data }], guard := none } : Oper)) rfl (fun K hK => ?_) AllReadyH.nil)
                    rw [if_pos (by rfl)]
                    go_simp
                    refine (HPL.out V0 hHeld).mono ?_
                    rintro e V1 ⟨rfl, hb⟩
                    have hSk := hHeld.trans (hb.mono hHeld.size)
                    clear hb
                    go_simp
                    refine hK.out _ _ (hSk) (fun hHeld => ?_)
                    clear hK K
                    try simp only [Act.put, List.setIfInBounds_toArray, List.set_cons_zero, List.set_cons_succ]
                    refine wpAnyH_ready (rs := [5]) (by kernel_rfl) (by simp) ?_
                    refine (AllReadyH.cons (i := 5) (o := ({ dst := some 242, op := Go.Op.call { callee := Go.Callee.value (Go.Operand.func 25), args := #[Go.Operand.tmp 240, Go.Operand.tmp 241], argTypes := #[28, 3] }, type := 4, pos := "law.go:99", after := #[{ on := 3, ground := Go.Ground.data }, { on := 4, ground := Go.Ground.data }, { on := 2, ground := Go.Ground.chain }], guard := none } : Oper)) rfl (fun K hK => ?_) AllReadyH.nil)
                    rw [if_pos (by rfl)]
                    go_simp
                    refine (HQL.out V1 hHeld).mono ?_
                    rintro e V2 ⟨rfl, hb⟩
                    have hSk := hHeld.trans (hb.mono hHeld.size)
                    clear hb
                    go_simp
                    refine hK.out _ _ (hSk) (fun hHeld => ?_)
                    clear hK K
                    try simp only [Act.put, List.setIfInBounds_toArray, List.set_cons_zero, List.set_cons_succ]
                    refine wpAnyH_take (i := 6) (oi := ({ dst := some 243, op := Go.Op.binOp Go.BinOp.neq 4 (Go.Operand.tmp 239) (Go.Operand.tmp 242) 4, type := 4, pos := "law.go:99", after := #[{ on := 2, ground := Go.Ground.data }, { on := 5, ground := Go.Ground.data }], guard := none } : Oper)) (v := .bool false) rfl (by kernel_rfl) (by kernel_rfl) (by kernel_rfl) (fun _ _ _ h => h) (Or.inl ⟨by rfl, ?hy5⟩) (by assumption) ?_
                    case hy5 => ((intro W hSW; (try dsimp only at hSW); go_simp); (try with_reducible rfl); (try exact ⟨rfl, rfl, rfl⟩))
                    simp only [Act.put, List.setIfInBounds_toArray, List.set_cons_zero, List.set_cons_succ]
                    refine wpAnyH_done (by kernel_rfl) ?_ _
                    have HT2 := Lib.hid (hT.out.below hHeld)
                    clear hHeld m0 hlm
                    go_wp2
                    go_roundw
                    case rel => exact ⟨k + 1, by omega, by go_num, HT2⟩
                    case measure => have := HKK.out; simp [intOf]; omega
                  · have d1 : decide ((k : Int) - 1 ≤ (mp'.length : Int) + 1) = false := decide_eq_false (by omega)
                    go_wp2
                    go_roundw
                    case rel => exact ⟨j + 1, by omega, by omega, by go_num, Lib.hid ⟨L', v', l', A', mp', hT.out, HRL3.out, hml⟩⟩
                    case measure => simp [intOf]; omega
    · have dj1 : decide ((j : Int) < (n : Int)) = false := decide_eq_false (by omega)
      obtain ⟨L, v, l, A0, mp, hpt, hrl, hml⟩ := hp0.out
      have HBE := Lib.hid hpt.be
      clear hpt hrl hml hp0
      go_wp2
      go_ret
      exact ⟨rfl, HBE.out⟩
end Go.Proofs.Ytjianllngobhhaa
