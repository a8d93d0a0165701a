/- ParseArrows answers true. Conditions: each theorem's. -/
import Derived.Test.YtfjobnljdkiihaaGreatDoorQaTwP
import Derived.Test.YtfjobnljdkiihaaGreatDoorQaParAw
import Derived.Test.YtfjobnljdkiihaaGreatDoorQaParArH
import Derived.Laws.BytesArg
namespace Go.Proofs.YtfjobnljdkiihaaGreatDoor
open Go.RowKit Go.Maps
set_option linter.unusedVariables false
set_option linter.unusedSimpArgs false
set_option maxRecDepth 100000
open Lx Pa Go.Lib Qi
theorem ar_all : ∀ h : Fin 256, ∀ k : Fin 8, (bits BinOp.and IntKind.u8 ((h.val : Int) / 2 ^ k.val) 1 == 1) = (h.val / 2 ^ k.val % 2 == 1) := by decide +kernel
theorem ar_shr (h j : Nat) (hh : (h : Int) < 256) (hj : j < 12) : (bits BinOp.and IntKind.u8 ((h : Int) / 2 ^ (j % 8)) 1 == 1) = arBit h j :=
  ar_all ⟨h, by omega⟩ ⟨j % 8, Nat.mod_lt _ (by decide)⟩
set_option maxHeartbeats 16000000 in
theorem parseArrows_walk {w : World} (n how : Int) (hn : I64 n) (hh : 0 ≤ how ∧ how < 256) (hM : MaxIs w) (T : PrintTabs) (hT : Tb T w.heap.size w) :
    Calls Tryz.prog 5 #[.int .i64 n, .int .u8 how] w fun e w' => e = .returned (.bool true) ∧ Below w.heap.size w w' := by
  have HT := Lib.hid hT
  clear hT
  obtain ⟨N, hN, hN2⟩ : ∃ N : Nat, (n % 18446744073709551616) % 12 = (N : Int) ∧ N < 12 := ⟨((n % 18446744073709551616) % 12).toNat, by omega, by omega⟩
  obtain ⟨h, rfl⟩ : ∃ h : Nat, how = h := ⟨how.toNat, by omega⟩
  have hw0 : wrap64 ((IntKind.u64.wrap n).tmod 12) = (N : Int) := by rw [IntKind.wrap_u64, Int.tmod_eq_emod_of_nonneg (by omega), hN]; exact IntWalk.wrap64_in _ (by omega)
  go_enter Tryz.func5, Tryz.ntmps5
  go_wp2_with fail
  refine (awake_any hM).mono ?_
  rintro e w1 ⟨rfl, hb1⟩
  go_wp2_with fail
  go_loopw [5, 6, 7] (fun a b i wr => ∃ j : Nat, j ≤ N ∧ a = .string ⟨(arA h j).toArray⟩ ∧ b = .string ⟨(arB h j).toArray⟩ ∧ i = .int .i64 j ∧ Below w.heap.size w wr) (fun _ _ i _ => N - (RowKit.intOf i).toNat)
  case atStart => exact ⟨0, Nat.zero_le _, rfl, rfl, rfl, hb1⟩
  case round =>
    obtain ⟨j, hj, rfl, rfl, rfl, hb⟩ := hrel
    have hlA := (tk_ok h j (by omega)).2.2
    have hlB := (tk_okB h j (by omega)).2.2
    by_cases hlt : j < N
    · have dj : (j : Int) < (N : Int) := by omega
      have dj0 : (0 : Int) ≤ (j : Int) := by omega
      have hcv : (convert 51 9 (.slice (some ⟨wr.heap.size, 0, none⟩) 1 1)).run Tryz.prog (wr.alloc (.cells #[.int .u8 (102 + (j : Int))] 5)) = .ok (.string ⟨[(102 + j).toUInt8].toArray⟩) (wr.alloc (.cells #[.int .u8 (102 + (j : Int))] 5)) :=
        run_convert_bytes_back (P := Tryz.prog) (wr.alloc (.cells #[.int .u8 (102 + (j : Int))] 5)) 51 9 5 ⟨wr.heap.size, 0, none⟩ 1 [(102 + j).toUInt8] Tryz.underlying51 Tryz.underlying5 Tryz.underlying9 (fun i hi => by
          have : i = 0 := by simp at hi; omega
          subst this
          have hadd : (⟨wr.heap.size, 0, none⟩ : Addr).add 0 = ⟨wr.heap.size, 0, none⟩ := by unfold Addr.add; rfl
          rw [hadd, cell_of_row _ _ _ _ _ _ (heap_new wr _)]
          have hc : ((102 + j).toUInt8).toNat = 102 + j := by show (102 + j) % 256 = 102 + j; omega
          show some (Value.int .u8 (102 + (j : Int))) = some (.int .u8 (((102 + j).toUInt8).toNat : Int))
          rw [hc]
          push_cast
          rfl)
      have hbw := hb.alloc hb.size (.cells #[.int .u8 (102 + (j : Int))] 5)
      have HBW := Lib.hid hbw
      clear hbw
      have hbit := ar_shr h j hh.2 (by omega)
      cases hbt : arBit h j with
      | true =>
        rw [hbt] at hbit
        go_wp2
        go_roundw
        case rel => exact ⟨j + 1, hlt, by rw [bl_app, bl_app]; simp [arA, hbt], by rw [bl_app, bl_app, bl_app]; simp [arB, hbt], by simp, HBW.out⟩
        case measure => simp [RowKit.intOf]; omega
      | false =>
        rw [hbt] at hbit
        go_wp2
        go_roundw
        case rel => exact ⟨j + 1, hlt, by rw [bl_app, bl_app, bl_app]; simp [arA, hbt], by rw [bl_app, bl_app, bl_app]; simp [arB, hbt], by simp, HBW.out⟩
        case measure => simp [RowKit.intOf]; omega
    · obtain rfl : j = N := by omega
      have hsA : (⟨#[105, 110, 116, 32, 102, 40, 41, 32, 123, 32]⟩ : ByteArray) ++ ⟨(arA h j).toArray⟩ ++ ⟨#[59, 32, 125]⟩ = arT (arA h j) := by unfold arT; rw [show (⟨#[105, 110, 116, 32, 102, 40, 41, 32, 123, 32]⟩ : ByteArray) = ⟨[105, 110, 116, 32, 102, 40, 41, 32, 123, 32].toArray⟩ from rfl, show (⟨#[59, 32, 125]⟩ : ByteArray) = ⟨[59, 32, 125].toArray⟩ from rfl, bl_app, bl_app]
      have hsB : (⟨#[105, 110, 116, 32, 102, 40, 41, 32, 123, 32]⟩ : ByteArray) ++ ⟨(arB h j).toArray⟩ ++ ⟨#[59, 32, 125]⟩ = arT (arB h j) := by unfold arT; rw [show (⟨#[105, 110, 116, 32, 102, 40, 41, 32, 123, 32]⟩ : ByteArray) = ⟨[105, 110, 116, 32, 102, 40, 41, 32, 123, 32].toArray⟩ from rfl, show (⟨#[59, 32, 125]⟩ : ByteArray) = ⟨[59, 32, 125].toArray⟩ from rfl, bl_app, bl_app]
      have hzA : (arT (arA h j)).size ≤ 1048576 := by unfold arT; show (_ : List UInt8).toArray.size ≤ _; rw [List.size_toArray]; simp only [List.length_append, List.length_cons, List.length_nil]; omega
      have hzB : (arT (arB h j)).size ≤ 1048576 := by unfold arT; show (_ : List UInt8).toArray.size ≤ _; rw [List.size_toArray]; simp only [List.length_append, List.length_cons, List.length_nil]; omega
      have hlA3 : (arA h j).length ≤ 40 := by omega
      have hlB3 : (arB h j).length ≤ 70 := by omega
      obtain ⟨p1, p2, p3⟩ := arrows T h j hN2 (by omega)
      obtain ⟨f1, g1⟩ := parse_fits T p1
      obtain ⟨f2, g2⟩ := parse_fits T p2
      have HP1 : Hid (∀ W, MaxIs W → Calls Tryz.prog 7 #[.string (arT (arA h j))] W (ParseP (arT (arA h j)) W)) := Lib.hid (fun W hW => parse_any _ W hzA hW)
      have HP2 : Hid (∀ W, MaxIs W → Calls Tryz.prog 7 #[.string (arT (arB h j))] W (ParseP (arT (arB h j)) W)) := Lib.hid (fun W hW => parse_any _ W hzB hW)
      unfold ParseP at HP1 HP2
      have HSA := Lib.hid hsA
      have HSB := Lib.hid hsB
      clear hsA hsB hzA hzB hlt hj hlA hlB
      generalize parseV (arT (arA h j)) = P1 at *
      generalize parseV (arT (arB h j)) = P2 at *
      go_wp2_with fail
      rw [HSA.out]
      refine (HP1.out _ (hM.keep hb)).mono ?_
      rintro e w2 ⟨v1, v2, v3, rfl, hpa, h2⟩
      have hb2 := hb.trans (h2.mono hb.size)
      obtain ⟨A1, c1, rfl⟩ := hpa.s.slice
      obtain ⟨A2, c2, rfl⟩ := hpa.v.slice
      obtain ⟨A3, c3, rfl⟩ := hpa.f.slice
      have HPA := Lib.hid hpa
      clear hpa h2 HP1
      go_wp2_with fail
      rw [HSB.out]
      generalize hX : w2.alloc (.cells #[.slice A1 P1.1.ss.length c1, .slice A2 P1.1.vs.length c2, .slice A3 P1.1.fs.length c3] 27) = w3
      have hb3 : Below w2.heap.size w2 w3 := by rw [← hX]; exact (Below.refl _ _).alloc (Nat.le_refl _) _
      have r5 : w3.heap[w2.heap.size]? = some (.cells #[.slice A1 P1.1.ss.length c1, .slice A2 P1.1.vs.length c2, .slice A3 P1.1.fs.length c3] 27) := by rw [← hX]; exact heap_new _ _
      replace HPA := Lib.hid (ap_keep HPA.out hb3)
      replace hb2 := hb2.trans (hb3.mono hb2.size)
      clear hX hb3
      generalize w2.heap.size = b5 at *
      have hl5 := (Array.getElem?_eq_some_iff.1 r5).1
      refine (HP2.out _ (hM.keep hb2)).mono ?_
      rintro e w4 ⟨u1, u2, u3, rfl, hpb, h4⟩
      obtain ⟨B1, d1, rfl⟩ := hpb.s.slice
      obtain ⟨B2, d2, rfl⟩ := hpb.v.slice
      obtain ⟨B3, d3, rfl⟩ := hpb.f.slice
      have HPB := Lib.hid hpb
      replace r5 := (h4.block b5 hl5).trans r5
      replace HPA := Lib.hid (ap_keep HPA.out h4)
      replace hb2 := hb2.trans (h4.mono hb2.size)
      clear hpb h4 HP2 hl5
      have R5 := Lib.hid r5
      have p3' := Lib.hid p3
      clear r5 p3
      have hne1 : (P1.2.2 == 0) = true := beq_iff_eq.mpr p1
      have hne2 : (P2.2.2 == 0) = true := beq_iff_eq.mpr p2
      clear p1 p2
      go_wp2_with fail
      generalize hX : w4.alloc (.cells #[.slice B1 P2.1.ss.length d1, .slice B2 P2.1.vs.length d2, .slice B3 P2.1.fs.length d3] 27) = Y
      have hb3 : Below w4.heap.size w4 Y := by rw [← hX]; exact (Below.refl _ _).alloc (Nat.le_refl _) _
      have r8 : Y.heap[w4.heap.size]? = some (.cells #[.slice B1 P2.1.ss.length d1, .slice B2 P2.1.vs.length d2, .slice B3 P2.1.fs.length d3] 27) := by rw [← hX]; exact heap_new _ _
      replace HPA := Lib.hid (ap_keep HPA.out hb3)
      replace HPB := Lib.hid (ap_keep HPB.out hb3)
      replace hb2 := hb2.trans (hb3.mono hb2.size)
      have r5 := (hb3.block b5 (Array.getElem?_eq_some_iff.1 R5.out).1).trans R5.out
      clear hX hb3 R5
      generalize w4.heap.size = b8 at *
      have hTY := HT.out.keep hb2
      have hl5 := (Array.getElem?_eq_some_iff.1 r5).1
      have hl8 := (Array.getElem?_eq_some_iff.1 r8).1
      have CA : ∀ g : Gx Y, ∀ v, (⟨(treeT T P1.1).toArray⟩ : ByteArray) = v → Calls Tryz.prog 8 #[.agg #[.slice A1 P1.1.ss.length c1, .slice A2 P1.1.vs.length c2, .slice A3 P1.1.fs.length c3]] g.1 fun e w' => e = .returned (.string v) ∧ ∃ g' : Gx Y, w' = g'.1 := fun g v hv => hv ▸ grx_of (treeP_any T P1.1 _ _ _ g.1 (hTY.keep (g.2.mono hb2.size)) (Nat.le_trans hb2.size g.2.size) HPA.out g.2 f1 g1)
      have CB : ∀ g : Gx Y, ∀ v, (⟨(treeT T P2.1).toArray⟩ : ByteArray) = v → Calls Tryz.prog 8 #[.agg #[.slice B1 P2.1.ss.length d1, .slice B2 P2.1.vs.length d2, .slice B3 P2.1.fs.length d3]] g.1 fun e w' => e = .returned (.string v) ∧ ∃ g' : Gx Y, w' = g'.1 := fun g v hv => hv ▸ grx_of (treeP_any T P2.1 _ _ _ g.1 (hTY.keep (g.2.mono hb2.size)) (Nat.le_trans hb2.size g.2.size) HPB.out g.2 f2 g2)
      rw [← p3'.out] at CB
      generalize hva : (⟨(treeT T P1.1).toArray⟩ : ByteArray) = va at *
      have CA := fun g => CA g va rfl
      have CB := fun g => CB g va rfl
      have q5 : ∀ (g : Gx Y) (i : Nat) (u : Value), (#[Value.slice A1 P1.1.ss.length c1, .slice A2 P1.1.vs.length c2, .slice A3 P1.1.fs.length c3])[i]? = some u → g.1.cell? ⟨b5, i, none⟩ = some u := fun g i u hu => by rw [g.2.cell (p := ⟨b5, i, none⟩) hl5, cell_of_row _ _ _ _ _ _ r5]; exact hu
      have q8 : ∀ (g : Gx Y) (i : Nat) (u : Value), (#[Value.slice B1 P2.1.ss.length d1, .slice B2 P2.1.vs.length d2, .slice B3 P2.1.fs.length d3])[i]? = some u → g.1.cell? ⟨b8, i, none⟩ = some u := fun g i u hu => by rw [g.2.cell (p := ⟨b8, i, none⟩) hl8, cell_of_row _ _ _ _ _ _ r8]; exact hu
      have x0 := fun g => q5 g 0 _ rfl
      have x1 := fun g => q5 g 1 _ rfl
      have x2 := fun g => q5 g 2 _ rfl
      have y0 := fun g => q8 g 0 _ rfl
      have y1 := fun g => q8 g 1 _ rfl
      have y2 := fun g => q8 g 2 _ rfl
      clear q5 q8 r5 r8 hTY HPA HPB f1 f2 g1 g2 p3'
      refine wp_region_grx (w0 := Y) (by kernel_rfl) (by kernel_rfl) (Below.refl _ _) ?_
      repeat (go_big_quiet_step (first | with_reducible exact CA _ | with_reducible exact CB _))
      refine wpQuiet_nil ?_
      rintro W ⟨g, rfl⟩
      go_wp2
      go_ret
      exact ⟨by simp, hb2.trans (g.2.mono hb2.size)⟩
end Go.Proofs.YtfjobnljdkiihaaGreatDoor
