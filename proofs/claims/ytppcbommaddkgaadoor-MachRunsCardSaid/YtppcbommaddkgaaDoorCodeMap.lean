/- The table of shapes: what the closure of package code puts into the map, and what the map then holds. Conditions: the ranges that each theorem names. -/
import Derived.Test.YtppcbommaddkgaaDoorRows
import Derived.WalkKit
import Derived.ProofKit
import Derived.OpenShut
import Derived.WalkSpells
import Derived.Lib.Hide
import Derived.Maps.OwnSet
import Derived.Maps.AppendAt
import Derived.Maps.RangeWalk
namespace Go.Proofs.YtppcbommaddkgaaDoor
open Go.RowKit Go.Maps
set_option linter.unusedVariables false

/-- How a shape reads: op, f3, f7, form. -/
def shapeR : Value → Option (DataW Unit × List MemPlace)
  | .agg cs => match cs.toList with
    | [.int .u8 a, .int .u8 b, .int .u8 c, .int .u8 d] => some (.agg [.lit (.int .u8 a), .lit (.int .u8 b), .lit (.int .u8 c), .lit (.int .u8 d)], [])
    | _ => none
  | _ => none
abbrev shapeD (a b c d : Int) : DataW Unit := .agg [.lit (.int .u8 a), .lit (.int .u8 b), .lit (.int .u8 c), .lit (.int .u8 d)]
theorem shapeR_mk (a b c d : Int) : shapeR (.agg #[.int .u8 a, .int .u8 b, .int .u8 c, .int .u8 d]) = some (shapeD a b c d, []) := rfl
/-- One row more of a list of rows. -/
def putR (fm op : Int) (D : DataW Unit) (r : Int × Int × Int) : DataW Unit := D.put (.int .i64 r.1) (shapeD op r.2.1 r.2.2 fm)

theorem wfI {n : Int} (h : -9223372036854775808 ≤ n ∧ n ≤ 9223372036854775807) : (Lit.int .i64 n).wf = true := by
  simp [Lit.wf, IntKind.min, IntKind.max, IntKind.signed, IntKind.bits]
  omega
theorem lawInt : Keyed Tryd.prog 3 := int_keyed Tryd.underlying3

set_option maxRecDepth 100000 in
set_option maxHeartbeats 400000 in
theorem put_any (fm op : Int) (rows : List (Int × Int × Int)) (sb mc b n : Nat) (D : DataW Unit) (w : World) (hn : n + rows.length < 1000)
    (hr : ∀ j, j < rows.length → 0 ≤ (rows.getD j (0, 0, 0)).1 ∧ (rows.getD j (0, 0, 0)).1 < 256)
    (h0 : ∀ j, j < rows.length → w.cell? ⟨sb, j * 3, none⟩ = some (.int .u8 (rows.getD j (0, 0, 0)).1))
    (h1 : ∀ j, j < rows.length → w.cell? ⟨sb, j * 3 + 1, none⟩ = some (.int .u8 (rows.getD j (0, 0, 0)).2.1))
    (h2 : ∀ j, j < rows.length → w.cell? ⟨sb, j * 3 + 2, none⟩ = some (.int .u8 (rows.getD j (0, 0, 0)).2.2))
    (hm : w.cell? ⟨mc, 0, none⟩ = some (.map (some b))) (hsb : sb ≠ b) (hmb : mc ≠ b)
    (hown : w.ownsMap Tryd.prog 3 shapeR b n D) :
    Calls Tryd.prog 78 #[.int .u8 fm, .int .u8 op, .slice (some ⟨sb, 0, none⟩) rows.length rows.length, .pointer (some ⟨mc, 0, none⟩)] w fun e w' =>
      e = .returned (.tuple #[]) ∧ w'.ownsMap Tryd.prog 3 shapeR b (n + rows.length) (rows.foldl (putR fm op) D) ∧ w.grownBy w' (some b) := by
  go_enter Tryd.func78, Tryd.ntmps78
  go_wp2
  go_loopw [11] (fun i wr => ∃ k : Nat, k ≤ rows.length ∧ i = .int .i64 k ∧ wr.ownsMap Tryd.prog 3 shapeR b (n + k) ((rows.take k).foldl (putR fm op) D) ∧ w.grownBy wr (some b)) (fun i _ => rows.length - (intOf i).toNat)
  case atStart => exact ⟨0, Nat.zero_le _, rfl, hown, World.grownBy.refl _ _⟩
  case round =>
    obtain ⟨k, hk, rfl, hownk, hg⟩ := hrel
    by_cases hlt : k < rows.length
    · have e0 := hg.cell (h0 k hlt) (by simpa using hsb)
      have e1 := hg.cell (h1 k hlt) (by simpa using hsb)
      have e2 := hg.cell (h2 k hlt) (by simpa using hsb)
      have em := hg.cell hm (by simpa using hmb)
      have hb := hr k hlt
      have hst : (rows.take (k + 1)).foldl (putR fm op) D = putR fm op ((rows.take k).foldl (putR fm op) D) (rows.getD k (0, 0, 0)) := by
        rw [List.take_succ_eq_append_getElem hlt, List.foldl_append]; simp [List.getD, hlt]
      have Hst := Lib.hid hst
      clear hst
      clear h0 h1 h2 hr hm
      generalize rows.getD k (0, 0, 0) = r at *
      obtain ⟨ro, r3, r7⟩ := r
      simp only at e0 e1 e2 hb
      have hkey : keyOf Tryd.prog 3 (.int .i64 ro) = some (.int .i64 ro) := keyOf_int_mk Tryd.underlying3 (wfI (by omega))
      have hml : mc < wr.heap.size := World.block_lt_of_cell? wr _ em
      go_wp2_with (at_mapUpdate; refine wpList_mapUpdate_own _ rfl _ _ _ 124 rfl 3 129 lawInt Tryd.underlying124 shapeR b (n + k) _ rfl (hownk.alloc _) (by unfold maxLen; omega) _ _ _ rfl rfl hkey _ [] (shapeR_mk _ _ _ _) ?_; intro w1 hown1 hgrow1)
      go_roundw
      case rel => exact ⟨k + 1, by omega, by go_num, by rw [Hst.out]; exact hown1, hg.trans (((World.grownBy_alloc _ _ _).trans hgrow1))⟩
      case measure => simp [intOf]; omega
    · obtain rfl : k = rows.length := by omega
      rw [List.take_of_length_le (Nat.le_refl _)] at hownk
      go_wp2
      go_end0
      exact ⟨rfl, hownk, hg⟩
/-! NEW rows in a new block. -/
def flatR : List (Int × Int × Int) → List Value
  | [] => []
  | r :: l => .int .u8 r.1 :: .int .u8 r.2.1 :: .int .u8 r.2.2 :: flatR l
theorem flatR_at : ∀ (rows : List (Int × Int × Int)) (j : Nat), j < rows.length → (flatR rows)[j * 3]? = some (.int .u8 (rows.getD j (0, 0, 0)).1) ∧ (flatR rows)[j * 3 + 1]? = some (.int .u8 (rows.getD j (0, 0, 0)).2.1) ∧ (flatR rows)[j * 3 + 2]? = some (.int .u8 (rows.getD j (0, 0, 0)).2.2)
  | [], j, h => by simp at h
  | r :: l, 0, h => by simp [flatR]
  | r :: l, j + 1, h => by
    have := flatR_at l j (by simpa using h)
    rw [show (j + 1) * 3 = j * 3 + 3 by omega]
    simpa [flatR] using this
theorem run_makeMap2 (w : World) : (Instr.makeMap 124 (some (.int .i64 55))).run Tryd.prog w = .ok (.map (some w.heap.size)) (w.alloc (.map #[] 0)) := by kernel_rfl

theorem put_new (fm op : Int) (rows : List (Int × Int × Int)) (mc b n : Nat) (D : DataW Unit) (w : World) (cs : Array Value) (sb len : Nat) (hsb : sb = w.heap.size) (hlen : len = rows.length) (hcs : cs = (flatR rows).toArray) (hn : n + rows.length < 1000)
    (hr : ∀ j, j < rows.length → 0 ≤ (rows.getD j (0, 0, 0)).1 ∧ (rows.getD j (0, 0, 0)).1 < 256)
    (hm : w.cell? ⟨mc, 0, none⟩ = some (.map (some b))) (hmb : mc ≠ b) (hown : w.ownsMap Tryd.prog 3 shapeR b n D) :
    Calls Tryd.prog 78 #[.int .u8 fm, .int .u8 op, .slice (some ⟨sb, 0, none⟩) len len, .pointer (some ⟨mc, 0, none⟩)] (w.alloc (.cells cs 141)) fun e w' =>
      e = .returned (.tuple #[]) ∧ w'.ownsMap Tryd.prog 3 shapeR b (n + rows.length) (rows.foldl (putR fm op) D) ∧ w.grownBy w' (some b) := by
  subst hsb; subst hlen
  have hb := hown.lt
  have hml : mc < w.heap.size := World.block_lt_of_cell? w _ hm
  have hnew : (w.alloc (.cells cs 141)).heap[w.heap.size]? = some (.cells cs 141) := heap_alloc_new w _
  have hc : ∀ j, (w.alloc (.cells cs 141)).cell? ⟨w.heap.size, j, none⟩ = (flatR rows)[j]? := fun j => by
    rw [cell_of_row _ _ j cs _ _ hnew, hcs]; simp
  refine (put_any fm op rows w.heap.size mc b n D _ hn hr (fun j hj => (hc _).trans (flatR_at rows j hj).1) (fun j hj => (hc _).trans (flatR_at rows j hj).2.1) (fun j hj => (hc _).trans (flatR_at rows j hj).2.2)
    ((World.grownBy_alloc w _ none).cell hm (by simp)) (by omega) hmb (hown.alloc _)).mono ?_
  rintro e w' ⟨he, ho, hg⟩
  exact ⟨he, ho, (World.grownBy_alloc _ _ _).trans hg⟩

/-! The rows, group by group, and what the map holds behind each. -/
def rows0 : List (Int × Int × Int) := [(1, 0, 0), (2, 0, 32), (3, 1, 0), (4, 2, 0), (5, 3, 0), (6, 4, 0), (7, 5, 0), (8, 5, 32), (9, 6, 0), (10, 7, 0), (11, 0, 1), (12, 1, 1), (13, 3, 1), (14, 4, 1), (15, 5, 1), (16, 6, 1), (17, 7, 1)]
def rows1 : List (Int × Int × Int) := [(18, 0, 0), (19, 0, 32), (20, 1, 0), (21, 5, 0), (22, 5, 32), (23, 0, 1), (24, 4, 1), (25, 5, 1), (26, 6, 1), (27, 7, 1)]
def rows2 : List (Int × Int × Int) := [(28, 0, 0), (29, 2, 0), (30, 3, 0), (31, 4, 0), (32, 6, 0), (33, 7, 0)]
def rows3 : List (Int × Int × Int) := [(34, 1, 0), (35, 5, 0), (36, 5, 32)]
def rows4 : List (Int × Int × Int) := [(37, 0, 0)]
def rows5 : List (Int × Int × Int) := [(38, 0, 0), (40, 2, 0), (41, 3, 0), (39, 4, 0)]
def rows6 : List (Int × Int × Int) := [(42, 0, 0), (43, 2, 0), (44, 3, 0)]
def rows7 : List (Int × Int × Int) := [(45, 0, 0), (46, 1, 0), (47, 4, 0), (48, 5, 0), (49, 6, 0), (50, 7, 0)]
def rows8 : List (Int × Int × Int) := [(51, 0, 0)]
def rows9 : List (Int × Int × Int) := [(52, 0, 0)]
def rows10 : List (Int × Int × Int) := [(53, 0, 0)]
def rows11 : List (Int × Int × Int) := [(54, 0, 0)]
def rows12 : List (Int × Int × Int) := [(55, 0, 0)]
def D0 : DataW Unit := .map []
def D1 : DataW Unit := rows0.foldl (putR 0 51) D0
def D2 : DataW Unit := rows1.foldl (putR 0 59) D1
def D3 : DataW Unit := rows2.foldl (putR 1 19) D2
def D4 : DataW Unit := rows3.foldl (putR 2 19) D3
def D5 : DataW Unit := rows4.foldl (putR 1 27) D4
def D6 : DataW Unit := rows5.foldl (putR 1 3) D5
def D7 : DataW Unit := rows6.foldl (putR 3 35) D6
def D8 : DataW Unit := rows7.foldl (putR 4 99) D7
def D9 : DataW Unit := rows8.foldl (putR 5 55) D8
def D10 : DataW Unit := rows9.foldl (putR 5 23) D9
def D11 : DataW Unit := rows10.foldl (putR 6 111) D10
def D12 : DataW Unit := rows11.foldl (putR 1 103) D11
def D13 : DataW Unit := rows12.foldl (putR 7 115) D12

set_option maxRecDepth 100000 in
set_option maxHeartbeats 2000000 in
theorem shapes_any (w : World) :
    Calls Tryd.prog 71 #[] w fun e w' => e = .returned (.map (some w.heap.size)) ∧ w'.ownsMap Tryd.prog 3 shapeR w.heap.size 55 D13 ∧ Below w.heap.size w w' := by
  have hmm := run_makeMap2
  go_enter Tryd.func71, Tryd.ntmps71
  go_wp2_with fail
  have hown0 : ((w.alloc (.map #[] 0)).alloc (.cells #[.map (some w.heap.size)] 124)).ownsMap Tryd.prog 3 shapeR w.heap.size 0 D0 := (World.ownsMap_made _ _ _ _).alloc _
  have hm0 : ((w.alloc (.map #[] 0)).alloc (.cells #[.map (some w.heap.size)] 124)).cell? ⟨w.heap.size + 1, 0, none⟩ = some (.map (some w.heap.size)) := by go_simp
  have hB0 : Below w.heap.size w ((w.alloc (.map #[] 0)).alloc (.cells #[.map (some w.heap.size)] 124)) := ((Below.refl _ _).alloc (Nat.le_refl _) _).alloc (by simp) _
  clear hmm
  refine (put_new 0 51 rows0 (w.heap.size + 1) w.heap.size 0 D0 _ _ _ _ (by simp) rfl rfl (by decide) (by decide) hm0 (by omega) hown0).mono ?_
  rintro e w1 ⟨rfl, hown1, hg1⟩
  have hm1 := hg1.cell hm0 (by simp)
  have hB1 := hB0.grown hg1 hB0.size (fun j hj => by cases hj; exact Nat.le_refl _)
  clear hg1 hB0 hm0 hown0
  go_wp2_with fail
  refine (put_new 0 59 rows1 (w.heap.size + 1) w.heap.size 17 D1 _ _ _ _ (by simp) rfl rfl (by decide) (by decide) hm1 (by omega) hown1).mono ?_
  rintro e w2 ⟨rfl, hown2, hg2⟩
  have hm2 := hg2.cell hm1 (by simp)
  have hB2 := hB1.grown hg2 hB1.size (fun j hj => by cases hj; exact Nat.le_refl _)
  clear hg2 hB1 hm1 hown1
  go_wp2_with fail
  refine (put_new 1 19 rows2 (w.heap.size + 1) w.heap.size 27 D2 _ _ _ _ (by simp) rfl rfl (by decide) (by decide) hm2 (by omega) hown2).mono ?_
  rintro e w3 ⟨rfl, hown3, hg3⟩
  have hm3 := hg3.cell hm2 (by simp)
  have hB3 := hB2.grown hg3 hB2.size (fun j hj => by cases hj; exact Nat.le_refl _)
  clear hg3 hB2 hm2 hown2
  go_wp2_with fail
  refine (put_new 2 19 rows3 (w.heap.size + 1) w.heap.size 33 D3 _ _ _ _ (by simp) rfl rfl (by decide) (by decide) hm3 (by omega) hown3).mono ?_
  rintro e w4 ⟨rfl, hown4, hg4⟩
  have hm4 := hg4.cell hm3 (by simp)
  have hB4 := hB3.grown hg4 hB3.size (fun j hj => by cases hj; exact Nat.le_refl _)
  clear hg4 hB3 hm3 hown3
  go_wp2_with fail
  refine (put_new 1 27 rows4 (w.heap.size + 1) w.heap.size 36 D4 _ _ _ _ (by simp) rfl rfl (by decide) (by decide) hm4 (by omega) hown4).mono ?_
  rintro e w5 ⟨rfl, hown5, hg5⟩
  have hm5 := hg5.cell hm4 (by simp)
  have hB5 := hB4.grown hg5 hB4.size (fun j hj => by cases hj; exact Nat.le_refl _)
  clear hg5 hB4 hm4 hown4
  go_wp2_with fail
  refine (put_new 1 3 rows5 (w.heap.size + 1) w.heap.size 37 D5 _ _ _ _ (by simp) rfl rfl (by decide) (by decide) hm5 (by omega) hown5).mono ?_
  rintro e w6 ⟨rfl, hown6, hg6⟩
  have hm6 := hg6.cell hm5 (by simp)
  have hB6 := hB5.grown hg6 hB5.size (fun j hj => by cases hj; exact Nat.le_refl _)
  clear hg6 hB5 hm5 hown5
  go_wp2_with fail
  refine (put_new 3 35 rows6 (w.heap.size + 1) w.heap.size 41 D6 _ _ _ _ (by simp) rfl rfl (by decide) (by decide) hm6 (by omega) hown6).mono ?_
  rintro e w7 ⟨rfl, hown7, hg7⟩
  have hm7 := hg7.cell hm6 (by simp)
  have hB7 := hB6.grown hg7 hB6.size (fun j hj => by cases hj; exact Nat.le_refl _)
  clear hg7 hB6 hm6 hown6
  go_wp2_with fail
  refine (put_new 4 99 rows7 (w.heap.size + 1) w.heap.size 44 D7 _ _ _ _ (by simp) rfl rfl (by decide) (by decide) hm7 (by omega) hown7).mono ?_
  rintro e w8 ⟨rfl, hown8, hg8⟩
  have hm8 := hg8.cell hm7 (by simp)
  have hB8 := hB7.grown hg8 hB7.size (fun j hj => by cases hj; exact Nat.le_refl _)
  clear hg8 hB7 hm7 hown7
  go_wp2_with fail
  refine (put_new 5 55 rows8 (w.heap.size + 1) w.heap.size 50 D8 _ _ _ _ (by simp) rfl rfl (by decide) (by decide) hm8 (by omega) hown8).mono ?_
  rintro e w9 ⟨rfl, hown9, hg9⟩
  have hm9 := hg9.cell hm8 (by simp)
  have hB9 := hB8.grown hg9 hB8.size (fun j hj => by cases hj; exact Nat.le_refl _)
  clear hg9 hB8 hm8 hown8
  go_wp2_with fail
  refine (put_new 5 23 rows9 (w.heap.size + 1) w.heap.size 51 D9 _ _ _ _ (by simp) rfl rfl (by decide) (by decide) hm9 (by omega) hown9).mono ?_
  rintro e w10 ⟨rfl, hown10, hg10⟩
  have hm10 := hg10.cell hm9 (by simp)
  have hB10 := hB9.grown hg10 hB9.size (fun j hj => by cases hj; exact Nat.le_refl _)
  clear hg10 hB9 hm9 hown9
  go_wp2_with fail
  refine (put_new 6 111 rows10 (w.heap.size + 1) w.heap.size 52 D10 _ _ _ _ (by simp) rfl rfl (by decide) (by decide) hm10 (by omega) hown10).mono ?_
  rintro e w11 ⟨rfl, hown11, hg11⟩
  have hm11 := hg11.cell hm10 (by simp)
  have hB11 := hB10.grown hg11 hB10.size (fun j hj => by cases hj; exact Nat.le_refl _)
  clear hg11 hB10 hm10 hown10
  go_wp2_with fail
  refine (put_new 1 103 rows11 (w.heap.size + 1) w.heap.size 53 D11 _ _ _ _ (by simp) rfl rfl (by decide) (by decide) hm11 (by omega) hown11).mono ?_
  rintro e w12 ⟨rfl, hown12, hg12⟩
  have hm12 := hg12.cell hm11 (by simp)
  have hB12 := hB11.grown hg12 hB11.size (fun j hj => by cases hj; exact Nat.le_refl _)
  clear hg12 hB11 hm11 hown11
  go_wp2_with fail
  refine (put_new 7 115 rows12 (w.heap.size + 1) w.heap.size 54 D12 _ _ _ _ (by simp) rfl rfl (by decide) (by decide) hm12 (by omega) hown12).mono ?_
  rintro e w13 ⟨rfl, hown13, hg13⟩
  have hm13 := hg13.cell hm12 (by simp)
  have hB13 := hB12.grown hg13 hB12.size (fun j hj => by cases hj; exact Nat.le_refl _)
  clear hg13 hB12 hm12 hown12
  go_wp2
  go_ret
  exact ⟨rfl, hown13, hB13⟩
end Go.Proofs.YtppcbommaddkgaaDoor
