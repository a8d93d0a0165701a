/- Of two operators the stronger one takes its operands first: the law. Conditions: each theorem's. -/
import Derived.Test.YtgedikdcnhkmdaaParMv
import Derived.Test.YtgedikdcnhkmdaaParPp
import Derived.Test.YtgedikdcnhkmdaaParDe
import Derived.LoopN
import Derived.Deep.QuietTactic
import Derived.BigQuiet
namespace Go.Proofs.Ytgedikdcnhkmdaa
open Go.RowKit Go.Maps
set_option linter.unusedVariables false
set_option linter.unusedSimpArgs false
set_option maxRecDepth 100000
open Lx Pa
def opsArr : Array Value := #[.string ⟨#[124, 124]⟩, .string ⟨#[38, 38]⟩, .string ⟨#[124]⟩, .string ⟨#[94]⟩, .string ⟨#[38]⟩, .string ⟨#[61, 61]⟩, .string ⟨#[33, 61]⟩, .string ⟨#[60]⟩, .string ⟨#[60, 61]⟩, .string ⟨#[62]⟩, .string ⟨#[62, 61]⟩, .string ⟨#[60, 60]⟩, .string ⟨#[62, 62]⟩, .string ⟨#[43]⟩, .string ⟨#[45]⟩, .string ⟨#[42]⟩, .string ⟨#[47]⟩, .string ⟨#[37]⟩]
def strArr : Array Value := #[.int .i64 0, .int .i64 1, .int .i64 2, .int .i64 3, .int .i64 4, .int .i64 5, .int .i64 5, .int .i64 6, .int .i64 6, .int .i64 6, .int .i64 6, .int .i64 7, .int .i64 7, .int .i64 8, .int .i64 8, .int .i64 9, .int .i64 9, .int .i64 9]
theorem ops_at (a : Nat) (h : a < 18) : opsArr[a]? = some (.string (opB a)) := by
  match a, h with
  | 0, _ => rfl
  | 1, _ => rfl
  | 2, _ => rfl
  | 3, _ => rfl
  | 4, _ => rfl
  | 5, _ => rfl
  | 6, _ => rfl
  | 7, _ => rfl
  | 8, _ => rfl
  | 9, _ => rfl
  | 10, _ => rfl
  | 11, _ => rfl
  | 12, _ => rfl
  | 13, _ => rfl
  | 14, _ => rfl
  | 15, _ => rfl
  | 16, _ => rfl
  | 17, _ => rfl
  | n + 18, h => exact absurd h (by omega)
theorem str_at (a : Nat) (h : a < 18) : strArr[a]? = some (.int .i64 (stP a)) := by
  match a, h with
  | 0, _ => rfl
  | 1, _ => rfl
  | 2, _ => rfl
  | 3, _ => rfl
  | 4, _ => rfl
  | 5, _ => rfl
  | 6, _ => rfl
  | 7, _ => rfl
  | 8, _ => rfl
  | 9, _ => rfl
  | 10, _ => rfl
  | 11, _ => rfl
  | 12, _ => rfl
  | 13, _ => rfl
  | 14, _ => rfl
  | 15, _ => rfl
  | 16, _ => rfl
  | 17, _ => rfl
  | n + 18, h => exact absurd h (by omega)
theorem opsSize : (Try.prog.info? 36).map (·.size) = some opsArr.size := by kernel_rfl
theorem strSize : (Try.prog.info? 37).map (·.size) = some strArr.size := by kernel_rfl
theorem opB_size (a : Nat) (h : a < 18) : (opB a).size ≤ 2 := by
  have := (opL_len a h).2
  exact this
def PrS (w1 : World) (a b : Nat) (W : World) : Prop :=
  W.cell? ⟨w1.heap.size, a, none⟩ = some (.string (opB a)) ∧ W.cell? ⟨w1.heap.size, b, none⟩ = some (.string (opB b)) ∧ W.cell? ⟨w1.heap.size + 1, a, none⟩ = some (.int .i64 (stP a)) ∧ W.cell? ⟨w1.heap.size + 1, b, none⟩ = some (.int .i64 (stP b)) ∧ Below w1.heap.size w1 W ∧ w1.heap.size + 2 ≤ W.heap.size
theorem PrS.keep {w1 W W' : World} {a b : Nat} (h : PrS w1 a b W) (hb : Below W.heap.size W W') : PrS w1 a b W' := by
  obtain ⟨c1, c2, c3, c4, bb, z⟩ := h
  refine ⟨(World.cell?_of_block (w := W) (hb.block _ (by show w1.heap.size < W.heap.size; omega))).trans c1, (World.cell?_of_block (w := W) (hb.block _ (by show w1.heap.size < W.heap.size; omega))).trans c2, (World.cell?_of_block (w := W) (hb.block _ (by show w1.heap.size + 1 < W.heap.size; omega))).trans c3, (World.cell?_of_block (w := W) (hb.block _ (by show w1.heap.size + 1 < W.heap.size; omega))).trans c4, bb.trans (hb.mono bb.size), by have := hb.size; omega⟩
theorem PrS.up {w1 W Y : World} {a b g : Nat} {cs : Array Value} {t : TypeId} (h : PrS w1 a b W) (u : Up W g cs t Y) (hg : w1.heap.size + 2 ≤ g) : PrS w1 a b Y := by
  obtain ⟨c1, c2, c3, c4, bb, z⟩ := h
  refine ⟨(World.cell?_of_block (w := W) (u.oth _ (by show w1.heap.size ≠ g; omega))).trans c1, (World.cell?_of_block (w := W) (u.oth _ (by show w1.heap.size ≠ g; omega))).trans c2, (World.cell?_of_block (w := W) (u.oth _ (by show w1.heap.size + 1 ≠ g; omega))).trans c3, (World.cell?_of_block (w := W) (u.oth _ (by show w1.heap.size + 1 ≠ g; omega))).trans c4, u.below bb (by omega), by rw [u.size]; exact z⟩
theorem belowN {B : Nat} {w w' : World} (h : Below B w w') (n : Nat) : Below B w (w'.drewN n) := ⟨h.os, h.tape, h.output, h.size, h.block⟩
theorem kids_two {w : World} {S : Nat → Prop} {k : Int} {o n : ByteArray} {num : Int} {x y : PEx} {ty : PTy} {at_ : Nat} {c : List Value} (h : ExAt w S (.mk k o n num [x, y] ty at_) c) :
    ∃ g of' cap cx cy, c = exL k o n num (.slice (some ⟨g, of', none⟩) 2 cap) ty at_ ∧ 2 ≤ cap ∧ ExAt w S x cx ∧ ExAt w S y cy ∧ (∀ j u, cx[j]? = some u → w.cell? ⟨g, of' + j, none⟩ = some u) ∧ (∀ j u, cy[j]? = some u → w.cell? ⟨g, of' + (9 + j), none⟩ = some u) ∧ g < w.heap.size := by
  obtain ⟨kd, op, nm, num', kids, ty', A, cap, e1, rfl, hk⟩ := h.inv
  injection e1 with a1 a2 a3 a4 a5 a6 a7
  subst a1 a2 a3 a4 a5 a6
  obtain ⟨g, of', cp, cx, e2, l2, _, _, g2, hx, r⟩ := (list_exs hk).get 0 rfl
  obtain ⟨g', of'', cp', cy, e3, l3, _, _, g3, hy, r'⟩ := (list_exs hk).get 1 rfl
  injection e2 with e2 _ e4
  injection e3 with e3 _ e5
  subst e2 e4
  injection e3 with e3
  injection e3 with e3 e6
  subst e3 e6
  refine ⟨g, of', cap, cx, cy, rfl, l2, hx, hy, fun j u hu => ?_, fun j u hu => ?_, g2⟩
  · have := r j u hu; simpa using this
  · have := r' j u hu; exact this
theorem kids_no {w : World} {S : Nat → Prop} {k : Int} {o n : ByteArray} {num : Int} {ty : PTy} {at_ : Nat} {c : List Value} (h : ExAt w S (.mk k o n num [] ty at_) c) : ∃ A cap, c = exL k o n num (.slice A 0 cap) ty at_ := by
  obtain ⟨kd, op, nm, num', kids, ty', A, cap, e1, rfl, hk⟩ := h.inv
  injection e1 with a1 a2 a3 a4 a5 a6 a7
  subst a1 a2 a3 a4 a5 a6
  exact ⟨A, cap, rfl⟩
set_option maxHeartbeats 16000000 in
theorem prec_hi {w : World} (x y : Int) (a b : Nat) (ha : a < 18) (hb : b < 18) (hxa : x.tmod 18 = (a : Int)) (hyb : y.tmod 18 = (b : Int)) (hM : MaxIs w) (hc : stP a < stP b) :
    Calls Try.prog 5 #[.int .u8 x, .int .u8 y] w fun e w' => e = .returned (.bool true) ∧ Below w.heap.size w w' := by
  have a0 : (0 : Int) ≤ (a : Int) := by omega
  have a1 : (a : Int) < 18 := by omega
  have b0 : (0 : Int) ≤ (b : Int) := by omega
  have b1' : (b : Int) < 18 := by omega
  have hOA := opB_size a ha
  have hOB := opB_size b hb
  go_enter Try.func5, Try.ntmps5
  go_wp2_with fail
  refine (awake_any hM).mono ?_
  rintro e w1 ⟨rfl, b1⟩
  have hM1 := hM.keep b1
  have hz1 := b1.size
  clear hM
  go_wp2_with (first | ((with_reducible refine stN 36 w1.heap.size opsArr rfl ?_ ?_ opsSize ?_ ?_ ?_); rfl; rfl; rfl; (simp [opsArr, Value.oneCell'])) | ((with_reducible refine stN 37 (w1.heap.size + 1) strArr ?_ ?_ ?_ strSize ?_ ?_ ?_); (simp); rfl; rfl; rfl; (simp [strArr, Value.oneCell'])))
  have hS0 : PrS w1 a b ((w1.alloc (.cells opsArr 36)).alloc (.cells strArr 37)).drew := by
    have r1 := aa0 w1 (.cells opsArr 36) (.cells strArr 37)
    have r2 := bn (w1.alloc (.cells opsArr 36)) (.cells strArr 37) (k := w1.heap.size + 1) (by simp)
    have hbl : Below w1.heap.size w1 ((w1.alloc (.cells opsArr 36)).alloc (.cells strArr 37)) := (belowA w1 _).alloc (by simp) _
    exact ⟨(cell_of_row _ _ _ _ _ _ r1).trans (ops_at a ha), (cell_of_row _ _ _ _ _ _ r1).trans (ops_at b hb), (cell_of_row _ _ _ _ _ _ r2).trans (str_at a ha), (cell_of_row _ _ _ _ _ _ r2).trans (str_at b hb), hbl.drew, by show w1.heap.size + 2 ≤ ((w1.alloc _).alloc _).heap.size; simp⟩
  have hXl : ((⟨#[105, 110, 116, 32, 102, 40, 41, 32, 123, 32, 118, 32, 61, 32, 119, 32, 61, 32, 49]⟩ : ByteArray) ++ opB a ++ ⟨#[50]⟩ ++ opB b ++ ⟨#[51, 59, 32, 125]⟩).data.toList = preL a b := by simp [ba_app, opB, preL]
  have hPX : parseV ((⟨#[105, 110, 116, 32, 102, 40, 41, 32, 123, 32, 118, 32, 61, 32, 119, 32, 61, 32, 49]⟩ : ByteArray) ++ opB a ++ ⟨#[50]⟩ ++ opB b ++ ⟨#[51, 59, 32, 125]⟩) = (⟨[], [], [fnP (hiT a b)]⟩, 0, 0) := by
    have := prec a b ha hb
    rw [if_pos (by omega)] at this
    rw [ba_ext hXl]
    exact this
  have dc : decide (stP a < stP b) = true := decide_eq_true (by omega)
  refine wp_region_held_drew (S := PrS w1 a b) (by kernel_rfl) (hS0) (fun hHeld => ?_)
  refine wpAnyH_take (i := 0) (oi := ({ dst := some 23, op := Go.Op.move (Go.Operand.tmp 7), type := 5, pos := "law.go:116", after := #[], guard := none } : Oper)) (v := .int .u8 (a : Int)) rfl (by kernel_rfl) (by kernel_rfl) (by kernel_rfl) (fun _ _ _ h => h) (Or.inl ⟨by rfl, ?hy1⟩) (by assumption) ?_
  case hy1 => ((intro W hSW; (try dsimp only at hSW); go_simp); (try with_reducible rfl); (try exact ⟨rfl, rfl, rfl⟩))
  simp only [Act.put, List.setIfInBounds_toArray, List.set_cons_zero, List.set_cons_succ]
  refine wpAnyH_take (i := 1) (oi := ({ dst := some 24, op := Go.Op.indexAddr 36 (Go.Operand.tmp 5) (Go.Operand.tmp 23), type := 0, pos := "law.go:116", after := #[{ on := 0, ground := Go.Ground.data }], guard := none } : Oper)) (v := .pointer (some ⟨w1.heap.size, a, none⟩)) rfl (by kernel_rfl) (by kernel_rfl) (by kernel_rfl) (fun _ _ _ h => h) (Or.inl ⟨by rfl, ?hy2⟩) (by assumption) ?_
  case hy2 => ((intro W hSW; (try dsimp only at hSW); go_simp); (try with_reducible rfl); (try exact ⟨rfl, rfl, rfl⟩))
  simp only [Act.put, List.setIfInBounds_toArray, List.set_cons_zero, List.set_cons_succ]
  refine wpAnyH_take (i := 2) (oi := ({ dst := some 25, op := Go.Op.load 9 (Go.Operand.tmp 24), type := 9, pos := "law.go:116", after := #[{ on := 1, ground := Go.Ground.data }], guard := none } : Oper)) (v := .string (opB a)) rfl (by kernel_rfl) (by kernel_rfl) (by kernel_rfl) (fun _ _ _ h => h) (Or.inl ⟨by rfl, ?hy3⟩) (by assumption) ?_
  case hy3 => ((intro W hSW; obtain ⟨c1, c2, -, -, -, -⟩ := hSW; go_simp); (try with_reducible rfl); (try exact ⟨rfl, rfl, rfl⟩))
  simp only [Act.put, List.setIfInBounds_toArray, List.set_cons_zero, List.set_cons_succ]
  refine wpAnyH_take (i := 3) (oi := ({ dst := some 26, op := Go.Op.binOp Go.BinOp.add 9 (Go.Operand.const (Go.Value.string { data := #[105, 110, 116, 32, 102, 40, 41, 32, 123, 32, 118, 32, 61, 32, 119, 32, 61, 32, 49] })) (Go.Operand.tmp 25) 9, type := 9, pos := "law.go:116", after := #[{ on := 2, ground := Go.Ground.data }], guard := none } : Oper)) (v := .string (((⟨#[105, 110, 116, 32, 102, 40, 41, 32, 123, 32, 118, 32, 61, 32, 119, 32, 61, 32, 49]⟩ : ByteArray) ++ opB a))) rfl (by kernel_rfl) (by kernel_rfl) (by kernel_rfl) (fun _ _ _ h => h) (Or.inl ⟨by rfl, ?hy4⟩) (by assumption) ?_
  case hy4 => ((intro W hSW; go_simp; (try omega)); (try with_reducible rfl); (try exact ⟨rfl, rfl, rfl⟩))
  simp only [Act.put, List.setIfInBounds_toArray, List.set_cons_zero, List.set_cons_succ]
  refine wpAnyH_take (i := 4) (oi := ({ dst := some 27, op := Go.Op.binOp Go.BinOp.add 9 (Go.Operand.tmp 26) (Go.Operand.const (Go.Value.string { data := #[50] })) 9, type := 9, pos := "law.go:116", after := #[{ on := 3, ground := Go.Ground.data }], guard := none } : Oper)) (v := .string (((⟨#[105, 110, 116, 32, 102, 40, 41, 32, 123, 32, 118, 32, 61, 32, 119, 32, 61, 32, 49]⟩ : ByteArray) ++ opB a) ++ ⟨#[50]⟩)) rfl (by kernel_rfl) (by kernel_rfl) (by kernel_rfl) (fun _ _ _ h => h) (Or.inl ⟨by rfl, ?hy5⟩) (by assumption) ?_
  case hy5 => ((intro W hSW; go_simp; (try omega)); (try with_reducible rfl); (try exact ⟨rfl, rfl, rfl⟩))
  simp only [Act.put, List.setIfInBounds_toArray, List.set_cons_zero, List.set_cons_succ]
  refine wpAnyH_take (i := 5) (oi := ({ dst := some 28, op := Go.Op.move (Go.Operand.tmp 8), type := 5, pos := "law.go:116", after := #[], guard := none } : Oper)) (v := .int .u8 (b : Int)) rfl (by kernel_rfl) (by kernel_rfl) (by kernel_rfl) (fun _ _ _ h => h) (Or.inl ⟨by rfl, ?hy6⟩) (by assumption) ?_
  case hy6 => ((intro W hSW; (try dsimp only at hSW); go_simp); (try with_reducible rfl); (try exact ⟨rfl, rfl, rfl⟩))
  simp only [Act.put, List.setIfInBounds_toArray, List.set_cons_zero, List.set_cons_succ]
  refine wpAnyH_take (i := 6) (oi := ({ dst := some 29, op := Go.Op.indexAddr 36 (Go.Operand.tmp 5) (Go.Operand.tmp 28), type := 0, pos := "law.go:116", after := #[{ on := 5, ground := Go.Ground.data }], guard := none } : Oper)) (v := .pointer (some ⟨w1.heap.size, b, none⟩)) rfl (by kernel_rfl) (by kernel_rfl) (by kernel_rfl) (fun _ _ _ h => h) (Or.inl ⟨by rfl, ?hy7⟩) (by assumption) ?_
  case hy7 => ((intro W hSW; (try dsimp only at hSW); go_simp); (try with_reducible rfl); (try exact ⟨rfl, rfl, rfl⟩))
  simp only [Act.put, List.setIfInBounds_toArray, List.set_cons_zero, List.set_cons_succ]
  refine wpAnyH_take (i := 7) (oi := ({ dst := some 30, op := Go.Op.load 9 (Go.Operand.tmp 29), type := 9, pos := "law.go:116", after := #[{ on := 6, ground := Go.Ground.data }], guard := none } : Oper)) (v := .string (opB b)) rfl (by kernel_rfl) (by kernel_rfl) (by kernel_rfl) (fun _ _ _ h => h) (Or.inl ⟨by rfl, ?hy8⟩) (by assumption) ?_
  case hy8 => ((intro W hSW; obtain ⟨c1, c2, -, -, -, -⟩ := hSW; go_simp); (try with_reducible rfl); (try exact ⟨rfl, rfl, rfl⟩))
  simp only [Act.put, List.setIfInBounds_toArray, List.set_cons_zero, List.set_cons_succ]
  refine wpAnyH_take (i := 8) (oi := ({ dst := some 31, op := Go.Op.binOp Go.BinOp.add 9 (Go.Operand.tmp 27) (Go.Operand.tmp 30) 9, type := 9, pos := "law.go:116", after := #[{ on := 4, ground := Go.Ground.data }, { on := 7, ground := Go.Ground.data }], guard := none } : Oper)) (v := .string (((⟨#[105, 110, 116, 32, 102, 40, 41, 32, 123, 32, 118, 32, 61, 32, 119, 32, 61, 32, 49]⟩ : ByteArray) ++ opB a) ++ ⟨#[50]⟩ ++ opB b)) rfl (by kernel_rfl) (by kernel_rfl) (by kernel_rfl) (fun _ _ _ h => h) (Or.inl ⟨by rfl, ?hy9⟩) (by assumption) ?_
  case hy9 => ((intro W hSW; go_simp; (try omega)); (try with_reducible rfl); (try exact ⟨rfl, rfl, rfl⟩))
  simp only [Act.put, List.setIfInBounds_toArray, List.set_cons_zero, List.set_cons_succ]
  refine wpAnyH_take (i := 9) (oi := ({ dst := some 32, op := Go.Op.binOp Go.BinOp.add 9 (Go.Operand.tmp 31) (Go.Operand.const (Go.Value.string { data := #[51, 59, 32, 125] })) 9, type := 9, pos := "law.go:116", after := #[{ on := 8, ground := Go.Ground.data }], guard := none } : Oper)) (v := .string (((⟨#[105, 110, 116, 32, 102, 40, 41, 32, 123, 32, 118, 32, 61, 32, 119, 32, 61, 32, 49]⟩ : ByteArray) ++ opB a) ++ ⟨#[50]⟩ ++ opB b ++ ⟨#[51, 59, 32, 125]⟩)) rfl (by kernel_rfl) (by kernel_rfl) (by kernel_rfl) (fun _ _ _ h => h) (Or.inl ⟨by rfl, ?hy10⟩) (by assumption) ?_
  case hy10 => ((intro W hSW; go_simp; (try omega)); (try with_reducible rfl); (try exact ⟨rfl, rfl, rfl⟩))
  simp only [Act.put, List.setIfInBounds_toArray, List.set_cons_zero, List.set_cons_succ]
  refine wpAnyH_ready (rs := [10, 15]) (by kernel_rfl) (by simp) ?_
  refine (AllReadyH.cons (i := 10) (o := ({ dst := some 33, op := Go.Op.call { callee := Go.Callee.value (Go.Operand.func 8), args := #[Go.Operand.tmp 32], argTypes := #[9] }, type := 29, pos := "law.go:116", after := #[{ on := 9, ground := Go.Ground.data }], guard := none } : Oper)) rfl (fun K hK => ?_) (AllReadyH.cons (i := 15) (o := ({ dst := some 9, op := Go.Op.alloc 27, type := 0, pos := "law.go:116", after := #[], guard := none } : Oper)) rfl (fun K hK => ?_) AllReadyH.nil))
  · have hp := parse_any ((⟨#[105, 110, 116, 32, 102, 40, 41, 32, 123, 32, 118, 32, 61, 32, 119, 32, 61, 32, 49]⟩ : ByteArray) ++ opB a ++ ⟨#[50]⟩ ++ opB b ++ ⟨#[51, 59, 32, 125]⟩) (((w1.alloc (.cells opsArr 36)).alloc (.cells strArr 37)).drew) (by rw [← sz, hXl]; have h1 := (opL_len a ha).2; have h2 := (opL_len b hb).2; simp [preL]; omega) (hM1.keep hHeld.2.2.2.2.1)
    unfold ParseP at hp
    rw [hPX] at hp
    go_simp
    refine hp.mono ?_
    rintro e w4 ⟨vs, vv, vf, rfl, hpa, b4⟩
    have HONE := Lib.hid hpa.one
    try go_wp2_with fail
    refine hK.out _ _ (hHeld.keep b4) (fun hHeld => ?_)
    clear hK K
    try simp only [Act.put, List.setIfInBounds_toArray, List.set_cons_zero, List.set_cons_succ]
    refine wpAnyH_take (i := 11) (oi := ({ dst := some 22, op := Go.Op.move (Go.Operand.tmp 33), type := 29, pos := "law.go:116", after := #[{ on := 10, ground := Go.Ground.data }], guard := none } : Oper)) (v := .tuple #[.agg #[vs, vv, vf], .int .i64 0, .int .i64 0]) rfl (by kernel_rfl) (by kernel_rfl) (by kernel_rfl) (fun _ _ _ h => h) (Or.inl ⟨by rfl, ?hy11⟩) (by assumption) ?_
    case hy11 => ((intro W hSW; (try dsimp only at hSW); go_simp); (try with_reducible rfl); (try exact ⟨rfl, rfl, rfl⟩))
    simp only [Act.put, List.setIfInBounds_toArray, List.set_cons_zero, List.set_cons_succ]
    refine wpAnyH_take (i := 12) (oi := ({ dst := some 34, op := Go.Op.extract (Go.Operand.tmp 22) 0, type := 27, pos := "law.go:116", after := #[{ on := 11, ground := Go.Ground.data }], guard := none } : Oper)) (v := .agg #[vs, vv, vf]) rfl (by kernel_rfl) (by kernel_rfl) (by kernel_rfl) (fun _ _ _ h => h) (Or.inl ⟨by rfl, ?hy12⟩) (by assumption) ?_
    case hy12 => ((intro W hSW; (try dsimp only at hSW); go_simp); (try with_reducible rfl); (try exact ⟨rfl, rfl, rfl⟩))
    simp only [Act.put, List.setIfInBounds_toArray, List.set_cons_zero, List.set_cons_succ]
    refine wpAnyH_take (i := 13) (oi := ({ dst := some 35, op := Go.Op.extract (Go.Operand.tmp 22) 1, type := 3, pos := "law.go:116", after := #[{ on := 11, ground := Go.Ground.data }, { on := 16, ground := Go.Ground.gcOnly Go.Departure.lateStores }], guard := none } : Oper)) (v := .int .i64 0) rfl (by kernel_rfl) (by kernel_rfl) (by kernel_rfl) (fun _ _ _ h => h) (Or.inl ⟨by rfl, ?hy13⟩) (by assumption) ?_
    case hy13 => ((intro W hSW; (try dsimp only at hSW); go_simp); (try with_reducible rfl); (try exact ⟨rfl, rfl, rfl⟩))
    simp only [Act.put, List.setIfInBounds_toArray, List.set_cons_zero, List.set_cons_succ]
    refine wpAnyH_take (i := 14) (oi := ({ dst := some 36, op := Go.Op.extract (Go.Operand.tmp 22) 2, type := 28, pos := "law.go:116", after := #[{ on := 11, ground := Go.Ground.data }, { on := 17, ground := Go.Ground.gcOnly Go.Departure.lateStores }], guard := none } : Oper)) (v := .int .i64 0) rfl (by kernel_rfl) (by kernel_rfl) (by kernel_rfl) (fun _ _ _ h => h) (Or.inl ⟨by rfl, ?hy14⟩) (by assumption) ?_
    case hy14 => ((intro W hSW; (try dsimp only at hSW); go_simp); (try with_reducible rfl); (try exact ⟨rfl, rfl, rfl⟩))
    simp only [Act.put, List.setIfInBounds_toArray, List.set_cons_zero, List.set_cons_succ]
    refine wpAnyH_ready (rs := [15]) (by kernel_rfl) (by simp) ?_
    refine (AllReadyH.cons (i := 15) (o := ({ dst := some 9, op := Go.Op.alloc 27, type := 0, pos := "law.go:116", after := #[], guard := none } : Oper)) rfl (fun K hK => ?_) AllReadyH.nil)
    have hbp := hHeld.2.2.2.2.2
    have HBP := Lib.hid (heap_alloc_new w4 (.cells prZ 27))
    go_simp
    refine hK.out _ _ (hHeld.keep (belowA _ _)) (fun hHeld => ?_)
    clear hK K
    try simp only [Act.put, List.setIfInBounds_toArray, List.set_cons_zero, List.set_cons_succ]
    refine wpAnyH_ready (rs := [16]) (by kernel_rfl) (by simp) ?_
    refine (AllReadyH.cons (i := 16) (o := ({ dst := none, op := Go.Op.store 27 (Go.Operand.tmp 9) (Go.Operand.tmp 34), type := 0, pos := "law.go:116", after := #[{ on := 15, ground := Go.Ground.data }, { on := 12, ground := Go.Ground.data }, { on := 10, ground := Go.Ground.chain }, { on := 0, ground := Go.Ground.phase }, { on := 1, ground := Go.Ground.phase }, { on := 2, ground := Go.Ground.phase }, { on := 3, ground := Go.Ground.phase }, { on := 4, ground := Go.Ground.phase }, { on := 5, ground := Go.Ground.phase }, { on := 6, ground := Go.Ground.phase }, { on := 7, ground := Go.Ground.phase }, { on := 8, ground := Go.Ground.phase }, { on := 9, ground := Go.Ground.phase }, { on := 10, ground := Go.Ground.phase }, { on := 11, ground := Go.Ground.phase }, { on := 12, ground := Go.Ground.phase }, { on := 13, ground := Go.Ground.textOnly Go.Departure.lateStores }, { on := 14, ground := Go.Ground.textOnly Go.Departure.lateStores }, { on := 15, ground := Go.Ground.phase }], guard := none } : Oper)) rfl (fun K hK => ?_) AllReadyH.nil)
    rw [if_pos (by rfl)]
    refine wp_stG 27 w4.heap.size #[vs, vv, vf] (by rfl) (by rfl) HBP.out sizePr rfl HONE.out ?_
    intro Y hY
    have HY := Lib.hid hY
    clear hY
    refine hK.out _ _ (hHeld.up HY.out hbp) (fun hHeld => ?_)
    clear hK K
    try simp only [Act.put, List.setIfInBounds_toArray, List.set_cons_zero, List.set_cons_succ]
    refine wpAnyH_take (i := 17) (oi := ({ dst := some 10, op := Go.Op.assign (Go.Operand.tmp 35), type := 3, pos := "law.go:116", after := #[{ on := 13, ground := Go.Ground.data }, { on := 16, ground := Go.Ground.chain }, { on := 0, ground := Go.Ground.phase }, { on := 1, ground := Go.Ground.phase }, { on := 2, ground := Go.Ground.phase }, { on := 3, ground := Go.Ground.phase }, { on := 4, ground := Go.Ground.phase }, { on := 5, ground := Go.Ground.phase }, { on := 6, ground := Go.Ground.phase }, { on := 7, ground := Go.Ground.phase }, { on := 8, ground := Go.Ground.phase }, { on := 9, ground := Go.Ground.phase }, { on := 10, ground := Go.Ground.phase }, { on := 11, ground := Go.Ground.phase }, { on := 12, ground := Go.Ground.phase }, { on := 13, ground := Go.Ground.phase }, { on := 14, ground := Go.Ground.textOnly Go.Departure.lateStores }, { on := 15, ground := Go.Ground.phase }, { on := 16, ground := Go.Ground.phase }], guard := none } : Oper)) (v := .int .i64 0) rfl (by kernel_rfl) (by kernel_rfl) (by kernel_rfl) (fun _ _ _ h => h) (Or.inl ⟨by rfl, ?hy15⟩) (by assumption) ?_
    case hy15 => ((intro W hSW; (try dsimp only at hSW); go_simp); (try with_reducible rfl); (try exact ⟨rfl, rfl, rfl⟩))
    simp only [Act.put, List.setIfInBounds_toArray, List.set_cons_zero, List.set_cons_succ]
    refine wpAnyH_take (i := 18) (oi := ({ dst := some 11, op := Go.Op.assign (Go.Operand.tmp 36), type := 28, pos := "law.go:116", after := #[{ on := 14, ground := Go.Ground.data }, { on := 17, ground := Go.Ground.chain }, { on := 0, ground := Go.Ground.phase }, { on := 1, ground := Go.Ground.phase }, { on := 2, ground := Go.Ground.phase }, { on := 3, ground := Go.Ground.phase }, { on := 4, ground := Go.Ground.phase }, { on := 5, ground := Go.Ground.phase }, { on := 6, ground := Go.Ground.phase }, { on := 7, ground := Go.Ground.phase }, { on := 8, ground := Go.Ground.phase }, { on := 9, ground := Go.Ground.phase }, { on := 10, ground := Go.Ground.phase }, { on := 11, ground := Go.Ground.phase }, { on := 12, ground := Go.Ground.phase }, { on := 13, ground := Go.Ground.phase }, { on := 14, ground := Go.Ground.phase }, { on := 15, ground := Go.Ground.phase }, { on := 16, ground := Go.Ground.phase }, { on := 17, ground := Go.Ground.phase }], guard := none } : Oper)) (v := .int .i64 0) rfl (by kernel_rfl) (by kernel_rfl) (by kernel_rfl) (fun _ _ _ h => h) (Or.inl ⟨by rfl, ?hy16⟩) (by assumption) ?_
    case hy16 => ((intro W hSW; (try dsimp only at hSW); go_simp); (try with_reducible rfl); (try exact ⟨rfl, rfl, rfl⟩))
    simp only [Act.put, List.setIfInBounds_toArray, List.set_cons_zero, List.set_cons_succ]
    refine wpAnyH_done (by kernel_rfl) ?_ _
    have hpaY := hpa.keep (w' := Y) (S' := fun g => g ≠ w4.heap.size) (fun g hg hl => ⟨by omega, (HY.out.oth g (by omega)).trans (Below.heap_alloc _ _ _ hl)⟩) (by rw [HY.out.size]; simp)
    have PS := Lib.hid hHeld
    obtain ⟨gf, of', cf, gk, ok, ck, gx, ox, cx, c, rfl, lf, q1, lk, q2, lx, hx, q3, g1, g2, g3⟩ := prog_view hpaY rfl rfl
    obtain ⟨k1, o1, n1, c1, d1, rfl, l1, hx1, hy1, r1, r2, s1⟩ := kids_two hx
    obtain ⟨k2, o2, n2, c2, d2, rfl, l2, hx2, hy2, r3, r4, s2⟩ := kids_two hy1
    obtain ⟨k3, o3, n3, c3, d3, rfl, l3, hx3, hy3, r5, r6, s3⟩ := kids_two hy2
    obtain ⟨A3, p3, rfl⟩ := kids_no hx3
    obtain ⟨k4, o4, n4, c4, d4, rfl, l4, hx4, hy4, r7, r8, s4⟩ := kids_two hy3
    obtain ⟨A1, p1, rfl⟩ := kids_no hx1
    obtain ⟨A2, p2, rfl⟩ := kids_no hx2
    have HPA := Lib.hid (HY.out.at_)
    have HBW := Lib.hid (b1.trans (hHeld.2.2.2.2.1.mono hz1))
    have y2 : Y.cell? ⟨w4.heap.size, 2, none⟩ = some (.slice (some ⟨gf, of', none⟩) 1 cf) := by rw [cell_of_row _ _ _ _ _ _ HPA.out]; rfl
    have x0 := q3 0 _ rfl
    have x1 := q3 1 _ rfl
    have x2 := q3 2 _ rfl
    have x3 := q3 3 _ rfl
    have x4 := q3 4 _ rfl
    have x5 := q3 5 _ rfl
    have x6 := q3 6 _ rfl
    have x7 := q3 7 _ rfl
    have x8 := q3 8 _ rfl
    have u0 := r2 0 _ rfl
    have u1 := r2 1 _ rfl
    have u2 := r2 2 _ rfl
    have u3 := r2 3 _ rfl
    have u4 := r2 4 _ rfl
    have u5 := r2 5 _ rfl
    have u6 := r2 6 _ rfl
    have u7 := r2 7 _ rfl
    have u8 := r2 8 _ rfl
    have t0 := r4 0 _ rfl
    have t1 := r4 1 _ rfl
    have t2 := r4 2 _ rfl
    have t3 := r4 3 _ rfl
    have t4 := r4 4 _ rfl
    have t5 := r4 5 _ rfl
    have t6 := r4 6 _ rfl
    have t7 := r4 7 _ rfl
    have t8 := r4 8 _ rfl
    have v3 := r5 3 _ rfl
    have v10 := r6 1 _ rfl
    have n0 := r1 0 _ rfl
    have m0 := r3 0 _ rfl
    obtain ⟨e1, e2, e3, e4, eb, ez⟩ := PS.out
    have zb : w1.heap.size < Y.heap.size := by omega
    have zc : w1.heap.size + 1 < Y.heap.size := by omega
    have zp := lt_of_at HPA.out
    clear q3 r1 r2 r3 r4 r5 r6 hx hx1 hy1 hx2 hy2 hpaY hHeld hpa b4 eb ez hbp
    simp only [Nat.add_zero] at *
    go_wp2
    refine wp_loop_rounds 3 ?_
    rw [rounds_succ]
    go_wp2
    rw [rounds_succ]
    go_wp2
    rw [rounds_succ]
    go_wp2
    go_quiet (fail)
    go_wp2
    go_quiet (fail)
    go_wp2
    go_ret
    exact ⟨rfl, belowN (belowN (HBW.out.alloc (by have := hz1; omega) _) _) _⟩
  · have hbp : w1.heap.size + 2 ≤ w1.heap.size + 1 + 1 := by omega
    have HBPa := Lib.hid (bn (((w1.alloc (.cells opsArr 36)).alloc (.cells strArr 37)).drew) (.cells prZ 27) (k := w1.heap.size + 1 + 1) (by show ((w1.alloc _).alloc _).heap.size = _; simp))
    go_simp
    refine hK.out _ _ (hHeld.keep (belowA _ _)) (fun hHeld => ?_)
    clear hK K
    try simp only [Act.put, List.setIfInBounds_toArray, List.set_cons_zero, List.set_cons_succ]
    refine wpAnyH_ready (rs := [10]) (by kernel_rfl) (by simp) ?_
    refine (AllReadyH.cons (i := 10) (o := ({ dst := some 33, op := Go.Op.call { callee := Go.Callee.value (Go.Operand.func 8), args := #[Go.Operand.tmp 32], argTypes := #[9] }, type := 29, pos := "law.go:116", after := #[{ on := 9, ground := Go.Ground.data }], guard := none } : Oper)) rfl (fun K hK => ?_) AllReadyH.nil)
    have hp := parse_any ((⟨#[105, 110, 116, 32, 102, 40, 41, 32, 123, 32, 118, 32, 61, 32, 119, 32, 61, 32, 49]⟩ : ByteArray) ++ opB a ++ ⟨#[50]⟩ ++ opB b ++ ⟨#[51, 59, 32, 125]⟩) ((((w1.alloc (.cells opsArr 36)).alloc (.cells strArr 37)).drew).alloc (.cells prZ 27)) (by rw [← sz, hXl]; have h1 := (opL_len a ha).2; have h2 := (opL_len b hb).2; simp [preL]; omega) (hM1.keep hHeld.2.2.2.2.1)
    unfold ParseP at hp
    rw [hPX] at hp
    go_simp
    refine hp.mono ?_
    rintro e w4 ⟨vs, vv, vf, rfl, hpa, b4⟩
    have HONE := Lib.hid hpa.one
    have HBP := Lib.hid ((b4.block _ (by rw [szA]; show w1.heap.size + 1 + 1 < ((w1.alloc _).alloc _).heap.size + 1; simp)).trans HBPa.out)
    try go_wp2_with fail
    refine hK.out _ _ (hHeld.keep b4) (fun hHeld => ?_)
    clear hK K
    try simp only [Act.put, List.setIfInBounds_toArray, List.set_cons_zero, List.set_cons_succ]
    refine wpAnyH_take (i := 11) (oi := ({ dst := some 22, op := Go.Op.move (Go.Operand.tmp 33), type := 29, pos := "law.go:116", after := #[{ on := 10, ground := Go.Ground.data }], guard := none } : Oper)) (v := .tuple #[.agg #[vs, vv, vf], .int .i64 0, .int .i64 0]) rfl (by kernel_rfl) (by kernel_rfl) (by kernel_rfl) (fun _ _ _ h => h) (Or.inl ⟨by rfl, ?hy17⟩) (by assumption) ?_
    case hy17 => ((intro W hSW; (try dsimp only at hSW); go_simp); (try with_reducible rfl); (try exact ⟨rfl, rfl, rfl⟩))
    simp only [Act.put, List.setIfInBounds_toArray, List.set_cons_zero, List.set_cons_succ]
    refine wpAnyH_take (i := 12) (oi := ({ dst := some 34, op := Go.Op.extract (Go.Operand.tmp 22) 0, type := 27, pos := "law.go:116", after := #[{ on := 11, ground := Go.Ground.data }], guard := none } : Oper)) (v := .agg #[vs, vv, vf]) rfl (by kernel_rfl) (by kernel_rfl) (by kernel_rfl) (fun _ _ _ h => h) (Or.inl ⟨by rfl, ?hy18⟩) (by assumption) ?_
    case hy18 => ((intro W hSW; (try dsimp only at hSW); go_simp); (try with_reducible rfl); (try exact ⟨rfl, rfl, rfl⟩))
    simp only [Act.put, List.setIfInBounds_toArray, List.set_cons_zero, List.set_cons_succ]
    refine wpAnyH_take (i := 13) (oi := ({ dst := some 35, op := Go.Op.extract (Go.Operand.tmp 22) 1, type := 3, pos := "law.go:116", after := #[{ on := 11, ground := Go.Ground.data }, { on := 16, ground := Go.Ground.gcOnly Go.Departure.lateStores }], guard := none } : Oper)) (v := .int .i64 0) rfl (by kernel_rfl) (by kernel_rfl) (by kernel_rfl) (fun _ _ _ h => h) (Or.inl ⟨by rfl, ?hy19⟩) (by assumption) ?_
    case hy19 => ((intro W hSW; (try dsimp only at hSW); go_simp); (try with_reducible rfl); (try exact ⟨rfl, rfl, rfl⟩))
    simp only [Act.put, List.setIfInBounds_toArray, List.set_cons_zero, List.set_cons_succ]
    refine wpAnyH_take (i := 14) (oi := ({ dst := some 36, op := Go.Op.extract (Go.Operand.tmp 22) 2, type := 28, pos := "law.go:116", after := #[{ on := 11, ground := Go.Ground.data }, { on := 17, ground := Go.Ground.gcOnly Go.Departure.lateStores }], guard := none } : Oper)) (v := .int .i64 0) rfl (by kernel_rfl) (by kernel_rfl) (by kernel_rfl) (fun _ _ _ h => h) (Or.inl ⟨by rfl, ?hy20⟩) (by assumption) ?_
    case hy20 => ((intro W hSW; (try dsimp only at hSW); go_simp); (try with_reducible rfl); (try exact ⟨rfl, rfl, rfl⟩))
    simp only [Act.put, List.setIfInBounds_toArray, List.set_cons_zero, List.set_cons_succ]
    refine wpAnyH_ready (rs := [16]) (by kernel_rfl) (by simp) ?_
    refine (AllReadyH.cons (i := 16) (o := ({ dst := none, op := Go.Op.store 27 (Go.Operand.tmp 9) (Go.Operand.tmp 34), type := 0, pos := "law.go:116", after := #[{ on := 15, ground := Go.Ground.data }, { on := 12, ground := Go.Ground.data }, { on := 10, ground := Go.Ground.chain }, { on := 0, ground := Go.Ground.phase }, { on := 1, ground := Go.Ground.phase }, { on := 2, ground := Go.Ground.phase }, { on := 3, ground := Go.Ground.phase }, { on := 4, ground := Go.Ground.phase }, { on := 5, ground := Go.Ground.phase }, { on := 6, ground := Go.Ground.phase }, { on := 7, ground := Go.Ground.phase }, { on := 8, ground := Go.Ground.phase }, { on := 9, ground := Go.Ground.phase }, { on := 10, ground := Go.Ground.phase }, { on := 11, ground := Go.Ground.phase }, { on := 12, ground := Go.Ground.phase }, { on := 13, ground := Go.Ground.textOnly Go.Departure.lateStores }, { on := 14, ground := Go.Ground.textOnly Go.Departure.lateStores }, { on := 15, ground := Go.Ground.phase }], guard := none } : Oper)) rfl (fun K hK => ?_) AllReadyH.nil)
    rw [if_pos (by rfl)]
    refine wp_stG 27 (w1.heap.size + 1 + 1) #[vs, vv, vf] (by rfl) (by rfl) HBP.out sizePr rfl HONE.out ?_
    intro Y hY
    have HY := Lib.hid hY
    clear hY
    refine hK.out _ _ (hHeld.up HY.out hbp) (fun hHeld => ?_)
    clear hK K
    try simp only [Act.put, List.setIfInBounds_toArray, List.set_cons_zero, List.set_cons_succ]
    refine wpAnyH_take (i := 17) (oi := ({ dst := some 10, op := Go.Op.assign (Go.Operand.tmp 35), type := 3, pos := "law.go:116", after := #[{ on := 13, ground := Go.Ground.data }, { on := 16, ground := Go.Ground.chain }, { on := 0, ground := Go.Ground.phase }, { on := 1, ground := Go.Ground.phase }, { on := 2, ground := Go.Ground.phase }, { on := 3, ground := Go.Ground.phase }, { on := 4, ground := Go.Ground.phase }, { on := 5, ground := Go.Ground.phase }, { on := 6, ground := Go.Ground.phase }, { on := 7, ground := Go.Ground.phase }, { on := 8, ground := Go.Ground.phase }, { on := 9, ground := Go.Ground.phase }, { on := 10, ground := Go.Ground.phase }, { on := 11, ground := Go.Ground.phase }, { on := 12, ground := Go.Ground.phase }, { on := 13, ground := Go.Ground.phase }, { on := 14, ground := Go.Ground.textOnly Go.Departure.lateStores }, { on := 15, ground := Go.Ground.phase }, { on := 16, ground := Go.Ground.phase }], guard := none } : Oper)) (v := .int .i64 0) rfl (by kernel_rfl) (by kernel_rfl) (by kernel_rfl) (fun _ _ _ h => h) (Or.inl ⟨by rfl, ?hy21⟩) (by assumption) ?_
    case hy21 => ((intro W hSW; (try dsimp only at hSW); go_simp); (try with_reducible rfl); (try exact ⟨rfl, rfl, rfl⟩))
    simp only [Act.put, List.setIfInBounds_toArray, List.set_cons_zero, List.set_cons_succ]
    refine wpAnyH_take (i := 18) (oi := ({ dst := some 11, op := Go.Op.assign (Go.Operand.tmp 36), type := 28, pos := "law.go:116", after := #[{ on := 14, ground := Go.Ground.data }, { on := 17, ground := Go.Ground.chain }, { on := 0, ground := Go.Ground.phase }, { on := 1, ground := Go.Ground.phase }, { on := 2, ground := Go.Ground.phase }, { on := 3, ground := Go.Ground.phase }, { on := 4, ground := Go.Ground.phase }, { on := 5, ground := Go.Ground.phase }, { on := 6, ground := Go.Ground.phase }, { on := 7, ground := Go.Ground.phase }, { on := 8, ground := Go.Ground.phase }, { on := 9, ground := Go.Ground.phase }, { on := 10, ground := Go.Ground.phase }, { on := 11, ground := Go.Ground.phase }, { on := 12, ground := Go.Ground.phase }, { on := 13, ground := Go.Ground.phase }, { on := 14, ground := Go.Ground.phase }, { on := 15, ground := Go.Ground.phase }, { on := 16, ground := Go.Ground.phase }, { on := 17, ground := Go.Ground.phase }], guard := none } : Oper)) (v := .int .i64 0) rfl (by kernel_rfl) (by kernel_rfl) (by kernel_rfl) (fun _ _ _ h => h) (Or.inl ⟨by rfl, ?hy22⟩) (by assumption) ?_
    case hy22 => ((intro W hSW; (try dsimp only at hSW); go_simp); (try with_reducible rfl); (try exact ⟨rfl, rfl, rfl⟩))
    simp only [Act.put, List.setIfInBounds_toArray, List.set_cons_zero, List.set_cons_succ]
    refine wpAnyH_done (by kernel_rfl) ?_ _
    have hpaY := hpa.keep (w' := Y) (S' := fun g => g ≠ w1.heap.size + 1 + 1) (fun g hg hl => by
        have hg2 : w1.heap.size + 3 ≤ g := by have h9 : ((((w1.alloc (.cells opsArr 36)).alloc (.cells strArr 37)).drew).alloc (.cells prZ 27)).heap.size ≤ g := hg; rw [szA] at h9; have h8 : ((w1.alloc (.cells opsArr 36)).alloc (.cells strArr 37)).heap.size + 1 ≤ g := h9; rw [szA, szA] at h8; omega
        exact ⟨by omega, HY.out.oth g (by omega)⟩) (Nat.le_of_eq HY.out.size.symm)
    have PS := Lib.hid hHeld
    obtain ⟨gf, of', cf, gk, ok, ck, gx, ox, cx, c, rfl, lf, q1, lk, q2, lx, hx, q3, g1, g2, g3⟩ := prog_view hpaY rfl rfl
    obtain ⟨k1, o1, n1, c1, d1, rfl, l1, hx1, hy1, r1, r2, s1⟩ := kids_two hx
    obtain ⟨k2, o2, n2, c2, d2, rfl, l2, hx2, hy2, r3, r4, s2⟩ := kids_two hy1
    obtain ⟨k3, o3, n3, c3, d3, rfl, l3, hx3, hy3, r5, r6, s3⟩ := kids_two hy2
    obtain ⟨A3, p3, rfl⟩ := kids_no hx3
    obtain ⟨k4, o4, n4, c4, d4, rfl, l4, hx4, hy4, r7, r8, s4⟩ := kids_two hy3
    obtain ⟨A1, p1, rfl⟩ := kids_no hx1
    obtain ⟨A2, p2, rfl⟩ := kids_no hx2
    have HPA := Lib.hid (HY.out.at_)
    have HBW := Lib.hid (b1.trans (hHeld.2.2.2.2.1.mono hz1))
    have y2 : Y.cell? ⟨(w1.heap.size + 1 + 1), 2, none⟩ = some (.slice (some ⟨gf, of', none⟩) 1 cf) := by rw [cell_of_row _ _ _ _ _ _ HPA.out]; rfl
    have x0 := q3 0 _ rfl
    have x1 := q3 1 _ rfl
    have x2 := q3 2 _ rfl
    have x3 := q3 3 _ rfl
    have x4 := q3 4 _ rfl
    have x5 := q3 5 _ rfl
    have x6 := q3 6 _ rfl
    have x7 := q3 7 _ rfl
    have x8 := q3 8 _ rfl
    have u0 := r2 0 _ rfl
    have u1 := r2 1 _ rfl
    have u2 := r2 2 _ rfl
    have u3 := r2 3 _ rfl
    have u4 := r2 4 _ rfl
    have u5 := r2 5 _ rfl
    have u6 := r2 6 _ rfl
    have u7 := r2 7 _ rfl
    have u8 := r2 8 _ rfl
    have t0 := r4 0 _ rfl
    have t1 := r4 1 _ rfl
    have t2 := r4 2 _ rfl
    have t3 := r4 3 _ rfl
    have t4 := r4 4 _ rfl
    have t5 := r4 5 _ rfl
    have t6 := r4 6 _ rfl
    have t7 := r4 7 _ rfl
    have t8 := r4 8 _ rfl
    have v3 := r5 3 _ rfl
    have v10 := r6 1 _ rfl
    have n0 := r1 0 _ rfl
    have m0 := r3 0 _ rfl
    obtain ⟨e1, e2, e3, e4, eb, ez⟩ := PS.out
    have zb : w1.heap.size < Y.heap.size := by omega
    have zc : w1.heap.size + 1 < Y.heap.size := by omega
    have zp := lt_of_at HPA.out
    clear q3 r1 r2 r3 r4 r5 r6 hx hx1 hy1 hx2 hy2 hpaY hHeld hpa b4 eb ez hbp
    simp only [Nat.add_zero] at *
    go_wp2
    refine wp_loop_rounds 3 ?_
    rw [rounds_succ]
    go_wp2
    rw [rounds_succ]
    go_wp2
    rw [rounds_succ]
    go_wp2
    go_quiet (fail)
    go_wp2
    go_quiet (fail)
    go_wp2
    go_ret
    exact ⟨rfl, belowN (belowN (HBW.out.alloc (by have := hz1; omega) _) _) _⟩
set_option maxHeartbeats 16000000 in
theorem prec_lo {w : World} (x y : Int) (a b : Nat) (ha : a < 18) (hb : b < 18) (hxa : x.tmod 18 = (a : Int)) (hyb : y.tmod 18 = (b : Int)) (hM : MaxIs w) (hc : ¬ stP a < stP b) :
    Calls Try.prog 5 #[.int .u8 x, .int .u8 y] w fun e w' => e = .returned (.bool true) ∧ Below w.heap.size w w' := by
  have a0 : (0 : Int) ≤ (a : Int) := by omega
  have a1 : (a : Int) < 18 := by omega
  have b0 : (0 : Int) ≤ (b : Int) := by omega
  have b1' : (b : Int) < 18 := by omega
  have hOA := opB_size a ha
  have hOB := opB_size b hb
  go_enter Try.func5, Try.ntmps5
  go_wp2_with fail
  refine (awake_any hM).mono ?_
  rintro e w1 ⟨rfl, b1⟩
  have hM1 := hM.keep b1
  have hz1 := b1.size
  clear hM
  go_wp2_with (first | ((with_reducible refine stN 36 w1.heap.size opsArr rfl ?_ ?_ opsSize ?_ ?_ ?_); rfl; rfl; rfl; (simp [opsArr, Value.oneCell'])) | ((with_reducible refine stN 37 (w1.heap.size + 1) strArr ?_ ?_ ?_ strSize ?_ ?_ ?_); (simp); rfl; rfl; rfl; (simp [strArr, Value.oneCell'])))
  have hS0 : PrS w1 a b ((w1.alloc (.cells opsArr 36)).alloc (.cells strArr 37)).drew := by
    have r1 := aa0 w1 (.cells opsArr 36) (.cells strArr 37)
    have r2 := bn (w1.alloc (.cells opsArr 36)) (.cells strArr 37) (k := w1.heap.size + 1) (by simp)
    have hbl : Below w1.heap.size w1 ((w1.alloc (.cells opsArr 36)).alloc (.cells strArr 37)) := (belowA w1 _).alloc (by simp) _
    exact ⟨(cell_of_row _ _ _ _ _ _ r1).trans (ops_at a ha), (cell_of_row _ _ _ _ _ _ r1).trans (ops_at b hb), (cell_of_row _ _ _ _ _ _ r2).trans (str_at a ha), (cell_of_row _ _ _ _ _ _ r2).trans (str_at b hb), hbl.drew, by show w1.heap.size + 2 ≤ ((w1.alloc _).alloc _).heap.size; simp⟩
  have hXl : ((⟨#[105, 110, 116, 32, 102, 40, 41, 32, 123, 32, 118, 32, 61, 32, 119, 32, 61, 32, 49]⟩ : ByteArray) ++ opB a ++ ⟨#[50]⟩ ++ opB b ++ ⟨#[51, 59, 32, 125]⟩).data.toList = preL a b := by simp [ba_app, opB, preL]
  have hPX : parseV ((⟨#[105, 110, 116, 32, 102, 40, 41, 32, 123, 32, 118, 32, 61, 32, 119, 32, 61, 32, 49]⟩ : ByteArray) ++ opB a ++ ⟨#[50]⟩ ++ opB b ++ ⟨#[51, 59, 32, 125]⟩) = (⟨[], [], [fnP (loT a b)]⟩, 0, 0) := by
    have := prec a b ha hb
    rw [if_neg (by omega)] at this
    rw [ba_ext hXl]
    exact this
  have dc : decide (stP a < stP b) = false := decide_eq_false (by omega)
  refine wp_region_held_drew (S := PrS w1 a b) (by kernel_rfl) (hS0) (fun hHeld => ?_)
  refine wpAnyH_take (i := 0) (oi := ({ dst := some 23, op := Go.Op.move (Go.Operand.tmp 7), type := 5, pos := "law.go:116", after := #[], guard := none } : Oper)) (v := .int .u8 (a : Int)) rfl (by kernel_rfl) (by kernel_rfl) (by kernel_rfl) (fun _ _ _ h => h) (Or.inl ⟨by rfl, ?hy1⟩) (by assumption) ?_
  case hy1 => ((intro W hSW; (try dsimp only at hSW); go_simp); (try with_reducible rfl); (try exact ⟨rfl, rfl, rfl⟩))
  simp only [Act.put, List.setIfInBounds_toArray, List.set_cons_zero, List.set_cons_succ]
  refine wpAnyH_take (i := 1) (oi := ({ dst := some 24, op := Go.Op.indexAddr 36 (Go.Operand.tmp 5) (Go.Operand.tmp 23), type := 0, pos := "law.go:116", after := #[{ on := 0, ground := Go.Ground.data }], guard := none } : Oper)) (v := .pointer (some ⟨w1.heap.size, a, none⟩)) rfl (by kernel_rfl) (by kernel_rfl) (by kernel_rfl) (fun _ _ _ h => h) (Or.inl ⟨by rfl, ?hy2⟩) (by assumption) ?_
  case hy2 => ((intro W hSW; (try dsimp only at hSW); go_simp); (try with_reducible rfl); (try exact ⟨rfl, rfl, rfl⟩))
  simp only [Act.put, List.setIfInBounds_toArray, List.set_cons_zero, List.set_cons_succ]
  refine wpAnyH_take (i := 2) (oi := ({ dst := some 25, op := Go.Op.load 9 (Go.Operand.tmp 24), type := 9, pos := "law.go:116", after := #[{ on := 1, ground := Go.Ground.data }], guard := none } : Oper)) (v := .string (opB a)) rfl (by kernel_rfl) (by kernel_rfl) (by kernel_rfl) (fun _ _ _ h => h) (Or.inl ⟨by rfl, ?hy3⟩) (by assumption) ?_
  case hy3 => ((intro W hSW; obtain ⟨c1, c2, -, -, -, -⟩ := hSW; go_simp); (try with_reducible rfl); (try exact ⟨rfl, rfl, rfl⟩))
  simp only [Act.put, List.setIfInBounds_toArray, List.set_cons_zero, List.set_cons_succ]
  refine wpAnyH_take (i := 3) (oi := ({ dst := some 26, op := Go.Op.binOp Go.BinOp.add 9 (Go.Operand.const (Go.Value.string { data := #[105, 110, 116, 32, 102, 40, 41, 32, 123, 32, 118, 32, 61, 32, 119, 32, 61, 32, 49] })) (Go.Operand.tmp 25) 9, type := 9, pos := "law.go:116", after := #[{ on := 2, ground := Go.Ground.data }], guard := none } : Oper)) (v := .string (((⟨#[105, 110, 116, 32, 102, 40, 41, 32, 123, 32, 118, 32, 61, 32, 119, 32, 61, 32, 49]⟩ : ByteArray) ++ opB a))) rfl (by kernel_rfl) (by kernel_rfl) (by kernel_rfl) (fun _ _ _ h => h) (Or.inl ⟨by rfl, ?hy4⟩) (by assumption) ?_
  case hy4 => ((intro W hSW; go_simp; (try omega)); (try with_reducible rfl); (try exact ⟨rfl, rfl, rfl⟩))
  simp only [Act.put, List.setIfInBounds_toArray, List.set_cons_zero, List.set_cons_succ]
  refine wpAnyH_take (i := 4) (oi := ({ dst := some 27, op := Go.Op.binOp Go.BinOp.add 9 (Go.Operand.tmp 26) (Go.Operand.const (Go.Value.string { data := #[50] })) 9, type := 9, pos := "law.go:116", after := #[{ on := 3, ground := Go.Ground.data }], guard := none } : Oper)) (v := .string (((⟨#[105, 110, 116, 32, 102, 40, 41, 32, 123, 32, 118, 32, 61, 32, 119, 32, 61, 32, 49]⟩ : ByteArray) ++ opB a) ++ ⟨#[50]⟩)) rfl (by kernel_rfl) (by kernel_rfl) (by kernel_rfl) (fun _ _ _ h => h) (Or.inl ⟨by rfl, ?hy5⟩) (by assumption) ?_
  case hy5 => ((intro W hSW; go_simp; (try omega)); (try with_reducible rfl); (try exact ⟨rfl, rfl, rfl⟩))
  simp only [Act.put, List.setIfInBounds_toArray, List.set_cons_zero, List.set_cons_succ]
  refine wpAnyH_take (i := 5) (oi := ({ dst := some 28, op := Go.Op.move (Go.Operand.tmp 8), type := 5, pos := "law.go:116", after := #[], guard := none } : Oper)) (v := .int .u8 (b : Int)) rfl (by kernel_rfl) (by kernel_rfl) (by kernel_rfl) (fun _ _ _ h => h) (Or.inl ⟨by rfl, ?hy6⟩) (by assumption) ?_
  case hy6 => ((intro W hSW; (try dsimp only at hSW); go_simp); (try with_reducible rfl); (try exact ⟨rfl, rfl, rfl⟩))
  simp only [Act.put, List.setIfInBounds_toArray, List.set_cons_zero, List.set_cons_succ]
  refine wpAnyH_take (i := 6) (oi := ({ dst := some 29, op := Go.Op.indexAddr 36 (Go.Operand.tmp 5) (Go.Operand.tmp 28), type := 0, pos := "law.go:116", after := #[{ on := 5, ground := Go.Ground.data }], guard := none } : Oper)) (v := .pointer (some ⟨w1.heap.size, b, none⟩)) rfl (by kernel_rfl) (by kernel_rfl) (by kernel_rfl) (fun _ _ _ h => h) (Or.inl ⟨by rfl, ?hy7⟩) (by assumption) ?_
  case hy7 => ((intro W hSW; (try dsimp only at hSW); go_simp); (try with_reducible rfl); (try exact ⟨rfl, rfl, rfl⟩))
  simp only [Act.put, List.setIfInBounds_toArray, List.set_cons_zero, List.set_cons_succ]
  refine wpAnyH_take (i := 7) (oi := ({ dst := some 30, op := Go.Op.load 9 (Go.Operand.tmp 29), type := 9, pos := "law.go:116", after := #[{ on := 6, ground := Go.Ground.data }], guard := none } : Oper)) (v := .string (opB b)) rfl (by kernel_rfl) (by kernel_rfl) (by kernel_rfl) (fun _ _ _ h => h) (Or.inl ⟨by rfl, ?hy8⟩) (by assumption) ?_
  case hy8 => ((intro W hSW; obtain ⟨c1, c2, -, -, -, -⟩ := hSW; go_simp); (try with_reducible rfl); (try exact ⟨rfl, rfl, rfl⟩))
  simp only [Act.put, List.setIfInBounds_toArray, List.set_cons_zero, List.set_cons_succ]
  refine wpAnyH_take (i := 8) (oi := ({ dst := some 31, op := Go.Op.binOp Go.BinOp.add 9 (Go.Operand.tmp 27) (Go.Operand.tmp 30) 9, type := 9, pos := "law.go:116", after := #[{ on := 4, ground := Go.Ground.data }, { on := 7, ground := Go.Ground.data }], guard := none } : Oper)) (v := .string (((⟨#[105, 110, 116, 32, 102, 40, 41, 32, 123, 32, 118, 32, 61, 32, 119, 32, 61, 32, 49]⟩ : ByteArray) ++ opB a) ++ ⟨#[50]⟩ ++ opB b)) rfl (by kernel_rfl) (by kernel_rfl) (by kernel_rfl) (fun _ _ _ h => h) (Or.inl ⟨by rfl, ?hy9⟩) (by assumption) ?_
  case hy9 => ((intro W hSW; go_simp; (try omega)); (try with_reducible rfl); (try exact ⟨rfl, rfl, rfl⟩))
  simp only [Act.put, List.setIfInBounds_toArray, List.set_cons_zero, List.set_cons_succ]
  refine wpAnyH_take (i := 9) (oi := ({ dst := some 32, op := Go.Op.binOp Go.BinOp.add 9 (Go.Operand.tmp 31) (Go.Operand.const (Go.Value.string { data := #[51, 59, 32, 125] })) 9, type := 9, pos := "law.go:116", after := #[{ on := 8, ground := Go.Ground.data }], guard := none } : Oper)) (v := .string (((⟨#[105, 110, 116, 32, 102, 40, 41, 32, 123, 32, 118, 32, 61, 32, 119, 32, 61, 32, 49]⟩ : ByteArray) ++ opB a) ++ ⟨#[50]⟩ ++ opB b ++ ⟨#[51, 59, 32, 125]⟩)) rfl (by kernel_rfl) (by kernel_rfl) (by kernel_rfl) (fun _ _ _ h => h) (Or.inl ⟨by rfl, ?hy10⟩) (by assumption) ?_
  case hy10 => ((intro W hSW; go_simp; (try omega)); (try with_reducible rfl); (try exact ⟨rfl, rfl, rfl⟩))
  simp only [Act.put, List.setIfInBounds_toArray, List.set_cons_zero, List.set_cons_succ]
  refine wpAnyH_ready (rs := [10, 15]) (by kernel_rfl) (by simp) ?_
  refine (AllReadyH.cons (i := 10) (o := ({ dst := some 33, op := Go.Op.call { callee := Go.Callee.value (Go.Operand.func 8), args := #[Go.Operand.tmp 32], argTypes := #[9] }, type := 29, pos := "law.go:116", after := #[{ on := 9, ground := Go.Ground.data }], guard := none } : Oper)) rfl (fun K hK => ?_) (AllReadyH.cons (i := 15) (o := ({ dst := some 9, op := Go.Op.alloc 27, type := 0, pos := "law.go:116", after := #[], guard := none } : Oper)) rfl (fun K hK => ?_) AllReadyH.nil))
  · have hp := parse_any ((⟨#[105, 110, 116, 32, 102, 40, 41, 32, 123, 32, 118, 32, 61, 32, 119, 32, 61, 32, 49]⟩ : ByteArray) ++ opB a ++ ⟨#[50]⟩ ++ opB b ++ ⟨#[51, 59, 32, 125]⟩) (((w1.alloc (.cells opsArr 36)).alloc (.cells strArr 37)).drew) (by rw [← sz, hXl]; have h1 := (opL_len a ha).2; have h2 := (opL_len b hb).2; simp [preL]; omega) (hM1.keep hHeld.2.2.2.2.1)
    unfold ParseP at hp
    rw [hPX] at hp
    go_simp
    refine hp.mono ?_
    rintro e w4 ⟨vs, vv, vf, rfl, hpa, b4⟩
    have HONE := Lib.hid hpa.one
    try go_wp2_with fail
    refine hK.out _ _ (hHeld.keep b4) (fun hHeld => ?_)
    clear hK K
    try simp only [Act.put, List.setIfInBounds_toArray, List.set_cons_zero, List.set_cons_succ]
    refine wpAnyH_take (i := 11) (oi := ({ dst := some 22, op := Go.Op.move (Go.Operand.tmp 33), type := 29, pos := "law.go:116", after := #[{ on := 10, ground := Go.Ground.data }], guard := none } : Oper)) (v := .tuple #[.agg #[vs, vv, vf], .int .i64 0, .int .i64 0]) rfl (by kernel_rfl) (by kernel_rfl) (by kernel_rfl) (fun _ _ _ h => h) (Or.inl ⟨by rfl, ?hy11⟩) (by assumption) ?_
    case hy11 => ((intro W hSW; (try dsimp only at hSW); go_simp); (try with_reducible rfl); (try exact ⟨rfl, rfl, rfl⟩))
    simp only [Act.put, List.setIfInBounds_toArray, List.set_cons_zero, List.set_cons_succ]
    refine wpAnyH_take (i := 12) (oi := ({ dst := some 34, op := Go.Op.extract (Go.Operand.tmp 22) 0, type := 27, pos := "law.go:116", after := #[{ on := 11, ground := Go.Ground.data }], guard := none } : Oper)) (v := .agg #[vs, vv, vf]) rfl (by kernel_rfl) (by kernel_rfl) (by kernel_rfl) (fun _ _ _ h => h) (Or.inl ⟨by rfl, ?hy12⟩) (by assumption) ?_
    case hy12 => ((intro W hSW; (try dsimp only at hSW); go_simp); (try with_reducible rfl); (try exact ⟨rfl, rfl, rfl⟩))
    simp only [Act.put, List.setIfInBounds_toArray, List.set_cons_zero, List.set_cons_succ]
    refine wpAnyH_take (i := 13) (oi := ({ dst := some 35, op := Go.Op.extract (Go.Operand.tmp 22) 1, type := 3, pos := "law.go:116", after := #[{ on := 11, ground := Go.Ground.data }, { on := 16, ground := Go.Ground.gcOnly Go.Departure.lateStores }], guard := none } : Oper)) (v := .int .i64 0) rfl (by kernel_rfl) (by kernel_rfl) (by kernel_rfl) (fun _ _ _ h => h) (Or.inl ⟨by rfl, ?hy13⟩) (by assumption) ?_
    case hy13 => ((intro W hSW; (try dsimp only at hSW); go_simp); (try with_reducible rfl); (try exact ⟨rfl, rfl, rfl⟩))
    simp only [Act.put, List.setIfInBounds_toArray, List.set_cons_zero, List.set_cons_succ]
    refine wpAnyH_take (i := 14) (oi := ({ dst := some 36, op := Go.Op.extract (Go.Operand.tmp 22) 2, type := 28, pos := "law.go:116", after := #[{ on := 11, ground := Go.Ground.data }, { on := 17, ground := Go.Ground.gcOnly Go.Departure.lateStores }], guard := none } : Oper)) (v := .int .i64 0) rfl (by kernel_rfl) (by kernel_rfl) (by kernel_rfl) (fun _ _ _ h => h) (Or.inl ⟨by rfl, ?hy14⟩) (by assumption) ?_
    case hy14 => ((intro W hSW; (try dsimp only at hSW); go_simp); (try with_reducible rfl); (try exact ⟨rfl, rfl, rfl⟩))
    simp only [Act.put, List.setIfInBounds_toArray, List.set_cons_zero, List.set_cons_succ]
    refine wpAnyH_ready (rs := [15]) (by kernel_rfl) (by simp) ?_
    refine (AllReadyH.cons (i := 15) (o := ({ dst := some 9, op := Go.Op.alloc 27, type := 0, pos := "law.go:116", after := #[], guard := none } : Oper)) rfl (fun K hK => ?_) AllReadyH.nil)
    have hbp := hHeld.2.2.2.2.2
    have HBP := Lib.hid (heap_alloc_new w4 (.cells prZ 27))
    go_simp
    refine hK.out _ _ (hHeld.keep (belowA _ _)) (fun hHeld => ?_)
    clear hK K
    try simp only [Act.put, List.setIfInBounds_toArray, List.set_cons_zero, List.set_cons_succ]
    refine wpAnyH_ready (rs := [16]) (by kernel_rfl) (by simp) ?_
    refine (AllReadyH.cons (i := 16) (o := ({ dst := none, op := Go.Op.store 27 (Go.Operand.tmp 9) (Go.Operand.tmp 34), type := 0, pos := "law.go:116", after := #[{ on := 15, ground := Go.Ground.data }, { on := 12, ground := Go.Ground.data }, { on := 10, ground := Go.Ground.chain }, { on := 0, ground := Go.Ground.phase }, { on := 1, ground := Go.Ground.phase }, { on := 2, ground := Go.Ground.phase }, { on := 3, ground := Go.Ground.phase }, { on := 4, ground := Go.Ground.phase }, { on := 5, ground := Go.Ground.phase }, { on := 6, ground := Go.Ground.phase }, { on := 7, ground := Go.Ground.phase }, { on := 8, ground := Go.Ground.phase }, { on := 9, ground := Go.Ground.phase }, { on := 10, ground := Go.Ground.phase }, { on := 11, ground := Go.Ground.phase }, { on := 12, ground := Go.Ground.phase }, { on := 13, ground := Go.Ground.textOnly Go.Departure.lateStores }, { on := 14, ground := Go.Ground.textOnly Go.Departure.lateStores }, { on := 15, ground := Go.Ground.phase }], guard := none } : Oper)) rfl (fun K hK => ?_) AllReadyH.nil)
    rw [if_pos (by rfl)]
    refine wp_stG 27 w4.heap.size #[vs, vv, vf] (by rfl) (by rfl) HBP.out sizePr rfl HONE.out ?_
    intro Y hY
    have HY := Lib.hid hY
    clear hY
    refine hK.out _ _ (hHeld.up HY.out hbp) (fun hHeld => ?_)
    clear hK K
    try simp only [Act.put, List.setIfInBounds_toArray, List.set_cons_zero, List.set_cons_succ]
    refine wpAnyH_take (i := 17) (oi := ({ dst := some 10, op := Go.Op.assign (Go.Operand.tmp 35), type := 3, pos := "law.go:116", after := #[{ on := 13, ground := Go.Ground.data }, { on := 16, ground := Go.Ground.chain }, { on := 0, ground := Go.Ground.phase }, { on := 1, ground := Go.Ground.phase }, { on := 2, ground := Go.Ground.phase }, { on := 3, ground := Go.Ground.phase }, { on := 4, ground := Go.Ground.phase }, { on := 5, ground := Go.Ground.phase }, { on := 6, ground := Go.Ground.phase }, { on := 7, ground := Go.Ground.phase }, { on := 8, ground := Go.Ground.phase }, { on := 9, ground := Go.Ground.phase }, { on := 10, ground := Go.Ground.phase }, { on := 11, ground := Go.Ground.phase }, { on := 12, ground := Go.Ground.phase }, { on := 13, ground := Go.Ground.phase }, { on := 14, ground := Go.Ground.textOnly Go.Departure.lateStores }, { on := 15, ground := Go.Ground.phase }, { on := 16, ground := Go.Ground.phase }], guard := none } : Oper)) (v := .int .i64 0) rfl (by kernel_rfl) (by kernel_rfl) (by kernel_rfl) (fun _ _ _ h => h) (Or.inl ⟨by rfl, ?hy15⟩) (by assumption) ?_
    case hy15 => ((intro W hSW; (try dsimp only at hSW); go_simp); (try with_reducible rfl); (try exact ⟨rfl, rfl, rfl⟩))
    simp only [Act.put, List.setIfInBounds_toArray, List.set_cons_zero, List.set_cons_succ]
    refine wpAnyH_take (i := 18) (oi := ({ dst := some 11, op := Go.Op.assign (Go.Operand.tmp 36), type := 28, pos := "law.go:116", after := #[{ on := 14, ground := Go.Ground.data }, { on := 17, ground := Go.Ground.chain }, { on := 0, ground := Go.Ground.phase }, { on := 1, ground := Go.Ground.phase }, { on := 2, ground := Go.Ground.phase }, { on := 3, ground := Go.Ground.phase }, { on := 4, ground := Go.Ground.phase }, { on := 5, ground := Go.Ground.phase }, { on := 6, ground := Go.Ground.phase }, { on := 7, ground := Go.Ground.phase }, { on := 8, ground := Go.Ground.phase }, { on := 9, ground := Go.Ground.phase }, { on := 10, ground := Go.Ground.phase }, { on := 11, ground := Go.Ground.phase }, { on := 12, ground := Go.Ground.phase }, { on := 13, ground := Go.Ground.phase }, { on := 14, ground := Go.Ground.phase }, { on := 15, ground := Go.Ground.phase }, { on := 16, ground := Go.Ground.phase }, { on := 17, ground := Go.Ground.phase }], guard := none } : Oper)) (v := .int .i64 0) rfl (by kernel_rfl) (by kernel_rfl) (by kernel_rfl) (fun _ _ _ h => h) (Or.inl ⟨by rfl, ?hy16⟩) (by assumption) ?_
    case hy16 => ((intro W hSW; (try dsimp only at hSW); go_simp); (try with_reducible rfl); (try exact ⟨rfl, rfl, rfl⟩))
    simp only [Act.put, List.setIfInBounds_toArray, List.set_cons_zero, List.set_cons_succ]
    refine wpAnyH_done (by kernel_rfl) ?_ _
    have hpaY := hpa.keep (w' := Y) (S' := fun g => g ≠ w4.heap.size) (fun g hg hl => ⟨by omega, (HY.out.oth g (by omega)).trans (Below.heap_alloc _ _ _ hl)⟩) (by rw [HY.out.size]; simp)
    have PS := Lib.hid hHeld
    obtain ⟨gf, of', cf, gk, ok, ck, gx, ox, cx, c, rfl, lf, q1, lk, q2, lx, hx, q3, g1, g2, g3⟩ := prog_view hpaY rfl rfl
    obtain ⟨k1, o1, n1, c1, d1, rfl, l1, hx1, hy1, r1, r2, s1⟩ := kids_two hx
    obtain ⟨k2, o2, n2, c2, d2, rfl, l2, hx2, hy2, r3, r4, s2⟩ := kids_two hy1
    obtain ⟨k3, o3, n3, c3, d3, rfl, l3, hx3, hy3, r5, r6, s3⟩ := kids_two hy2
    obtain ⟨k4, o4, n4, c4, d4, rfl, l4, hx4, hy4, r7, r8, s4⟩ := kids_two hx3
    obtain ⟨A3, p3, rfl⟩ := kids_no hy3
    obtain ⟨A1, p1, rfl⟩ := kids_no hx1
    obtain ⟨A2, p2, rfl⟩ := kids_no hx2
    have HPA := Lib.hid (HY.out.at_)
    have HBW := Lib.hid (b1.trans (hHeld.2.2.2.2.1.mono hz1))
    have y2 : Y.cell? ⟨w4.heap.size, 2, none⟩ = some (.slice (some ⟨gf, of', none⟩) 1 cf) := by rw [cell_of_row _ _ _ _ _ _ HPA.out]; rfl
    have x0 := q3 0 _ rfl
    have x1 := q3 1 _ rfl
    have x2 := q3 2 _ rfl
    have x3 := q3 3 _ rfl
    have x4 := q3 4 _ rfl
    have x5 := q3 5 _ rfl
    have x6 := q3 6 _ rfl
    have x7 := q3 7 _ rfl
    have x8 := q3 8 _ rfl
    have u0 := r2 0 _ rfl
    have u1 := r2 1 _ rfl
    have u2 := r2 2 _ rfl
    have u3 := r2 3 _ rfl
    have u4 := r2 4 _ rfl
    have u5 := r2 5 _ rfl
    have u6 := r2 6 _ rfl
    have u7 := r2 7 _ rfl
    have u8 := r2 8 _ rfl
    have t0 := r4 0 _ rfl
    have t1 := r4 1 _ rfl
    have t2 := r4 2 _ rfl
    have t3 := r4 3 _ rfl
    have t4 := r4 4 _ rfl
    have t5 := r4 5 _ rfl
    have t6 := r4 6 _ rfl
    have t7 := r4 7 _ rfl
    have t8 := r4 8 _ rfl
    have v1 := r5 1 _ rfl
    have v12 := r6 3 _ rfl
    have n0 := r1 0 _ rfl
    have m0 := r3 0 _ rfl
    obtain ⟨e1, e2, e3, e4, eb, ez⟩ := PS.out
    have zb : w1.heap.size < Y.heap.size := by omega
    have zc : w1.heap.size + 1 < Y.heap.size := by omega
    have zp := lt_of_at HPA.out
    clear q3 r1 r2 r3 r4 r5 r6 hx hx1 hy1 hx2 hy2 hpaY hHeld hpa b4 eb ez hbp
    simp only [Nat.add_zero] at *
    go_wp2
    refine wp_loop_rounds 3 ?_
    rw [rounds_succ]
    go_wp2
    rw [rounds_succ]
    go_wp2
    rw [rounds_succ]
    go_wp2
    go_quiet (fail)
    go_wp2
    go_quiet (fail)
    go_wp2
    go_ret
    exact ⟨rfl, belowN (belowN (HBW.out.alloc (by have := hz1; omega) _) _) _⟩
  · have hbp : w1.heap.size + 2 ≤ w1.heap.size + 1 + 1 := by omega
    have HBPa := Lib.hid (bn (((w1.alloc (.cells opsArr 36)).alloc (.cells strArr 37)).drew) (.cells prZ 27) (k := w1.heap.size + 1 + 1) (by show ((w1.alloc _).alloc _).heap.size = _; simp))
    go_simp
    refine hK.out _ _ (hHeld.keep (belowA _ _)) (fun hHeld => ?_)
    clear hK K
    try simp only [Act.put, List.setIfInBounds_toArray, List.set_cons_zero, List.set_cons_succ]
    refine wpAnyH_ready (rs := [10]) (by kernel_rfl) (by simp) ?_
    refine (AllReadyH.cons (i := 10) (o := ({ dst := some 33, op := Go.Op.call { callee := Go.Callee.value (Go.Operand.func 8), args := #[Go.Operand.tmp 32], argTypes := #[9] }, type := 29, pos := "law.go:116", after := #[{ on := 9, ground := Go.Ground.data }], guard := none } : Oper)) rfl (fun K hK => ?_) AllReadyH.nil)
    have hp := parse_any ((⟨#[105, 110, 116, 32, 102, 40, 41, 32, 123, 32, 118, 32, 61, 32, 119, 32, 61, 32, 49]⟩ : ByteArray) ++ opB a ++ ⟨#[50]⟩ ++ opB b ++ ⟨#[51, 59, 32, 125]⟩) ((((w1.alloc (.cells opsArr 36)).alloc (.cells strArr 37)).drew).alloc (.cells prZ 27)) (by rw [← sz, hXl]; have h1 := (opL_len a ha).2; have h2 := (opL_len b hb).2; simp [preL]; omega) (hM1.keep hHeld.2.2.2.2.1)
    unfold ParseP at hp
    rw [hPX] at hp
    go_simp
    refine hp.mono ?_
    rintro e w4 ⟨vs, vv, vf, rfl, hpa, b4⟩
    have HONE := Lib.hid hpa.one
    have HBP := Lib.hid ((b4.block _ (by rw [szA]; show w1.heap.size + 1 + 1 < ((w1.alloc _).alloc _).heap.size + 1; simp)).trans HBPa.out)
    try go_wp2_with fail
    refine hK.out _ _ (hHeld.keep b4) (fun hHeld => ?_)
    clear hK K
    try simp only [Act.put, List.setIfInBounds_toArray, List.set_cons_zero, List.set_cons_succ]
    refine wpAnyH_take (i := 11) (oi := ({ dst := some 22, op := Go.Op.move (Go.Operand.tmp 33), type := 29, pos := "law.go:116", after := #[{ on := 10, ground := Go.Ground.data }], guard := none } : Oper)) (v := .tuple #[.agg #[vs, vv, vf], .int .i64 0, .int .i64 0]) rfl (by kernel_rfl) (by kernel_rfl) (by kernel_rfl) (fun _ _ _ h => h) (Or.inl ⟨by rfl, ?hy17⟩) (by assumption) ?_
    case hy17 => ((intro W hSW; (try dsimp only at hSW); go_simp); (try with_reducible rfl); (try exact ⟨rfl, rfl, rfl⟩))
    simp only [Act.put, List.setIfInBounds_toArray, List.set_cons_zero, List.set_cons_succ]
    refine wpAnyH_take (i := 12) (oi := ({ dst := some 34, op := Go.Op.extract (Go.Operand.tmp 22) 0, type := 27, pos := "law.go:116", after := #[{ on := 11, ground := Go.Ground.data }], guard := none } : Oper)) (v := .agg #[vs, vv, vf]) rfl (by kernel_rfl) (by kernel_rfl) (by kernel_rfl) (fun _ _ _ h => h) (Or.inl ⟨by rfl, ?hy18⟩) (by assumption) ?_
    case hy18 => ((intro W hSW; (try dsimp only at hSW); go_simp); (try with_reducible rfl); (try exact ⟨rfl, rfl, rfl⟩))
    simp only [Act.put, List.setIfInBounds_toArray, List.set_cons_zero, List.set_cons_succ]
    refine wpAnyH_take (i := 13) (oi := ({ dst := some 35, op := Go.Op.extract (Go.Operand.tmp 22) 1, type := 3, pos := "law.go:116", after := #[{ on := 11, ground := Go.Ground.data }, { on := 16, ground := Go.Ground.gcOnly Go.Departure.lateStores }], guard := none } : Oper)) (v := .int .i64 0) rfl (by kernel_rfl) (by kernel_rfl) (by kernel_rfl) (fun _ _ _ h => h) (Or.inl ⟨by rfl, ?hy19⟩) (by assumption) ?_
    case hy19 => ((intro W hSW; (try dsimp only at hSW); go_simp); (try with_reducible rfl); (try exact ⟨rfl, rfl, rfl⟩))
    simp only [Act.put, List.setIfInBounds_toArray, List.set_cons_zero, List.set_cons_succ]
    refine wpAnyH_take (i := 14) (oi := ({ dst := some 36, op := Go.Op.extract (Go.Operand.tmp 22) 2, type := 28, pos := "law.go:116", after := #[{ on := 11, ground := Go.Ground.data }, { on := 17, ground := Go.Ground.gcOnly Go.Departure.lateStores }], guard := none } : Oper)) (v := .int .i64 0) rfl (by kernel_rfl) (by kernel_rfl) (by kernel_rfl) (fun _ _ _ h => h) (Or.inl ⟨by rfl, ?hy20⟩) (by assumption) ?_
    case hy20 => ((intro W hSW; (try dsimp only at hSW); go_simp); (try with_reducible rfl); (try exact ⟨rfl, rfl, rfl⟩))
    simp only [Act.put, List.setIfInBounds_toArray, List.set_cons_zero, List.set_cons_succ]
    refine wpAnyH_ready (rs := [16]) (by kernel_rfl) (by simp) ?_
    refine (AllReadyH.cons (i := 16) (o := ({ dst := none, op := Go.Op.store 27 (Go.Operand.tmp 9) (Go.Operand.tmp 34), type := 0, pos := "law.go:116", after := #[{ on := 15, ground := Go.Ground.data }, { on := 12, ground := Go.Ground.data }, { on := 10, ground := Go.Ground.chain }, { on := 0, ground := Go.Ground.phase }, { on := 1, ground := Go.Ground.phase }, { on := 2, ground := Go.Ground.phase }, { on := 3, ground := Go.Ground.phase }, { on := 4, ground := Go.Ground.phase }, { on := 5, ground := Go.Ground.phase }, { on := 6, ground := Go.Ground.phase }, { on := 7, ground := Go.Ground.phase }, { on := 8, ground := Go.Ground.phase }, { on := 9, ground := Go.Ground.phase }, { on := 10, ground := Go.Ground.phase }, { on := 11, ground := Go.Ground.phase }, { on := 12, ground := Go.Ground.phase }, { on := 13, ground := Go.Ground.textOnly Go.Departure.lateStores }, { on := 14, ground := Go.Ground.textOnly Go.Departure.lateStores }, { on := 15, ground := Go.Ground.phase }], guard := none } : Oper)) rfl (fun K hK => ?_) AllReadyH.nil)
    rw [if_pos (by rfl)]
    refine wp_stG 27 (w1.heap.size + 1 + 1) #[vs, vv, vf] (by rfl) (by rfl) HBP.out sizePr rfl HONE.out ?_
    intro Y hY
    have HY := Lib.hid hY
    clear hY
    refine hK.out _ _ (hHeld.up HY.out hbp) (fun hHeld => ?_)
    clear hK K
    try simp only [Act.put, List.setIfInBounds_toArray, List.set_cons_zero, List.set_cons_succ]
    refine wpAnyH_take (i := 17) (oi := ({ dst := some 10, op := Go.Op.assign (Go.Operand.tmp 35), type := 3, pos := "law.go:116", after := #[{ on := 13, ground := Go.Ground.data }, { on := 16, ground := Go.Ground.chain }, { on := 0, ground := Go.Ground.phase }, { on := 1, ground := Go.Ground.phase }, { on := 2, ground := Go.Ground.phase }, { on := 3, ground := Go.Ground.phase }, { on := 4, ground := Go.Ground.phase }, { on := 5, ground := Go.Ground.phase }, { on := 6, ground := Go.Ground.phase }, { on := 7, ground := Go.Ground.phase }, { on := 8, ground := Go.Ground.phase }, { on := 9, ground := Go.Ground.phase }, { on := 10, ground := Go.Ground.phase }, { on := 11, ground := Go.Ground.phase }, { on := 12, ground := Go.Ground.phase }, { on := 13, ground := Go.Ground.phase }, { on := 14, ground := Go.Ground.textOnly Go.Departure.lateStores }, { on := 15, ground := Go.Ground.phase }, { on := 16, ground := Go.Ground.phase }], guard := none } : Oper)) (v := .int .i64 0) rfl (by kernel_rfl) (by kernel_rfl) (by kernel_rfl) (fun _ _ _ h => h) (Or.inl ⟨by rfl, ?hy21⟩) (by assumption) ?_
    case hy21 => ((intro W hSW; (try dsimp only at hSW); go_simp); (try with_reducible rfl); (try exact ⟨rfl, rfl, rfl⟩))
    simp only [Act.put, List.setIfInBounds_toArray, List.set_cons_zero, List.set_cons_succ]
    refine wpAnyH_take (i := 18) (oi := ({ dst := some 11, op := Go.Op.assign (Go.Operand.tmp 36), type := 28, pos := "law.go:116", after := #[{ on := 14, ground := Go.Ground.data }, { on := 17, ground := Go.Ground.chain }, { on := 0, ground := Go.Ground.phase }, { on := 1, ground := Go.Ground.phase }, { on := 2, ground := Go.Ground.phase }, { on := 3, ground := Go.Ground.phase }, { on := 4, ground := Go.Ground.phase }, { on := 5, ground := Go.Ground.phase }, { on := 6, ground := Go.Ground.phase }, { on := 7, ground := Go.Ground.phase }, { on := 8, ground := Go.Ground.phase }, { on := 9, ground := Go.Ground.phase }, { on := 10, ground := Go.Ground.phase }, { on := 11, ground := Go.Ground.phase }, { on := 12, ground := Go.Ground.phase }, { on := 13, ground := Go.Ground.phase }, { on := 14, ground := Go.Ground.phase }, { on := 15, ground := Go.Ground.phase }, { on := 16, ground := Go.Ground.phase }, { on := 17, ground := Go.Ground.phase }], guard := none } : Oper)) (v := .int .i64 0) rfl (by kernel_rfl) (by kernel_rfl) (by kernel_rfl) (fun _ _ _ h => h) (Or.inl ⟨by rfl, ?hy22⟩) (by assumption) ?_
    case hy22 => ((intro W hSW; (try dsimp only at hSW); go_simp); (try with_reducible rfl); (try exact ⟨rfl, rfl, rfl⟩))
    simp only [Act.put, List.setIfInBounds_toArray, List.set_cons_zero, List.set_cons_succ]
    refine wpAnyH_done (by kernel_rfl) ?_ _
    have hpaY := hpa.keep (w' := Y) (S' := fun g => g ≠ w1.heap.size + 1 + 1) (fun g hg hl => by
        have hg2 : w1.heap.size + 3 ≤ g := by have h9 : ((((w1.alloc (.cells opsArr 36)).alloc (.cells strArr 37)).drew).alloc (.cells prZ 27)).heap.size ≤ g := hg; rw [szA] at h9; have h8 : ((w1.alloc (.cells opsArr 36)).alloc (.cells strArr 37)).heap.size + 1 ≤ g := h9; rw [szA, szA] at h8; omega
        exact ⟨by omega, HY.out.oth g (by omega)⟩) (Nat.le_of_eq HY.out.size.symm)
    have PS := Lib.hid hHeld
    obtain ⟨gf, of', cf, gk, ok, ck, gx, ox, cx, c, rfl, lf, q1, lk, q2, lx, hx, q3, g1, g2, g3⟩ := prog_view hpaY rfl rfl
    obtain ⟨k1, o1, n1, c1, d1, rfl, l1, hx1, hy1, r1, r2, s1⟩ := kids_two hx
    obtain ⟨k2, o2, n2, c2, d2, rfl, l2, hx2, hy2, r3, r4, s2⟩ := kids_two hy1
    obtain ⟨k3, o3, n3, c3, d3, rfl, l3, hx3, hy3, r5, r6, s3⟩ := kids_two hy2
    obtain ⟨k4, o4, n4, c4, d4, rfl, l4, hx4, hy4, r7, r8, s4⟩ := kids_two hx3
    obtain ⟨A3, p3, rfl⟩ := kids_no hy3
    obtain ⟨A1, p1, rfl⟩ := kids_no hx1
    obtain ⟨A2, p2, rfl⟩ := kids_no hx2
    have HPA := Lib.hid (HY.out.at_)
    have HBW := Lib.hid (b1.trans (hHeld.2.2.2.2.1.mono hz1))
    have y2 : Y.cell? ⟨(w1.heap.size + 1 + 1), 2, none⟩ = some (.slice (some ⟨gf, of', none⟩) 1 cf) := by rw [cell_of_row _ _ _ _ _ _ HPA.out]; rfl
    have x0 := q3 0 _ rfl
    have x1 := q3 1 _ rfl
    have x2 := q3 2 _ rfl
    have x3 := q3 3 _ rfl
    have x4 := q3 4 _ rfl
    have x5 := q3 5 _ rfl
    have x6 := q3 6 _ rfl
    have x7 := q3 7 _ rfl
    have x8 := q3 8 _ rfl
    have u0 := r2 0 _ rfl
    have u1 := r2 1 _ rfl
    have u2 := r2 2 _ rfl
    have u3 := r2 3 _ rfl
    have u4 := r2 4 _ rfl
    have u5 := r2 5 _ rfl
    have u6 := r2 6 _ rfl
    have u7 := r2 7 _ rfl
    have u8 := r2 8 _ rfl
    have t0 := r4 0 _ rfl
    have t1 := r4 1 _ rfl
    have t2 := r4 2 _ rfl
    have t3 := r4 3 _ rfl
    have t4 := r4 4 _ rfl
    have t5 := r4 5 _ rfl
    have t6 := r4 6 _ rfl
    have t7 := r4 7 _ rfl
    have t8 := r4 8 _ rfl
    have v1 := r5 1 _ rfl
    have v12 := r6 3 _ rfl
    have n0 := r1 0 _ rfl
    have m0 := r3 0 _ rfl
    obtain ⟨e1, e2, e3, e4, eb, ez⟩ := PS.out
    have zb : w1.heap.size < Y.heap.size := by omega
    have zc : w1.heap.size + 1 < Y.heap.size := by omega
    have zp := lt_of_at HPA.out
    clear q3 r1 r2 r3 r4 r5 r6 hx hx1 hy1 hx2 hy2 hpaY hHeld hpa b4 eb ez hbp
    simp only [Nat.add_zero] at *
    go_wp2
    refine wp_loop_rounds 3 ?_
    rw [rounds_succ]
    go_wp2
    rw [rounds_succ]
    go_wp2
    rw [rounds_succ]
    go_wp2
    go_quiet (fail)
    go_wp2
    go_quiet (fail)
    go_wp2
    go_ret
    exact ⟨rfl, belowN (belowN (HBW.out.alloc (by have := hz1; omega) _) _) _⟩
end Go.Proofs.Ytgedikdcnhkmdaa
