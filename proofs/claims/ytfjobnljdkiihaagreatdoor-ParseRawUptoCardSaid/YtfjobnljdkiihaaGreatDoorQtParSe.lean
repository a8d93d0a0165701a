/- Statements of a condition and two others. Conditions: each theorem's. -/
import Derived.Test.YtfjobnljdkiihaaGreatDoorQtParSd
import Derived.RegionTactic
namespace Go.Proofs.YtfjobnljdkiihaaGreatDoor
open Go.RowKit Go.Maps
set_option linter.unusedVariables false
set_option linter.unusedSimpArgs false
set_option maxRecDepth 100000
open Lx Pa
theorem wp_any_drew {P : Program} {ops : Array Oper} {Q : Exit → Act → World → Prop} {id : Nat} {a : Act} {w : World} (hm : P.follows .mixedOrders = true)
  (h : wpAny P .any ops Q ops.size (Array.replicate ops.size false) a w.drew) : (Code.region id ops true).wp P Q a w := wp_region_any hm h
theorem wp_bs1 {Q : Exit → Act → World → Prop} {K : Act → World → Prop} {a : Act} {w : World} {dst : Option Tmp} {ty : TypeId} {pos : String} {af : Array Edge} {p : Operand} (S T : TypeId) (v0 : Value) (z : Nat) (hu : Tryz.prog.underlying S = some (.slice T)) (hi : (Tryz.prog.info? T).map (fun i => (i.zero, i.size)) = some (some v0, z)) (hz : 0 < z) (hz2 : z ≤ 100) {c : List Value} (hc : c.length = z) (hp : a.eval p = .agg c.toArray)
  (h : K (a.put dst (.slice (some ⟨w.heap.size, 0, none⟩) 1 1)) (w.alloc (.cells c.toArray T))) :
  Oper.wp Tryz.prog ⟨dst, .buildSlice S 1 #[(0, p)], ty, pos, af, none⟩ a w K Q := by
 obtain ⟨i, h1, h2, h3⟩ := info_two hi
 refine wp_bsG [.agg c.toArray] hu h1 h2 h3 hz hz2 rfl (by decide) (by decide) ?_ ?_ ?_
 ·simp [hp]
 ·intro v hv; simp at hv; subst hv; simpa [Value.cells] using hc
 ·simpa [Value.cells] using h
def choiceV (f d a : Nat) (s : Pa.S) : PSt × Pa.S :=
 let c := condV f d s
 let x := runS f (.stmt (d + 1)) c.2
 if x.2.is ⟨#[101, 108, 115, 101]⟩ then
  let y := runS f (.stmt (d + 1)) x.2.tl
  (.mk 2 c.1 [hdS x, hdS y] va0 a, y.2)
 else (.mk 2 c.1 [hdS x] va0 a, x.2)
theorem builtIf (k : Int) (A : Option Addr) (n cap : Nat) (at_ : Nat) : Tryz.prog.built 44 [(0, .int .i64 k), (1, .slice A n cap), (4, .int .i64 at_)] = some (stL k (.slice A n cap) (.slice none 0 0) va0 at_).toArray := by kernel_rfl
set_option maxHeartbeats 16000000 in
theorem choice_any {f : Nat} (HE : ExprC f) (HS : StmtC f) {R M a d : Nat} {s : Pa.S} {w : World} (h : RdAt w R M s) (hf : 8 * s.tk.length + 7 ≤ f) (hd : d + 1 + f ≤ 60000) :
  Calls Tryz.prog 108 #[.pointer (some ⟨R, 0, none⟩), .int .i64 a, .int .i64 d] w (PostS w R M (choiceV f d a s).1 (choiceV f d a s).2) := by
 have hR := h.lt
 have hw : IntKind.i64.wrap ((d : Int) + 1) = (d : Int) + 1 := IntWalk.i64_in _ (by omega)
 have hV : choiceV f d a s = if (runS f (.stmt (d + 1)) (condV f d s).2).2.is ⟨#[101, 108, 115, 101]⟩ then (.mk 2 (condV f d s).1 [hdS (runS f (.stmt (d + 1)) (condV f d s).2), hdS (runS f (.stmt (d + 1)) (runS f (.stmt (d + 1)) (condV f d s).2).2.tl)] va0 a, (runS f (.stmt (d + 1)) (runS f (.stmt (d + 1)) (condV f d s).2).2.tl).2)
   else (.mk 2 (condV f d s).1 [hdS (runS f (.stmt (d + 1)) (condV f d s).2)] va0 a, (runS f (.stmt (d + 1)) (condV f d s).2).2) := by unfold choiceV; rfl
 have HV := Lib.hid hV
 clear hV
 have h0 := h.alloc (.cells stZ 44)
 have HR0 := Lib.hid (heap_alloc_new w (.cells stZ 44))
 have HS0 := Lib.hid (szA w (.cells stZ 44))
 have hcd := cond_any HE h0 (by omega) hd
 have hcl := (cond_lt (f := f) (d := d) h.ok (by omega)).le
 have hcl2 := hcl.len
 have hsl := (runS_le f (.stmt (d + 1)) (condV f d s).2 ⟨hcl.ok, by simp only [rankS]; omega⟩).1
 have hsl2 := hsl.len
 generalize (condV f d s).1 = cx at *
 generalize (condV f d s).2 = s1 at *
 generalize hx0 : hdS (runS f (.stmt (d + 1)) s1) = x at *
 generalize hx1 : (runS f (.stmt (d + 1)) s1).2 = s2 at *
 have HX0 := Lib.hid hx0
 have HX1 := Lib.hid hx1
 clear hx0 hx1
 go_enter Tryz.func108, Tryz.ntmps108
 go_wp2_with fail
 refine hcd.mono ?_
 rintro e w1 ⟨v, rfl, hl1, h1, f1⟩
 clear hcd
 obtain ⟨A, cap, rfl⟩ := hl1.slice
 have z1 : w.heap.size + 1 ≤ w1.heap.size := by have := f1.size; rw [HS0.out] at this; exact this
 have HR1 := Lib.hid (f1.at_ HR0.out (by simp; omega))
 have F1 := ((Fr.refl [R] w).alloc (.cells stZ 44)).trans f1
 have h2 := h1.alloc (.cells (stL 2 (.slice A cx.length cap) (.slice none 0 0) va0 a).toArray 44)
 have HR2 := Lib.hid (bl1 w1 (.cells (stL 2 (.slice A cx.length cap) (.slice none 0 0) va0 a).toArray 44) HR1.out (by omega))
 have HB2 := Lib.hid (heap_alloc_new w1 (.cells (stL 2 (.slice A cx.length cap) (.slice none 0 0) va0 a).toArray 44))
 have HS2 := Lib.hid (szA w1 (.cells (stL 2 (.slice A cx.length cap) (.slice none 0 0) va0 a).toArray 44))
 have F2 := F1.alloc (.cells (stL 2 (.slice A cx.length cap) (.slice none 0 0) va0 a).toArray 44)
 rw [HS0.out] at hl1
 have HL2 := Lib.hid (hl1.all (.cells (stL 2 (.slice A cx.length cap) (.slice none 0 0) va0 a).toArray 44) (S' := fun k => w.heap.size + 1 ≤ k ∧ k < w1.heap.size) (fun k hk hl => ⟨hk, hl⟩))
 have hexp := HS R M (d + 1) s1 _ h2 (by omega) (by omega)
 rw [show ((d + 1 : Nat) : Int) = (d : Int) + 1 from rfl, HX0.out, HX1.out] at hexp
 clear hl1
 go_wp2_with (first | ((with_reducible refine bdT 44 _ _ (builtIf 2 A cx.length cap a) ?_ ?_); rfl) | ((with_reducible refine stNR 44 10 sizeSt w1.heap.size (c := stL 2 (.slice A cx.length cap) (.slice none 0 0) va0 a) rfl (oneT _ _ _ _ _ _ _ _ _) rfl ?_ ?_ ?_ ?_); rfl; rfl; rfl))
 refine hexp.mono ?_
 rintro e w3 ⟨c, rfl, hc, h3, f3⟩
 clear hexp
 have z3 : w1.heap.size + 1 ≤ w3.heap.size := by have := f3.size; rw [HS2.out] at this; exact this
 have HC := Lib.hid hc.len
 have hr4 := bl1 w3 (.cells c.toArray 44) (f3.at_ HR2.out (by simp; omega)) (by omega)
 have hb4 := bl1 w3 (.cells c.toArray 44) (f3.at_ HB2.out (by simp; omega)) (by omega)
 have h4 := h3.alloc (.cells c.toArray 44)
 have F4 := (F2.trans f3).alloc (.cells c.toArray 44)
 have HO4 : Own stE' 44 (w3.alloc (.cells c.toArray 44)) (w1.heap.size + 1) [x] (.slice (some ⟨w3.heap.size, 0, none⟩) 1 1) :=
  Own.made (E := stE') (by omega) (heap_alloc_new w3 _) (hc.all (.cells c.toArray 44) (fun g hg hl => ⟨by rw [HS2.out] at hg; exact hg, by omega⟩))
 have hl4 := (HL2.out.fr f3 (S' := fun k => w.heap.size + 1 ≤ k ∧ k < w1.heap.size) (fun k hk hl => ⟨hk, by have := hk.1; simp; omega⟩)).all (.cells c.toArray 44) (S' := fun k => w.heap.size + 1 ≤ k ∧ k < w1.heap.size) (fun k hk hl => hk)
 have c2 : (w3.alloc (.cells c.toArray 44)).cell? ⟨w1.heap.size, 2, none⟩ = some (.slice none 0 0) := cell_of_row _ _ _ _ _ _ hb4
 have e2 : (w3.alloc (.cells c.toArray 44)).frozen? ⟨w1.heap.size, 2, none⟩ = false := frozen_of_row _ _ _ _ _ hb4
 have u5 := up_set hb4 2 (.slice (some ⟨w3.heap.size, 0, none⟩) 1 1)
 have h5 := h4.up u5 hb4 (by decide) (by decide)
 have F5 := F4.up u5 (by omega)
 have HR5 := Lib.hid ((u5.oth w.heap.size (by omega)).trans hr4)
 have HB5 : Hid (((w3.alloc (.cells c.toArray 44)).setCell ⟨w1.heap.size, 2, none⟩ (.slice (some ⟨w3.heap.size, 0, none⟩) 1 1)).heap[w1.heap.size]? = some (.cells (stL 2 (.slice A cx.length cap) (.slice (some ⟨w3.heap.size, 0, none⟩) 1 1) va0 a).toArray 44)) := Lib.hid u5.at_
 have HO5 := HO4.keep (w' := (w3.alloc (.cells c.toArray 44)).setCell ⟨w1.heap.size, 2, none⟩ (.slice (some ⟨w3.heap.size, 0, none⟩) 1 1)) (fun k hk hl => u5.oth k (by omega)) (Nat.le_of_eq u5.size.symm)
 have hl5 := hl4.upd u5 (S' := fun k => w.heap.size + 1 ≤ k ∧ k < w1.heap.size) (fun k hk hl => ⟨hk, by have := hk.2; omega⟩)
 have HL5 := Lib.hid hl5
 have z5 := u5.size
 have z4 := szA w3 (.cells c.toArray 44)
 have HZ5 : Hid (((w3.alloc (.cells c.toArray 44)).setCell ⟨w1.heap.size, 2, none⟩ (.slice (some ⟨w3.heap.size, 0, none⟩) 1 1)).heap.size = w3.heap.size + 1) := Lib.hid (z5.trans z4)
 have hta := take_any ⟨#[101, 108, 115, 101]⟩ (by decide) h5
 clear u5 hr4 hb4 hc HO4 hl4 hl5 z5 z4
 cases hi : s2.is ⟨#[101, 108, 115, 101]⟩ with
 | false =>
  rw [hi, if_neg (by decide)] at HV
  rw [hi, take_no hi] at hta
  clear hi
  go_wp2_with (((with_reducible refine bs1 40 44 (.agg stZ) 10 Tryz.underlying40 infoStz (by decide) (by decide) c HC.out ?_ ?_); rfl))
  refine hta.mono ?_
  rintro e w6 ⟨rfl, h6, f6⟩
  clear hta c2 e2
  have HR6 := Lib.hid (f6.at_ HR5.out (by simp; omega))
  have HB6 := Lib.hid (f6.at_ HB5.out (by simp; omega))
  have HO6 := HO5.fr f6 (by simp; omega)
  have hl6 := HL5.out.fr f6 (S' := fun k => w.heap.size + 1 ≤ k ∧ k < w1.heap.size) (fun k hk hl => ⟨hk, by have := hk.1; simp; omega⟩)
  go_wp2_with (first | ((with_reducible refine ldG 44 w1.heap.size ?_ HB6.out Tryz.underlying44 ?_ ?_ ?_); rfl; rfl; exact sizeSt) | ((with_reducible refine stR 44 10 sizeSt w.heap.size (c := stL 2 (.slice A cx.length cap) (.slice (some ⟨w3.heap.size, 0, none⟩) 1 1) va0 a) rfl (oneT _ _ _ _ _ _ _ _ _) HR6.out rfl ?_ ?_ ?_); rfl; rfl; intro Y hY; have HY9 := Lib.hid hY; clear hY))
  refine ret_row Tryz.results108 w.heap.size 44 _ _ rfl rfl HY9.out.at_ Tryz.underlying44 rfl sizeSt ?_
  rw [HV.out]
  exact ⟨_, rfl, StAt.of (hl6.upd HY9.out (fun g hg hl => ⟨by have := hg.1; show w.heap.size ≤ g; omega, by have := hg.1; omega⟩)) (HO6.list.upd HY9.out (fun g hg hl => ⟨by have hg' : w1.heap.size + 1 ≤ g := hg; show w.heap.size ≤ g; omega, by have hg' : w1.heap.size + 1 ≤ g := hg; omega⟩)), h6.up HY9.out HR6.out (by decide) (by decide), (F5.trans f6).up HY9.out (by omega)⟩
 | true =>
  rw [hi, if_pos rfl] at HV
  rw [hi, take_tl hi] at hta
  have hne := is_ne hi (by decide)
  have htl := (tl_ok h5.ok hne).2
  clear hi
  go_wp2_with (((with_reducible refine bs1 40 44 (.agg stZ) 10 Tryz.underlying40 infoStz (by decide) (by decide) c HC.out ?_ ?_); rfl))
  refine hta.mono ?_
  rintro e w6 ⟨rfl, h6, f6⟩
  clear hta c2 e2
  have HR6 := Lib.hid (f6.at_ HR5.out (by simp; omega))
  have HB6 := Lib.hid (f6.at_ HB5.out (by simp; omega))
  have HO6 := Lib.hid (HO5.fr f6 (by simp; omega))
  have HL6 := Lib.hid (HL5.out.fr f6 (S' := fun k => w.heap.size + 1 ≤ k ∧ k < w1.heap.size) (fun k hk hl => ⟨hk, by have := hk.1; simp; omega⟩))
  have F6 := F5.trans f6
  have z6 : w3.heap.size + 1 ≤ w6.heap.size := by have := f6.size; rw [HZ5.out] at this; exact this
  have hexp := HS R M (d + 1) s2.tl w6.drew (h6.below ((Below.refl _ _).drew)) (by omega) (by omega)
  rw [show ((d + 1 : Nat) : Int) = (d : Int) + 1 from rfl] at hexp
  generalize hdS (runS f (.stmt (d + 1)) s2.tl) = y at *
  generalize (runS f (.stmt (d + 1)) s2.tl).2 = s3 at *
  have HEXP := Lib.hid hexp
  obtain ⟨i0, hi0, hz0, hz1, hz2⟩ := info_parts infoSt10
  clear hexp HO5 h5 h4 h3 h2 h1 h0 f3 f1 F1 F2 F4 F5 f6
  go_wp2_with fail
  refine wp_any_drew (by kernel_rfl) ?_
  refine wpAny_take (i := 0) (oi := ⟨some 21, .fieldAddr 44 (.tmp 7) 2, 0, "stmts.go:46", #[], none⟩) (v := .pointer (some ⟨w1.heap.size, 2, none⟩)) rfl (by kernel_rfl) (by kernel_rfl) (by kernel_rfl) (fun _ _ _ h => h) (Or.inl ⟨by rfl, ?hz1⟩) ?_
  case hz1 => ((intro W; go_simp); (try with_reducible rfl); (try exact ⟨rfl, rfl, rfl⟩))
  simp only [Act.put, sZa, sZb, sZc]
  refine wpAny_take (i := 2) (oi := ⟨some 23, .move (.tmp 0), 87, "stmts.go:46", #[], none⟩) (v := .pointer (some ⟨R, 0, none⟩)) rfl (by kernel_rfl) (by kernel_rfl) (by kernel_rfl) (fun _ _ _ h => h) (Or.inl ⟨by rfl, ?hz2⟩) ?_
  case hz2 => ((intro W; go_simp); (try with_reducible rfl); (try exact ⟨rfl, rfl, rfl⟩))
  simp only [Act.put, sZa, sZb, sZc]
  refine wpAny_take (i := 3) (oi := ⟨some 24, .move (.tmp 2), 3, "stmts.go:46", #[], none⟩) (v := .int .i64 d) rfl (by kernel_rfl) (by kernel_rfl) (by kernel_rfl) (fun _ _ _ h => h) (Or.inl ⟨by rfl, ?hz3⟩) ?_
  case hz3 => ((intro W; go_simp); (try with_reducible rfl); (try exact ⟨rfl, rfl, rfl⟩))
  simp only [Act.put, sZa, sZb, sZc]
  refine wpAny_take (i := 4) (oi := ⟨some 25, .binOp .add 3 (.tmp 24) (.const (Go.Value.int Go.IntKind.i64 1)) 3, 3, "stmts.go:46", #[⟨3, .data⟩], none⟩) (v := .int .i64 ((d : Int) + 1)) rfl (by kernel_rfl) (by kernel_rfl) (by kernel_rfl) (fun _ _ _ h => h) (Or.inl ⟨by rfl, ?hz4⟩) ?_
  case hz4 => ((intro W; go_simp); (try with_reducible rfl); (try exact ⟨rfl, rfl, rfl⟩))
  simp only [Act.put, sZa, sZb, sZc]
  refine wpAny_ready (rs := [1, 5]) (by kernel_rfl) (by simp) ?_
  refine (AllReady.cons (o := ⟨some 22, .load 40 (.tmp 21), 40, "stmts.go:46", #[⟨0, .data⟩], none⟩) rfl (fun K hK => ?_) (AllReady.cons (o := ⟨some 26, .call { callee := .value (.func 91), args := #[.tmp 23, .tmp 25], argTypes := #[87, 3] }, 44, "stmts.go:46", #[⟨2, .data⟩, ⟨4, .data⟩], none⟩) rfl (fun K hK => ?_) AllReady.nil))
  ·have HK := Lib.hid hK
   clear hK
   have hcc : (w6.drew).cell? ⟨w1.heap.size, 2, none⟩ = some (.slice (some ⟨w3.heap.size, 0, none⟩) 1 1) := cell_of_row _ _ _ _ _ _ HB6.out
   go_simp
   try clear hcc
   refine HK.out _ _ ?_
   clear HK K
   try simp only [Act.put, sZa, sZb, sZc]
   refine wpAny_ready (rs := [5]) (by kernel_rfl) (by simp) ?_
   refine (AllReady.cons (o := ⟨some 26, .call { callee := .value (.func 91), args := #[.tmp 23, .tmp 25], argTypes := #[87, 3] }, 44, "stmts.go:46", #[⟨2, .data⟩, ⟨4, .data⟩], none⟩) rfl (fun K hK => ?_) AllReady.nil)
   have HK := Lib.hid hK
   clear hK
   go_simp
   refine HEXP.out.mono ?_
   rintro e w7 ⟨c7, rfl, hc7, h7, f7⟩
   have z7 : w6.heap.size ≤ w7.heap.size := f7.size
   have HC7 := Lib.hid hc7.len
   have HN7 := Lib.hid hc7.one
   have HB7 := Lib.hid (f7.at_ HB6.out (by simp; omega))
   have HR7 := Lib.hid (f7.at_ HR6.out (by simp; omega))
   have HO7 := Lib.hid ((HO6.out.keep (w' := w6.drew) (fun _ _ _ => rfl) (Nat.le_refl _)).fr f7 (by simp; omega))
   have HL7 := Lib.hid ((HL6.out.keep (w' := w6.drew) (S' := fun k => w.heap.size + 1 ≤ k ∧ k < w1.heap.size) (fun k hk _ => ⟨hk, rfl⟩) (Nat.le_refl _)).fr f7 (S' := fun k => w.heap.size + 1 ≤ k ∧ k < w1.heap.size) (fun k hk hl => ⟨hk, by have := hk.1; simp; omega⟩))
   have F7 := F6.drew.trans f7
   have HX7 := Lib.hid hc7
   clear hc7
   try go_wp2_with fail
   refine HK.out _ _ ?_
   clear HK K
   try simp only [Act.put, sZa, sZb, sZc]
   refine wpAny_ready (rs := [6]) (by kernel_rfl) (by simp) ?_
   refine (AllReady.cons (o := ⟨some 27, .buildSlice 40 1 #[(0, .tmp 26)], 40, "stmts.go:46", #[⟨5, .data⟩], none⟩) rfl (fun K hK => ?_) AllReady.nil)
   have HK := Lib.hid hK
   clear hK
   rw [if_pos (by rfl)]
   refine wp_bs1 40 44 (.agg stZ) 10 Tryz.underlying40 infoStz (by decide) (by decide) HC7.out (by rfl) ?_
   have HB8 := Lib.hid (bl1 w7 (.cells c7.toArray 44) HB7.out (by omega))
   have HR8 := Lib.hid (bl1 w7 (.cells c7.toArray 44) HR7.out (by omega))
   have HO8 := Lib.hid (HO7.out.alloc (.cells c7.toArray 44))
   have hlt7 := HO7.out.lt
   have HX8 := Lib.hid (HX7.out.all (.cells c7.toArray 44) (S' := fun k => w1.heap.size + 1 ≤ k ∧ (Value.slice (some ⟨w3.heap.size, 0, none⟩) 1 1).ownBlock ≠ some k) (fun k hk hl => ⟨by have : w6.heap.size ≤ k := hk; omega, fun he => by have he : some w3.heap.size = some k := he; injection he with he; have : w6.heap.size ≤ k := hk; omega⟩))
   have HL8 := Lib.hid (HL7.out.all (.cells c7.toArray 44) (S' := fun k => w.heap.size + 1 ≤ k ∧ k < w1.heap.size) (fun k hk hl => hk))
   have h8 := h7.alloc (.cells c7.toArray 44)
   have F8 := F7.alloc (.cells c7.toArray 44)
   refine HK.out _ _ ?_
   clear HK K
   try simp only [Act.put, sZa, sZb, sZc]
   refine wpAny_ready (rs := [7]) (by kernel_rfl) (by simp) ?_
   refine (AllReady.cons (o := ⟨some 28, .call { callee := .builtin .append, args := #[.tmp 22, .tmp 27], argTypes := #[40, 40] }, 40, "stmts.go:46", #[⟨1, .data⟩, ⟨6, .data⟩, ⟨5, .chain⟩], none⟩) rfl (fun K hK => ?_) AllReady.nil)
   have HK := Lib.hid hK
   clear hK
   obtain ⟨rows, hrl, how, hel⟩ := HO8.out
   refine step_append_lies _ (by rfl) _ _ _ (by rfl) (w1.heap.size + 1) 44 i0 (.agg stZ) 10 128 Tryz.underlying40 hi0 hz0 hz1 hz2 rfl (by decide) (.slice (some ⟨w3.heap.size, 0, none⟩) 1 1) 1 rows.flatten (by rfl) how ⟨w7.heap.size, 0, none⟩ 1 1 c7 (by rfl) (by rw [HC7.out]) (World.news_of_block (cs := c7.toArray) (t := 44) (fr := (0, 0)) (heap_alloc_new w7 _)) HN7.out (by omega) (by unfold maxLen; omega) (by omega) (by simp only [szA]; omega) _ rfl ?_
   intro ga ca w9 hown9 hgrow9 hat9 hlt9
   have HO9 := Lib.hid (Own.push (E := stE') hrl hel HX8.out rfl hown9 hgrow9 hat9)
   have hb9 := (hgrow9.block w1.heap.size (by simp only [szA]; omega) (by intro hh; have hh : some w1.heap.size = some w3.heap.size := hh; injection hh with hh; omega)).trans HB8.out
   have hr9 := (hgrow9.block w.heap.size (by simp only [szA]; omega) (by intro hh; have hh : some w.heap.size = some w3.heap.size := hh; injection hh with hh; omega)).trans HR8.out
   have HB9 := Lib.hid hb9
   have HR9 := Lib.hid hr9
   have h9 := h8.own how hgrow9 (by decide) (by decide)
   have HL9 := Lib.hid (HL8.out.keep (w' := w9) (S' := fun k => w.heap.size + 1 ≤ k ∧ k < w1.heap.size) (fun k hk hl => ⟨hk, hgrow9.block k hl (by intro hh; have hh : some k = some w3.heap.size := hh; injection hh with hh; have := hk.2; omega)⟩) hgrow9.size)
   have F9 := F8.grown hgrow9 (fun k hk => by have hk : some w3.heap.size = some k := hk; injection hk with hk; omega)
   clear hel how hrl hown9 hgrow9 hb9 hr9
   refine HK.out _ _ ?_
   clear HK K
   try simp only [Act.put, sZa, sZb, sZc]
   refine wpAny_take (i := 8) (oi := ⟨some 29, .fieldAddr 44 (.tmp 7) 2, 0, "stmts.go:46", #[⟨0, .phase⟩, ⟨1, .phase⟩, ⟨2, .phase⟩, ⟨3, .phase⟩, ⟨4, .phase⟩, ⟨5, .phase⟩, ⟨6, .phase⟩, ⟨7, .phase⟩], none⟩) (v := .pointer (some ⟨w1.heap.size, 2, none⟩)) rfl (by kernel_rfl) (by kernel_rfl) (by kernel_rfl) (fun _ _ _ h => h) (Or.inl ⟨by rfl, ?hz5⟩) ?_
   case hz5 => ((intro W; go_simp); (try with_reducible rfl); (try exact ⟨rfl, rfl, rfl⟩))
   simp only [Act.put, sZa, sZb, sZc]
   refine wpAny_ready (rs := [9]) (by kernel_rfl) (by simp) ?_
   refine (AllReady.cons (o := ⟨none, .store 40 (.tmp 29) (.tmp 28), 0, "stmts.go:46", #[⟨8, .data⟩, ⟨7, .data⟩, ⟨7, .chain⟩, ⟨0, .phase⟩, ⟨1, .phase⟩, ⟨2, .phase⟩, ⟨3, .phase⟩, ⟨4, .phase⟩, ⟨5, .phase⟩, ⟨6, .phase⟩, ⟨7, .phase⟩], none⟩) rfl (fun K hK => ?_) AllReady.nil)
   have HK := Lib.hid hK
   clear hK
   have hcc : w9.cell? ⟨w1.heap.size, 2, none⟩ = some (.slice (some ⟨w3.heap.size, 0, none⟩) 1 1) := cell_of_row _ _ _ _ _ _ HB9.out
   have hff : w9.frozen? ⟨w1.heap.size, 2, none⟩ = false := frozen_of_row _ _ _ _ _ HB9.out
   go_simp
   try clear hcc hff
   refine HK.out _ _ ?_
   clear HK K
   try simp only [Act.put, sZa, sZb, sZc]
   refine wpAny_done (by kernel_rfl) ?_ _
   have u5 := up_set HB9.out 2 (.slice (some ⟨ga, 0, none⟩) (1 + 1) ca)
   have HBX : Hid ((w9.setCell ⟨w1.heap.size, 2, none⟩ (.slice (some ⟨ga, 0, none⟩) (1 + 1) ca)).heap[w1.heap.size]? = some (.cells (stL 2 (.slice A cx.length cap) (.slice (some ⟨ga, 0, none⟩) (1 + 1) ca) va0 a).toArray 44)) := Lib.hid u5.at_
   have HRX := Lib.hid ((u5.oth w.heap.size (by omega)).trans HR9.out)
   have hX := h9.up u5 HB9.out (by decide) (by decide)
   have FX := F9.up u5 (by omega)
   have hOX := HO9.out.keep (w' := w9.setCell ⟨w1.heap.size, 2, none⟩ (.slice (some ⟨ga, 0, none⟩) (1 + 1) ca)) (fun k hk hl => u5.oth k (by omega)) (Nat.le_of_eq u5.size.symm)
   have hLX := HL9.out.upd u5 (S' := fun k => w.heap.size + 1 ≤ k ∧ k < w1.heap.size) (fun k hk hl => ⟨hk, by have := hk.2; omega⟩)
   clear u5
   go_wp2_with (first | ((with_reducible refine ldG 44 w1.heap.size ?_ HBX.out Tryz.underlying44 ?_ ?_ ?_); rfl; rfl; exact sizeSt) | ((with_reducible refine stR 44 10 sizeSt w.heap.size (c := stL 2 (.slice A cx.length cap) (.slice (some ⟨ga, 0, none⟩) (1 + 1) ca) va0 a) rfl (oneT _ _ _ _ _ _ _ _ _) HRX.out rfl ?_ ?_ ?_); rfl; rfl; intro Y hY; have HY9 := Lib.hid hY; clear hY))
   refine ret_row Tryz.results108 w.heap.size 44 _ _ rfl rfl HY9.out.at_ Tryz.underlying44 rfl sizeSt ?_
   rw [HV.out]
   exact ⟨_, rfl, StAt.of (hLX.upd HY9.out (fun g hg hl => ⟨by have := hg.1; show w.heap.size ≤ g; omega, by have := hg.1; omega⟩)) (hOX.list.upd HY9.out (fun g hg hl => ⟨by have hg' : w1.heap.size + 1 ≤ g := hg; show w.heap.size ≤ g; omega, by have hg' : w1.heap.size + 1 ≤ g := hg; omega⟩)), hX.up HY9.out HRX.out (by decide) (by decide), FX.up HY9.out (by omega)⟩
  ·have HK := Lib.hid hK
   clear hK
   go_simp
   refine HEXP.out.mono ?_
   rintro e w7 ⟨c7, rfl, hc7, h7, f7⟩
   have z7 : w6.heap.size ≤ w7.heap.size := f7.size
   have HC7 := Lib.hid hc7.len
   have HN7 := Lib.hid hc7.one
   have HB7 := Lib.hid (f7.at_ HB6.out (by simp; omega))
   have HR7 := Lib.hid (f7.at_ HR6.out (by simp; omega))
   have HO7 := Lib.hid ((HO6.out.keep (w' := w6.drew) (fun _ _ _ => rfl) (Nat.le_refl _)).fr f7 (by simp; omega))
   have HL7 := Lib.hid ((HL6.out.keep (w' := w6.drew) (S' := fun k => w.heap.size + 1 ≤ k ∧ k < w1.heap.size) (fun k hk _ => ⟨hk, rfl⟩) (Nat.le_refl _)).fr f7 (S' := fun k => w.heap.size + 1 ≤ k ∧ k < w1.heap.size) (fun k hk hl => ⟨hk, by have := hk.1; simp; omega⟩))
   have F7 := F6.drew.trans f7
   have HX7 := Lib.hid hc7
   clear hc7
   try go_wp2_with fail
   refine HK.out _ _ ?_
   clear HK K
   try simp only [Act.put, sZa, sZb, sZc]
   refine wpAny_ready (rs := [1, 6]) (by kernel_rfl) (by simp) ?_
   refine (AllReady.cons (o := ⟨some 22, .load 40 (.tmp 21), 40, "stmts.go:46", #[⟨0, .data⟩], none⟩) rfl (fun K hK => ?_) (AllReady.cons (o := ⟨some 27, .buildSlice 40 1 #[(0, .tmp 26)], 40, "stmts.go:46", #[⟨5, .data⟩], none⟩) rfl (fun K hK => ?_) AllReady.nil))
   ·have HK := Lib.hid hK
    clear hK
    have hcc : (w7).cell? ⟨w1.heap.size, 2, none⟩ = some (.slice (some ⟨w3.heap.size, 0, none⟩) 1 1) := cell_of_row _ _ _ _ _ _ HB7.out
    go_simp
    try clear hcc
    refine HK.out _ _ ?_
    clear HK K
    try simp only [Act.put, sZa, sZb, sZc]
    refine wpAny_ready (rs := [6]) (by kernel_rfl) (by simp) ?_
    refine (AllReady.cons (o := ⟨some 27, .buildSlice 40 1 #[(0, .tmp 26)], 40, "stmts.go:46", #[⟨5, .data⟩], none⟩) rfl (fun K hK => ?_) AllReady.nil)
    have HK := Lib.hid hK
    clear hK
    rw [if_pos (by rfl)]
    refine wp_bs1 40 44 (.agg stZ) 10 Tryz.underlying40 infoStz (by decide) (by decide) HC7.out (by rfl) ?_
    have HB8 := Lib.hid (bl1 w7 (.cells c7.toArray 44) HB7.out (by omega))
    have HR8 := Lib.hid (bl1 w7 (.cells c7.toArray 44) HR7.out (by omega))
    have HO8 := Lib.hid (HO7.out.alloc (.cells c7.toArray 44))
    have hlt7 := HO7.out.lt
    have HX8 := Lib.hid (HX7.out.all (.cells c7.toArray 44) (S' := fun k => w1.heap.size + 1 ≤ k ∧ (Value.slice (some ⟨w3.heap.size, 0, none⟩) 1 1).ownBlock ≠ some k) (fun k hk hl => ⟨by have : w6.heap.size ≤ k := hk; omega, fun he => by have he : some w3.heap.size = some k := he; injection he with he; have : w6.heap.size ≤ k := hk; omega⟩))
    have HL8 := Lib.hid (HL7.out.all (.cells c7.toArray 44) (S' := fun k => w.heap.size + 1 ≤ k ∧ k < w1.heap.size) (fun k hk hl => hk))
    have h8 := h7.alloc (.cells c7.toArray 44)
    have F8 := F7.alloc (.cells c7.toArray 44)
    refine HK.out _ _ ?_
    clear HK K
    try simp only [Act.put, sZa, sZb, sZc]
    refine wpAny_ready (rs := [7]) (by kernel_rfl) (by simp) ?_
    refine (AllReady.cons (o := ⟨some 28, .call { callee := .builtin .append, args := #[.tmp 22, .tmp 27], argTypes := #[40, 40] }, 40, "stmts.go:46", #[⟨1, .data⟩, ⟨6, .data⟩, ⟨5, .chain⟩], none⟩) rfl (fun K hK => ?_) AllReady.nil)
    have HK := Lib.hid hK
    clear hK
    obtain ⟨rows, hrl, how, hel⟩ := HO8.out
    refine step_append_lies _ (by rfl) _ _ _ (by rfl) (w1.heap.size + 1) 44 i0 (.agg stZ) 10 128 Tryz.underlying40 hi0 hz0 hz1 hz2 rfl (by decide) (.slice (some ⟨w3.heap.size, 0, none⟩) 1 1) 1 rows.flatten (by rfl) how ⟨w7.heap.size, 0, none⟩ 1 1 c7 (by rfl) (by rw [HC7.out]) (World.news_of_block (cs := c7.toArray) (t := 44) (fr := (0, 0)) (heap_alloc_new w7 _)) HN7.out (by omega) (by unfold maxLen; omega) (by omega) (by simp only [szA]; omega) _ rfl ?_
    intro ga ca w9 hown9 hgrow9 hat9 hlt9
    have HO9 := Lib.hid (Own.push (E := stE') hrl hel HX8.out rfl hown9 hgrow9 hat9)
    have hb9 := (hgrow9.block w1.heap.size (by simp only [szA]; omega) (by intro hh; have hh : some w1.heap.size = some w3.heap.size := hh; injection hh with hh; omega)).trans HB8.out
    have hr9 := (hgrow9.block w.heap.size (by simp only [szA]; omega) (by intro hh; have hh : some w.heap.size = some w3.heap.size := hh; injection hh with hh; omega)).trans HR8.out
    have HB9 := Lib.hid hb9
    have HR9 := Lib.hid hr9
    have h9 := h8.own how hgrow9 (by decide) (by decide)
    have HL9 := Lib.hid (HL8.out.keep (w' := w9) (S' := fun k => w.heap.size + 1 ≤ k ∧ k < w1.heap.size) (fun k hk hl => ⟨hk, hgrow9.block k hl (by intro hh; have hh : some k = some w3.heap.size := hh; injection hh with hh; have := hk.2; omega)⟩) hgrow9.size)
    have F9 := F8.grown hgrow9 (fun k hk => by have hk : some w3.heap.size = some k := hk; injection hk with hk; omega)
    clear hel how hrl hown9 hgrow9 hb9 hr9
    refine HK.out _ _ ?_
    clear HK K
    try simp only [Act.put, sZa, sZb, sZc]
    refine wpAny_take (i := 8) (oi := ⟨some 29, .fieldAddr 44 (.tmp 7) 2, 0, "stmts.go:46", #[⟨0, .phase⟩, ⟨1, .phase⟩, ⟨2, .phase⟩, ⟨3, .phase⟩, ⟨4, .phase⟩, ⟨5, .phase⟩, ⟨6, .phase⟩, ⟨7, .phase⟩], none⟩) (v := .pointer (some ⟨w1.heap.size, 2, none⟩)) rfl (by kernel_rfl) (by kernel_rfl) (by kernel_rfl) (fun _ _ _ h => h) (Or.inl ⟨by rfl, ?hz6⟩) ?_
    case hz6 => ((intro W; go_simp); (try with_reducible rfl); (try exact ⟨rfl, rfl, rfl⟩))
    simp only [Act.put, sZa, sZb, sZc]
    refine wpAny_ready (rs := [9]) (by kernel_rfl) (by simp) ?_
    refine (AllReady.cons (o := ⟨none, .store 40 (.tmp 29) (.tmp 28), 0, "stmts.go:46", #[⟨8, .data⟩, ⟨7, .data⟩, ⟨7, .chain⟩, ⟨0, .phase⟩, ⟨1, .phase⟩, ⟨2, .phase⟩, ⟨3, .phase⟩, ⟨4, .phase⟩, ⟨5, .phase⟩, ⟨6, .phase⟩, ⟨7, .phase⟩], none⟩) rfl (fun K hK => ?_) AllReady.nil)
    have HK := Lib.hid hK
    clear hK
    have hcc : w9.cell? ⟨w1.heap.size, 2, none⟩ = some (.slice (some ⟨w3.heap.size, 0, none⟩) 1 1) := cell_of_row _ _ _ _ _ _ HB9.out
    have hff : w9.frozen? ⟨w1.heap.size, 2, none⟩ = false := frozen_of_row _ _ _ _ _ HB9.out
    go_simp
    try clear hcc hff
    refine HK.out _ _ ?_
    clear HK K
    try simp only [Act.put, sZa, sZb, sZc]
    refine wpAny_done (by kernel_rfl) ?_ _
    have u5 := up_set HB9.out 2 (.slice (some ⟨ga, 0, none⟩) (1 + 1) ca)
    have HBX : Hid ((w9.setCell ⟨w1.heap.size, 2, none⟩ (.slice (some ⟨ga, 0, none⟩) (1 + 1) ca)).heap[w1.heap.size]? = some (.cells (stL 2 (.slice A cx.length cap) (.slice (some ⟨ga, 0, none⟩) (1 + 1) ca) va0 a).toArray 44)) := Lib.hid u5.at_
    have HRX := Lib.hid ((u5.oth w.heap.size (by omega)).trans HR9.out)
    have hX := h9.up u5 HB9.out (by decide) (by decide)
    have FX := F9.up u5 (by omega)
    have hOX := HO9.out.keep (w' := w9.setCell ⟨w1.heap.size, 2, none⟩ (.slice (some ⟨ga, 0, none⟩) (1 + 1) ca)) (fun k hk hl => u5.oth k (by omega)) (Nat.le_of_eq u5.size.symm)
    have hLX := HL9.out.upd u5 (S' := fun k => w.heap.size + 1 ≤ k ∧ k < w1.heap.size) (fun k hk hl => ⟨hk, by have := hk.2; omega⟩)
    clear u5
    go_wp2_with (first | ((with_reducible refine ldG 44 w1.heap.size ?_ HBX.out Tryz.underlying44 ?_ ?_ ?_); rfl; rfl; exact sizeSt) | ((with_reducible refine stR 44 10 sizeSt w.heap.size (c := stL 2 (.slice A cx.length cap) (.slice (some ⟨ga, 0, none⟩) (1 + 1) ca) va0 a) rfl (oneT _ _ _ _ _ _ _ _ _) HRX.out rfl ?_ ?_ ?_); rfl; rfl; intro Y hY; have HY9 := Lib.hid hY; clear hY))
    refine ret_row Tryz.results108 w.heap.size 44 _ _ rfl rfl HY9.out.at_ Tryz.underlying44 rfl sizeSt ?_
    rw [HV.out]
    exact ⟨_, rfl, StAt.of (hLX.upd HY9.out (fun g hg hl => ⟨by have := hg.1; show w.heap.size ≤ g; omega, by have := hg.1; omega⟩)) (hOX.list.upd HY9.out (fun g hg hl => ⟨by have hg' : w1.heap.size + 1 ≤ g := hg; show w.heap.size ≤ g; omega, by have hg' : w1.heap.size + 1 ≤ g := hg; omega⟩)), hX.up HY9.out HRX.out (by decide) (by decide), FX.up HY9.out (by omega)⟩
   ·have HK := Lib.hid hK
    clear hK
    rw [if_pos (by rfl)]
    refine wp_bs1 40 44 (.agg stZ) 10 Tryz.underlying40 infoStz (by decide) (by decide) HC7.out (by rfl) ?_
    have HB8 := Lib.hid (bl1 w7 (.cells c7.toArray 44) HB7.out (by omega))
    have HR8 := Lib.hid (bl1 w7 (.cells c7.toArray 44) HR7.out (by omega))
    have HO8 := Lib.hid (HO7.out.alloc (.cells c7.toArray 44))
    have hlt7 := HO7.out.lt
    have HX8 := Lib.hid (HX7.out.all (.cells c7.toArray 44) (S' := fun k => w1.heap.size + 1 ≤ k ∧ (Value.slice (some ⟨w3.heap.size, 0, none⟩) 1 1).ownBlock ≠ some k) (fun k hk hl => ⟨by have : w6.heap.size ≤ k := hk; omega, fun he => by have he : some w3.heap.size = some k := he; injection he with he; have : w6.heap.size ≤ k := hk; omega⟩))
    have HL8 := Lib.hid (HL7.out.all (.cells c7.toArray 44) (S' := fun k => w.heap.size + 1 ≤ k ∧ k < w1.heap.size) (fun k hk hl => hk))
    have h8 := h7.alloc (.cells c7.toArray 44)
    have F8 := F7.alloc (.cells c7.toArray 44)
    refine HK.out _ _ ?_
    clear HK K
    try simp only [Act.put, sZa, sZb, sZc]
    refine wpAny_ready (rs := [1]) (by kernel_rfl) (by simp) ?_
    refine (AllReady.cons (o := ⟨some 22, .load 40 (.tmp 21), 40, "stmts.go:46", #[⟨0, .data⟩], none⟩) rfl (fun K hK => ?_) AllReady.nil)
    have HK := Lib.hid hK
    clear hK
    have hcc : (w7.alloc (.cells c7.toArray 44)).cell? ⟨w1.heap.size, 2, none⟩ = some (.slice (some ⟨w3.heap.size, 0, none⟩) 1 1) := cell_of_row _ _ _ _ _ _ HB8.out
    go_simp
    try clear hcc
    refine HK.out _ _ ?_
    clear HK K
    try simp only [Act.put, sZa, sZb, sZc]
    refine wpAny_ready (rs := [7]) (by kernel_rfl) (by simp) ?_
    refine (AllReady.cons (o := ⟨some 28, .call { callee := .builtin .append, args := #[.tmp 22, .tmp 27], argTypes := #[40, 40] }, 40, "stmts.go:46", #[⟨1, .data⟩, ⟨6, .data⟩, ⟨5, .chain⟩], none⟩) rfl (fun K hK => ?_) AllReady.nil)
    have HK := Lib.hid hK
    clear hK
    obtain ⟨rows, hrl, how, hel⟩ := HO8.out
    refine step_append_lies _ (by rfl) _ _ _ (by rfl) (w1.heap.size + 1) 44 i0 (.agg stZ) 10 128 Tryz.underlying40 hi0 hz0 hz1 hz2 rfl (by decide) (.slice (some ⟨w3.heap.size, 0, none⟩) 1 1) 1 rows.flatten (by rfl) how ⟨w7.heap.size, 0, none⟩ 1 1 c7 (by rfl) (by rw [HC7.out]) (World.news_of_block (cs := c7.toArray) (t := 44) (fr := (0, 0)) (heap_alloc_new w7 _)) HN7.out (by omega) (by unfold maxLen; omega) (by omega) (by simp only [szA]; omega) _ rfl ?_
    intro ga ca w9 hown9 hgrow9 hat9 hlt9
    have HO9 := Lib.hid (Own.push (E := stE') hrl hel HX8.out rfl hown9 hgrow9 hat9)
    have hb9 := (hgrow9.block w1.heap.size (by simp only [szA]; omega) (by intro hh; have hh : some w1.heap.size = some w3.heap.size := hh; injection hh with hh; omega)).trans HB8.out
    have hr9 := (hgrow9.block w.heap.size (by simp only [szA]; omega) (by intro hh; have hh : some w.heap.size = some w3.heap.size := hh; injection hh with hh; omega)).trans HR8.out
    have HB9 := Lib.hid hb9
    have HR9 := Lib.hid hr9
    have h9 := h8.own how hgrow9 (by decide) (by decide)
    have HL9 := Lib.hid (HL8.out.keep (w' := w9) (S' := fun k => w.heap.size + 1 ≤ k ∧ k < w1.heap.size) (fun k hk hl => ⟨hk, hgrow9.block k hl (by intro hh; have hh : some k = some w3.heap.size := hh; injection hh with hh; have := hk.2; omega)⟩) hgrow9.size)
    have F9 := F8.grown hgrow9 (fun k hk => by have hk : some w3.heap.size = some k := hk; injection hk with hk; omega)
    clear hel how hrl hown9 hgrow9 hb9 hr9
    refine HK.out _ _ ?_
    clear HK K
    try simp only [Act.put, sZa, sZb, sZc]
    refine wpAny_take (i := 8) (oi := ⟨some 29, .fieldAddr 44 (.tmp 7) 2, 0, "stmts.go:46", #[⟨0, .phase⟩, ⟨1, .phase⟩, ⟨2, .phase⟩, ⟨3, .phase⟩, ⟨4, .phase⟩, ⟨5, .phase⟩, ⟨6, .phase⟩, ⟨7, .phase⟩], none⟩) (v := .pointer (some ⟨w1.heap.size, 2, none⟩)) rfl (by kernel_rfl) (by kernel_rfl) (by kernel_rfl) (fun _ _ _ h => h) (Or.inl ⟨by rfl, ?hz7⟩) ?_
    case hz7 => ((intro W; go_simp); (try with_reducible rfl); (try exact ⟨rfl, rfl, rfl⟩))
    simp only [Act.put, sZa, sZb, sZc]
    refine wpAny_ready (rs := [9]) (by kernel_rfl) (by simp) ?_
    refine (AllReady.cons (o := ⟨none, .store 40 (.tmp 29) (.tmp 28), 0, "stmts.go:46", #[⟨8, .data⟩, ⟨7, .data⟩, ⟨7, .chain⟩, ⟨0, .phase⟩, ⟨1, .phase⟩, ⟨2, .phase⟩, ⟨3, .phase⟩, ⟨4, .phase⟩, ⟨5, .phase⟩, ⟨6, .phase⟩, ⟨7, .phase⟩], none⟩) rfl (fun K hK => ?_) AllReady.nil)
    have HK := Lib.hid hK
    clear hK
    have hcc : w9.cell? ⟨w1.heap.size, 2, none⟩ = some (.slice (some ⟨w3.heap.size, 0, none⟩) 1 1) := cell_of_row _ _ _ _ _ _ HB9.out
    have hff : w9.frozen? ⟨w1.heap.size, 2, none⟩ = false := frozen_of_row _ _ _ _ _ HB9.out
    go_simp
    try clear hcc hff
    refine HK.out _ _ ?_
    clear HK K
    try simp only [Act.put, sZa, sZb, sZc]
    refine wpAny_done (by kernel_rfl) ?_ _
    have u5 := up_set HB9.out 2 (.slice (some ⟨ga, 0, none⟩) (1 + 1) ca)
    have HBX : Hid ((w9.setCell ⟨w1.heap.size, 2, none⟩ (.slice (some ⟨ga, 0, none⟩) (1 + 1) ca)).heap[w1.heap.size]? = some (.cells (stL 2 (.slice A cx.length cap) (.slice (some ⟨ga, 0, none⟩) (1 + 1) ca) va0 a).toArray 44)) := Lib.hid u5.at_
    have HRX := Lib.hid ((u5.oth w.heap.size (by omega)).trans HR9.out)
    have hX := h9.up u5 HB9.out (by decide) (by decide)
    have FX := F9.up u5 (by omega)
    have hOX := HO9.out.keep (w' := w9.setCell ⟨w1.heap.size, 2, none⟩ (.slice (some ⟨ga, 0, none⟩) (1 + 1) ca)) (fun k hk hl => u5.oth k (by omega)) (Nat.le_of_eq u5.size.symm)
    have hLX := HL9.out.upd u5 (S' := fun k => w.heap.size + 1 ≤ k ∧ k < w1.heap.size) (fun k hk hl => ⟨hk, by have := hk.2; omega⟩)
    clear u5
    go_wp2_with (first | ((with_reducible refine ldG 44 w1.heap.size ?_ HBX.out Tryz.underlying44 ?_ ?_ ?_); rfl; rfl; exact sizeSt) | ((with_reducible refine stR 44 10 sizeSt w.heap.size (c := stL 2 (.slice A cx.length cap) (.slice (some ⟨ga, 0, none⟩) (1 + 1) ca) va0 a) rfl (oneT _ _ _ _ _ _ _ _ _) HRX.out rfl ?_ ?_ ?_); rfl; rfl; intro Y hY; have HY9 := Lib.hid hY; clear hY))
    refine ret_row Tryz.results108 w.heap.size 44 _ _ rfl rfl HY9.out.at_ Tryz.underlying44 rfl sizeSt ?_
    rw [HV.out]
    exact ⟨_, rfl, StAt.of (hLX.upd HY9.out (fun g hg hl => ⟨by have := hg.1; show w.heap.size ≤ g; omega, by have := hg.1; omega⟩)) (hOX.list.upd HY9.out (fun g hg hl => ⟨by have hg' : w1.heap.size + 1 ≤ g := hg; show w.heap.size ≤ g; omega, by have hg' : w1.heap.size + 1 ≤ g := hg; omega⟩)), hX.up HY9.out HRX.out (by decide) (by decide), FX.up HY9.out (by omega)⟩
end Go.Proofs.YtfjobnljdkiihaaGreatDoor
