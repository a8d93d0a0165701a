/- Package heap: the document's example. Conditions: each theorem's. -/
import Derived.Test.YtjianllngobhhaaHeapL
namespace Go.Proofs.Ytjianllngobhhaa
open Go.RowKit Go.Maps
set_option linter.unusedVariables false
set_option linter.unusedSimpArgs false
set_option maxRecDepth 100000
open Hp
theorem HpIs.alloc {w : World} {h : Nat} {o : Nat → Prop} {c : Nat} {A : Ab} (H : HpIs w h o c A) (x : Obj) : HpIs (w.alloc x) h o c A := H.below ((Below.refl _ _).alloc (Nat.le_refl _) _)
theorem HpIs.drew {w : World} {h : Nat} {o : Nat → Prop} {c : Nat} {A : Ab} (H : HpIs w h o c A) : HpIs w.drew h o c A := H.below ((Below.refl _ _).drew)
theorem HpIs.at_ {w w' : World} {h : Nat} {o : Nat → Prop} {c : Nat} {A : Ab} (H : HpIs w h o c A) (hb : Below w.heap.size w w') : HpIs w' h o c A := H.below hb
theorem eq_ptr (p q : Ptr) (W : World) : (binOp .eql 31 p.v q.v).run Try.prog W = .ok (.bool (decide (p = q))) W := by
  obtain ⟨a, b, c, d⟩ := p
  obtain ⟨a', b', c', d'⟩ := q
  have e : (decide (Ptr.mk a b c d = Ptr.mk a' b' c' d')) = (a == a' && (b == b' && (c == c' && d == d'))) := by
    simp only [Ptr.mk.injEq, Bool.decide_and]
    rfl
  rw [e]
  simp only [Ptr.v]
  go_simp
  by_cases h1 : a = a' <;> by_cases h2 : b = b' <;> by_cases h3 : c = c' <;> by_cases h4 : d = d' <;> simp [*]
namespace Hp
def A8 : Ab := ab0.make 8 true
def p8 : Ptr := ⟨1, 0, 0, 8⟩
theorem p8_ok : p8.ok := by unfold Ptr.ok p8 in64; refine ⟨?_, ?_, ?_, ?_⟩ <;> dsimp only <;> omega
end Hp
set_option maxHeartbeats 2000000 in
theorem awake_any (w : World) :
    Calls Try.prog 6 #[] w fun e w' => e = .returned (.bool true) ∧ Below w.heap.size w w' := by
  go_enter Try.func6, Try.ntmps6
  go_wp2_with fail
  refine (new_any _).mono ?_
  rintro e w1 ⟨h, o, rfl, hp1, ho1, hb1⟩
  have HP1 := Lib.hid hp1
  have HO1 := Lib.hid ho1
  clear hp1 ho1
  go_wp2_with fail
  refine (make_any HP1.out (by omega) 8 true).mono ?_
  rintro e w2 ⟨o2, he, hp2, hs2⟩
  have hv : (ab0.makeV 8).v = .agg #[.int .i64 1, .int .i64 0, .int .i64 0, .int .i64 8] := rfl
  have hv2 : Ab.makeE 8 = 0 := rfl
  rw [hv, hv2] at he
  subst he
  have HP2 : Hid (HpIs w2 h o2 1 A8) := Lib.hid hp2
  have HS2 := Lib.hid hs2
  clear hp2 hs2 hv hv2
  go_wp2_with fail
  refine (move_any p8 4 _ p8_ok).mono ?_
  rintro e w3 ⟨rfl, hb3⟩
  have r3 := row_in hb3 (heap_alloc_new w2 (.cells #[.int .i64 1, .int .i64 0, .int .i64 0, .int .i64 8] 31)) (by simp)
  have hz3 := hb3.size
  simp only [World.size_alloc] at hz3
  have HP3 := Lib.hid ((HP2.out.alloc _).below hb3)
  have HB3 := Lib.hid (((Below.refl w2.heap.size w2).alloc (Nat.le_refl _) (.cells #[.int .i64 1, .int .i64 0, .int .i64 0, .int .i64 8] 31)).trans (hb3.mono (by simp)))
  clear hb3
  go_wp2_with fail
  refine (load_any HP3.out (mv p8 4) (mv_ok p8_ok 4) 4).mono ?_
  rintro e w4 ⟨he, hb4⟩
  rw [show A8.at_ (mv p8 4) 4 = 0 from by decide +kernel] at he
  simp only [Val.v] at he
  subst he
  have r4 := row_in hb4 r3 (lt_of_at r3)
  obtain ⟨q0, q1, q2, q3⟩ := cells4 r4
  have hl4 := lt_of_at r4
  have HP4 := Lib.hid (HP3.out.below hb4)
  have HB4 := Lib.hid (HB3.out.trans (hb4.mono HB3.out.size))
  clear hb4 r3
  go_wp2_with fail
  refine (move_any p8 5 _ p8_ok).mono ?_
  rintro e w5 ⟨rfl, hb5⟩
  have r5 := row_in hb5 (row_up r4 _) (by simp; omega)
  have HP5 := Lib.hid ((HP4.out.alloc _).below hb5)
  have HB5 := Lib.hid ((HB4.out.alloc HB4.out.size _).trans (hb5.mono (by have := HB4.out.size; simp; omega)))
  clear hb5 q0 q1 q2 q3
  go_wp2_with fail
  refine (load_any HP5.out (mv p8 5) (mv_ok p8_ok 5) 4).mono ?_
  rintro e w6 ⟨he, hb6⟩
  rw [show A8.at_ (mv p8 5) 4 = 21 from by decide +kernel] at he
  simp only [Val.v] at he
  subst he
  have r6 := row_in hb6 r5 (lt_of_at r5)
  obtain ⟨q0, q1, q2, q3⟩ := cells4 r6
  have hl6 := lt_of_at r6
  have HB6 := Lib.hid (HB5.out.trans (hb6.mono HB5.out.size))
  clear hb6 r5 r4
  go_wp2
  go_ret
  refine ⟨rfl, ?_⟩
  have e1 := HS2.out.toBelow hb1.size HO1.out
  exact (hb1.trans e1).trans ((HB6.out.alloc HB6.out.size _).mono (by have := hb1.size; have := e1.size; omega))
end Go.Proofs.Ytjianllngobhhaa
