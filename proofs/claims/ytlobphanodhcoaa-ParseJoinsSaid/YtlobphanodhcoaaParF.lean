/- The strengths of operators: a map. Conditions: each theorem's. -/
import Derived.Test.YtlobphanodhcoaaParB
namespace Go.Proofs.Ytlobphanodhcoaa
open Go.RowKit Go.Maps
set_option linter.unusedVariables false
set_option linter.unusedSimpArgs false
set_option maxRecDepth 100000
open Lx Pa
theorem keyStr : Keyed Try.prog 9 := string_keyed Try.underlying9
theorem keyOfStr (x : ByteArray) (hx : x.size ≤ maxLen) : keyOf Try.prog 9 (.string x) = some (.string x.toList) := by
  rw [keyOf_string Try.underlying9]
  simp [mapKey, Try.underlying9, Lib.toList_data, hx]
def StrL (w : World) (b n : Nat) (L : List (ByteArray × Int)) : Prop := ∃ D : DataW Unit, w.ownsMap Try.prog 9 (plainElem Try.prog 3) b n D ∧ ∀ x : ByteArray, D.atKey (.string x.toList) zI = .lit (.int .i64 (tabV L x))
theorem tab_cons (k : ByteArray) (v : Int) (L : List (ByteArray × Int)) (x : ByteArray) : tabV ((k, v) :: L) x = if k = x then v else tabV L x := by
  unfold tabV
  rw [List.find?_cons]
  by_cases h : k = x
  · rw [if_pos h]; simp [h]
  · rw [if_neg h]; simp [h]
theorem insStr {ops : Array Oper} {rest : List Oper} {Q : Exit → Act → World → Prop} {a : Act} {w : World} {dst : Option Tmp} {ty : TypeId} {pos : String} {af : Array Edge} {m : Operand} {k : ByteArray} {v : Int} (b n : Nat) (L : List (ByteArray × Int))
    (hm : a.eval m = .map (some b)) (h : StrL w b n L) (hn : n < 100) (hk : k.size ≤ maxLen) (hv : 0 ≤ v ∧ v ≤ 100)
    (hK : ∀ w', StrL w' b (n + 1) ((k, v) :: L) → w.grownBy w' (some b) → wpList Try.prog ops Q rest (a.put dst undef) w') :
    wpList Try.prog ops Q (⟨dst, .insert 50 m (.const (.string k)) (.const (.int .i64 v)), ty, pos, af, none⟩ :: rest) a w := by
  refine wpList_plain rfl fun K' hK' => ?_
  obtain ⟨D, ho, hD⟩ := h
  have hwf : (Lit.int .i64 v).wf = true := by
    show (decide (IntKind.i64.min ≤ v) && decide (v ≤ IntKind.i64.max)) = true
    rw [show IntKind.i64.min = -9223372036854775808 from by decide, show IntKind.i64.max = 9223372036854775807 from by decide]
    simp
    omega
  obtain ⟨w', hrun, r1, r2⟩ := ho.update keyStr Try.underlying50 (by unfold maxLen; omega) (keyOfStr k hk) (plainElem_int Try.underlying3 hwf)
  unfold Oper.wp
  have e1 : a.eval (.const (.string k)) = .string k := rfl
  have e2 : a.eval (.const (.int .i64 v)) = .int .i64 v := rfl
  simp [execOp, hm, e1, e2, hrun, Result.andThen]
  refine hK' _ _ (hK w' ⟨_, r1, fun x => ?_⟩ r2)
  rw [tab_cons]
  by_cases hx : k = x
  · subst hx
    rw [if_pos rfl]
    exact atKey_put_same ho.isMap (show WideAt.IsKeyLit (.string k.toList) from trivial) _ _
  · rw [if_neg hx, atKey_put_other]
    · exact hD x
    · intro e
      injection e with e
      refine hx ?_
      have := strEq k x
      rw [← e] at this
      simpa using this.symm
theorem run_makeStr (w : World) : (Instr.makeMap 50 none).run Try.prog w = .ok (.map (some w.heap.size)) (w.alloc (.map #[] 0)) := by
  simp [Instr.makeMap, Try.underlying50]
set_option maxHeartbeats 4000000 in
theorem allStr_any (w : World) : Calls Try.prog 8 #[] w fun e w' => e = .returned (.map (some w.heap.size)) ∧ StrAt w' w.heap.size ∧ Below w.heap.size w w' := by
  have h0 : StrL (w.alloc (.map #[] 0)) w.heap.size 0 [] := ⟨.map [], World.ownsMap_made w _ _ _, fun x => rfl⟩
  have b0 : Below w.heap.size w (w.alloc (.map #[] 0)) := (Below.refl _ _).alloc (Nat.le_refl _) _
  have HM := run_makeStr w
  have hS := Lib.hid h0
  have hB := Lib.hid b0
  clear h0 b0
  go_enter Try.func8, Try.ntmps8
  go_wp2_with ((with_reducible refine insStr w.heap.size _ _ ?_ hS.out ?_ ?_ ?_ ?_); rfl; decide; (unfold maxLen; decide); decide; intro W hS2 hG2; have hB2 := Lib.hid (hB.out.grown hG2 hB.out.size (by intro k hk; cases hk; exact Nat.le_refl _)); clear hS hB hG2; have hS := Lib.hid hS2; have hB := hB2; clear hS2 hB2)
  go_ret
  obtain ⟨D, h1, h2⟩ := hS.out
  exact ⟨rfl, ⟨D, _, h1, h2⟩, hB.out⟩
end Go.Proofs.Ytlobphanodhcoaa
