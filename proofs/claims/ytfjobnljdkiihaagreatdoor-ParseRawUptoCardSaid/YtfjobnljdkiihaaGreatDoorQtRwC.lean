/- ParseRaw answers true. Conditions: each theorem's. -/
import Derived.Test.YtfjobnljdkiihaaGreatDoorQtRwA
import Derived.Test.YtfjobnljdkiihaaGreatDoorQtRwB
import Derived.Test.YtfjobnljdkiihaaGreatDoorQtTwP
import Derived.Test.YtfjobnljdkiihaaGreatDoorQtParAw
namespace Go.Proofs.YtfjobnljdkiihaaGreatDoor
open Go.RowKit Go.Maps
set_option linter.unusedVariables false
set_option linter.unusedSimpArgs false
set_option maxRecDepth 100000
open Lx Pa Go.Lib Qi
/-- The program around an expression. -/
def raw (x : PEx) : PPr := ⟨[], [], [⟨⟨#[]⟩, ty0, [], .mk 0 [x] [] va0 0, 0⟩]⟩
theorem raw_eq {x y : PEx} : EqP false (raw x) (raw y) ↔ EqEs false [x] [y] := by
  constructor
  · intro h
    have h1 := (h.fs.2 0 (by simp [raw])).body
    exact (eqS_iff.1 h1).2.2.2.1
  · intro h
    refine ⟨⟨rfl, fun i hi => by simp [raw] at hi⟩, ⟨rfl, fun i hi => by simp [raw] at hi⟩, ⟨rfl, fun i hi => ?_⟩⟩
    have hi : i = 0 := by simp [raw] at hi; omega
    subst hi
    exact ⟨rfl, rfl, (fun e => by cases e), ⟨rfl, fun i hi => by simp [raw] at hi⟩, eqS_iff.2 ⟨rfl, (fun e => by cases e), ⟨rfl, rfl, rfl, (fun e => by cases e)⟩, h, rfl, fun i hi => by simp at hi⟩⟩
theorem raw_strs (T : PrintTabs) (x y : PEx) : ((⟨(treeT T (raw x)).toArray⟩ : ByteArray).toList == (⟨(treeT T (raw y)).toArray⟩ : ByteArray).toList) = sameB (EqEs false [x] [y]) := by
  by_cases h : EqEs false [x] [y]
  · rw [sameB_true h, tree_eq (raw_eq.2 h)]; simp
  · rw [sameB_false h]
    refine strEqF fun e => h (raw_eq.1 (tree_inj (T := T) ?_))
    injection e with e
    injection e
theorem raw_fits {x : PEx} (h : fE x) : fP (raw x) := by
  have z : fitI 0 := by unfold fitI; omega
  refine ⟨fun s hs => by simp [raw] at hs, fun v hv => by simp [raw] at hv, fun f hf => ?_⟩
  have hf : f = ⟨⟨#[]⟩, ty0, [], .mk 0 [x] [] va0 0, 0⟩ := by simpa [raw] using hf
  subst hf
  have e0 : (⟨#[]⟩ : ByteArray).size ≤ 1048576 := Nat.zero_le _
  exact ⟨⟨e0, e0, z, z⟩, fun v hv => by simp at hv, ⟨⟨⟨h, trivial⟩, ⟨e0, ⟨e0, z, z⟩, z⟩, z⟩, trivial⟩⟩
theorem raw_len (T : PrintTabs) (x : PEx) : (treeT T (raw x)).length ≤ (exT T x).length + 1000 := by
  have q := qt_lenB T ⟨#[]⟩
  have hs : (⟨#[]⟩ : ByteArray).size = 0 := rfl
  rw [hs] at q
  have i0 : (itoa 0).length ≤ 21 := itoaI (by unfold fitI; omega)
  have i1 : (itoa 1).length ≤ 21 := itoaI (by unfold fitI; omega)
  simp [treeT, raw, fnT, typT, stT, stLine, varT, stsT, exsT, ty0, va0]
  omega
theorem one_at {α : Type} {E : Elem α} {w : World} {S : Nat → Prop} {x : α} {c : List Value} {g : Nat} {t : TypeId} (hx : E.At w S x c) (hS : S g) (hr : w.heap[g]? = some (.cells c.toArray t (0, 0))) : LAt E w S [x] (.slice (some ⟨g, 0, none⟩) 1 1) :=
  ⟨[c], rfl, ⟨some ⟨g, 0, none⟩, 1, rfl, Nat.le_refl _, by unfold maxLen; omega, fun _ => ⟨g, 0, rfl, hS, lt_of_at hr, fun j u hu => by
    have hu : c[j]? = some u := by simpa using hu
    rw [Nat.zero_add, cell_of_row _ _ _ _ _ _ hr]
    simpa using hu⟩⟩, fun i y d hy hd => by
    cases i with
    | zero =>
      have hy : x = y := by simpa using hy
      have hd : c = d := by simpa using hd
      subst hy hd
      exact hx
    | succ i => simp at hy⟩
set_option maxHeartbeats 16000000 in
theorem rawP_any {w : World} {x : PEx} {c : List Value} {S : Nat → Prop} (hx : ExA w S x c) :
    Calls Tryz.prog 10 #[.agg c.toArray] w fun e w' => Below w.heap.size w w' ∧ ∃ vf, e = .returned (.agg #[.slice none 0 0, .slice none 0 0, vf]) ∧ LAt fnA w' (fun _ => True) (raw x).fs vf := by
  obtain ⟨kd, op, nm, num, kids, ty, a, z, A, cap, rfl, rfl, hL⟩ := ExA.inv hx
  go_enter Tryz.func10, Tryz.ntmps10
  go_wp2_with fail
  generalize hX : (((w.alloc _).alloc _).alloc _).alloc _ = W
  have hb : Below w.heap.size w W := by
    rw [← hX]
    exact ((((Below.refl _ _).alloc (Nat.le_refl _) _).alloc (by simp) _).alloc (by simp; omega) _).alloc (by simp; omega) _
  have r1 : W.heap[w.heap.size + 1 + 1]? = some (.cells (exQ kd op nm num (.slice A kids.length cap) ty z).toArray 39 (0, 0)) := by
    rw [← hX]
    refine bl1 _ _ (bn _ _ ?_) ?_ <;> simp only [szA] <;> omega
  have r0 : W.heap[w.heap.size + 1]? = some (.cells #[.slice none 0 0, .slice none 0 0, .slice (some ⟨w.heap.size + 1 + 1 + 1, 0, none⟩) 1 1] 27 (0, 0)) := by
    rw [← hX]
    refine bl1 _ _ (bl1 _ _ (bn _ _ ?_) ?_) ?_ <;> simp only [szA] <;> omega
  have r2 : W.heap[w.heap.size + 1 + 1 + 1]? = some (.cells #[.string ⟨#[]⟩, .int .i64 0, .int .i64 0, .string ⟨#[]⟩, .slice none 0 0, .int .i64 0, .slice (some ⟨w.heap.size + 1 + 1, 0, none⟩) 1 1, .slice none 0 0, .string ⟨#[]⟩, .int .i64 0, .int .i64 0, .string ⟨#[]⟩, .int .i64 0, .int .i64 0, .int .i64 0, .int .i64 0] 46 (0, 0)) := by
    rw [← hX]
    refine bn _ _ ?_
    simp only [szA]
  have hxW : ExA W (fun _ => True) (.mk kd op nm num kids ty a) (exQ kd op nm num (.slice A kids.length cap) ty z) := hx.keep (fun g _ hl => ⟨trivial, hb.block g hl⟩) hb.size
  refine ret_row Tryz.results10 (w.heap.size + 1) 27 _ _ rfl rfl r0 Tryz.underlying27 rfl (by kernel_rfl) ?_
  refine ⟨hb, _, rfl, ?_⟩
  have hxs : LAt exA W (fun _ => True) [.mk kd op nm num kids ty a] _ := one_at (E := exA) hxW trivial r1
  refine one_at (E := fnA) (c := fnQ ⟨⟨#[]⟩, ty0, [], .mk 0 [.mk kd op nm num kids ty a] [] va0 0, 0⟩ (.slice none 0 0) (stQ 0 (.slice (some ⟨w.heap.size + 1 + 1, 0, none⟩) 1 1) (.slice none 0 0) va0 0 0) 0) ?_ trivial r2
  exact ⟨_, _, _, LAt.nil _ _ _, .mk hxs (rows := []) rfl (RowAt.nil _ _) (fun i hi => by simp at hi), rfl⟩
end Go.Proofs.YtfjobnljdkiihaaGreatDoor
