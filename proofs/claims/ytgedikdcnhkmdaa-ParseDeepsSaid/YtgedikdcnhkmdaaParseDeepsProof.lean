/- ParseDeeps answers true of any number and any byte, and they read afterwards as they did. No condition but that the arguments are of their Go types. -/
import Derived.Test.YtgedikdcnhkmdaaParDe
import Derived.Test.YtgedikdcnhkmdaaParPx
import Derived.Test.YtgedikdcnhkmdaaParPy
import Derived.Test.YtgedikdcnhkmdaaParPz
import Derived.Test.YtgedikdcnhkmdaaReadsH
import Derived.HandedShaped
import Derived.WalkKit
import Derived.ProofKit
import Derived.OpenShut
import Derived.ChangeMaps5
namespace Go.Proofs.Ytgedikdcnhkmdaa.parseDeeps
open Go.ChangeShapes Go.WideShapes Go.ChangeAt Go.RowKit
set_option linter.unusedVariables false
set_option linter.unusedSimpArgs false
set_option maxRecDepth 100000
open Lx
theorem wf_of {k : IntKind} {n : Int} (h : (Lit.int k n).wf = true) : k.min ≤ n ∧ n ≤ k.max := by simpa [Lit.wf] using h
theorem u8_of {n : Int} (h : (Lit.int .u8 n).wf = true) : 0 ≤ n ∧ n < 256 := by have := wf_of h; simp [IntKind.min, IntKind.max, IntKind.signed, IntKind.bits] at this; omega
theorem deeps_walk {w : World} (a how : Int) (hM : MaxIs w) (h0 : 0 ≤ how) :
    Calls Try.prog 4 #[.int .i64 a, .int .u8 how] w fun e w' => e = .returned (.bool true) ∧ Below w.heap.size w w' := by
  have h3 : how.tmod 3 = how % 3 := Int.tmod_eq_emod_of_nonneg h0
  have h4 := Int.emod_nonneg how (show (3 : Int) ≠ 0 by omega)
  have h5 := Int.emod_lt_of_pos how (show (0 : Int) < 3 by omega)
  rcases (show how % 3 = 0 ∨ how % 3 = 1 ∨ how % 3 = 2 by omega) with h | h | h
  · exact deeps_0 a how hM (h3.trans h) Pa.allD_0
  · exact deeps_1 a how hM (h3.trans h) Pa.allD_1
  · exact deeps_2 a how hM (h3.trans h) Pa.allD_2
theorem own : ownKnob Try.prog.godebug = none := by kernel_rfl
set_option maxRecDepth 100000 in
theorem lifted (os : Os) (started : os.Started) (H : Type) (enc : TypeId × Value → H) :
    ReturnsInHanded {} Try.checked os 4 .any (Rows.parseDeepsSpec.pre6 enc Try.prog Try.f4 Rows.parseDeepsRow.domain false) (Rows.parseDeepsSpec.post enc Try.prog Try.f4 false true false false) := by
  refine returnsInHanded_of_change_shaped (C := Try.checked) own started (by kernel_rfl) Try.func4
    (ChangeSpec.witness6 (enc := enc) (C := Try.checked) false ⟨#[], #[.int .i64 0, .int .u8 0], []⟩ 8 (by kernel_rfl) (by kernel_rfl) (by kernel_rfl) (by kernel_rfl)) ?_
  intro W base args ds gs before hval0 hW hcnd hwt hsh _
  have hval : ∀ (j : Nat) t v, Try.f4.params[j]? = some t → args[j]? = some v → Value.okWide Try.prog W .any base t v := hval0
  have hW' := hW
  obtain ⟨p, q, hA0, hV, rfl, hfz, hnd⟩ := hW
  have hA : DataW.TrodAll enc Try.prog W 0 (fun _ => true) true Try.f4.params.toList args.toList ds p := hA0
  rw [Try.params4] at hA hval
  obtain ⟨v0, vs0, d0, ds0, p0, q0, hargs, rfl, rfl, h0, r0⟩ := trodAll_cons hA
  obtain ⟨v1, vs1, d1, ds1, p1, q1, rfl, rfl, rfl, h1, r1⟩ := trodAll_cons r0
  obtain ⟨rfl, rfl, rfl⟩ := trodAll_nil r1
  obtain rfl : args = #[v0, v1] := by cases args; simp_all
  obtain ⟨rfl, rfl⟩ := trodVars_none hV
  obtain ⟨a0, ha0, _, _, w0⟩ := open_int Try.underlying3 (hval 0 3 v0 rfl rfl) h0
  subst ha0
  obtain ⟨a1, ha1, lo1, hi1, w1⟩ := open_int Try.underlying5 (hval 1 5 v1 rfl rfl) h1
  subst ha1
  have hcalls := deeps_walk (w := W) a0 a1 (maxIs_of hsh) (u8_of w1).1
  clear hA0 hval0
  refine hcalls.mono fun e W' ⟨he, hg⟩ => ?_
  subst he
  exact ⟨_, rfl, post_reads laidOut (by rw [Try.params4]; intro t ht; simp at ht; rcases ht with rfl | rfl <;> exact ⟨by kernel_rfl, by decide +kernel⟩) rfl hW' (fun _ => trodAll_cons_mk (shut_bool Try.underlying4 _) trodAll_mk0) rfl rfl hg⟩
theorem over : Rows.parseDeepsRow.holds Try.pinned (OpenSpec.ofChange Rows.parseDeepsSpec) :=
  OpenClaim.holds_of_wide 4 Try.f4 rfl rfl rfl rfl rfl rfl rfl ⟨rfl, rfl, rfl, rfl, rfl⟩ rfl rfl rfl rfl rfl (by kernel_rfl) Try.func4 (by kernel_rfl)
    (of_decide_eq_true (by kernel_rfl)) (by unfold Func.isWrapper; first | (rw [if_pos (by decide +kernel)]; kernel_rfl) | (rw [if_neg (by decide +kernel)]; exact ⟨rfl, rfl⟩))
    (fun os started H enc _ => lifted os started H enc)
theorem proved : Rows.ParseDeepsSaid := over
#print axioms proved
end Go.Proofs.Ytgedikdcnhkmdaa.parseDeeps
