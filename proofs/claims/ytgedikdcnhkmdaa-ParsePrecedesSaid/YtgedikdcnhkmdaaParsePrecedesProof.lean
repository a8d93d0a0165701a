/- ParsePrecedes answers true of any two bytes, and they read afterwards as they did. No condition but that the arguments are of their Go types. -/
import Derived.Test.YtgedikdcnhkmdaaParPd
import Derived.Test.YtgedikdcnhkmdaaReadsH
import Derived.HandedShaped
import Derived.WalkKit
import Derived.ProofKit
import Derived.OpenShut
import Derived.ChangeMaps5
namespace Go.Proofs.Ytgedikdcnhkmdaa.parsePrecedes
open Go.ChangeShapes Go.WideShapes Go.ChangeAt Go.RowKit
set_option linter.unusedVariables false
set_option linter.unusedSimpArgs false
set_option maxRecDepth 100000
open Lx
theorem wf_of {k : IntKind} {n : Int} (h : (Lit.int k n).wf = true) : k.min ≤ n ∧ n ≤ k.max := by simpa [Lit.wf] using h
theorem u8_of {n : Int} (h : (Lit.int .u8 n).wf = true) : 0 ≤ n ∧ n < 256 := by have := wf_of h; simp [IntKind.min, IntKind.max, IntKind.signed, IntKind.bits] at this; omega
theorem prec_walk {w : World} (x y : Int) (hM : MaxIs w) (hx : 0 ≤ x) (hy : 0 ≤ y) :
    Calls Try.prog 5 #[.int .u8 x, .int .u8 y] w fun e w' => e = .returned (.bool true) ∧ Below w.heap.size w w' := by
  have h1 : x.tmod 18 = x % 18 := Int.tmod_eq_emod_of_nonneg hx
  have h2 : y.tmod 18 = y % 18 := Int.tmod_eq_emod_of_nonneg hy
  have h3 : x.tmod 18 = (((x % 18).toNat : Nat) : Int) := by rw [h1]; omega
  have h4 : y.tmod 18 = (((y % 18).toNat : Nat) : Int) := by rw [h2]; omega
  by_cases hc : Pa.stP (x % 18).toNat < Pa.stP (y % 18).toNat
  · exact prec_hi x y _ _ (by omega) (by omega) h3 h4 hM hc
  · exact prec_lo x y _ _ (by omega) (by omega) h3 h4 hM hc
theorem own : ownKnob Try.prog.godebug = none := by kernel_rfl
set_option maxRecDepth 100000 in
theorem lifted (os : Os) (started : os.Started) (H : Type) (enc : TypeId × Value → H) :
    ReturnsInHanded {} Try.checked os 5 .any (Rows.parsePrecedesSpec.pre6 enc Try.prog Try.f5 Rows.parsePrecedesRow.domain false) (Rows.parsePrecedesSpec.post enc Try.prog Try.f5 false true false false) := by
  refine returnsInHanded_of_change_shaped (C := Try.checked) own started (by kernel_rfl) Try.func5
    (ChangeSpec.witness6 (enc := enc) (C := Try.checked) false ⟨#[], #[.int .u8 0, .int .u8 0], []⟩ 8 (by kernel_rfl) (by kernel_rfl) (by kernel_rfl) (by kernel_rfl)) ?_
  intro W base args ds gs before hval0 hW hcnd hwt hsh _
  have hval : ∀ (j : Nat) t v, Try.f5.params[j]? = some t → args[j]? = some v → Value.okWide Try.prog W .any base t v := hval0
  have hW' := hW
  obtain ⟨p, q, hA0, hV, rfl, hfz, hnd⟩ := hW
  have hA : DataW.TrodAll enc Try.prog W 0 (fun _ => true) true Try.f5.params.toList args.toList ds p := hA0
  rw [Try.params5] at hA hval
  obtain ⟨v0, vs0, d0, ds0, p0, q0, hargs, rfl, rfl, h0, r0⟩ := trodAll_cons hA
  obtain ⟨v1, vs1, d1, ds1, p1, q1, rfl, rfl, rfl, h1, r1⟩ := trodAll_cons r0
  obtain ⟨rfl, rfl, rfl⟩ := trodAll_nil r1
  obtain rfl : args = #[v0, v1] := by cases args; simp_all
  obtain ⟨rfl, rfl⟩ := trodVars_none hV
  obtain ⟨a0, ha0, _, _, w0⟩ := open_int Try.underlying5 (hval 0 5 v0 rfl rfl) h0
  subst ha0
  obtain ⟨a1, ha1, lo1, hi1, w1⟩ := open_int Try.underlying5 (hval 1 5 v1 rfl rfl) h1
  subst ha1
  have hcalls := prec_walk (w := W) a0 a1 (maxIs_of hsh) (u8_of w0).1 (u8_of w1).1
  clear hA0 hval0
  refine hcalls.mono fun e W' ⟨he, hg⟩ => ?_
  subst he
  exact ⟨_, rfl, post_reads laidOut (by rw [Try.params5]; intro t ht; simp at ht; subst ht; exact ⟨by kernel_rfl, by decide +kernel⟩) rfl hW' (fun _ => trodAll_cons_mk (shut_bool Try.underlying4 _) trodAll_mk0) rfl rfl hg⟩
theorem over : Rows.parsePrecedesRow.holds Try.pinned (OpenSpec.ofChange Rows.parsePrecedesSpec) :=
  OpenClaim.holds_of_wide 5 Try.f5 rfl rfl rfl rfl rfl rfl rfl ⟨rfl, rfl, rfl, rfl, rfl⟩ rfl rfl rfl rfl rfl (by kernel_rfl) Try.func5 (by kernel_rfl)
    (of_decide_eq_true (by kernel_rfl)) (by unfold Func.isWrapper; first | (rw [if_pos (by decide +kernel)]; kernel_rfl) | (rw [if_neg (by decide +kernel)]; exact ⟨rfl, rfl⟩))
    (fun os started H enc _ => lifted os started H enc)
theorem proved : Rows.ParsePrecedesSaid := over
#print axioms proved
end Go.Proofs.Ytgedikdcnhkmdaa.parsePrecedes
