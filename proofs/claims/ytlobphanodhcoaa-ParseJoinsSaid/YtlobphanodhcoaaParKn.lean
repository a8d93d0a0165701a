/- Expressions: each reader of them answers as the plain reader does. Conditions: each theorem's. -/
import Derived.Test.YtlobphanodhcoaaParUe
namespace Go.Proofs.Ytlobphanodhcoaa
open Go.RowKit Go.Maps
set_option linter.unusedVariables false
set_option linter.unusedSimpArgs false
set_option maxRecDepth 100000
open Lx Pa
structure AllC (f : Nat) : Prop where
  e : ExprC f
  b : BinC f
  u : UnC f
  c : CastC f
  i : InsideC f
  p : PostC f
  a : AtomC f
  s : UseC f
  t : BetC f
theorem allC : ∀ f, AllC f := by
  intro f
  induction f using Nat.strongRecOn with
  | _ f ih =>
    cases f with
    | zero =>
      refine ⟨?_, ?_, ?_, ?_, ?_, ?_, ?_, ?_, ?_⟩
      · intro R M d s w h hf; have := h.ok.pos; omega
      · intro R M d l s w h hf; have := h.ok.pos; omega
      · intro R M d s w h hf; have := h.ok.pos; omega
      · intro R M a d s w h hf; have := h.ok.pos; omega
      · intro R M d s w h hf; have := h.ok.pos; omega
      · intro R M d s w h hf; have := h.ok.pos; omega
      · intro R M d s w h hf; have := h.ok.pos; omega
      · intro R M d k nm a s w h hf; have := h.ok.pos; omega
      · intro R M d s w br bd h _ _ hf; have := h.ok.pos; omega
    | succ f =>
      have F := ih f (by omega)
      exact ⟨expr_step F.b F.e, bin_step F.u (fun g hg => (ih g (by omega)).b), un_step F.u F.c F.p, cast_step F.u F.i, inside_step F.e, post_step F.a (fun g hg => (ih g (by omega)).e), atom_step F.i F.s, use_step F.t, bet_step (fun g hg => (ih g (by omega)).e)⟩
end Go.Proofs.Ytlobphanodhcoaa
