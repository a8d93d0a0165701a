/- The small functions of package code: what each answers; nothing in memory changes but new blocks. Conditions: the ranges that each theorem names. -/
import Derived.Test.YtppcbommaddkgaaDoorRows
import Derived.WalkKit
import Derived.ProofKit
import Derived.OpenShut
import Derived.WalkSpells
import Derived.Lib.Hide
import Derived.Handy
import Derived.Deep.QuietTactic
import Derived.BigQuiet
import Derived.Deep.MidRow
import Derived.Test.YtppcbommaddkgaaDoorCodeOr
namespace Go.Proofs.YtppcbommaddkgaaDoor
open Go.RowKit
set_option linter.unusedVariables false
open Pc

/-- A form, as a value. -/
abbrev frm (b1 b2 b3 : Bool) (fx lo hi st a0 w0 c0 a1 w1 c1 a2 w2 c2 a3 w3 c3 : Int) : Value :=
  .agg #[.bool b1, .bool b2, .bool b3, .int .u32 fx, .int .i64 lo, .int .i64 hi, .int .i64 st, .int .i64 a0, .int .i64 w0, .int .i64 c0, .int .i64 a1, .int .i64 w1, .int .i64 c1, .int .i64 a2, .int .i64 w2, .int .i64 c2, .int .i64 a3, .int .i64 w3, .int .i64 c3]
abbrev ins (op rd r1 r2 n : Int) : Value := .agg #[.int .i64 op, .int .i64 rd, .int .i64 r1, .int .i64 r2, .int .i64 n]

section
variable (b1 b2 b3 : Bool) (fx lo hi st a0 w0 c0 a1 w1 c1 a2 w2 c2 a3 w3 c3 op rd r1 r2 n : Int)

/-- The world behind a form that is handed over. -/
abbrev boxF (w : World) (b1 b2 b3 : Bool) (fx lo hi st a0 w0 c0 a1 w1 c1 a2 w2 c2 a3 w3 c3 : Int) : World :=
  w.alloc (.cells #[.bool b1, .bool b2, .bool b3, .int .u32 fx, .int .i64 lo, .int .i64 hi, .int .i64 st, .int .i64 a0, .int .i64 w0, .int .i64 c0, .int .i64 a1, .int .i64 w1, .int .i64 c1, .int .i64 a2, .int .i64 w2, .int .i64 c2, .int .i64 a3, .int .i64 w3, .int .i64 c3] 134)
set_option maxHeartbeats 1000000 in
theorem word_any (o f g : Int) (w : World) (ho : 0 ≤ o ∧ o < 128) (hf : 0 ≤ f ∧ f < 8) (hg : 0 ≤ g ∧ g < 128) :
    Calls Tryd.prog 72 #[.agg #[.int .u8 o, .int .u8 f, .int .u8 g]] w fun e w' => e = .returned (.int .u32 (keyV o f g)) ∧ Below w.heap.size w w' := by
  have e1 : bits .or .u32 o (f * 4096) = orI o (f * 4096) := or32 _ _ (by omega) (by omega) (by omega) (by omega)
  have e2 : bits .or .u32 (orI o (f * 4096)) (g * 33554432) = orI (orI o (f * 4096)) (g * 33554432) := or32 _ _ (orI_nonneg _ _) (orI_lt _ _ (by omega) (by omega)) (by omega) (by omega)
  go_enter Tryd.func72, Tryd.ntmps72
  go_wp2
  go_ret
  exact ⟨rfl, (Below.refl _ _).alloc (Nat.le_refl _) _⟩


/-- A whole struct read, guarded or not. -/
theorem wpList_load_g {P : Program} {ops : Array Oper} {rest : List Oper} {o : Oper} {a : Act} {w : World} {Q : Exit → Act → World → Prop} (hw : Region.wanted o (yielded ops a.tmps) = true) (ty : TypeId) (x : Operand) (ho : o.op = .load ty x)
    (g : Nat) (hx : a.eval x = .pointer (some ⟨g, 0, none⟩)) (t : TypeId) (cs : Array Value) (fr : Nat × Nat) (d : TypeDesc) (hg : w.heap[g]? = some (.cells cs t fr))
    (hu : P.underlying ty = some d) (hd : (match d with | .struct _ | .array _ _ => true | _ => false) = true) (hi : (P.info? ty).map (·.size) = some cs.size)
    (h : wpList P ops Q rest (a.put o.dst (.agg cs)) w) : wpList P ops Q (o :: rest) a w :=
  wpList_step fun K hK => by rw [if_pos hw]; exact wp_load_row ty x ho g hx t cs fr d hg hu hd hi (hK _ _ h)
theorem below2 (w : World) (A C : Obj) : Below w.heap.size w ((w.alloc A).alloc C) := ((Below.refl _ _).alloc (Nat.le_refl _) _).alloc (by simp) _
theorem below3 (w : World) (A C D : Obj) : Below w.heap.size w (((w.alloc A).alloc C).alloc D) := (below2 w A C).alloc (by simp; omega) _
end
end Go.Proofs.YtppcbommaddkgaaDoor
