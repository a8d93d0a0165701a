/- What a word uses, taken apart by a form: the instruction. At most new blocks in memory. Conditions: the ranges that each theorem names. -/
import Derived.Test.YtppcbommaddkgaaDoorCodeTake
import Derived.Test.YtppcbommaddkgaaDoorCodeEnc
import Derived.Deep.DeepCutAuto
namespace Go.Proofs.YtppcbommaddkgaaDoor
open Go.RowKit
set_option linter.unusedVariables false
set_option linter.unusedSimpArgs false
set_option maxRecDepth 10000
open Pc

theorem take_at (pi pw pb w0 V : Int) (w : World) (hw0 : 0 ≤ w0) (hw1 : w0 < 4294967296) (h0 : 0 ≤ pi) (h0' : pi ≤ 20) (h1 : 0 ≤ pw) (h2 : 0 ≤ pb) (h3 : pw + pb ≤ 32) (hb : pw + pb = 32 → 1 ≤ pb) (hV : Hid (takeV pi.toNat pw.toNat pb.toNat w0 = V)) :
    Calls Tryd.prog 80 #[.agg #[.int .i64 pi, .int .i64 pw, .int .i64 pb], .int .u32 w0] w fun e w' =>
      e = .returned (.int .i64 V) ∧ Below w.heap.size w w' := by
  rw [← hV.out]; exact take_piece pi pw pb w0 w hw0 hw1 h0 h0' h1 h2 h3 hb
def okT (a w c : Int) : Prop := 0 ≤ a ∧ a ≤ 20 ∧ 0 ≤ w ∧ 0 ≤ c ∧ w + c ≤ 32 ∧ (w + c = 32 → 1 ≤ c)
/-- The instruction as it stands in its block. -/
abbrev insB (op rd r1 r2 n : Int) : Obj := .cells #[.int .i64 op, .int .i64 rd, .int .i64 r1, .int .i64 r2, .int .i64 n] 49
theorem sizeInstr : (Tryd.prog.info? 49).map (·.size) = some 5 := by kernel_rfl
theorem ins_one (a b c d e : Int) : (#[Value.int .i64 a, .int .i64 b, .int .i64 c, .int .i64 d, .int .i64 e] : Array Value).all (·.oneCell') = true := all_oneCell_toArray (cs := [.int .i64 a, .int .i64 b, .int .i64 c, .int .i64 d, .int .i64 e]) (by simp [Value.oneCell'])
theorem below_setRow {B : Nat} {w x : World} (h : Below B w x) {g : Nat} (hg : B ≤ g) (cs : Array Value) : Below B w (x.setRow g cs) :=
  h.trans ⟨rfl, rfl, rfl, by simp, fun k hk => setRow_other x g k cs (by omega)⟩
theorem blk2 (w : World) (A C D : Obj) : (((w.alloc A).alloc C).alloc D).heap[w.heap.size + 1]? = some C := by
  rw [Below.heap_alloc _ _ _ (by simp)]
  exact heap_alloc2_new w A C
theorem blk3 (w : World) (A C D : Obj) : (((w.alloc A).alloc C).alloc D).heap[w.heap.size + 1 + 1]? = some D := by
  have := heap_alloc_new ((w.alloc A).alloc C) D
  simpa using this
/-- What a round leaves. -/
def UnRel (w : World) (op rd r1 r2 n : Int) (wx : World) : Prop :=
  wx.heap[w.heap.size + 1]? = some (insB 0 0 0 0 0) ∧ wx.heap[w.heap.size + 1 + 1]? = some (insB op rd r1 r2 n) ∧ Below w.heap.size w wx ∧ w.heap.size + 1 + 1 < wx.heap.size
/-- A region that ends as it should, in one frame. -/
def NormQ (R : Act → World → Prop) : Exit → Act → World → Prop
  | .normal, a, w => R a w
  | _, _, _ => False
def FrameIs (F : Act) (R : World → Prop) : Act → World → Prop := fun a w => a = F ∧ R w
theorem normQ_mono {R : Act → World → Prop} {Q : Exit → Act → World → Prop} (h : ∀ a w, R a w → Q .normal a w) : ∀ e a w, NormQ R e a w → Q e a w := by
  intro e a w hn
  cases e <;> first | exact h a w hn | exact False.elim hn
theorem cut_frame {P : Program} {c : Code} {Q : Exit → Act → World → Prop} {a : Act} {w : World} {F : Act} {R : World → Prop} (first : c.wp P (NormQ (FrameIs F R)) a w) (rest : ∀ wx, R wx → Q .normal F wx) : c.wp P Q a w :=
  Code.wp_mono (normQ_mono fun a' w' h => by obtain ⟨rfl, h⟩ := h; exact rest _ h) first
theorem un_rel {w x y X' : World} {op rd r1 r2 n n' : Int} (hB : Below w.heap.size w x) (hZ : x.heap[w.heap.size + 1]? = some (insB 0 0 0 0 0)) (hI : x.heap[w.heap.size + 1 + 1]? = some (insB op rd r1 r2 n)) (hz : w.heap.size + 1 + 1 < x.heap.size)
    (hX : Below x.heap.size x X') (hb : Below X'.heap.size X' y) : UnRel w op rd r1 r2 n' (y.setCell ⟨w.heap.size + 1 + 1, 4, none⟩ (.int .i64 n')) := by
  have hs := hX.size
  have hs2 := hb.size
  have g1 := row_at hb (by omega) (row_at hX (by omega) hZ)
  have g2 := row_at hb (by omega) (row_at hX (by omega) hI)
  refine ⟨?_, ?_, ?_, ?_⟩
  · rw [heap_setCell_other _ _ _ _ (by simp)]; exact g1
  · rw [heap_setCell_same _ _ _ _ _ _ g2]; rfl
  · exact Below.setCell ((hB.trans (hX.mono (by omega))).trans (hb.mono (by omega))) (by simp; omega) _
  · simp [World.setCell]; omega
section
variable (fx lo hi st a0 w0 c0 a1 w1 c1 a2 w2 c2 a3 w3 c3 op u : Int)
end
end Go.Proofs.YtppcbommaddkgaaDoor
