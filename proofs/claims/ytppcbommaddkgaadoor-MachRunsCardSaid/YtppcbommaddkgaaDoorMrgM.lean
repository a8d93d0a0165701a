/- The document's machine: Step: what its boxes hold, behind stores. Conditions: each theorem's. What a run of the document answers. No theorem. The document's machine: the end of Go. Conditions: each theorem's. The document's machine: Go: so many steps. Conditions: each theorem's. -/
import Derived.Test.YtppcbommaddkgaaDoorMrgJ
import Derived.Test.YtppcbommaddkgaaDoorMrgI
import Derived.Test.YtppcbommaddkgaaDoorMrgF
import Derived.Test.YtppcbommaddkgaaDoorMrgG
import Derived.StillTailTactics
import Derived.Deep.RegionHeld3
import Derived.Deep.LoopGhost
namespace Go.Proofs.YtppcbommaddkgaaDoor
open Go.RowKit Go.Maps
set_option linter.unusedVariables false
set_option linter.unusedSimpArgs false
set_option maxRecDepth 10000
open Pm Pc Pl
theorem u64w (x : Int) : 0 ≤ IntKind.u64.wrap x ∧ IntKind.u64.wrap x < 18446744073709551616 := by
  rw [IntKind.wrap_u64]
  exact ⟨Int.emod_nonneg _ (by decide), Int.emod_lt_of_pos _ (by decide)⟩
/-- What stands in the boxes of a step: machine, run, both results, instruction. -/
structure Sb (w X : World) (cs rv : Array Value) (bi : Nat) (op rd r1 r2 n : Int) : Prop where
  b0 : X.heap[w.heap.size]? = some (.cells cs 34)
  b1 : X.heap[w.heap.size + 1]? = some (.cells rv 71)
  b2 : ∃ old : Array Value, old.size = 36 ∧ X.heap[w.heap.size + 2]? = some (.cells old 34)
  b3 : ∃ old : Array Value, old.size = 4 ∧ X.heap[w.heap.size + 3]? = some (.cells old 71)
  bx : X.heap[bi]? = some (.cells #[.int .i64 op, .int .i64 rd, .int .i64 r1, .int .i64 r2, .int .i64 n] 49)
  hi : w.heap.size + 4 ≤ bi
  below : Below w.heap.size w X
theorem Sb.grow {w X X' : World} {cs rv : Array Value} {bi : Nat} {op rd r1 r2 n : Int} (h : Sb w X cs rv bi op rd r1 r2 n) (hb : Below X.heap.size X X') : Sb w X' cs rv bi op rd r1 r2 n := by
  obtain ⟨o3, z3, h3⟩ := h.b2
  obtain ⟨o4, z4, h4⟩ := h.b3
  exact ⟨row_at hb (lt_of_at h.b0) h.b0, row_at hb (lt_of_at h.b1) h.b1, ⟨o3, z3, row_at hb (lt_of_at h3) h3⟩, ⟨o4, z4, row_at hb (lt_of_at h4) h4⟩, row_at hb (lt_of_at h.bx) h.bx, h.hi, h.below.trans (hb.mono h.below.size)⟩
/-- The rows alone. -/
structure Sr (w X : World) (cs rv : Array Value) : Prop where
  b0 : X.heap[w.heap.size]? = some (.cells cs 34)
  b1 : X.heap[w.heap.size + 1]? = some (.cells rv 71)
  b2 : ∃ old : Array Value, old.size = 36 ∧ X.heap[w.heap.size + 2]? = some (.cells old 34)
  b3 : ∃ old : Array Value, old.size = 4 ∧ X.heap[w.heap.size + 3]? = some (.cells old 71)
theorem Sb.rows {w X : World} {cs rv : Array Value} {bi : Nat} {op rd r1 r2 n : Int} (h : Sb w X cs rv bi op rd r1 r2 n) : Sr w X cs rv := ⟨h.b0, h.b1, h.b2, h.b3⟩
theorem Sr.row0 {w X : World} {cs rv cs' : Array Value} (h : Sr w X cs rv) : Sr w (X.setRow w.heap.size cs') cs' rv := by
  obtain ⟨o3, z3, h3⟩ := h.b2
  obtain ⟨o4, z4, h4⟩ := h.b3
  exact ⟨setRow_heap _ _ _ _ _ _ h.b0, (setRow_other _ _ _ _ (by omega)).trans h.b1, ⟨o3, z3, (setRow_other _ _ _ _ (by omega)).trans h3⟩, ⟨o4, z4, (setRow_other _ _ _ _ (by omega)).trans h4⟩⟩
theorem Sr.row1 {w X : World} {cs rv rv' : Array Value} (h : Sr w X cs rv) : Sr w (X.setRow (w.heap.size + 1) rv') cs rv' := by
  obtain ⟨o3, z3, h3⟩ := h.b2
  obtain ⟨o4, z4, h4⟩ := h.b3
  exact ⟨(setRow_other _ _ _ _ (by omega)).trans h.b0, setRow_heap _ _ _ _ _ _ h.b1, ⟨o3, z3, (setRow_other _ _ _ _ (by omega)).trans h3⟩, ⟨o4, z4, (setRow_other _ _ _ _ (by omega)).trans h4⟩⟩
theorem Sr.cell0 {w X : World} {cs rv cs' : Array Value} {i : Nat} {x : Value} (h : Sr w X cs rv) (hc : cs.setIfInBounds i x = cs') : Sr w (X.setCell ⟨w.heap.size, i, none⟩ x) cs' rv := by
  obtain ⟨o3, z3, h3⟩ := h.b2
  obtain ⟨o4, z4, h4⟩ := h.b3
  have ho : ∀ g, g ≠ w.heap.size → (X.setCell ⟨w.heap.size, i, none⟩ x).heap[g]? = X.heap[g]? := fun g hne => Below.heap_setCell _ _ _ _ hne
  exact ⟨by rw [heap_setCell_same _ _ _ _ _ _ h.b0, hc], (ho _ (by omega)).trans h.b1, ⟨o3, z3, (ho _ (by omega)).trans h3⟩, ⟨o4, z4, (ho _ (by omega)).trans h4⟩⟩
theorem Sr.cell1 {w X : World} {cs rv rv' : Array Value} {i : Nat} {x : Value} (h : Sr w X cs rv) (hc : rv.setIfInBounds i x = rv') : Sr w (X.setCell ⟨w.heap.size + 1, i, none⟩ x) cs rv' := by
  obtain ⟨o3, z3, h3⟩ := h.b2
  obtain ⟨o4, z4, h4⟩ := h.b3
  have ho : ∀ g, g ≠ w.heap.size + 1 → (X.setCell ⟨w.heap.size + 1, i, none⟩ x).heap[g]? = X.heap[g]? := fun g hne => Below.heap_setCell _ _ _ _ hne
  exact ⟨(ho _ (by omega)).trans h.b0, by rw [heap_setCell_same _ _ _ _ _ _ h.b1, hc], ⟨o3, z3, (ho _ (by omega)).trans h3⟩, ⟨o4, z4, (ho _ (by omega)).trans h4⟩⟩
theorem Sr.fw {w X X' : World} {base q : Nat} {cs rv : Array Value} (h : Sr w X cs rv) (hf : Fw base q X X') : Sr w X' cs rv := by
  obtain ⟨o3, z3, h3⟩ := h.b2
  obtain ⟨o4, z4, h4⟩ := h.b3
  exact ⟨hf.row (by decide) (by decide) h.b0, hf.row (by decide) (by decide) h.b1, ⟨o3, z3, hf.row (by decide) (by decide) h3⟩, ⟨o4, z4, hf.row (by decide) (by decide) h4⟩⟩
/-- Where another block alone has changed, of another type. -/
theorem rd_other {X Y : World} {base q b : Nat} {m : Ma} {R : Ru} {A : Option Addr} {c : Nat} {ov sv : Value} {cs : Array Value} {t : TypeId} (h : Rd X base q m R A c ov sv) (hb : X.heap[b]? = some (.cells cs t)) (t1 : t ≠ 5) (t2 : t ≠ 81) (hbb : base ≤ b)
    (hz : X.heap.size ≤ Y.heap.size) (ho : ∀ g, g ≠ b → Y.heap[g]? = X.heap[g]?) : Rd Y base q m R A c ov sv := by
  have hr : ∀ (g : Nat) (cur : Array Value) (t' : TypeId), t ≠ t' → X.heap[g]? = some (Obj.cells cur t') → Y.heap[g]? = some (Obj.cells cur t') := fun g cur t' ht hg => by
    rw [ho g (by rintro rfl; rw [hb] at hg; injection hg with hg; injection hg with _ hg; exact ht hg)]; exact hg
  exact ⟨hr _ _ 5 t1 h.mem, h.ok, ownsRow_at2 h.out fun g cur _ hg => hr _ _ 5 t1 hg, ownsRow_at2 h.seen fun g cur _ hg => hr _ _ 81 t2 hg, h.inp.at_ fun g _ hb2 _ _ => ho g (by omega), h.cap, h.wat, h.lq, Nat.le_trans h.lb hz, h.lo, h.ls⟩
theorem fw_other {w X Y : World} {base q b : Nat} (h : Fw base q w X) (hb : base ≤ b ∧ w.heap.size ≤ b) (hY : Y.os = X.os ∧ Y.tape = X.tape ∧ Y.output = X.output) (hz : X.heap.size ≤ Y.heap.size) (ho : ∀ g, g ≠ b → Y.heap[g]? = X.heap[g]?) : Fw base q w Y :=
  ⟨⟨hY.1.trans h.fb.os, hY.2.1.trans h.fb.tape, hY.2.2.trans h.fb.output, Nat.le_trans h.fb.size hz, fun k h1 h2 h3 h4 => (ho k (by omega)).trans (h.fb.block k h1 h2 h3 h4)⟩, fun k h1 hx => (ho k (by omega)).trans (h.kept k h1 hx)⟩
/-- The boxes, with what is in memory beside. -/
structure Sx (w X : World) (base q : Nat) (m : Ma) (R : Ru) (A : Option Addr) (c : Nat) (ov sv : Value) (cs rv : Array Value) : Prop where
  rows : Sr w X cs rv
  rd : Rd X base q m R A c ov sv
  fw : Fw base q w X
  mc : mcs m q = cs
  lb : base ≤ w.heap.size
theorem Sx.pl {w X : World} {base q : Nat} {m : Ma} {R : Ru} {A : Option Addr} {c : Nat} {ov sv : Value} {cs rv : Array Value} (h : Sx w X base q m R A c ov sv cs rv) (v : Int) (hv : 0 ≤ v ∧ v < 18446744073709551616) :
    Sx w (X.setCell ⟨w.heap.size, 33, none⟩ (.int .u64 v)) base q { m with pl := v } R A c ov sv (mcs { m with pl := v } q) rv := by
  have ho : ∀ g, g ≠ w.heap.size → (X.setCell ⟨w.heap.size, 33, none⟩ (.int .u64 v)).heap[g]? = X.heap[g]? := fun g hne => Below.heap_setCell _ _ _ _ hne
  have hz : X.heap.size ≤ (X.setCell ⟨w.heap.size, 33, none⟩ (.int .u64 v)).heap.size := by simp [World.setCell]
  have hlb := h.lb
  have hk := h.rd.ok
  refine ⟨h.rows.cell0 (by rw [← h.mc]; exact mcs_set33 hk.1 q v), (rd_other h.rd h.rows.b0 (by decide) (by decide) (by omega) hz ho).mach rfl ⟨hk.1, hk.2.1, hk.2.2.1, hk.2.2.2.1, hv, hk.2.2.2.2.2⟩, fw_other h.fw (by omega) ⟨rfl, rfl, rfl⟩ hz ho, rfl, h.lb⟩
theorem Sx.ma {w X : World} {base q : Nat} {m m' : Ma} {R : Ru} {A : Option Addr} {c : Nat} {ov sv : Value} {cs rv : Array Value} (h : Sx w X base q m R A c ov sv cs rv) (hm : m'.mem = m.mem) (hok : m'.ok) :
    Sx w (X.setRow w.heap.size (mcs m' q)) base q m' R A c ov sv (mcs m' q) rv := by
  have ho : ∀ g, g ≠ w.heap.size → (X.setRow w.heap.size (mcs m' q)).heap[g]? = X.heap[g]? := fun g hne => setRow_other _ _ _ _ hne
  have hz : X.heap.size ≤ (X.setRow w.heap.size (mcs m' q)).heap.size := by simp [World.setRow]
  have hlb := h.lb
  refine ⟨h.rows.row0, (rd_other h.rd h.rows.b0 (by decide) (by decide) (by omega) hz ho).mach hm hok, fw_other h.fw (by omega) ⟨rfl, rfl, rfl⟩ hz ho, rfl, h.lb⟩
/-- Both boxes anew, where memory already is so. -/
theorem Sx.both {w X : World} {base q : Nat} {m : Ma} {R : Ru} {A : Option Addr} {c : Nat} {ov sv : Value} {cs rv : Array Value} (h : Sr w X cs rv) (hR : Rd X base q m R A c ov sv) (hF : Fw base q w X) (hlb : base ≤ w.heap.size) (rv' : Array Value) :
    Sx w ((X.setRow w.heap.size (mcs m q)).setRow (w.heap.size + 1) rv') base q m R A c ov sv (mcs m q) rv' := by
  have ho : ∀ g, g ≠ w.heap.size → (X.setRow w.heap.size (mcs m q)).heap[g]? = X.heap[g]? := fun g hne => setRow_other _ _ _ _ hne
  have hz : X.heap.size ≤ (X.setRow w.heap.size (mcs m q)).heap.size := by simp [World.setRow]
  have ho2 : ∀ g, g ≠ w.heap.size + 1 → ((X.setRow w.heap.size (mcs m q)).setRow (w.heap.size + 1) rv').heap[g]? = (X.setRow w.heap.size (mcs m q)).heap[g]? := fun g hne => setRow_other _ _ _ _ hne
  have hz2 : (X.setRow w.heap.size (mcs m q)).heap.size ≤ ((X.setRow w.heap.size (mcs m q)).setRow (w.heap.size + 1) rv').heap.size := by simp [World.setRow]
  have h1 : Sr w (X.setRow w.heap.size (mcs m q)) (mcs m q) rv := h.row0
  exact ⟨h1.row1, rd_other (rd_other hR h.b0 (by decide) (by decide) (by omega) hz ho) h1.b1 (by decide) (by decide) (by omega) hz2 ho2, fw_other (b := w.heap.size + 1) (fw_other (b := w.heap.size) (Y := X.setRow w.heap.size (mcs m q)) hF (by omega) ⟨rfl, rfl, rfl⟩ hz ho) (by omega) ⟨rfl, rfl, rfl⟩ hz2 ho2, rfl, hlb⟩
/-- The marks' number. -/
theorem Sx.mark {w X : World} {base q : Nat} {m : Ma} {R : Ru} {A : Option Addr} {c : Nat} {ov sv : Value} {cs rv rv' : Array Value} (h : Sx w X base q m R A c ov sv cs rv) (k : Nat) (x : Value) (hrv : rv.setIfInBounds 2 x = rv') :
    Sx w (X.setCell ⟨w.heap.size + 1, 2, none⟩ x) base q m { R with checks := k } A c ov sv cs rv' := by
  have ho : ∀ g, g ≠ w.heap.size + 1 → (X.setCell ⟨w.heap.size + 1, 2, none⟩ x).heap[g]? = X.heap[g]? := fun g hne => Below.heap_setCell _ _ _ _ hne
  have hz : X.heap.size ≤ (X.setCell ⟨w.heap.size + 1, 2, none⟩ x).heap.size := by simp [World.setCell]
  have hlb := h.lb
  have h1 := rd_other h.rd h.rows.b1 (by decide) (by decide) (by omega) hz ho
  exact ⟨h.rows.cell1 hrv, ⟨h1.mem, h1.ok, h1.out, h1.seen, h1.inp, h1.cap, h1.wat, h1.lq, h1.lb, h1.lo, h1.ls⟩, fw_other h.fw (by omega) ⟨rfl, rfl, rfl⟩ hz ho, h.mc, h.lb⟩
theorem szIns : (Tryd.prog.info? 49).map (·.size) = some 5 := by kernel_rfl
theorem ld4 {ops : Array Oper} {rest : List Oper} {Q : Exit → Act → World → Prop} {a : Act} {w : World} {dst : Option Tmp} {ty : TypeId} {pos : String} {af : Array Edge} {x : Operand} (g : Nat) (cs : Array Value)
    (hx : a.eval x = .pointer (some ⟨g, 0, none⟩)) (hg : w.heap[g]? = some (.cells cs 71)) (hz : cs.size = 4) (h : wpList Tryd.prog ops Q rest (a.put dst (.agg cs)) w) : wpList Tryd.prog ops Q (⟨dst, .load 71 x, ty, pos, af, none⟩ :: rest) a w :=
  wpList_load_row rfl _ x rfl g hx _ cs (0, 0) _ hg Tryd.underlying71 rfl (by rw [hz]; exact szRun) h
theorem ld5 {ops : Array Oper} {rest : List Oper} {Q : Exit → Act → World → Prop} {a : Act} {w : World} {dst : Option Tmp} {ty : TypeId} {pos : String} {af : Array Edge} {x : Operand} (g : Nat) (cs : Array Value)
    (hx : a.eval x = .pointer (some ⟨g, 0, none⟩)) (hg : w.heap[g]? = some (.cells cs 49)) (hz : cs.size = 5) (h : wpList Tryd.prog ops Q rest (a.put dst (.agg cs)) w) : wpList Tryd.prog ops Q (⟨dst, .load 49 x, ty, pos, af, none⟩ :: rest) a w :=
  wpList_load_row rfl _ x rfl g hx _ cs (0, 0) _ hg Tryd.underlying49 rfl (by rw [hz]; exact szIns) h
theorem st4 {ops : Array Oper} {rest : List Oper} {Q : Exit → Act → World → Prop} {a : Act} {w : World} {dst : Option Tmp} {ty : TypeId} {pos : String} {af : Array Edge} {x y : Operand} (g : Nat) (cs old : Array Value)
    (hx : a.eval x = .pointer (some ⟨g, 0, none⟩)) (hy : a.eval y = .agg cs) (hg : w.heap[g]? = some (.cells old 71)) (ho : old.size = 4) (hz : cs.size = 4) (ha : cs.all (·.oneCell') = true) (h : wpList Tryd.prog ops Q rest (a.put dst undef) (w.setRow g cs)) : wpList Tryd.prog ops Q (⟨dst, .store 71 x y, ty, pos, af, none⟩ :: rest) a w :=
  wpList_store_row rfl _ x y rfl g cs hx hy _ old hg (by rw [hz]; exact szRun) (by rw [ho, hz]) ha h
/-- The end of Step. -/
theorem tail33 {Q : Exit → Act → World → Prop} {a : Act} {w : World} (g : Nat) (cs rv old old' : Array Value) (bv : Bool) (hQ : ∀ c (a' : Act) (d : Tmp) v w', Q (.panic c) (a'.put (some d) v) w' → Q (.panic c) a' w')
    (e1 : a.eval (.tmp 2) = .pointer (some ⟨g, 0, none⟩)) (e2 : (a.put (some 187) (.agg cs)).eval (.tmp 3) = .pointer (some ⟨g + 1, 0, none⟩)) (e3 : ((a.put (some 187) (.agg cs)).put (some 188) (.agg rv)).eval (.tmp 8) = .bool bv)
    (e4 : (((a.put (some 187) (.agg cs)).put (some 188) (.agg rv)).put (some 189) (.bool bv)).eval (.tmp 4) = .pointer (some ⟨g + 2, 0, none⟩)) (e5 : (((a.put (some 187) (.agg cs)).put (some 188) (.agg rv)).put (some 189) (.bool bv)).eval (.tmp 187) = .agg cs) (e6 : (((a.put (some 187) (.agg cs)).put (some 188) (.agg rv)).put (some 189) (.bool bv)).eval (.tmp 5) = .pointer (some ⟨g + 3, 0, none⟩)) (e7 : (((a.put (some 187) (.agg cs)).put (some 188) (.agg rv)).put (some 189) (.bool bv)).eval (.tmp 188) = .agg rv) (e8 : (((a.put (some 187) (.agg cs)).put (some 188) (.agg rv)).put (some 189) (.bool bv)).eval (.tmp 189) = .bool bv)
    (h1 : w.heap[g]? = some (.cells cs 34)) (h2 : w.heap[g + 1]? = some (.cells rv 71)) (h3 : w.heap[g + 2]? = some (.cells old 34)) (h4 : w.heap[g + 3]? = some (.cells old' 71))
    (z1 : cs.size = 36) (z2 : rv.size = 4) (z3 : old.size = 36) (z4 : old'.size = 4) (o1 : cs.all (·.oneCell') = true) (o2 : rv.all (·.oneCell') = true)
    {w0 : World} {base q : Nat} {m : Ma} {R : Ru} {A : Option Addr} {c : Nat} {ov sv : Value} (hR : Rd w base q m R A c ov sv) (hF : Fw base q w0 w) (hs : base ≤ g ∧ w0.heap.size ≤ g)
    (h : ∀ Y : World, Y.heap[g + 2]? = some (.cells cs 34) → Y.heap[g + 3]? = some (.cells rv 71) → Rd Y base q m R A c ov sv → Fw base q w0 Y → Q .normal ((((a.put (some 187) (.agg cs)).put (some 188) (.agg rv)).put (some 189) (.bool bv)).put (some 6) (.bool bv)) Y) :
    (Code.region 33
      #[{ dst := some 187, op := Op.load 34 (Operand.tmp 2), type := 34, pos := "ref.go:184", after := #[], guard := none },
        { dst := some 188, op := Op.load 71 (Operand.tmp 3), type := 71, pos := "ref.go:184", after := #[{ on := 3, ground := Ground.gcOnly Departure.lateStores }], guard := none },
        { dst := some 189, op := Op.move (Operand.tmp 8), type := 4, pos := "ref.go:184", after := #[{ on := 4, ground := Ground.gcOnly Departure.lateStores }], guard := none },
        { dst := none, op := Op.store 34 (Operand.tmp 4) (Operand.tmp 187), type := 0, pos := "ref.go:184", after := #[{ on := 0, ground := Ground.data }, { on := 0, ground := Ground.phase }, { on := 1, ground := Ground.textOnly Departure.lateStores }, { on := 2, ground := Ground.textOnly Departure.lateStores }], guard := none },
        { dst := none, op := Op.store 71 (Operand.tmp 5) (Operand.tmp 188), type := 0, pos := "ref.go:184", after := #[{ on := 1, ground := Ground.data }, { on := 3, ground := Ground.chain }, { on := 0, ground := Ground.phase }, { on := 1, ground := Ground.phase }, { on := 2, ground := Ground.textOnly Departure.lateStores }, { on := 3, ground := Ground.phase }], guard := none },
        { dst := some 6, op := Op.assign (Operand.tmp 189), type := 4, pos := "ref.go:184", after := #[{ on := 2, ground := Ground.data }, { on := 4, ground := Ground.chain }, { on := 0, ground := Ground.phase }, { on := 1, ground := Ground.phase }, { on := 2, ground := Ground.phase }, { on := 3, ground := Ground.phase }, { on := 4, ground := Ground.phase }], guard := none }]
      true).wp Tryd.prog Q a w := by
  refine wp_region_held_drew (S := (fun W : World => W.heap[g]? = some (.cells cs 34) ∧ W.heap[g + 1]? = some (.cells rv 71))) (by kernel_rfl) ⟨h1, h2⟩ (fun hHeld => ?_)
  refine wpAnyH_take (i := 0) (oi := _) (v := .agg cs) rfl (by kernel_rfl) (by kernel_rfl) (by kernel_rfl) (fun _ _ _ => hQ _ _ _ _ _) (yieldsIf_load_row (by rfl) 34 (.tmp 2) rfl g e1 34 cs (0, 0) _ (fun W h => h.1) Tryd.underlying34 rfl (by rw [z1]; exact szMach)) hHeld ?_
  refine wpAnyH_take (i := 1) (oi := _) (v := .agg rv) rfl (by kernel_rfl) (by kernel_rfl) (by kernel_rfl) (fun _ _ _ => hQ _ _ _ _ _) (yieldsIf_load_row (by rfl) 71 (.tmp 3) rfl (g + 1) e2 71 rv (0, 0) _ (fun W h => h.2) Tryd.underlying71 rfl (by rw [z2]; exact szRun)) hHeld ?_
  refine wpAnyH_take (i := 2) (oi := ⟨some 189, _, _, _, _, _⟩) (v := .bool bv) rfl (by kernel_rfl) (by kernel_rfl) (by kernel_rfl) (fun _ _ _ => hQ _ _ _ _ _) (Or.inl ⟨by rfl, ?hy1⟩) hHeld ?_
  case hy1 =>
    intro W hSW
    exact congrArg (fun v => Result.ok (Next.value v) W) e3
  refine wpAnyH_ready (rs := [3]) (by kernel_rfl) (by simp) ?_
  refine AllReadyH.cons (i := 3) (rs := []) (o := _) (by rfl) ?hcc AllReadyH.nil
  intro K hK
  rw [if_pos (by rfl)]
  refine wp_store_row 34 (.tmp 4) (.tmp 187) rfl (g + 2) cs e4 e5 34 old h3 (by rw [z1]; exact szMach) (by rw [z3, z1]) o1 ?_
  refine hK.out _ _ ⟨(setRow_other _ _ _ _ (by omega)).trans h1, (setRow_other _ _ _ _ (by omega)).trans h2⟩ (fun hHeld => ?_)
  clear hK K
  refine wpAnyH_ready (rs := [4]) (by kernel_rfl) (by simp) ?_
  refine AllReadyH.cons (i := 4) (rs := []) (o := _) (by rfl) ?hcc2 AllReadyH.nil
  intro K hK
  rw [if_pos (by rfl)]
  refine wp_store_row 71 (.tmp 5) (.tmp 188) rfl (g + 3) rv e6 e7 71 old' ((setRow_other _ _ _ _ (by omega)).trans h4) (by rw [z2]; exact szRun) (by rw [z4, z2]) o2 ?_
  refine hK.out _ _ ⟨(setRow_other _ _ _ _ (by omega)).trans ((setRow_other _ _ _ _ (by omega)).trans h1), (setRow_other _ _ _ _ (by omega)).trans ((setRow_other _ _ _ _ (by omega)).trans h2)⟩ (fun hHeld => ?_)
  clear hK K
  refine wpAnyH_take (i := 5) (oi := ⟨some 6, _, _, _, _, _⟩) (v := .bool bv) rfl (by kernel_rfl) (by kernel_rfl) (by kernel_rfl) (fun _ _ _ => hQ _ _ _ _ _) (Or.inl ⟨by rfl, ?hy2⟩) hHeld ?_
  case hy2 =>
    intro W hSW
    exact congrArg (fun v => Result.ok (Next.value v) W) e8
  refine wpAnyH_done (by kernel_rfl) ?_ _
  obtain ⟨y1, y2, y3, y4⟩ := end7 cs rv hR hF (g3 := g + 2) (g4 := g + 3) (by omega) (by omega) (by omega) h3 h4
  exact h _ y1 y2 y3 y4
end Go.Proofs.YtppcbommaddkgaaDoor
namespace Go.Proofs.YtppcbommaddkgaaDoor
open Go.RowKit Go.Maps
open Pm Pc Pl
/-- What a run of the document answers, and leaves. -/
def RGo (w : World) (base q : Nat) (fin : Ma × Ru) (e : Ending) (w' : World) : Prop :=
  ∃ A c oA on oc sA sn sc, e = .returned (.tuple #[.agg (mcs fin.1 q), .agg #[.int .i64 fin.1.st, .int .u8 fin.1.cd, .int .i64 0, .slice oA on oc, .int .i64 fin.2.steps, .int .i64 fin.2.checks], .slice sA sn sc]) ∧ Rd w' base q fin.1 fin.2 A c (.slice oA on oc) (.slice sA sn sc) ∧ Fw base q w w'
/-- Go, of any machine. -/
def GoAll : Prop := ∀ (w : World) (base q : Nat) (m : Ma) (A : Option Addr) (c n : Nat) (xs : List Int) (f : Int) (F : Nat), F = f.toNat → f ≤ 1073741824 → Rd w base q m ⟨[], 0, 0, xs, true, []⟩ A c (.slice none 0 0) (.slice none 0 0) → n = xs.length →
    Calls Tryd.prog 12 #[.agg (mcs m q), .slice A n c, .int .i64 f] w (RGo w base q (runV F m ⟨[], 0, 0, xs, true, []⟩))
end Go.Proofs.YtppcbommaddkgaaDoor
namespace Go.Proofs.YtppcbommaddkgaaDoor
open Go.RowKit Go.Maps
set_option linter.unusedVariables false
set_option linter.unusedSimpArgs false
set_option maxRecDepth 10000
open Pm Pc Pl
set_option maxHeartbeats 4000000 in
theorem goEnd {Q : Exit → Act → World → Prop} {w : World} {ds : List _} (g : Nat) (cs old old' : Array Value) (st cd k ch : Int) (sv : Value) (oA : Option Addr) (on oc : Nat) {x0 x1 x2 x4 x5 x8 x11 x12 x13 x14 x15 x16 x17 x18 x19 x20 x21 x22 x23 x24 x25 x26 x27 x28 x29 x30 x31 x32 x33 x34 x35 x36 x37 x38 x39 x40 x41 x42 x43 x44 x45 : Value} (hQ : ∀ c (a' : Act) (d : Tmp) v w', Q (.panic c) (a'.put (some d) v) w' → Q (.panic c) a' w')
    (hS : w.heap[g]? = some (.cells cs 34) ∧ w.cell? ⟨g, 34, none⟩ = some (.int .i64 st) ∧ w.cell? ⟨g, 35, none⟩ = some (.int .u8 cd) ∧ w.cell? ⟨g + 3, 1, none⟩ = some (.slice oA on oc) ∧ w.cell? ⟨g + 3, 2, none⟩ = some (.int .i64 ch) ∧ w.cell? ⟨g + 3, 3, none⟩ = some sv) (h3 : w.heap[g + 1]? = some (.cells old 34)) (h4 : w.heap[g + 2]? = some (.cells old' 39))
    (z1 : cs.size = 36) (z3 : old.size = 36) (z4 : old'.size = 6) (o1 : cs.all (·.oneCell') = true) (o2 : (#[.int .i64 st, .int .u8 cd, .int .i64 0, .slice oA on oc, .int .i64 k, .int .i64 ch] : Array Value).all (·.oneCell') = true)
    (h : Q .normal { tmps := #[x0, x1, x2, .pointer (some ⟨g, 0, none⟩), x4, x5, .pointer (some ⟨g + 1, 0, none⟩), .pointer (some ⟨g + 2, 0, none⟩), sv, .pointer (some ⟨g + 3, 0, none⟩), .int .i64 k, x11, x12, x13, x14, x15, x16, x17, x18, x19, x20, x21, x22, x23, x24, x25, x26, x27, x28, x29, x30, x31, x32, .agg cs, .pointer (some ⟨g, 34, none⟩), .int .i64 st, .pointer (some ⟨g, 35, none⟩), .int .u8 cd, .pointer (some ⟨g + 3, 1, none⟩), .slice oA on oc, .int .i64 k, .pointer (some ⟨g + 3, 2, none⟩), .int .i64 ch, .agg #[.int .i64 st, .int .u8 cd, .int .i64 0, .slice oA on oc, .int .i64 k, .int .i64 ch], .pointer (some ⟨g + 3, 3, none⟩), sv], defers := ds } ((w.drew.setRow (g + 1) cs).setRow (g + 2) #[.int .i64 st, .int .u8 cd, .int .i64 0, .slice oA on oc, .int .i64 k, .int .i64 ch])) :
    (Code.region 9
      #[{ dst := some 33, op := Op.load 34 (Operand.tmp 3), type := 34, pos := "ref.go:200", after := #[], guard := none }, { dst := some 34, op := Op.fieldAddr 34 (Operand.tmp 3) 3, type := 0, pos := "ref.go:200", after := #[{ on := 13, ground := Ground.gcOnly Departure.lateStores }], guard := none }, { dst := some 35, op := Op.load 3 (Operand.tmp 34), type := 3, pos := "ref.go:200", after := #[{ on := 1, ground := Ground.data }, { on := 13, ground := Ground.gcOnly Departure.lateStores }], guard := none }, { dst := some 36, op := Op.fieldAddr 34 (Operand.tmp 3) 4, type := 0, pos := "ref.go:200", after := #[{ on := 13, ground := Ground.gcOnly Departure.lateStores }], guard := none }, { dst := some 37, op := Op.load 5 (Operand.tmp 36), type := 5, pos := "ref.go:200", after := #[{ on := 3, ground := Ground.data }, { on := 13, ground := Ground.gcOnly Departure.lateStores }], guard := none }, { dst := some 38, op := Op.fieldAddr 71 (Operand.tmp 9) 1, type := 0, pos := "ref.go:200", after := #[{ on := 13, ground := Ground.gcOnly Departure.lateStores }], guard := none }, { dst := some 39, op := Op.load 22 (Operand.tmp 38), type := 22, pos := "ref.go:200", after := #[{ on := 5, ground := Ground.data }, { on := 13, ground := Ground.gcOnly Departure.lateStores }], guard := none }, { dst := some 40, op := Op.move (Operand.tmp 10), type := 3, pos := "ref.go:200", after := #[{ on := 13, ground := Ground.gcOnly Departure.lateStores }], guard := none }, { dst := some 41, op := Op.fieldAddr 71 (Operand.tmp 9) 2, type := 0, pos := "ref.go:200", after := #[{ on := 13, ground := Ground.gcOnly Departure.lateStores }], guard := none }, { dst := some 42, op := Op.load 3 (Operand.tmp 41), type := 3, pos := "ref.go:200", after := #[{ on := 8, ground := Ground.data }, { on := 13, ground := Ground.gcOnly Departure.lateStores }], guard := none }, { dst := some 43, op := Op.build 39 #[(0, Operand.tmp 35), (1, Operand.tmp 37), (3, Operand.tmp 39), (4, Operand.tmp 40), (5, Operand.tmp 42)], type := 39, pos := "ref.go:200", after := #[{ on := 2, ground := Ground.data }, { on := 4, ground := Ground.data }, { on := 6, ground := Ground.data }, { on := 7, ground := Ground.data }, { on := 9, ground := Ground.data }, { on := 13, ground := Ground.gcOnly Departure.lateStores }], guard := none }, { dst := some 44, op := Op.fieldAddr 71 (Operand.tmp 9) 3, type := 0, pos := "ref.go:200", after := #[{ on := 14, ground := Ground.gcOnly Departure.lateStores }], guard := none }, { dst := some 45, op := Op.load 41 (Operand.tmp 44), type := 41, pos := "ref.go:200", after := #[{ on := 11, ground := Ground.data }, { on := 14, ground := Ground.gcOnly Departure.lateStores }], guard := none }, { dst := none, op := Op.store 34 (Operand.tmp 6) (Operand.tmp 33), type := 0, pos := "ref.go:200", after := #[{ on := 0, ground := Ground.data }, { on := 0, ground := Ground.phase }, { on := 1, ground := Ground.textOnly Departure.lateStores }, { on := 2, ground := Ground.textOnly Departure.lateStores }, { on := 3, ground := Ground.textOnly Departure.lateStores }, { on := 4, ground := Ground.textOnly Departure.lateStores }, { on := 5, ground := Ground.textOnly Departure.lateStores }, { on := 6, ground := Ground.textOnly Departure.lateStores }, { on := 7, ground := Ground.textOnly Departure.lateStores }, { on := 8, ground := Ground.textOnly Departure.lateStores }, { on := 9, ground := Ground.textOnly Departure.lateStores }, { on := 10, ground := Ground.textOnly Departure.lateStores }, { on := 11, ground := Ground.textOnly Departure.lateStores }, { on := 12, ground := Ground.textOnly Departure.lateStores }], guard := none }, { dst := none, op := Op.store 39 (Operand.tmp 7) (Operand.tmp 43), type := 0, pos := "ref.go:200", after := #[{ on := 10, ground := Ground.data }, { on := 13, ground := Ground.chain }, { on := 0, ground := Ground.phase }, { on := 1, ground := Ground.phase }, { on := 2, ground := Ground.phase }, { on := 3, ground := Ground.phase }, { on := 4, ground := Ground.phase }, { on := 5, ground := Ground.phase }, { on := 6, ground := Ground.phase }, { on := 7, ground := Ground.phase }, { on := 8, ground := Ground.phase }, { on := 9, ground := Ground.phase }, { on := 10, ground := Ground.phase }, { on := 11, ground := Ground.textOnly Departure.lateStores }, { on := 12, ground := Ground.textOnly Departure.lateStores }, { on := 13, ground := Ground.phase }], guard := none }, { dst := some 8, op := Op.assign (Operand.tmp 45), type := 41, pos := "ref.go:200", after := #[{ on := 12, ground := Ground.data }, { on := 14, ground := Ground.chain }, { on := 0, ground := Ground.phase }, { on := 1, ground := Ground.phase }, { on := 2, ground := Ground.phase }, { on := 3, ground := Ground.phase }, { on := 4, ground := Ground.phase }, { on := 5, ground := Ground.phase }, { on := 6, ground := Ground.phase }, { on := 7, ground := Ground.phase }, { on := 8, ground := Ground.phase }, { on := 9, ground := Ground.phase }, { on := 10, ground := Ground.phase }, { on := 11, ground := Ground.phase }, { on := 12, ground := Ground.phase }, { on := 13, ground := Ground.phase }, { on := 14, ground := Ground.phase }], guard := none }]
      true).wp Tryd.prog Q { tmps := #[x0, x1, x2, .pointer (some ⟨g, 0, none⟩), x4, x5, .pointer (some ⟨g + 1, 0, none⟩), .pointer (some ⟨g + 2, 0, none⟩), x8, .pointer (some ⟨g + 3, 0, none⟩), .int .i64 k, x11, x12, x13, x14, x15, x16, x17, x18, x19, x20, x21, x22, x23, x24, x25, x26, x27, x28, x29, x30, x31, x32, x33, x34, x35, x36, x37, x38, x39, x40, x41, x42, x43, x44, x45], defers := ds } w := by
  have ho13 : (#[{ dst := some 33, op := Op.load 34 (Operand.tmp 3), type := 34, pos := "ref.go:200", after := #[], guard := none }, { dst := some 34, op := Op.fieldAddr 34 (Operand.tmp 3) 3, type := 0, pos := "ref.go:200", after := #[{ on := 13, ground := Ground.gcOnly Departure.lateStores }], guard := none }, { dst := some 35, op := Op.load 3 (Operand.tmp 34), type := 3, pos := "ref.go:200", after := #[{ on := 1, ground := Ground.data }, { on := 13, ground := Ground.gcOnly Departure.lateStores }], guard := none }, { dst := some 36, op := Op.fieldAddr 34 (Operand.tmp 3) 4, type := 0, pos := "ref.go:200", after := #[{ on := 13, ground := Ground.gcOnly Departure.lateStores }], guard := none }, { dst := some 37, op := Op.load 5 (Operand.tmp 36), type := 5, pos := "ref.go:200", after := #[{ on := 3, ground := Ground.data }, { on := 13, ground := Ground.gcOnly Departure.lateStores }], guard := none }, { dst := some 38, op := Op.fieldAddr 71 (Operand.tmp 9) 1, type := 0, pos := "ref.go:200", after := #[{ on := 13, ground := Ground.gcOnly Departure.lateStores }], guard := none }, { dst := some 39, op := Op.load 22 (Operand.tmp 38), type := 22, pos := "ref.go:200", after := #[{ on := 5, ground := Ground.data }, { on := 13, ground := Ground.gcOnly Departure.lateStores }], guard := none }, { dst := some 40, op := Op.move (Operand.tmp 10), type := 3, pos := "ref.go:200", after := #[{ on := 13, ground := Ground.gcOnly Departure.lateStores }], guard := none }, { dst := some 41, op := Op.fieldAddr 71 (Operand.tmp 9) 2, type := 0, pos := "ref.go:200", after := #[{ on := 13, ground := Ground.gcOnly Departure.lateStores }], guard := none }, { dst := some 42, op := Op.load 3 (Operand.tmp 41), type := 3, pos := "ref.go:200", after := #[{ on := 8, ground := Ground.data }, { on := 13, ground := Ground.gcOnly Departure.lateStores }], guard := none }, { dst := some 43, op := Op.build 39 #[(0, Operand.tmp 35), (1, Operand.tmp 37), (3, Operand.tmp 39), (4, Operand.tmp 40), (5, Operand.tmp 42)], type := 39, pos := "ref.go:200", after := #[{ on := 2, ground := Ground.data }, { on := 4, ground := Ground.data }, { on := 6, ground := Ground.data }, { on := 7, ground := Ground.data }, { on := 9, ground := Ground.data }, { on := 13, ground := Ground.gcOnly Departure.lateStores }], guard := none }, { dst := some 44, op := Op.fieldAddr 71 (Operand.tmp 9) 3, type := 0, pos := "ref.go:200", after := #[{ on := 14, ground := Ground.gcOnly Departure.lateStores }], guard := none }, { dst := some 45, op := Op.load 41 (Operand.tmp 44), type := 41, pos := "ref.go:200", after := #[{ on := 11, ground := Ground.data }, { on := 14, ground := Ground.gcOnly Departure.lateStores }], guard := none }, { dst := none, op := Op.store 34 (Operand.tmp 6) (Operand.tmp 33), type := 0, pos := "ref.go:200", after := #[{ on := 0, ground := Ground.data }, { on := 0, ground := Ground.phase }, { on := 1, ground := Ground.textOnly Departure.lateStores }, { on := 2, ground := Ground.textOnly Departure.lateStores }, { on := 3, ground := Ground.textOnly Departure.lateStores }, { on := 4, ground := Ground.textOnly Departure.lateStores }, { on := 5, ground := Ground.textOnly Departure.lateStores }, { on := 6, ground := Ground.textOnly Departure.lateStores }, { on := 7, ground := Ground.textOnly Departure.lateStores }, { on := 8, ground := Ground.textOnly Departure.lateStores }, { on := 9, ground := Ground.textOnly Departure.lateStores }, { on := 10, ground := Ground.textOnly Departure.lateStores }, { on := 11, ground := Ground.textOnly Departure.lateStores }, { on := 12, ground := Ground.textOnly Departure.lateStores }], guard := none }, { dst := none, op := Op.store 39 (Operand.tmp 7) (Operand.tmp 43), type := 0, pos := "ref.go:200", after := #[{ on := 10, ground := Ground.data }, { on := 13, ground := Ground.chain }, { on := 0, ground := Ground.phase }, { on := 1, ground := Ground.phase }, { on := 2, ground := Ground.phase }, { on := 3, ground := Ground.phase }, { on := 4, ground := Ground.phase }, { on := 5, ground := Ground.phase }, { on := 6, ground := Ground.phase }, { on := 7, ground := Ground.phase }, { on := 8, ground := Ground.phase }, { on := 9, ground := Ground.phase }, { on := 10, ground := Ground.phase }, { on := 11, ground := Ground.textOnly Departure.lateStores }, { on := 12, ground := Ground.textOnly Departure.lateStores }, { on := 13, ground := Ground.phase }], guard := none }, { dst := some 8, op := Op.assign (Operand.tmp 45), type := 41, pos := "ref.go:200", after := #[{ on := 12, ground := Ground.data }, { on := 14, ground := Ground.chain }, { on := 0, ground := Ground.phase }, { on := 1, ground := Ground.phase }, { on := 2, ground := Ground.phase }, { on := 3, ground := Ground.phase }, { on := 4, ground := Ground.phase }, { on := 5, ground := Ground.phase }, { on := 6, ground := Ground.phase }, { on := 7, ground := Ground.phase }, { on := 8, ground := Ground.phase }, { on := 9, ground := Ground.phase }, { on := 10, ground := Ground.phase }, { on := 11, ground := Ground.phase }, { on := 12, ground := Ground.phase }, { on := 13, ground := Ground.phase }, { on := 14, ground := Ground.phase }], guard := none }] : Array Oper)[13]? = some { dst := none, op := Op.store 34 (Operand.tmp 6) (Operand.tmp 33), type := 0, pos := "ref.go:200", after := #[{ on := 0, ground := Ground.data }, { on := 0, ground := Ground.phase }, { on := 1, ground := Ground.textOnly Departure.lateStores }, { on := 2, ground := Ground.textOnly Departure.lateStores }, { on := 3, ground := Ground.textOnly Departure.lateStores }, { on := 4, ground := Ground.textOnly Departure.lateStores }, { on := 5, ground := Ground.textOnly Departure.lateStores }, { on := 6, ground := Ground.textOnly Departure.lateStores }, { on := 7, ground := Ground.textOnly Departure.lateStores }, { on := 8, ground := Ground.textOnly Departure.lateStores }, { on := 9, ground := Ground.textOnly Departure.lateStores }, { on := 10, ground := Ground.textOnly Departure.lateStores }, { on := 11, ground := Ground.textOnly Departure.lateStores }, { on := 12, ground := Ground.textOnly Departure.lateStores }], guard := none } := by kernel_rfl
  have ho14 : (#[{ dst := some 33, op := Op.load 34 (Operand.tmp 3), type := 34, pos := "ref.go:200", after := #[], guard := none }, { dst := some 34, op := Op.fieldAddr 34 (Operand.tmp 3) 3, type := 0, pos := "ref.go:200", after := #[{ on := 13, ground := Ground.gcOnly Departure.lateStores }], guard := none }, { dst := some 35, op := Op.load 3 (Operand.tmp 34), type := 3, pos := "ref.go:200", after := #[{ on := 1, ground := Ground.data }, { on := 13, ground := Ground.gcOnly Departure.lateStores }], guard := none }, { dst := some 36, op := Op.fieldAddr 34 (Operand.tmp 3) 4, type := 0, pos := "ref.go:200", after := #[{ on := 13, ground := Ground.gcOnly Departure.lateStores }], guard := none }, { dst := some 37, op := Op.load 5 (Operand.tmp 36), type := 5, pos := "ref.go:200", after := #[{ on := 3, ground := Ground.data }, { on := 13, ground := Ground.gcOnly Departure.lateStores }], guard := none }, { dst := some 38, op := Op.fieldAddr 71 (Operand.tmp 9) 1, type := 0, pos := "ref.go:200", after := #[{ on := 13, ground := Ground.gcOnly Departure.lateStores }], guard := none }, { dst := some 39, op := Op.load 22 (Operand.tmp 38), type := 22, pos := "ref.go:200", after := #[{ on := 5, ground := Ground.data }, { on := 13, ground := Ground.gcOnly Departure.lateStores }], guard := none }, { dst := some 40, op := Op.move (Operand.tmp 10), type := 3, pos := "ref.go:200", after := #[{ on := 13, ground := Ground.gcOnly Departure.lateStores }], guard := none }, { dst := some 41, op := Op.fieldAddr 71 (Operand.tmp 9) 2, type := 0, pos := "ref.go:200", after := #[{ on := 13, ground := Ground.gcOnly Departure.lateStores }], guard := none }, { dst := some 42, op := Op.load 3 (Operand.tmp 41), type := 3, pos := "ref.go:200", after := #[{ on := 8, ground := Ground.data }, { on := 13, ground := Ground.gcOnly Departure.lateStores }], guard := none }, { dst := some 43, op := Op.build 39 #[(0, Operand.tmp 35), (1, Operand.tmp 37), (3, Operand.tmp 39), (4, Operand.tmp 40), (5, Operand.tmp 42)], type := 39, pos := "ref.go:200", after := #[{ on := 2, ground := Ground.data }, { on := 4, ground := Ground.data }, { on := 6, ground := Ground.data }, { on := 7, ground := Ground.data }, { on := 9, ground := Ground.data }, { on := 13, ground := Ground.gcOnly Departure.lateStores }], guard := none }, { dst := some 44, op := Op.fieldAddr 71 (Operand.tmp 9) 3, type := 0, pos := "ref.go:200", after := #[{ on := 14, ground := Ground.gcOnly Departure.lateStores }], guard := none }, { dst := some 45, op := Op.load 41 (Operand.tmp 44), type := 41, pos := "ref.go:200", after := #[{ on := 11, ground := Ground.data }, { on := 14, ground := Ground.gcOnly Departure.lateStores }], guard := none }, { dst := none, op := Op.store 34 (Operand.tmp 6) (Operand.tmp 33), type := 0, pos := "ref.go:200", after := #[{ on := 0, ground := Ground.data }, { on := 0, ground := Ground.phase }, { on := 1, ground := Ground.textOnly Departure.lateStores }, { on := 2, ground := Ground.textOnly Departure.lateStores }, { on := 3, ground := Ground.textOnly Departure.lateStores }, { on := 4, ground := Ground.textOnly Departure.lateStores }, { on := 5, ground := Ground.textOnly Departure.lateStores }, { on := 6, ground := Ground.textOnly Departure.lateStores }, { on := 7, ground := Ground.textOnly Departure.lateStores }, { on := 8, ground := Ground.textOnly Departure.lateStores }, { on := 9, ground := Ground.textOnly Departure.lateStores }, { on := 10, ground := Ground.textOnly Departure.lateStores }, { on := 11, ground := Ground.textOnly Departure.lateStores }, { on := 12, ground := Ground.textOnly Departure.lateStores }], guard := none }, { dst := none, op := Op.store 39 (Operand.tmp 7) (Operand.tmp 43), type := 0, pos := "ref.go:200", after := #[{ on := 10, ground := Ground.data }, { on := 13, ground := Ground.chain }, { on := 0, ground := Ground.phase }, { on := 1, ground := Ground.phase }, { on := 2, ground := Ground.phase }, { on := 3, ground := Ground.phase }, { on := 4, ground := Ground.phase }, { on := 5, ground := Ground.phase }, { on := 6, ground := Ground.phase }, { on := 7, ground := Ground.phase }, { on := 8, ground := Ground.phase }, { on := 9, ground := Ground.phase }, { on := 10, ground := Ground.phase }, { on := 11, ground := Ground.textOnly Departure.lateStores }, { on := 12, ground := Ground.textOnly Departure.lateStores }, { on := 13, ground := Ground.phase }], guard := none }, { dst := some 8, op := Op.assign (Operand.tmp 45), type := 41, pos := "ref.go:200", after := #[{ on := 12, ground := Ground.data }, { on := 14, ground := Ground.chain }, { on := 0, ground := Ground.phase }, { on := 1, ground := Ground.phase }, { on := 2, ground := Ground.phase }, { on := 3, ground := Ground.phase }, { on := 4, ground := Ground.phase }, { on := 5, ground := Ground.phase }, { on := 6, ground := Ground.phase }, { on := 7, ground := Ground.phase }, { on := 8, ground := Ground.phase }, { on := 9, ground := Ground.phase }, { on := 10, ground := Ground.phase }, { on := 11, ground := Ground.phase }, { on := 12, ground := Ground.phase }, { on := 13, ground := Ground.phase }, { on := 14, ground := Ground.phase }], guard := none }] : Array Oper)[14]? = some { dst := none, op := Op.store 39 (Operand.tmp 7) (Operand.tmp 43), type := 0, pos := "ref.go:200", after := #[{ on := 10, ground := Ground.data }, { on := 13, ground := Ground.chain }, { on := 0, ground := Ground.phase }, { on := 1, ground := Ground.phase }, { on := 2, ground := Ground.phase }, { on := 3, ground := Ground.phase }, { on := 4, ground := Ground.phase }, { on := 5, ground := Ground.phase }, { on := 6, ground := Ground.phase }, { on := 7, ground := Ground.phase }, { on := 8, ground := Ground.phase }, { on := 9, ground := Ground.phase }, { on := 10, ground := Ground.phase }, { on := 11, ground := Ground.textOnly Departure.lateStores }, { on := 12, ground := Ground.textOnly Departure.lateStores }, { on := 13, ground := Ground.phase }], guard := none } := by kernel_rfl
  refine wp_region_held_drew (S := (fun W : World => W.heap[g]? = some (.cells cs 34) ∧ W.cell? ⟨g, 34, none⟩ = some (.int .i64 st) ∧ W.cell? ⟨g, 35, none⟩ = some (.int .u8 cd) ∧ W.cell? ⟨g + 3, 1, none⟩ = some (.slice oA on oc) ∧ W.cell? ⟨g + 3, 2, none⟩ = some (.int .i64 ch) ∧ W.cell? ⟨g + 3, 3, none⟩ = some sv)) (by kernel_rfl) hS (fun hHeld => ?_)
  refine wpAnyH_take (i := 0) (oi := { dst := some 33, op := Op.load 34 (Operand.tmp 3), type := 34, pos := "ref.go:200", after := #[], guard := none }) (v := .agg cs) rfl (by kernel_rfl) (by kernel_rfl) (by kernel_rfl) (fun _ _ _ => hQ _ _ _ _ _) (yieldsIf_load_row (by rfl) 34 (.tmp 3) rfl g rfl 34 cs (0, 0) _ (fun W h => h.1) Tryd.underlying34 rfl (by rw [z1]; exact szMach)) hHeld ?_
  simp only [Act.put, List.setIfInBounds_toArray, List.set_cons_zero, List.set_cons_succ]
  refine wpAnyH_take (i := 1) (oi := { dst := some 34, op := Op.fieldAddr 34 (Operand.tmp 3) 3, type := 0, pos := "ref.go:200", after := #[{ on := 13, ground := Ground.gcOnly Departure.lateStores }], guard := none }) (v := ?v1) rfl (by kernel_rfl) (by kernel_rfl) (by kernel_rfl) (fun _ _ _ => hQ _ _ _ _ _) (Or.inl ⟨by rfl, ?hy1⟩) hHeld ?_
  case hy1 => ((intro W hSW; (try dsimp only at hSW); go_simp); try with_reducible rfl)
  simp only [Act.put, List.setIfInBounds_toArray, List.set_cons_zero, List.set_cons_succ]
  refine wpAnyH_take (i := 2) (oi := { dst := some 35, op := Op.load 3 (Operand.tmp 34), type := 3, pos := "ref.go:200", after := #[{ on := 1, ground := Ground.data }, { on := 13, ground := Ground.gcOnly Departure.lateStores }], guard := none }) (v := ?v2) rfl (by kernel_rfl) (by kernel_rfl) (by kernel_rfl) (fun _ _ _ => hQ _ _ _ _ _) (Or.inl ⟨by rfl, ?hy2⟩) hHeld ?_
  case hy2 => ((intro W hSW; (try dsimp only at hSW); go_simp); try with_reducible rfl)
  simp only [Act.put, List.setIfInBounds_toArray, List.set_cons_zero, List.set_cons_succ]
  refine wpAnyH_take (i := 3) (oi := { dst := some 36, op := Op.fieldAddr 34 (Operand.tmp 3) 4, type := 0, pos := "ref.go:200", after := #[{ on := 13, ground := Ground.gcOnly Departure.lateStores }], guard := none }) (v := ?v3) rfl (by kernel_rfl) (by kernel_rfl) (by kernel_rfl) (fun _ _ _ => hQ _ _ _ _ _) (Or.inl ⟨by rfl, ?hy3⟩) hHeld ?_
  case hy3 => ((intro W hSW; (try dsimp only at hSW); go_simp); try with_reducible rfl)
  simp only [Act.put, List.setIfInBounds_toArray, List.set_cons_zero, List.set_cons_succ]
  refine wpAnyH_take (i := 4) (oi := { dst := some 37, op := Op.load 5 (Operand.tmp 36), type := 5, pos := "ref.go:200", after := #[{ on := 3, ground := Ground.data }, { on := 13, ground := Ground.gcOnly Departure.lateStores }], guard := none }) (v := ?v4) rfl (by kernel_rfl) (by kernel_rfl) (by kernel_rfl) (fun _ _ _ => hQ _ _ _ _ _) (Or.inl ⟨by rfl, ?hy4⟩) hHeld ?_
  case hy4 => ((intro W hSW; (try dsimp only at hSW); go_simp); try with_reducible rfl)
  simp only [Act.put, List.setIfInBounds_toArray, List.set_cons_zero, List.set_cons_succ]
  refine wpAnyH_take (i := 5) (oi := { dst := some 38, op := Op.fieldAddr 71 (Operand.tmp 9) 1, type := 0, pos := "ref.go:200", after := #[{ on := 13, ground := Ground.gcOnly Departure.lateStores }], guard := none }) (v := ?v5) rfl (by kernel_rfl) (by kernel_rfl) (by kernel_rfl) (fun _ _ _ => hQ _ _ _ _ _) (Or.inl ⟨by rfl, ?hy5⟩) hHeld ?_
  case hy5 => ((intro W hSW; (try dsimp only at hSW); go_simp); try with_reducible rfl)
  simp only [Act.put, List.setIfInBounds_toArray, List.set_cons_zero, List.set_cons_succ]
  refine wpAnyH_take (i := 6) (oi := { dst := some 39, op := Op.load 22 (Operand.tmp 38), type := 22, pos := "ref.go:200", after := #[{ on := 5, ground := Ground.data }, { on := 13, ground := Ground.gcOnly Departure.lateStores }], guard := none }) (v := ?v6) rfl (by kernel_rfl) (by kernel_rfl) (by kernel_rfl) (fun _ _ _ => hQ _ _ _ _ _) (Or.inl ⟨by rfl, ?hy6⟩) hHeld ?_
  case hy6 => ((intro W hSW; (try dsimp only at hSW); go_simp); try with_reducible rfl)
  simp only [Act.put, List.setIfInBounds_toArray, List.set_cons_zero, List.set_cons_succ]
  refine wpAnyH_take (i := 7) (oi := { dst := some 40, op := Op.move (Operand.tmp 10), type := 3, pos := "ref.go:200", after := #[{ on := 13, ground := Ground.gcOnly Departure.lateStores }], guard := none }) (v := ?v7) rfl (by kernel_rfl) (by kernel_rfl) (by kernel_rfl) (fun _ _ _ => hQ _ _ _ _ _) (Or.inl ⟨by rfl, ?hy7⟩) hHeld ?_
  case hy7 => ((intro W hSW; (try dsimp only at hSW); go_simp); try with_reducible rfl)
  simp only [Act.put, List.setIfInBounds_toArray, List.set_cons_zero, List.set_cons_succ]
  refine wpAnyH_take (i := 8) (oi := { dst := some 41, op := Op.fieldAddr 71 (Operand.tmp 9) 2, type := 0, pos := "ref.go:200", after := #[{ on := 13, ground := Ground.gcOnly Departure.lateStores }], guard := none }) (v := ?v8) rfl (by kernel_rfl) (by kernel_rfl) (by kernel_rfl) (fun _ _ _ => hQ _ _ _ _ _) (Or.inl ⟨by rfl, ?hy8⟩) hHeld ?_
  case hy8 => ((intro W hSW; (try dsimp only at hSW); go_simp); try with_reducible rfl)
  simp only [Act.put, List.setIfInBounds_toArray, List.set_cons_zero, List.set_cons_succ]
  refine wpAnyH_take (i := 9) (oi := { dst := some 42, op := Op.load 3 (Operand.tmp 41), type := 3, pos := "ref.go:200", after := #[{ on := 8, ground := Ground.data }, { on := 13, ground := Ground.gcOnly Departure.lateStores }], guard := none }) (v := ?v9) rfl (by kernel_rfl) (by kernel_rfl) (by kernel_rfl) (fun _ _ _ => hQ _ _ _ _ _) (Or.inl ⟨by rfl, ?hy9⟩) hHeld ?_
  case hy9 => ((intro W hSW; (try dsimp only at hSW); go_simp); try with_reducible rfl)
  simp only [Act.put, List.setIfInBounds_toArray, List.set_cons_zero, List.set_cons_succ]
  refine wpAnyH_take (i := 10) (oi := { dst := some 43, op := Op.build 39 #[(0, Operand.tmp 35), (1, Operand.tmp 37), (3, Operand.tmp 39), (4, Operand.tmp 40), (5, Operand.tmp 42)], type := 39, pos := "ref.go:200", after := #[{ on := 2, ground := Ground.data }, { on := 4, ground := Ground.data }, { on := 6, ground := Ground.data }, { on := 7, ground := Ground.data }, { on := 9, ground := Ground.data }, { on := 13, ground := Ground.gcOnly Departure.lateStores }], guard := none }) (v := ?v10) rfl (by kernel_rfl) (by kernel_rfl) (by kernel_rfl) (fun _ _ _ => hQ _ _ _ _ _) (Or.inl ⟨by rfl, ?hy10⟩) hHeld ?_
  case hy10 => ((intro W hSW; (try dsimp only at hSW); go_simp); try with_reducible rfl)
  simp only [Act.put, List.setIfInBounds_toArray, List.set_cons_zero, List.set_cons_succ]
  refine wpAnyH_take (i := 11) (oi := { dst := some 44, op := Op.fieldAddr 71 (Operand.tmp 9) 3, type := 0, pos := "ref.go:200", after := #[{ on := 14, ground := Ground.gcOnly Departure.lateStores }], guard := none }) (v := ?v11) rfl (by kernel_rfl) (by kernel_rfl) (by kernel_rfl) (fun _ _ _ => hQ _ _ _ _ _) (Or.inl ⟨by rfl, ?hy11⟩) hHeld ?_
  case hy11 => ((intro W hSW; (try dsimp only at hSW); go_simp); try with_reducible rfl)
  simp only [Act.put, List.setIfInBounds_toArray, List.set_cons_zero, List.set_cons_succ]
  refine wpAnyH_take (i := 12) (oi := { dst := some 45, op := Op.load 41 (Operand.tmp 44), type := 41, pos := "ref.go:200", after := #[{ on := 11, ground := Ground.data }, { on := 14, ground := Ground.gcOnly Departure.lateStores }], guard := none }) (v := ?v12) rfl (by kernel_rfl) (by kernel_rfl) (by kernel_rfl) (fun _ _ _ => hQ _ _ _ _ _) (Or.inl ⟨by rfl, ?hy12⟩) hHeld ?_
  case hy12 => ((intro W hSW; (try dsimp only at hSW); go_simp); try with_reducible rfl)
  simp only [Act.put, List.setIfInBounds_toArray, List.set_cons_zero, List.set_cons_succ]
  refine wpAnyH_ready (rs := [13]) (by kernel_rfl) (by simp) ?_
  refine AllReadyH.cons (i := 13) (rs := []) (o := { dst := none, op := Op.store 34 (Operand.tmp 6) (Operand.tmp 33), type := 0, pos := "ref.go:200", after := #[{ on := 0, ground := Ground.data }, { on := 0, ground := Ground.phase }, { on := 1, ground := Ground.textOnly Departure.lateStores }, { on := 2, ground := Ground.textOnly Departure.lateStores }, { on := 3, ground := Ground.textOnly Departure.lateStores }, { on := 4, ground := Ground.textOnly Departure.lateStores }, { on := 5, ground := Ground.textOnly Departure.lateStores }, { on := 6, ground := Ground.textOnly Departure.lateStores }, { on := 7, ground := Ground.textOnly Departure.lateStores }, { on := 8, ground := Ground.textOnly Departure.lateStores }, { on := 9, ground := Ground.textOnly Departure.lateStores }, { on := 10, ground := Ground.textOnly Departure.lateStores }, { on := 11, ground := Ground.textOnly Departure.lateStores }, { on := 12, ground := Ground.textOnly Departure.lateStores }], guard := none }) ho13 ?hcc AllReadyH.nil
  intro K hK
  rw [if_pos (by rfl)]
  refine wp_store_row 34 (.tmp 6) (.tmp 33) rfl (g + 1) cs rfl rfl 34 old h3 (by rw [z1]; exact szMach) (by rw [z3, z1]) o1 ?_
  refine hK.out _ _ ⟨(setRow_other _ _ _ _ (by omega)).trans hS.1, (World.cell?_of_block (setRow_other _ _ _ _ (by simp))).trans hS.2.1, (World.cell?_of_block (setRow_other _ _ _ _ (by simp))).trans hS.2.2.1, (World.cell?_of_block (setRow_other _ _ _ _ (by simp))).trans hS.2.2.2.1, (World.cell?_of_block (setRow_other _ _ _ _ (by simp))).trans hS.2.2.2.2.1, (World.cell?_of_block (setRow_other _ _ _ _ (by simp))).trans hS.2.2.2.2.2⟩ (fun hHeld => ?_)
  clear hK K
  try simp only [Act.put, List.setIfInBounds_toArray, List.set_cons_zero, List.set_cons_succ]
  refine wpAnyH_ready (rs := [14]) (by kernel_rfl) (by simp) ?_
  refine AllReadyH.cons (i := 14) (rs := []) (o := { dst := none, op := Op.store 39 (Operand.tmp 7) (Operand.tmp 43), type := 0, pos := "ref.go:200", after := #[{ on := 10, ground := Ground.data }, { on := 13, ground := Ground.chain }, { on := 0, ground := Ground.phase }, { on := 1, ground := Ground.phase }, { on := 2, ground := Ground.phase }, { on := 3, ground := Ground.phase }, { on := 4, ground := Ground.phase }, { on := 5, ground := Ground.phase }, { on := 6, ground := Ground.phase }, { on := 7, ground := Ground.phase }, { on := 8, ground := Ground.phase }, { on := 9, ground := Ground.phase }, { on := 10, ground := Ground.phase }, { on := 11, ground := Ground.textOnly Departure.lateStores }, { on := 12, ground := Ground.textOnly Departure.lateStores }, { on := 13, ground := Ground.phase }], guard := none }) ho14 ?hcc2 AllReadyH.nil
  intro K hK
  rw [if_pos (by rfl)]
  refine wp_store_row 39 (.tmp 7) (.tmp 43) rfl (g + 2) #[.int .i64 st, .int .u8 cd, .int .i64 0, .slice oA on oc, .int .i64 k, .int .i64 ch] rfl rfl 39 old' ((setRow_other _ _ _ _ (by omega)).trans h4) size52 z4 o2 ?_
  refine hK.out _ _ ⟨(setRow_other _ _ _ _ (by omega)).trans hHeld.1, (World.cell?_of_block (setRow_other _ _ _ _ (by simp))).trans hHeld.2.1, (World.cell?_of_block (setRow_other _ _ _ _ (by simp))).trans hHeld.2.2.1, (World.cell?_of_block (setRow_other _ _ _ _ (by simp))).trans hHeld.2.2.2.1, (World.cell?_of_block (setRow_other _ _ _ _ (by simp))).trans hHeld.2.2.2.2.1, (World.cell?_of_block (setRow_other _ _ _ _ (by simp))).trans hHeld.2.2.2.2.2⟩ (fun hHeld => ?_)
  clear hK K
  try simp only [Act.put, List.setIfInBounds_toArray, List.set_cons_zero, List.set_cons_succ]
  refine wpAnyH_take (i := 15) (oi := { dst := some 8, op := Op.assign (Operand.tmp 45), type := 41, pos := "ref.go:200", after := #[{ on := 12, ground := Ground.data }, { on := 14, ground := Ground.chain }, { on := 0, ground := Ground.phase }, { on := 1, ground := Ground.phase }, { on := 2, ground := Ground.phase }, { on := 3, ground := Ground.phase }, { on := 4, ground := Ground.phase }, { on := 5, ground := Ground.phase }, { on := 6, ground := Ground.phase }, { on := 7, ground := Ground.phase }, { on := 8, ground := Ground.phase }, { on := 9, ground := Ground.phase }, { on := 10, ground := Ground.phase }, { on := 11, ground := Ground.phase }, { on := 12, ground := Ground.phase }, { on := 13, ground := Ground.phase }, { on := 14, ground := Ground.phase }], guard := none }) (v := ?v13) rfl (by kernel_rfl) (by kernel_rfl) (by kernel_rfl) (fun _ _ _ => hQ _ _ _ _ _) (Or.inl ⟨by rfl, ?hy13⟩) hHeld ?_
  case hy13 => ((intro W hSW; (try dsimp only at hSW); go_simp); try with_reducible rfl)
  simp only [Act.put, List.setIfInBounds_toArray, List.set_cons_zero, List.set_cons_succ]
  refine wpAnyH_done (by kernel_rfl) ?_ _
  exact h
end Go.Proofs.YtppcbommaddkgaaDoor
namespace Go.Proofs.YtppcbommaddkgaaDoor
open Go.RowKit Go.Maps
set_option linter.unusedVariables false
set_option linter.unusedSimpArgs false
set_option maxRecDepth 10000
open Pm Pc Pl
/-- The boxes of the loop. -/
structure Gs (w X : World) (cs rv : Array Value) : Prop where
  b0 : X.heap[w.heap.size]? = some (.cells cs 34)
  b1 : ∃ old : Array Value, old.size = 36 ∧ X.heap[w.heap.size + 1]? = some (.cells old 34)
  b2 : ∃ old : Array Value, old.size = 6 ∧ X.heap[w.heap.size + 2]? = some (.cells old 39)
  b3 : X.heap[w.heap.size + 3]? = some (.cells rv 71)
structure Gx (w X : World) (base q : Nat) (m : Ma) (R : Ru) (A : Option Addr) (c : Nat) (oA sA : Option Addr) (on oc sn sc : Nat) : Prop where
  rows : Gs w X (mcs m q) #[.slice A R.inp.length c, .slice oA on oc, .int .i64 R.checks, .slice sA sn sc]
  rd : Rd X base q m R A c (.slice oA on oc) (.slice sA sn sc)
  fw : Fw base q w X
  lb : base ≤ w.heap.size
theorem Rd.runs {w : World} {base q : Nat} {m : Ma} {R R' : Ru} {A : Option Addr} {c : Nat} {ov sv : Value} (h : Rd w base q m R A c ov sv) (h1 : R'.out = R.out) (h2 : R'.seen = R.seen) (h3 : R'.inp = R.inp) (h4 : R'.wat = R.wat) : Rd w base q m R' A c ov sv := by
  have e1 := h.out; have e2 := h.seen; have e3 := h.inp; have e4 := h.cap; have e5 := h.wat; have e6 := h.lo; have e7 := h.ls
  rw [← h1] at e1 e6; rw [← h2] at e2 e7; rw [← h3] at e3 e4; rw [← h4] at e5
  exact ⟨h.mem, h.ok, e1, e2, e3, e4, e5, h.lq, h.lb, e6, e7⟩
theorem Gs.step {w X X' : World} {base q : Nat} {cs rv cs' rv' : Array Value} (h : Gs w X cs rv) (hf : Fw base q X X') : Gs w ((X'.setRow w.heap.size cs').setRow (w.heap.size + 3) rv') cs' rv' := by
  obtain ⟨o1, z1, h1⟩ := h.b1
  obtain ⟨o2, z2, h2⟩ := h.b2
  have k0 := hf.row (by decide) (by decide) h.b0
  have k1 := hf.row (by decide) (by decide) h1
  have k2 := hf.row (by decide) (by decide) h2
  have k3 := hf.row (by decide) (by decide) h.b3
  exact ⟨(setRow_other _ _ _ _ (by omega)).trans (setRow_heap _ _ _ _ _ _ k0), ⟨o1, z1, (setRow_other _ _ _ _ (by omega)).trans ((setRow_other _ _ _ _ (by omega)).trans k1)⟩, ⟨o2, z2, (setRow_other _ _ _ _ (by omega)).trans ((setRow_other _ _ _ _ (by omega)).trans k2)⟩, setRow_heap _ _ _ _ _ _ ((setRow_other _ _ _ _ (by omega)).trans k3)⟩
/-- Behind a call of Step, its answers stored. -/
theorem Gx.step {w X X' : World} {base q : Nat} {m m' : Ma} {R R' : Ru} {A A' : Option Addr} {c c' : Nat} {oA sA oA' sA' : Option Addr} {on oc sn sc on' oc' sn' sc' : Nat} (h : Gx w X base q m R A c oA sA on oc sn sc) (hf : Fw base q X X') (hR : Rd X' base q m' R' A' c' (.slice oA' on' oc') (.slice sA' sn' sc')) :
    Gx w ((X'.setRow w.heap.size (mcs m' q)).setRow (w.heap.size + 3) #[.slice A' R'.inp.length c', .slice oA' on' oc', .int .i64 R'.checks, .slice sA' sn' sc']) base q m' R' A' c' oA' sA' on' oc' sn' sc' := by
  have hlb := h.lb
  have k0 := hf.row (by decide) (by decide) h.rows.b0
  have k3 := hf.row (by decide) (by decide) h.rows.b3
  have ho : ∀ g, g ≠ w.heap.size → (X'.setRow w.heap.size (mcs m' q)).heap[g]? = X'.heap[g]? := fun g hne => setRow_other _ _ _ _ hne
  have hz : X'.heap.size ≤ (X'.setRow w.heap.size (mcs m' q)).heap.size := by simp [World.setRow]
  have k3' := (ho (w.heap.size + 3) (by omega)).trans k3
  refine ⟨h.rows.step hf, ?_, ?_, h.lb⟩
  · refine rd_other (rd_other hR k0 (by decide) (by decide) (by omega) hz ho) k3' (by decide) (by decide) (by omega) (by simp [World.setRow]) fun g hne => setRow_other _ _ _ _ hne
  · refine fw_other (b := w.heap.size + 3) (fw_other (b := w.heap.size) (Y := X'.setRow w.heap.size (mcs m' q)) (h.fw.trans hf) (by omega) ⟨rfl, rfl, rfl⟩ hz ho) (by omega) ⟨rfl, rfl, rfl⟩ (by simp [World.setRow]) fun g hne => setRow_other _ _ _ _ hne
theorem Gx.st {w X : World} {base q : Nat} {m : Ma} {R : Ru} {A : Option Addr} {c : Nat} {oA sA : Option Addr} {on oc sn sc : Nat} (h : Gx w X base q m R A c oA sA on oc sn sc) (v : Int) :
    Gx w (X.setCell ⟨w.heap.size, 34, none⟩ (.int .i64 v)) base q { m with st := v } R A c oA sA on oc sn sc := by
  have hlb := h.lb
  have ho : ∀ g, g ≠ w.heap.size → (X.setCell ⟨w.heap.size, 34, none⟩ (.int .i64 v)).heap[g]? = X.heap[g]? := fun g hne => Below.heap_setCell _ _ _ _ hne
  have hz : X.heap.size ≤ (X.setCell ⟨w.heap.size, 34, none⟩ (.int .i64 v)).heap.size := by simp [World.setCell]
  have hk := h.rd.ok
  obtain ⟨o1, z1, h1⟩ := h.rows.b1
  obtain ⟨o2, z2, h2⟩ := h.rows.b2
  refine ⟨⟨?_, ⟨o1, z1, (ho _ (by omega)).trans h1⟩, ⟨o2, z2, (ho _ (by omega)).trans h2⟩, (ho _ (by omega)).trans h.rows.b3⟩, (rd_other h.rd h.rows.b0 (by decide) (by decide) (by omega) hz ho).mach rfl ⟨hk.1, hk.2.1, hk.2.2.1, hk.2.2.2.1, hk.2.2.2.2.1, hk.2.2.2.2.2⟩, fw_other h.fw (by omega) ⟨rfl, rfl, rfl⟩ hz ho, h.lb⟩
  rw [heap_setCell_same _ _ _ _ _ _ h.rows.b0, mcs_set34 hk.1 q v]
/-- What each round keeps. -/
def GoRel (w : World) (base q : Nat) (F : Nat) (fin : Ma × Ru) (k : Nat) (s10 s11 : Value) (wr : World) : Prop :=
  ∃ m R A c oA sA on oc sn sc, s10 = .int .i64 R.steps ∧ (∃ v, s11 = v) ∧ Gx w wr base q m R A c oA sA on oc sn sc ∧ k = left F m R ∧ R.steps ≤ F ∧ R.out.length ≤ R.steps ∧ R.seen.length ≤ R.steps ∧ R.checks ≤ R.steps ∧ runV (F - R.steps) m R = fin
theorem res_crt {fn : Func} {p p' r : Tmp} (h : fn.results = #[.cell p 34, .cell p' 39, .tmp r]) (tmps : Array Value) (w : World) (g g' : Nat) (cs rv : Array Value) (v : Value)
    (hp : tmps.getD p undef = .pointer (some ⟨g, 0, none⟩)) (hp' : tmps.getD p' undef = .pointer (some ⟨g', 0, none⟩)) (hv : tmps.getD r undef = v) (hg : w.heap[g]? = some (.cells cs 34)) (hz : cs.size = 36) (hg' : w.heap[g']? = some (.cells rv 39)) (hz' : rv.size = 6) :
    (results fn tmps).run Tryd.prog w = .ok (.tuple #[.agg cs, .agg rv, v]) w := by
  have hp1 : tmps[p]?.getD undef = .pointer (some ⟨g, 0, none⟩) := by simpa using hp
  have hp2 : tmps[p']?.getD undef = .pointer (some ⟨g', 0, none⟩) := by simpa using hp'
  have hv1 : tmps[r]?.getD undef = v := by simpa using hv
  simp [results, h, hp1, hp2, hv1, asAddr, run_loadVar_row w g _ _ cs (0, 0) _ hg Tryd.underlying34 rfl (by rw [hz]; exact szMach), run_loadVar_row w g' _ _ rv (0, 0) _ hg' Tryd.underlying39 rfl (by rw [hz']; exact size52)]
/-- A step of the document, of any machine. -/
def StepsAll : Prop := ∀ (m : Ma) (q base : Nat) (w : World) (R : Ru) (A : Option Addr) (c : Nat) (oA sA : Option Addr) (on oc sn sc : Nat), Rd w base q m R A c (.slice oA on oc) (.slice sA sn sc) → R.out.length + 1 < 1099511627776 → R.seen.length + 1 < 1099511627776 → R.checks < 1099511627776 →
    Calls Tryd.prog 23 #[.agg (mcs m q), .agg #[.slice A R.inp.length c, .slice oA on oc, .int .i64 R.checks, .slice sA sn sc]] w (RTo w base q m R (stepV m R))
set_option maxRecDepth 100000 in
set_option maxHeartbeats 8000000 in
/-- So many steps of the document. -/
theorem rgo_over (HS : StepsAll) {w : World} {base q : Nat} {m : Ma} {A : Option Addr} {c n : Nat} {xs : List Int} (f : Int) (F : Nat) (hF : F = f.toNat) (hf : f ≤ 1073741824) (h : Rd w base q m ⟨[], 0, 0, xs, true, []⟩ A c (.slice none 0 0) (.slice none 0 0)) (hn : n = xs.length) :
    Calls Tryd.prog 12 #[.agg (mcs m q), .slice A n c, .int .i64 f] w (RGo w base q (runV F m ⟨[], 0, 0, xs, true, []⟩)) := by
  subst hn
  have hz := mcs_size h.ok.1 q
  have ha := mcs_all m q
  have HH := Lib.hid h
  have hrel0 : ∀ X, Gs w X (mcs m q) #[.slice A xs.length c, .slice none 0 0, .int .i64 0, .slice none 0 0] → Below w.heap.size w X → GoRel w base q F (runV F m ⟨[], 0, 0, xs, true, []⟩) (left F m ⟨[], 0, 0, xs, true, []⟩) (.int .i64 0) undef X := fun X hg hb =>
    ⟨m, ⟨[], 0, 0, xs, true, []⟩, A, c, none, none, 0, 0, 0, 0, rfl, ⟨_, rfl⟩, ⟨hg, h.below hb, Fw.below hb, h.lb⟩, rfl, Nat.zero_le _, Nat.le_refl _, Nat.le_refl _, Nat.le_refl _, rfl⟩
  have HRel := Lib.hid hrel0; clear hrel0
  generalize runV F m ⟨[], 0, 0, xs, true, []⟩ = fin at *
  generalize left F m ⟨[], 0, 0, xs, true, []⟩ = k0 at *
  generalize hcs0 : mcs m q = cs0 at *
  clear h hcs0
  go_enter Tryd.func12, Tryd.ntmps12
  go_wp2_with (first
    | ((with_reducible refine ld36 w.heap.size cs0 ?_ ?_ hz ?_); rfl; exact aa0 _ _ _)
    | fail)
  go_loopg [10, 11] k0 (fun k s10 s11 wr => GoRel w base q F fin k s10 s11 wr)
  case atStart => exact HRel.out _ ⟨a4_0 _ _ _ _ _, ⟨_, rfl, a4_1 _ _ _ _ _⟩, ⟨_, rfl, a4_2 _ _ _ _ _⟩, a4_3 _ _ _ _ _⟩ (bw_alloc (bw_alloc (bw_alloc (bw_alloc (Below.refl w.heap.size w) _) _) _) _)
  case round =>
    clear HRel HH hz ha
    obtain ⟨m, R, A, c, oA, sA, on, oc, sn, sc, rfl, ⟨v11, rfl⟩, hx, hk, hst, hou, hse, hch, hfin⟩ := hrel
    have c34 : wr.cell? ⟨w.heap.size, 34, none⟩ = some (.int .i64 m.st) := by rw [cell_of_row _ _ 34 _ _ _ hx.rows.b0]; exact mcs_34 hx.rd.ok.1 q
    have hz1 := mcs_size hx.rd.ok.1 q
    have ha1 := mcs_all m q
    have HX := Lib.hid hx
    have Hfin := Lib.hid hfin; have Hk := Lib.hid hk
    clear hx hfin hk
    by_cases hgo : m.st = 0 ∧ (R.steps : Int) < f
    · obtain ⟨g1, g2⟩ := hgo
      have d2 : decide ((R.steps : Int) < f) = true := decide_eq_true g2
      rw [g1] at c34
      have HSv := Lib.hid (fun X hX => HS m q base X R A c oA sA on oc sn sc hX (by omega) (by omega) (by omega))
      have G1 := Lib.hid g1
      clear g1
      have HB0 := Lib.hid HX.out.rows.b0
      have HCS := Lib.hid (rfl : mcs m q = mcs m q)
      generalize hcs1 : mcs m q = cs1 at HSv HB0 hz1 ha1
      go_wp2_with (first
        | ((with_reducible refine ld36 w.heap.size cs1 ?_ ?_ hz1 ?_); rfl; exact HB0.out)
        | ((with_reducible refine ld4 (w.heap.size + 3) #[.slice A R.inp.length c, .slice oA on oc, .int .i64 R.checks, .slice sA sn sc] ?_ ?_ ?_ ?_); rfl; exact HX.out.rows.b3; rfl)
        | (with_reducible refine (HSv.out _ HX.out.rd).mono ?_)
        | fail)
      rintro e w1 ⟨m1, R1, A1, c1, oA1, on1, oc1, sA1, sn1, sc1, b, ho, hbf, rfl, hR1, hF1⟩
      have hg := HX.out.step hF1 hR1
      have b0 := hF1.row (by decide) (by decide) HX.out.rows.b0
      have b3 := hF1.row (by decide) (by decide) HX.out.rows.b3
      rw [hcs1] at b0
      have b3' : (w1.setRow w.heap.size (mcs m1 q)).heap[w.heap.size + 3]? = some (.cells #[.slice A R.inp.length c, .slice oA on oc, .int .i64 R.checks, .slice sA sn sc] 71) := (setRow_other _ _ _ _ (by omega)).trans b3
      have hz2 := mcs_size hR1.ok.1 q
      have ha2 := mcs_all m1 q
      have HG := Lib.hid hg; have HO := Lib.hid ho; have HBF := Lib.hid hbf
      clear hg hF1 hR1 ho hbf b3
      have hkF : gk = F - R.steps := by rw [Hk.out]; unfold left; rw [if_pos G1.out]
      have hfe : F - R.steps = (F - R.steps - 1) + 1 := by omega
      cases b with
      | true =>
        have hsv : stepV m R = some (m1, R1) := by have := HO.out; simpa using this
        have hbd := bd_step hsv
        have HSV := Lib.hid hsv
        have e1 : R1.steps = R.steps := hbd.1
        have e2 : R1.checks ≤ R.checks + 1 := hbd.2.1
        have e3 : R1.seen.length ≤ R.seen.length + 1 := hbd.2.2.1
        have e4 : R1.out.length ≤ R.out.length + 1 := hbd.2.2.2
        have hrr := HG.out.rd.runs (R' := { R1 with steps := R1.steps + 1 }) rfl rfl rfl rfl
        have HRR := Lib.hid hrr
        clear hsv hbd hrr
        generalize hcs2 : mcs m1 q = cs2 at *
        have HC2 := Lib.hid hcs2
        clear hcs2
        go_wp2_with (first
          | ((with_reducible refine st36 w.heap.size cs2 cs1 ?_ ?_ b0 hz1 hz2 ha2 ?_); rfl; rfl)
          | ((with_reducible refine st4 (w.heap.size + 3) #[.slice A1 R1.inp.length c1, .slice oA1 on1 oc1, .int .i64 R1.checks, .slice sA1 sn1 sc1] #[.slice A R.inp.length c, .slice oA on oc, .int .i64 R.checks, .slice sA sn sc] ?_ ?_ b3' rfl rfl (by simp [Value.oneCell']) ?_); rfl; rfl)
          | fail)
        go_roundg (left F m1 { R1 with steps := R1.steps + 1 })
        case measure =>
          show left F m1 { R1 with steps := R1.steps + 1 } < gk
          unfold left
          show (if m1.st = 0 then F - (R1.steps + 1) else 0) < gk
          split <;> omega
        case rel =>
          have e5 := HG.out
          have e6 := e5.rows
          rw [HC2.out] at e6
          refine ⟨m1, { R1 with steps := R1.steps + 1 }, A1, c1, oA1, sA1, on1, oc1, sn1, sc1, ?_, ⟨_, rfl⟩, ⟨by rw [HC2.out]; exact e6, HRR.out, e5.fw, e5.lb⟩, ?_, ?_, ?_, ?_, ?_, ?_⟩
          · show _ = Value.int .i64 ((R1.steps + 1 : Nat) : Int)
            rw [e1]; rfl
          · rfl
          · show R1.steps + 1 ≤ F
            omega
          · show R1.out.length ≤ R1.steps + 1
            omega
          · show R1.seen.length ≤ R1.steps + 1
            omega
          · show R1.checks ≤ R1.steps + 1
            omega
          · show runV (F - (R1.steps + 1)) m1 { R1 with steps := R1.steps + 1 } = fin
            have h7 := Hfin.out
            rw [hfe, runV_go G1.out, HSV.out] at h7
            rw [show F - (R1.steps + 1) = F - R.steps - 1 by omega]
            exact h7
      | false =>
        have hsv : stepV m R = none := by have := HO.out; simpa using this
        have hm1 := (HBF.out rfl).1
        have hR1 := (HBF.out rfl).2
        subst m1
        subst R1
        have HSV := Lib.hid hsv
        have hgst := HG.out.st 4
        have hr0 := HG.out.rows.b0
        have m34 := mcs_34 HG.out.rd.ok.1 q
        rw [hcs1] at hgst b3' hz2 ha2 hr0 m34
        have HGS := Lib.hid hgst
        have c34 := (cell_of_row _ _ 34 _ _ _ hr0).trans m34
        have f34 := frozen_of_row _ _ 34 _ _ hr0
        clear hsv hgst hr0
        go_wp2_with (first
          | ((with_reducible refine st36 w.heap.size cs1 cs1 ?_ ?_ b0 hz1 hz2 ha2 ?_); rfl; rfl)
          | ((with_reducible refine st4 (w.heap.size + 3) #[.slice A1 R.inp.length c1, .slice oA1 on1 oc1, .int .i64 R.checks, .slice sA1 sn1 sc1] #[.slice A R.inp.length c, .slice oA on oc, .int .i64 R.checks, .slice sA sn sc] ?_ ?_ b3' rfl rfl (by simp [Value.oneCell']) ?_); rfl; rfl)
          | fail)
        go_roundg 0
        case measure => omega
        case rel =>
          refine ⟨{ m with st := 4 }, R, A1, c1, oA1, sA1, on1, oc1, sn1, sc1, rfl, ⟨_, rfl⟩, HGS.out, ?_, hst, hou, hse, hch, ?_⟩
          · unfold left; rw [if_neg (by simp)]
          · rw [runV_stop (.inl (by simp)), ← Hfin.out, hfe, runV_go G1.out, HSV.out]
    · have hfin2 : fin = (m, R) := by
        rw [← Hfin.out]
        exact runV_stop (by
          by_cases h0 : m.st = 0
          · exact .inr (by omega)
          · exact .inl h0)
      subst hfin2
      obtain ⟨o1, z1, r1⟩ := HX.out.rows.b1
      obtain ⟨o2, z2, r2⟩ := HX.out.rows.b2
      have HB0 := Lib.hid HX.out.rows.b0
      have HB3 := Lib.hid HX.out.rows.b3
      have R1 := Lib.hid r1; have R2 := Lib.hid r2
      have hlb := HX.out.lb
      have q35 : wr.cell? ⟨w.heap.size, 35, none⟩ = some (.int .u8 m.cd) := by rw [cell_of_row _ _ 35 _ _ _ HB0.out]; exact mcs_35 HX.out.rd.ok.1 q
      have q1 : wr.cell? ⟨w.heap.size + 3, 1, none⟩ = some (.slice oA on oc) := by rw [cell_of_row _ _ 1 _ _ _ HB3.out]; rfl
      have q2 : wr.cell? ⟨w.heap.size + 3, 2, none⟩ = some (.int .i64 R.checks) := by rw [cell_of_row _ _ 2 _ _ _ HB3.out]; rfl
      have q3 : wr.cell? ⟨w.heap.size + 3, 3, none⟩ = some (.slice sA sn sc) := by rw [cell_of_row _ _ 3 _ _ _ HB3.out]; rfl
      clear r1 r2 Hfin Hk
      generalize hcs1 : mcs m q = cs1 at *
      have HC1 := Lib.hid hcs1
      clear hcs1
      have hor : (decide ((R.steps : Int) < f) = true ∧ (m.st == 0) = false) ∨ decide ((R.steps : Int) < f) = false := by
        by_cases h1 : (R.steps : Int) < f
        · exact .inl ⟨decide_eq_true h1, by simp; intro h2; exact hgo ⟨h2, h1⟩⟩
        · exact .inr (decide_eq_false h1)
      clear hgo
      rcases hor with ⟨d1, d2⟩ | d1
      all_goals
        go_wp2_with fail
        refine goEnd w.heap.size cs1 o1 o2 m.st m.cd R.steps R.checks (.slice sA sn sc) oA on oc (fun _ _ _ _ _ h => h) ⟨HB0.out, c34, q35, q1, q2, q3⟩ R1.out R2.out hz1 z1 z2 ha1 (by simp [Value.oneCell']) ?_
        have ho1 : ∀ g, g ≠ w.heap.size + 1 → (wr.drew.setRow (w.heap.size + 1) cs1).heap[g]? = wr.heap[g]? := fun g h => setRow_other wr.drew _ _ _ h
        have hzz1 : wr.heap.size ≤ (wr.drew.setRow (w.heap.size + 1) cs1).heap.size := by simp [World.setRow]
        have ho2 : ∀ g, g ≠ w.heap.size + 2 → ((wr.drew.setRow (w.heap.size + 1) cs1).setRow (w.heap.size + 2) (#[.int .i64 m.st, .int .u8 m.cd, .int .i64 0, .slice oA on oc, .int .i64 R.steps, .int .i64 R.checks] : Array Value)).heap[g]? = (wr.drew.setRow (w.heap.size + 1) cs1).heap[g]? := fun g h => setRow_other _ _ _ _ h
        have hzz2 : (wr.drew.setRow (w.heap.size + 1) cs1).heap.size ≤ ((wr.drew.setRow (w.heap.size + 1) cs1).setRow (w.heap.size + 2) (#[.int .i64 m.st, .int .u8 m.cd, .int .i64 0, .slice oA on oc, .int .i64 R.steps, .int .i64 R.checks] : Array Value)).heap.size := by simp [World.setRow]
        have y1 := (ho2 (w.heap.size + 1) (by omega)).trans (setRow_heap wr.drew _ _ cs1 _ _ R1.out)
        have y2 := setRow_heap (wr.drew.setRow (w.heap.size + 1) cs1) _ _ (#[.int .i64 m.st, .int .u8 m.cd, .int .i64 0, .slice oA on oc, .int .i64 R.steps, .int .i64 R.checks] : Array Value) _ _ ((ho1 (w.heap.size + 2) (by omega)).trans R2.out)
        have y3 := rd_other (rd_other HX.out.rd R1.out (by decide) (by decide) (by omega) hzz1 ho1) ((ho1 (w.heap.size + 2) (by omega)).trans R2.out) (by decide) (by decide) (by omega) hzz2 ho2
        have y4 := fw_other (b := w.heap.size + 2) (Y := (wr.drew.setRow (w.heap.size + 1) cs1).setRow (w.heap.size + 2) (#[.int .i64 m.st, .int .u8 m.cd, .int .i64 0, .slice oA on oc, .int .i64 R.steps, .int .i64 R.checks] : Array Value)) (fw_other (b := w.heap.size + 1) (Y := wr.drew.setRow (w.heap.size + 1) cs1) HX.out.fw (by omega) ⟨rfl, rfl, rfl⟩ hzz1 ho1) (by omega) ⟨rfl, rfl, rfl⟩ hzz2 ho2
        clear ho1 ho2 hzz1 hzz2
        generalize (wr.drew.setRow (w.heap.size + 1) cs1).setRow (w.heap.size + 2) (#[.int .i64 m.st, .int .u8 m.cd, .int .i64 0, .slice oA on oc, .int .i64 R.steps, .int .i64 R.checks] : Array Value) = Y at *
        go_wp2_with fail
        exact bodyPost_ret (v := .tuple #[.agg cs1, .agg (#[.int .i64 m.st, .int .u8 m.cd, .int .i64 0, .slice oA on oc, .int .i64 R.steps, .int .i64 R.checks] : Array Value), .slice sA sn sc]) (res_crt Tryd.results12 _ _ _ _ _ _ _ rfl rfl rfl y1 hz1 y2 rfl) rfl ⟨A, c, oA, on, oc, sA, sn, sc, by rw [HC1.out], y3, y4⟩
theorem go_all (HS : StepsAll) : GoAll := fun w base q m A c n xs f F hF hf h hn => rgo_over HS f F hF hf h hn
end Go.Proofs.YtppcbommaddkgaaDoor
