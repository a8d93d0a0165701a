/- What stands within HeapPlays' loop. Conditions: each theorem's. -/
import Derived.Test.YtjianllngobhhaaHeapPlA
namespace Go.Proofs.Ytjianllngobhhaa
open Go.RowKit Go.Maps
set_option linter.unusedVariables false
set_option linter.unusedSimpArgs false
set_option maxRecDepth 100000
open Hp
namespace Hp
/-- A call that is played. -/
structure Opv where
  kind : Int
  i : Int
  n : Int
  m : Int
  free : Bool
  p : Ptr
  a : Int
  b : Int
  v : Val
def Opv.l (o : Opv) : List Value := [.int .i64 o.kind, .int .i64 o.i, .int .i64 o.n, .int .i64 o.m, .bool o.free, .int .i64 o.p.bl, .int .i64 o.p.off, .int .i64 o.p.lo, .int .i64 o.p.hi, .int .i64 o.a, .int .i64 o.b, .int .u64 o.v.num, .int .i64 o.v.p.bl, .int .i64 o.v.p.off, .int .i64 o.v.p.lo, .int .i64 o.v.p.hi]
structure Opv.ok (o : Opv) : Prop where
  kind : in64 o.kind
  i : in64 o.i
  n : in64 o.n
  m : in64 o.m
  p : o.p.ok
  a : in64 o.a
  b : in64 o.b
end Hp
/-- Both heaps, the pointers that were made, and the law's box of the document's heap. -/
structure Pt (w : World) (h bm : Nat) (L : List Nat) (i : Nat) (v vb : Value) (l : List Rb) (A : Ab) (md : Value) (mp : List Ptr) (V : World) : Prop where
  cp : Cp w h L i v l A V
  mds : MdAt w V L md mp
  bms : bm ∈ L ∧ w.heap.size ≤ bm
  ne : md.ownBlock ≠ some bm
  mb : V.heap[bm]? = some (.cells #[vb] 28)
section
variable {w V N : World} {h bm i i' : Nat} {L L' : List Nat} {v vb v' : Value} {l l' : List Rb} {A A' : Ab} {md : Value} {mp : List Ptr}
theorem Pt.step (H : Pt w h bm L i v vb l A md mp V) (hc : Cp w h L i' v' l' A' N ∧ Kept L V N) : Pt w h bm L i' v' vb l' A' md mp N :=
  ⟨hc.1, H.mds.keep hc.2, H.bms, H.ne, (hc.2 bm H.bms.1).trans H.mb⟩
theorem Pt.below (H : Pt w h bm L i v vb l A md mp V) (hb : Below V.heap.size V N) : Pt w h bm L i v vb l A md mp N :=
  H.step ⟨H.cp.below hb, H.cp.kept hb⟩
theorem Pt.row (H : Pt w h bm L i v vb l A md mp V) {m : Nat} {x : Obj} (hm : m ∈ L) (hk : Kept L V N) (hr : V.heap[m]? = some x) : N.heap[m]? = some x := (hk m hm).trans hr
theorem Pt.alloc (H : Pt w h bm L i v vb l A md mp V) (X : Obj) : Pt w h bm (V.heap.size :: L) i v vb l A md mp (V.alloc X) := by
  have hb : Below V.heap.size V (V.alloc X) := (Below.refl _ _).alloc (Nat.le_refl _) _
  exact ⟨H.cp.alloc X, (H.mds.keep (H.cp.kept hb)).more fun m hm => List.mem_cons_of_mem _ hm, ⟨List.mem_cons_of_mem _ H.bms.1, H.bms.2⟩, H.ne, (H.cp.kept hb bm H.bms.1).trans H.mb⟩
theorem Pt.cut (H : Pt w h bm L i v vb l A md mp V) (hL : ∀ m ∈ L', m ∈ L) (h1 : bm ∈ L') (h2 : ∀ m, md.ownBlock = some m → m ∈ L') (hi : i ≤ i') : Pt w h bm L' i' v vb l A md mp V :=
  ⟨H.cp.cut hL hi, ⟨H.mds.row, fun m hm => ⟨h2 m hm, (H.mds.own m hm).2⟩, H.mds.ok⟩, ⟨h1, H.bms.2⟩, H.ne, H.mb⟩
/-- The law's box of the document's heap is written. -/
theorem Pt.setM (H : Pt w h bm L i v vb l A md mp V) (x : Value) : Pt w h bm L i v x l A md mp (V.setCell ⟨bm, 0, none⟩ x) := by
  refine ⟨H.cp.set H.bms.1 H.bms.2 x, ⟨own_at H.mds.row fun j hj => Below.heap_setCell V _ x j (fun e => H.ne (by have e : j = bm := e; rw [← e]; exact hj)), H.mds.own, H.mds.ok⟩, H.bms, H.ne, ?_⟩
  have := heap_setCells_row bm 28 [x] 0 V _ H.mb
  simpa [World.setCells, putL] using this
/-- A block of the law's own is written, no box of the heap's, no row of pointers. -/
theorem Pt.set (H : Pt w h bm L i v vb l A md mp V) {m k : Nat} (hm : m ∈ L) (hw : w.heap.size ≤ m) (h1 : m ≠ bm) (h2 : md.ownBlock ≠ some m) (x : Value) : Pt w h bm L i v vb l A md mp (V.setCell ⟨m, k, none⟩ x) :=
  ⟨H.cp.set hm hw x, ⟨own_at H.mds.row fun j hj => Below.heap_setCell V _ x j (fun e => h2 (by have e : j = m := e; rw [← e]; exact hj)), H.mds.own, H.mds.ok⟩, H.bms, H.ne, (Below.heap_setCell V _ x bm (fun e => h1 e.symm)).trans H.mb⟩
theorem Pt.be (H : Pt w h bm L i v vb l A md mp V) : Below w.heap.size w V := H.cp.be
end
/-- The cells of a pointer. -/
abbrev ptA (p : Ptr) : Array Value := #[.int .i64 p.bl, .int .i64 p.off, .int .i64 p.lo, .int .i64 p.hi]
/-- .. and the law's boxes of a call and of its pointer. -/
structure Px (w : World) (h bm bo bp : Nat) (L : List Nat) (i : Nat) (v : Value) (l : List Rb) (A : Ab) (md : Value) (mp : List Ptr) (x : Opv) (p : Ptr) (V : World) : Prop where
  pt : Pt w h bm L i v v l A md mp V
  bos : bo ∈ L ∧ w.heap.size ≤ bo ∧ bo ≠ bp ∧ bo ≠ bm
  bps : bp ∈ L ∧ w.heap.size ≤ bp ∧ bp ≠ bm
  nep : md.ownBlock ≠ some bp
  row : V.heap[bo]? = some (.cells x.l.toArray 37)
  ptr : V.heap[bp]? = some (.cells (ptA p) 31)
  pok : p.ok
theorem Px.below {w V N : World} {h bm bo bp i : Nat} {L : List Nat} {v : Value} {l : List Rb} {A : Ab} {md : Value} {mp : List Ptr} {x : Opv} {p : Ptr} (H : Px w h bm bo bp L i v l A md mp x p V) (hb : Below V.heap.size V N) : Px w h bm bo bp L i v l A md mp x p N :=
  ⟨H.pt.below hb, H.bos, H.bps, H.nep, (H.pt.cp.kept hb bo H.bos.1).trans H.row, (H.pt.cp.kept hb bp H.bps.1).trans H.ptr, H.pok⟩
theorem px0 {w V : World} {h bm i : Nat} {L : List Nat} {v : Value} {l : List Rb} {A : Ab} {md : Value} {mp : List Ptr} {x : Opv} (H : Pt w h bm L i v v l A md mp V) (hp : x.p.ok) :
    Px w h bm V.heap.size (V.heap.size + 1) ((V.heap.size + 1) :: V.heap.size :: L) i v l A md mp x x.p ((V.alloc (.cells x.l.toArray 37)).alloc (.cells (ptA x.p) 31)) := by
  have h1 := H.alloc (.cells x.l.toArray 37)
  have h2 := h1.alloc (.cells (ptA x.p) 31)
  have hs : (V.alloc (.cells x.l.toArray 37)).heap.size = V.heap.size + 1 := World.size_alloc _ _
  rw [hs] at h2
  have hz := H.be.size
  have hl := H.cp.lt H.bms.1
  refine ⟨h2, ⟨by simp, hz, by omega, by omega⟩, ⟨by simp, by omega, by omega⟩, fun e => ?_, ?_, ?_, hp⟩
  · have := H.cp.lt (H.mds.own _ e).1
    omega
  · rw [Below.heap_alloc _ _ _ (by rw [hs]; omega)]
    exact heap_alloc_new _ _
  · have := heap_alloc_new (V.alloc (.cells x.l.toArray 37)) (.cells (ptA x.p) 31)
    rw [hs] at this
    exact this
/-- The pointer's box is written. -/
theorem Px.setP {w V : World} {h bm bo bp i : Nat} {L : List Nat} {v : Value} {l : List Rb} {A : Ab} {md : Value} {mp : List Ptr} {x : Opv} {p : Ptr} (H : Px w h bm bo bp L i v l A md mp x p V) (p' : Ptr) (hp : p'.ok) : Px w h bm bo bp L i v l A md mp x p' (V.setRow bp (ptA p')) := by
  have ho : Onl bp V (V.setRow bp (ptA p')) := Onl.setRow bp V _
  have hk : ∀ j, j ≠ bp → (V.setRow bp (ptA p')).heap[j]? = V.heap[j]? := fun j hj => setRow_other _ _ _ _ hj
  refine ⟨⟨?_, ⟨own_at H.pt.mds.row fun j hj => hk j (fun e => H.nep (by rw [← e]; exact hj)), H.pt.mds.own, H.pt.mds.ok⟩, H.pt.bms, H.pt.ne, (hk bm (fun e => H.bps.2.2 e.symm)).trans H.pt.mb⟩, H.bos, H.bps, H.nep, (hk bo H.bos.2.2.1).trans H.row, setRow_heap V bp _ (ptA p') _ _ H.ptr, hp⟩
  obtain ⟨o, h1, h2, h3, h4, h5, h6⟩ := H.pt.cp
  refine ⟨o, h1.keep fun j hj => hk j (fun e => (h4 bp H.bps.1).1 (e ▸ hj)), h2.keep fun j hj => hk j (fun e => (h4 bp H.bps.1).2.1 (e ▸ hj)), h3, fun q hq => ⟨(h4 q hq).1, (h4 q hq).2.1, Nat.lt_of_lt_of_le (h4 q hq).2.2 ho.size⟩, h5, ?_⟩
  exact h6.trans (ho.toBelow H.bps.2.1 h6.size)
theorem MdAt.cells {w V : World} {L : List Nat} {mp : List Ptr} {gm cap : Nat} (H : MdAt w V L (.slice (some ⟨gm, 0, none⟩) mp.length cap) mp) (k : Nat) (hk : k < mp.length) {E : Ptr} (hE : mp[k] = E) :
    gm < V.heap.size ∧ V.cell? ⟨gm, k * 4, none⟩ = some (.int .i64 E.bl) ∧ V.cell? ⟨gm, k * 4 + 1, none⟩ = some (.int .i64 E.off) ∧ V.cell? ⟨gm, k * 4 + 2, none⟩ = some (.int .i64 E.lo) ∧ V.cell? ⟨gm, k * 4 + 3, none⟩ = some (.int .i64 E.hi) := by
  obtain ⟨g, cap', h1, h2, h3, h4, c0, c1, c2, c3⟩ := H.get k hk
  injection h1 with e1 _ e2
  injection e1 with e1
  injection e1 with e1
  subst e1
  rw [hE] at c0 c1 c2 c3
  exact ⟨h4, c0, c1, c2, c3⟩
theorem Cp.one {w V : World} {h i : Nat} {L : List Nat} {v : Value} {l : List Rb} {A : Ab} (H : Cp w h L i v l A V) : v.oneCell' = true := by
  obtain ⟨a, n, c, rfl⟩ := rsl H.opens.1.row
  rfl
theorem two_box (T : World) (a a' : Value) (b b' : Array Value) (t u : TypeId) :
    ((T.alloc (.cells #[a] t)).alloc (.cells b u)).heap[T.heap.size]? = some (.cells #[a] t) ∧ (((T.alloc (.cells #[a] t)).alloc (.cells b u)).setRow T.heap.size #[a']).heap[T.heap.size + 1]? = some (.cells b u) ∧
    Below T.heap.size T ((((T.alloc (.cells #[a] t)).alloc (.cells b u)).setRow T.heap.size #[a']).setRow (T.heap.size + 1) b') ∧ ((((T.alloc (.cells #[a] t)).alloc (.cells b u)).setRow T.heap.size #[a']).setRow (T.heap.size + 1) b').heap[T.heap.size]? = some (.cells #[a'] t) ∧
    ((((T.alloc (.cells #[a] t)).alloc (.cells b u)).setRow T.heap.size #[a']).setRow (T.heap.size + 1) b').heap[T.heap.size + 1]? = some (.cells b' u) := by
  have h1 : ((T.alloc (.cells #[a] t)).alloc (.cells b u)).heap[T.heap.size]? = some (.cells #[a] t) := (Below.heap_alloc _ _ _ (by simp)).trans (heap_alloc_new _ _)
  have h2 : ((T.alloc (.cells #[a] t)).alloc (.cells b u)).heap[T.heap.size + 1]? = some (.cells b u) := by
    have := heap_alloc_new (T.alloc (.cells #[a] t)) (.cells b u)
    rwa [World.size_alloc] at this
  have h3 : (((T.alloc (.cells #[a] t)).alloc (.cells b u)).setRow T.heap.size #[a']).heap[T.heap.size + 1]? = some (.cells b u) := (setRow_other _ _ _ _ (by omega)).trans h2
  have h4 := setRow_heap ((T.alloc (.cells #[a] t)).alloc (.cells b u)) T.heap.size _ #[a'] _ _ h1
  have b0 : Below T.heap.size T ((T.alloc (.cells #[a] t)).alloc (.cells b u)) := ((Below.refl _ _).alloc (Nat.le_refl _) _).alloc (by simp) _
  have b1 := b0.trans ((Onl.setRow T.heap.size ((T.alloc (.cells #[a] t)).alloc (.cells b u)) #[a']).toBelow (Nat.le_refl _) b0.size)
  have b2 := b1.trans ((Onl.setRow (T.heap.size + 1) (((T.alloc (.cells #[a] t)).alloc (.cells b u)).setRow T.heap.size #[a']) b').toBelow (by omega) b1.size)
  exact ⟨h1, h3, b2, (setRow_other _ _ _ _ (by omega)).trans h4, setRow_heap _ _ _ b' _ _ h3⟩
theorem cells5v {V : World} {g : Nat} {t : TypeId} {a0 a1 a2 a3 a4 : Value} (h : V.heap[g]? = some (.cells #[a0, a1, a2, a3, a4] t)) :
    V.cell? ⟨g, 0, none⟩ = some a0 ∧ V.cell? ⟨g, 1, none⟩ = some a1 ∧ V.cell? ⟨g, 2, none⟩ = some a2 ∧ V.cell? ⟨g, 3, none⟩ = some a3 ∧ V.cell? ⟨g, 4, none⟩ = some a4 := by
  refine ⟨?_, ?_, ?_, ?_, ?_⟩ <;> (rw [cell_of_row _ _ _ _ _ _ h]; rfl)
theorem makeV_ok {A : Ab} {l : List Rb} (H : Rel A l) {s : Int} (hs : in64 s) (hl : l.length ≤ 1000) : (A.makeV s).ok := by
  rw [H.makeV]
  unfold rMakeV
  unfold in64 at hs
  split
  · unfold Ptr.ok in64 p0; refine ⟨?_, ?_, ?_, ?_⟩ <;> dsimp only <;> omega
  · unfold Ptr.ok in64; refine ⟨?_, ?_, ?_, ?_⟩ <;> dsimp only <;> omega
theorem ptsL_app (l : List Ptr) (p : Ptr) : ptsL (l ++ [p]) = ptsL l ++ ptL p := by simp [ptsL]
/-- The row of pointers grows by one. -/
theorem Pt.push {w V N : World} {h bm i : Nat} {L : List Nat} {v vb : Value} {l : List Rb} {A : Ab} {md : Value} {mp : List Ptr} {g cap : Nat} {p : Ptr} (H : Pt w h bm L i v vb l A md mp V) (hp : p.ok)
    (hown : N.ownsRow w.heap.size 31 4 (.slice (some ⟨g, 0, none⟩) (mp.length + 1) cap) (mp.length + 1) (ptsL mp ++ ptL p)) (hg : V.grownBy N md.ownBlock) (hat : md.ownBlock = some g ∨ g = V.heap.size) (hlt : g < N.heap.size) :
    Pt w h bm (g :: L) i v vb l A (.slice (some ⟨g, 0, none⟩) (mp.length + 1) cap) (mp ++ [p]) N := by
  have hbm := H.cp.lt H.bms.1
  have hgw : w.heap.size ≤ g := by
    rcases hat with e | e
    · exact (H.mds.own g e).2
    · have := H.be.size; omega
  refine ⟨H.cp.grow H.mds.own hg hat hlt, ⟨by rw [List.length_append, ptsL_app]; exact hown, fun m hm => ?_, fun q hq => ?_⟩, ⟨List.mem_cons_of_mem _ H.bms.1, H.bms.2⟩, fun e => ?_, ?_⟩
  · simp only [Value.ownBlock, Option.some.injEq] at hm
    subst hm
    exact ⟨by simp, hgw⟩
  · rcases List.mem_append.1 hq with hq | hq
    · exact H.mds.ok q hq
    · rw [List.mem_singleton.1 hq]; exact hp
  · simp only [Value.ownBlock, Option.some.injEq] at e
    rcases hat with e2 | e2
    · exact H.ne (by rw [e2, e])
    · omega
  · exact (hg.block bm hbm (fun e => H.ne e.symm)).trans H.mb
theorem cells16 {V : World} {g : Nat} {t : TypeId} {a0 a1 a2 a3 a4 a5 a6 a7 a8 a9 b0 b1 b2 b3 b4 b5 : Value} (h : V.heap[g]? = some (.cells [a0, a1, a2, a3, a4, a5, a6, a7, a8, a9, b0, b1, b2, b3, b4, b5].toArray t)) :
    V.cell? ⟨g, 0, none⟩ = some a0 ∧ V.cell? ⟨g, 1, none⟩ = some a1 ∧ V.cell? ⟨g, 2, none⟩ = some a2 ∧ V.cell? ⟨g, 3, none⟩ = some a3 ∧ V.cell? ⟨g, 4, none⟩ = some a4 ∧ V.cell? ⟨g, 5, none⟩ = some a5 ∧ V.cell? ⟨g, 6, none⟩ = some a6 ∧ V.cell? ⟨g, 7, none⟩ = some a7 ∧
    V.cell? ⟨g, 8, none⟩ = some a8 ∧ V.cell? ⟨g, 9, none⟩ = some a9 ∧ V.cell? ⟨g, 10, none⟩ = some b0 ∧ V.cell? ⟨g, 11, none⟩ = some b1 ∧ V.cell? ⟨g, 12, none⟩ = some b2 ∧ V.cell? ⟨g, 13, none⟩ = some b3 ∧ V.cell? ⟨g, 14, none⟩ = some b4 ∧ V.cell? ⟨g, 15, none⟩ = some b5 := by
  refine ⟨?_, ?_, ?_, ?_, ?_, ?_, ?_, ?_, ?_, ?_, ?_, ?_, ?_, ?_, ?_, ?_⟩ <;> (rw [cell_of_row _ _ _ _ _ _ h]; rfl)
/-- .. and of what the document's call is given. -/
structure Pz (w : World) (h bm bo bp bq : Nat) (L : List Nat) (i : Nat) (v vb : Value) (l : List Rb) (A : Ab) (md : Value) (mp : List Ptr) (x : Opv) (p : Ptr) (V : World) : Prop where
  pt : Pt w h bm L i v vb l A md mp V
  bos : bo ∈ L ∧ bo ≠ bm
  bps : bp ∈ L ∧ bp ≠ bm
  bqs : bq ∈ L ∧ bq ≠ bm
  row : V.heap[bo]? = some (.cells x.l.toArray 37)
  ptr : V.heap[bp]? = some (.cells (ptA p) 31)
  qtr : V.heap[bq]? = some (.cells (ptA p) 39)
  pok : p.ok
section
variable {w V N : World} {h bm bo bp bq i i' : Nat} {L : List Nat} {v vb v' : Value} {l l' : List Rb} {A A' : Ab} {md : Value} {mp : List Ptr} {x : Opv} {p : Ptr}
theorem Px.toZ (H : Px w h bm bo bp L i v l A md mp x p V) : Pz w h bm bo bp V.heap.size (V.heap.size :: L) i v v l A md mp x p (V.alloc (.cells (ptA p) 39)) := by
  have hb : Below V.heap.size V (V.alloc (.cells (ptA p) 39)) := (Below.refl _ _).alloc (Nat.le_refl _) _
  have hk := H.pt.cp.kept hb
  have hl := H.pt.cp.lt H.pt.bms.1
  exact ⟨H.pt.alloc _, ⟨List.mem_cons_of_mem _ H.bos.1, H.bos.2.2.2⟩, ⟨List.mem_cons_of_mem _ H.bps.1, H.bps.2.2⟩, ⟨by simp, by omega⟩, (hk bo H.bos.1).trans H.row, (hk bp H.bps.1).trans H.ptr, heap_alloc_new _ _, H.pok⟩
theorem Pz.step (H : Pz w h bm bo bp bq L i v vb l A md mp x p V) (hc : Cp w h L i' v' l' A' N ∧ Kept L V N) : Pz w h bm bo bp bq L i' v' vb l' A' md mp x p N :=
  ⟨H.pt.step hc, H.bos, H.bps, H.bqs, (hc.2 bo H.bos.1).trans H.row, (hc.2 bp H.bps.1).trans H.ptr, (hc.2 bq H.bqs.1).trans H.qtr, H.pok⟩
theorem Pz.below (H : Pz w h bm bo bp bq L i v vb l A md mp x p V) (hb : Below V.heap.size V N) : Pz w h bm bo bp bq L i v vb l A md mp x p N := H.step ⟨H.pt.cp.below hb, H.pt.cp.kept hb⟩
theorem Pz.alloc (H : Pz w h bm bo bp bq L i v vb l A md mp x p V) (X : Obj) : Pz w h bm bo bp bq L i v vb l A md mp x p (V.alloc X) := H.below ((Below.refl _ _).alloc (Nat.le_refl _) _)
theorem Pz.setM (H : Pz w h bm bo bp bq L i v vb l A md mp x p V) (y : Value) : Pz w h bm bo bp bq L i v y l A md mp x p (V.setCell ⟨bm, 0, none⟩ y) :=
  ⟨H.pt.setM y, H.bos, H.bps, H.bqs, (Below.heap_setCell V _ y bo H.bos.2).trans H.row, (Below.heap_setCell V _ y bp H.bps.2).trans H.ptr, (Below.heap_setCell V _ y bq H.bqs.2).trans H.qtr, H.pok⟩
theorem Pz.setR (H : Pz w h bm bo bp bq L i v vb l A md mp x p V) (y : Value) : Pz w h bm bo bp bq L i v y l A md mp x p (V.setRow bm #[y]) := by
  have ho : Onl bm V (V.setRow bm #[y]) := Onl.setRow bm V _
  have hk : ∀ j, j ≠ bm → (V.setRow bm #[y]).heap[j]? = V.heap[j]? := fun j hj => setRow_other _ _ _ _ hj
  refine ⟨⟨?_, ⟨own_at H.pt.mds.row fun j hj => hk j (fun e => H.pt.ne (by rw [← e]; exact hj)), H.pt.mds.own, H.pt.mds.ok⟩, H.pt.bms, H.pt.ne, setRow_heap V bm _ #[y] _ _ H.pt.mb⟩, H.bos, H.bps, H.bqs, (hk bo H.bos.2).trans H.row, (hk bp H.bps.2).trans H.ptr, (hk bq H.bqs.2).trans H.qtr, H.pok⟩
  obtain ⟨o, h1, h2, h3, h4, h5, h6⟩ := H.pt.cp
  refine ⟨o, h1.keep fun j hj => hk j (fun e => (h4 bm H.pt.bms.1).1 (e ▸ hj)), h2.keep fun j hj => hk j (fun e => (h4 bm H.pt.bms.1).2.1 (e ▸ hj)), h3, fun q hq => ⟨(h4 q hq).1, (h4 q hq).2.1, Nat.lt_of_lt_of_le (h4 q hq).2.2 ho.size⟩, h5, ?_⟩
  exact h6.trans (ho.toBelow H.pt.bms.2 h6.size)
/-- A box of the law's own more. -/
theorem Pz.alloc' (H : Pz w h bm bo bp bq L i v vb l A md mp x p V) (X : Obj) : Pz w h bm bo bp bq (V.heap.size :: L) i v vb l A md mp x p (V.alloc X) := by
  have hb : Below V.heap.size V (V.alloc X) := (Below.refl _ _).alloc (Nat.le_refl _) _
  have hk := H.pt.cp.kept hb
  exact ⟨H.pt.alloc X, ⟨List.mem_cons_of_mem _ H.bos.1, H.bos.2⟩, ⟨List.mem_cons_of_mem _ H.bps.1, H.bps.2⟩, ⟨List.mem_cons_of_mem _ H.bqs.1, H.bqs.2⟩, (hk bo H.bos.1).trans H.row, (hk bp H.bps.1).trans H.ptr, (hk bq H.bqs.1).trans H.qtr, H.pok⟩
theorem Pz.fin (H : Pz w h bm bo bp bq L i v v l A md mp x p V) (hi : i ≤ i') : Pt w h bm L i' v v l A md mp V := H.pt.cut (fun _ h => h) H.pt.bms.1 (fun m hm => (H.pt.mds.own m hm).1) hi
theorem Pz.mcell (H : Pz w h bm bo bp bq L i v vb l A md mp x p V) : V.cell? ⟨bm, 0, none⟩ = some vb ∧ bm < V.heap.size := ⟨by rw [cell_of_row _ _ _ _ _ _ H.pt.mb]; rfl, lt_of_at H.pt.mb⟩
end
/-- What stands behind j calls. -/
def Pj (w : World) (h bm : Nat) (j : Nat) (md : Value) (V : World) : Prop := ∃ L v l A mp, Pt w h bm L (2 * j) v v l A md mp V ∧ Rel A l ∧ mp.length ≤ j
end Go.Proofs.Ytjianllngobhhaa
