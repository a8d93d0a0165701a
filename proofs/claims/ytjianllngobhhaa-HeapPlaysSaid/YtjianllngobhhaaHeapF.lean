/- Package heap: Load. Conditions: each theorem's. -/
import Derived.Test.YtjianllngobhhaaHeapE
namespace Go.Proofs.Ytjianllngobhhaa
open Go.RowKit Go.Maps
set_option linter.unusedVariables false
set_option linter.unusedSimpArgs false
set_option maxRecDepth 100000
open Hp
/-- Only block b of those that were may have changed. -/
structure Onl (b : Nat) (w w' : World) : Prop where
  os : w'.os = w.os
  tape : w'.tape = w.tape
  output : w'.output = w.output
  size : w.heap.size ≤ w'.heap.size
  block : ∀ k, k < w.heap.size → k ≠ b → w'.heap[k]? = w.heap[k]?
theorem Onl.of {b B : Nat} {w w1 w' : World} (h : Below B w w1) (hB : w.heap.size ≤ B) (g : Onl b w1 w') : Onl b w w' :=
  ⟨g.os.trans h.os, g.tape.trans h.tape, g.output.trans h.output, Nat.le_trans h.size g.size, fun k hk hn => (g.block k (Nat.lt_of_lt_of_le hk h.size) hn).trans (h.block k (Nat.lt_of_lt_of_le hk hB))⟩
theorem Onl.setRow (b : Nat) (w : World) (cs : Array Value) : Onl b w (w.setRow b cs) := ⟨rfl, rfl, rfl, by simp [World.setRow], fun k _ hn => setRow_other _ _ _ _ hn⟩
theorem Onl.toBelow {b B : Nat} {w w' : World} (h : Onl b w w') (hb : B ≤ b) (hB : B ≤ w.heap.size) : Below B w w' := ⟨h.os, h.tape, h.output, h.size, fun k hk => h.block k (by omega) (by omega)⟩
def valA (v : Val) : Array Value := #[.int .u64 v.num, .int .i64 v.p.bl, .int .i64 v.p.off, .int .i64 v.p.lo, .int .i64 v.p.hi]
set_option maxHeartbeats 1000000 in
theorem load1 {w : World} {g : G} {hb vb : Nat} {b o : Int} (rm : Value) (old : Array Value) (hold : old.size = 5) (H : HeapAt w g) (hb64 : in64 b) (ho64 : in64 o)
    (hh : w.heap[hb]? = some (.cells #[.pointer (some ⟨g.h, 0, none⟩)] 23)) (hv : w.heap[vb]? = some (.cells old 35)) :
    Calls Try.prog 28 #[rm, plV b o, .pointer (some ⟨hb, 0, none⟩), .pointer (some ⟨vb, 0, none⟩)] w fun e w' => e = .returned (.tuple #[]) ∧ w'.heap[vb]? = some (.cells (valA ((g.st b o).getD v0)) 35) ∧ Onl vb w w' := by
  have hB : Below w.heap.size w (w.alloc (.cells #[.int .i64 b, .int .i64 o] 80)) := (Below.refl _ _).alloc (Nat.le_refl _) _
  have hlk := look_st (H.below hB.drew) hb64 ho64 false
  obtain ⟨-, -, c2⟩ := box_cells H
  have hl := lt_of_at H.box
  have hhl := lt_of_at hh
  have hvl := lt_of_at hv
  have c3 : w.cell? ⟨hb, 0, none⟩ = some (.pointer (some ⟨g.h, 0, none⟩)) := cell_of_row _ _ _ _ _ _ hh
  have hv2 : (w.alloc (.cells #[.int .i64 b, .int .i64 o] 80)).drew.heap[vb]? = some (.cells old 35) := (hB.drew.block _ hvl).trans hv
  have hlk : (Instr.lookup 67 (.map (some g.sb)) (.agg #[.int .i64 b, .int .i64 o]) false).run Try.prog (w.alloc (.cells #[.int .i64 b, .int .i64 o] 80)).drew = .ok (.agg (valA ((g.st b o).getD v0))) (w.alloc (.cells #[.int .i64 b, .int .i64 o] 80)).drew := hlk
  have hsz : (Try.prog.info? 35).map (·.size) = some (valA ((g.st b o).getD v0)).size := sizeVal
  have hone : (valA ((g.st b o).getD v0)).all (·.oneCell') = true := by simp [valA, Value.oneCell']
  have holdz : old.size = (valA ((g.st b o).getD v0)).size := hold
  generalize valA ((g.st b o).getD v0) = V at *
  simp only [plV]
  clear hh hv H hold
  go_enter Try.func28, Try.ntmps28
  go_wp2_with fail
  have d3 : (w.alloc (.cells #[.int .i64 b, .int .i64 o] 80)).cell? ⟨hb, 0, none⟩ = some (.pointer (some ⟨g.h, 0, none⟩)) := (World.cell?_alloc_lt _ _ _ hhl).trans c3
  have d2 : (w.alloc (.cells #[.int .i64 b, .int .i64 o] 80)).cell? ⟨g.h, 2, none⟩ = some (.map (some g.sb)) := (World.cell?_alloc_lt _ _ _ hl).trans c2
  have d0 : (w.alloc (.cells #[.int .i64 b, .int .i64 o] 80)).cell? ⟨w.heap.size, 0, none⟩ = some (.int .i64 b) := by go_simp
  have d1 : (w.alloc (.cells #[.int .i64 b, .int .i64 o] 80)).cell? ⟨w.heap.size, 1, none⟩ = some (.int .i64 o) := by go_simp
  have HB := Lib.hid hB
  clear hB c2 c3
  generalize (w.alloc (.cells #[.int .i64 b, .int .i64 o] 80)) = Z at *
  go_still_tail 6, (by kernel_rfl)
  change wpList _ _ _ _ _ Z.drew
  have hB := HB.out
  refine wpList_store_row rfl 35 (.tmp 3) (.tmp 11) rfl vb V rfl rfl 35 old hv2 hsz holdz hone ?_
  go_wp2
  go_end0
  exact ⟨rfl, setRow_heap _ _ _ _ _ _ hv2, Onl.of hB.drew (Nat.le_refl _) (Onl.setRow _ _ _)⟩
theorem row_in {w w' : World} {B j : Nat} {x : Obj} (h : Below B w w') (hx : w.heap[j]? = some x) (hj : j < B) : w'.heap[j]? = some x := (h.block j hj).trans hx
/-- The boxes of Load. -/
def W4 (w : World) (h : Nat) (p : Ptr) : World := (((w.alloc (.cells #[.pointer (some ⟨h, 0, none⟩)] 23)).alloc (.cells #[.int .i64 p.bl, .int .i64 p.off, .int .i64 p.lo, .int .i64 p.hi] 31)).alloc (.cells (valA v0) 35)).alloc (.cells (valA v0) 35)
theorem W4_size (w : World) (h : Nat) (p : Ptr) : (W4 w h p).heap.size = w.heap.size + 4 := by simp [W4]
theorem W4_below (w : World) (h : Nat) (p : Ptr) : Below w.heap.size w (W4 w h p) := ((((Below.refl _ _).alloc (Nat.le_refl _) _).alloc (by simp) _).alloc (by simp; omega) _).alloc (by simp; omega) _
theorem W4_0 (w : World) (h : Nat) (p : Ptr) : (W4 w h p).heap[w.heap.size]? = some (.cells #[.pointer (some ⟨h, 0, none⟩)] 23) := row_up (row_up (row_up (row_new rfl _) _) _) _
theorem W4_1 (w : World) (h : Nat) (p : Ptr) : (W4 w h p).heap[w.heap.size + 1]? = some (.cells #[.int .i64 p.bl, .int .i64 p.off, .int .i64 p.lo, .int .i64 p.hi] 31) := row_up (row_up (row_new (by simp) _) _) _
theorem W4_2 (w : World) (h : Nat) (p : Ptr) : (W4 w h p).heap[w.heap.size + 1 + 1]? = some (.cells (valA v0) 35) := row_up (row_new (by simp) _) _
theorem W4_3 (w : World) (h : Nat) (p : Ptr) : (W4 w h p).heap[w.heap.size + 1 + 1 + 1]? = some (.cells (valA v0) 35) := row_new (by simp) _
namespace Hp
def Ab.load (A : Ab) (p : Ptr) (n : Int) : Val := if A.at_ p n = 0 then A.st p.bl p.off else v0
end Hp
theorem cells5 {w : World} {b : Nat} {V : Val} {t : TypeId} {fr : Nat × Nat} (h : w.heap[b]? = some (.cells (valA V) t fr)) : w.cell? ⟨b, 0, none⟩ = some (.int .u64 V.num) ∧ w.cell? ⟨b, 1, none⟩ = some (.int .i64 V.p.bl) ∧ w.cell? ⟨b, 2, none⟩ = some (.int .i64 V.p.off) ∧ w.cell? ⟨b, 3, none⟩ = some (.int .i64 V.p.lo) ∧ w.cell? ⟨b, 4, none⟩ = some (.int .i64 V.p.hi) := by
  rw [cell_of_row _ _ _ _ _ _ h, cell_of_row _ _ _ _ _ _ h, cell_of_row _ _ _ _ _ _ h, cell_of_row _ _ _ _ _ _ h, cell_of_row _ _ _ _ _ _ h]
  exact ⟨rfl, rfl, rfl, rfl, rfl⟩
/-- What reach leaves in Load. -/
def LdTo (w : World) (V : Val) (E : Int) (w0 : World) (e : Ending) (w' : World) : Prop :=
  e = .returned (.int .i64 E) ∧ w'.heap[w.heap.size + 1 + 1]? = some (.cells (valA v0) 35) ∧ w'.heap[w.heap.size + 1 + 1 + 1]? = some (.cells (valA V) 35) ∧ Below w.heap.size w0 w'
theorem ldReach {w : World} {g : G} {h : Nat} (p : Ptr) (hp : p.ok) (H : HeapAt w g) (hh : g.h = h) (n : Int) :
    Calls Try.prog 27 #[.pointer (some ⟨h, 0, none⟩), p.v, .int .i64 n, .func (.func 28) #[] #[.pointer (some ⟨w.heap.size, 0, none⟩), .pointer (some ⟨w.heap.size + 1 + 1 + 1, 0, none⟩)]] (W4 w h p) (LdTo w (g.ab.load p n) (g.ab.at_ p n) (W4 w h p)) := by
  have H4 := H.below (W4_below w h p)
  have z4 := W4_size w h p
  by_cases hE : g.ab.at_ p n = 0
  · have hV : g.ab.load p n = (g.st p.bl p.off).getD v0 := by unfold Ab.load; rw [if_pos hE]; rfl
    rw [hE, hV]
    refine (reach_Load p hp H4 hh n _ _ (fun w' => LdTo w ((g.st p.bl p.off).getD v0) 0 (W4 w h p) (.returned (.int .i64 0)) w') hE fun w1 hb1 => ?_).mono (fun e w' ⟨he, hq⟩ => by subst he; exact hq)
    rw [z4] at hb1
    refine (load1 (roomP (g.room p.bl)) (valA v0) rfl (H4.below (hb1.mono (by omega))) hp.1 hp.2.1 (row_in hb1 (by rw [hh]; exact W4_0 w h p) (by omega)) (row_in hb1 (W4_3 w h p) (by omega))).mono ?_
    rintro e w2 ⟨rfl, hv, ho⟩
    refine ⟨rfl, rfl, (ho.block _ (by have := hb1.size; omega) (by omega)).trans (row_in hb1 (W4_2 w h p) (by omega)), hv, (hb1.mono (by omega)).trans (ho.toBelow (by omega) (by have := hb1.size; omega))⟩
  · have hV : g.ab.load p n = v0 := by unfold Ab.load; rw [if_neg hE]
    rw [hV]
    refine (reach_bad p hp H4 hh n _ hE).mono ?_
    rintro e w' ⟨rfl, hb⟩
    rw [z4] at hb
    exact ⟨rfl, row_in hb (W4_2 w h p) (by omega), row_in hb (W4_3 w h p) (by omega), hb.mono (by omega)⟩
set_option maxHeartbeats 1000000 in
theorem load_any {w : World} {h : Nat} {o : Nat → Prop} {c : Nat} {A : Ab} (H : HpIs w h o c A) (p : Ptr) (hp : p.ok) (n : Int) :
    Calls Try.prog 13 #[.pointer (some ⟨h, 0, none⟩), p.v, .int .i64 n] w fun e w' => e = .returned (.tuple #[(A.load p n).v, .int .i64 (A.at_ p n)]) ∧ Below w.heap.size w w' := by
  obtain ⟨g, H, hh, rfl, _, rfl⟩ := H
  have hr := ldReach p hp H hh n
  clear H hp
  generalize g.ab.load p n = V at *
  generalize g.ab.at_ p n = E at *
  have hB := W4_below w h p
  obtain ⟨b, of, l, hi⟩ := p
  unfold W4 at hr hB
  simp only [valA, v0, p0] at hr hB
  simp only [Ptr.v] at *
  go_enter Try.func13, Try.ntmps13
  go_wp2_with (first | (go_at_call 27; refine hr.mono ?_; rintro e w2 ⟨rfl, r2, r3, hb2⟩) | (refine wpList_load_row (o := ⟨some 16, .load 35 (.tmp 8), _, _, _, _⟩) rfl 35 (.tmp 8) rfl (w.heap.size + 1 + 1 + 1) rfl 35 (valA V) (0, 0) _ r3 Try.underlying35 rfl sizeVal ?_) | (refine wpList_store_row (o := ⟨none, .store 35 (.tmp 6) (.tmp 16), _, _, _, _⟩) rfl 35 (.tmp 6) (.tmp 16) rfl (w.heap.size + 1 + 1) (valA V) rfl rfl 35 (valA v0) r2 sizeVal rfl (by simp [valA, Value.oneCell']) ?_))
  exact bodyPost_ret (v := .tuple #[V.v, .int .i64 E]) (res_cell_tmp Try.results13 _ _ (w.heap.size + 1 + 1) 35 _ (0, 0) _ _ rfl rfl (setRow_heap _ _ _ _ _ _ r2) Try.underlying35 rfl sizeVal) rfl ⟨rfl, hB.trans (hb2.trans ((Onl.setRow _ w2 _).toBelow (by omega) (by have := lt_of_at r2; omega)))⟩
end Go.Proofs.Ytjianllngobhhaa
