/- Package heap: Store. Conditions: each theorem's. -/
import Derived.Test.YtjianllngobhhaaHeapG
namespace Go.Proofs.Ytjianllngobhhaa
open Go.RowKit Go.Maps
set_option linter.unusedVariables false
set_option linter.unusedSimpArgs false
set_option maxRecDepth 100000
open Hp
theorem infoInt : (Try.prog.info? 3).map (fun i => (i.zero, i.size, i.bytes)) = some (some (.int .i64 0), 1, 8) := by kernel_rfl
theorem setRow_cell (w : World) (g : Nat) (cs : Array Value) (a : Addr) (h : a.block ≠ g) : (w.setRow g cs).cell? a = w.cell? a := World.cell?_of_block (setRow_other w g a.block cs h)
def plB (b o : Int) : Obj := .cells #[.int .i64 b, .int .i64 o] 80
def vlB (v : Val) : Obj := .cells (valA v) 35
/-- What Store's closure leaves. -/
def StTo (w : World) (g : G) (b o : Int) (x : Val) (e : Ending) (w' : World) : Prop :=
  e = .returned (.tuple #[]) ∧ ∃ g', HeapAt w' g' ∧ g'.h = g.h ∧ g'.ab = g.ab.put b o x ∧ g'.cnt ≤ g.cnt + 2 ∧ Stays g.own w g'.own w'
theorem wpStill_load_row {P : Program} {ops : Array Oper} {w : World} {Q : Act → Prop} {rest : List Oper} {a : Act} {o : Oper} (hw : Region.wanted o (yielded ops a.tmps) = true) (ty : TypeId) (x : Operand) (ho : o.op = .load ty x)
    (g : Nat) (hx : a.eval x = .pointer (some ⟨g, 0, none⟩)) (t : TypeId) (cs : Array Value) (fr : Nat × Nat) (d : TypeDesc) (hg : w.heap[g]? = some (.cells cs t fr))
    (hu : P.underlying ty = some d) (hd : (match d with | .struct _ | .array _ _ => true | _ => false) = true) (hi : (P.info? ty).map (·.size) = some cs.size)
    (h : wpStill P ops w Q rest (a.put o.dst (.agg cs))) : wpStill P ops w Q (o :: rest) a := by
  refine wpStill_step fun K hK => ?_
  rw [if_pos hw]
  unfold Oper.still execOp
  simp only [ho, hx, Instr.loadAt, Instr.sureAddr, Sem.run_bind, Sem.run_pure, Result.andThen_ok, run_loadVar_row w g t ty cs fr d hg hu hd hi]
  exact ⟨rfl, hK _ h⟩
theorem lt_of_row {w : World} {g : Nat} {o : Obj} (h : w.heap[g]? = some o) : g < w.heap.size := lt_of_at h
/-- What stands behind the append to a room's row. -/
theorem st_new {w Z T w1 : World} {g : G} {b o : Int} {r : Room} {us : Value} {nn n0 gg cap : Nat} (H : HeapAt w g) (hr : g.room b = some r) (hus : r.us = us) (hT : Below Z.heap.size Z T) (hB : Below n0 w Z) (hn0 : w.heap.size = n0) (hZ : Z.heap.size = n0 + 1)
    (hTR : T.heap[r.rb]? = some (.cells #[.int .i64 r.size, .bool r.free, us] 73)) (hU : ∀ o ∈ r.used, in64 o) (hnn : r.used.length = nn) (hne : us.ownBlock ≠ some r.rb) (hlen : nn ≤ g.cnt) (ho : in64 o)
    (hown : w1.ownsRow 0 3 1 (.slice (some ⟨gg, 0, none⟩) (nn + 1) cap) (nn + 1) (i64L r.used ++ [.int .i64 o])) (hgr : (T.alloc (.cells #[.int .i64 o] 3)).drew.grownBy w1 us.ownBlock) (hat : us.ownBlock = some gg ∨ gg = T.heap.size + 1) :
    (∀ j, j < w.heap.size → j ≠ r.rb → us.ownBlock ≠ some j → (w1.setCell ⟨r.rb, 2, none⟩ (.slice (some ⟨gg, 0, none⟩) (nn + 1) cap)).heap[j]? = w.heap[j]?) ∧
    (w1.setCell ⟨r.rb, 2, none⟩ (.slice (some ⟨gg, 0, none⟩) (nn + 1) cap)).heap[n0]? = T.heap[n0]? ∧
    (HeapAt (w1.setCell ⟨r.rb, 2, none⟩ (.slice (some ⟨gg, 0, none⟩) (nn + 1) cap)) (g.setUs b (.slice (some ⟨gg, 0, none⟩) (nn + 1) cap) (r.used ++ [o])) ∧
      Stays g.own w (g.setUs b (.slice (some ⟨gg, 0, none⟩) (nn + 1) cap) (r.used ++ [o])).own (w1.setCell ⟨r.rb, 2, none⟩ (.slice (some ⟨gg, 0, none⟩) (nn + 1) cap))) := by
  subst hus
  obtain ⟨u1, u2, u3⟩ := H.room b r hr
  have hz1 := hT.size
  have hz2 := hgr.size
  have hz3 : (T.alloc (.cells #[.int .i64 o] 3)).drew.heap.size = T.heap.size + 1 := World.size_alloc _ _
  rw [hz3] at hz2
  have hlr := lt_of_at u1
  have hou : ∀ j, r.us.ownBlock = some j → j < w.heap.size := fun j hj => (u2.lt j hj).2
  have e1 : ∀ j, j < T.heap.size → j ≠ r.rb → r.us.ownBlock ≠ some j → (w1.setCell ⟨r.rb, 2, none⟩ (.slice (some ⟨gg, 0, none⟩) (nn + 1) cap)).heap[j]? = T.heap[j]? := fun j hj h1 h2 =>
    (Below.heap_setCell _ _ _ _ h1).trans ((hgr.block j (by rw [hz3]; omega) (Ne.symm h2)).trans (heap_alloc_old _ _ hj))
  have e2 : ∀ j, j < w.heap.size → T.heap[j]? = w.heap[j]? := fun j hj => (hT.block j (by omega)).trans (hB.block j (by omega))
  have eA := fun j (hj : j < w.heap.size) h1 h2 => (e1 j (by omega) h1 h2).trans (e2 j hj)
  have grb : gg ≠ r.rb := by
    rcases hat with h | h
    · exact fun q => hne (q ▸ h)
    · omega
  have hw1r : w1.heap[r.rb]? = some (.cells #[.int .i64 r.size, .bool r.free, r.us] 73) := (hgr.block _ (by rw [hz3]; have := lt_of_at hTR; omega) (Ne.symm hne)).trans ((heap_alloc_old _ _ (lt_of_at hTR)).trans hTR)
  refine ⟨eA, e1 n0 (by omega) (by omega) (fun h => by have := hou _ h; omega), H.setUs hr _ _ (by simp; omega) (fun q hq => ?_) (fun q x hq => ?_) (fun j hj h1 h2 => eA j (H.lt j hj) h1 h2) ?_ ?_ (fun j hj => ?_), ?_⟩
  · rcases List.mem_append.1 hq with h | h
    · exact hU q h
    · simp at h; rw [h]; exact ho
  · obtain ⟨_, r', h1, h2⟩ := H.inv b q x hq
    rw [hr] at h1
    cases h1
    exact List.mem_append_left _ h2
  · rw [heap_setCell_same _ _ _ _ _ _ hw1r]; rfl
  · have e3 : (r.used ++ [o]).length = nn + 1 := by simp [hnn]
    have e4 : i64L (r.used ++ [o]) = i64L r.used ++ [.int .i64 o] := by simp [i64L]
    rw [e3, e4]
    exact own_at hown (fun j hj => by
      simp only [Value.ownBlock, Option.some.injEq] at hj
      subst hj
      exact Below.heap_setCell _ _ _ _ grb)
  · simp only [Value.ownBlock, Option.some.injEq] at hj
    subst hj
    rcases hat with h | h
    · exact .inl h
    · exact .inr (fun q => by have := H.lt _ q; omega)
  · refine ⟨hgr.os.trans (hT.os.trans hB.os), hgr.tape.trans (hT.tape.trans hB.tape), hgr.output.trans (hT.output.trans hB.output), by simp [World.setCell]; omega, fun k hk hn => eA k hk (fun q => hn (.inr (.inr (.inr ⟨b, r, hr, .inl q⟩)))) (fun q => hn (.inr (.inr (.inr ⟨b, r, hr, .inr q⟩)))), fun k hk => ?_⟩
    rcases G.setUs_own g b _ _ hk with h | h
    · exact .inl h
    · simp only [Value.ownBlock, Option.some.injEq] at h
      subst h
      rcases hat with h | h
      · exact .inl (.inr (.inr (.inr ⟨b, r, hr, .inr h⟩)))
      · exact .inr (by omega)
set_option maxHeartbeats 2000000 in
theorem store1_old {w : World} {g : G} {hb vb : Nat} {b o : Int} (x y : Val) {r : Room} (H : HeapAt w g) (hb64 : in64 b) (ho64 : in64 o) (hc : g.cnt < 1073741822) (hr : g.room b = some r) (hy : g.st b o = some y)
    (hh : w.heap[hb]? = some (.cells #[.pointer (some ⟨g.h, 0, none⟩)] 23)) (hv : w.heap[vb]? = some (vlB x)) :
    Calls Try.prog 30 #[.pointer (some ⟨r.rb, 0, none⟩), plV b o, .pointer (some ⟨hb, 0, none⟩), .pointer (some ⟨vb, 0, none⟩)] w (StTo w g b o x) := by
  have hB : Below w.heap.size w (w.alloc (plB b o)) := (Below.refl _ _).alloc (Nat.le_refl _) _
  have hlk : ∀ W, Below (w.alloc (plB b o)).heap.size (w.alloc (plB b o)) W → (Instr.lookup 67 (.map (some g.sb)) (.agg #[.int .i64 b, .int .i64 o]) true).run Try.prog W = .ok (.tuple #[.agg (valA y), .bool true]) W := fun W hW => by
    have := look_st (H.below (hB.trans (hW.mono (by simp)))) hb64 ho64 true
    rw [hy] at this
    exact this
  have HLK := Lib.hid hlk
  clear hlk
  obtain ⟨-, -, c2⟩ := box_cells H
  have hl := lt_of_at H.box
  have hhl := lt_of_at hh
  have hvl := lt_of_at hv
  have c3 : w.cell? ⟨hb, 0, none⟩ = some (.pointer (some ⟨g.h, 0, none⟩)) := cell_of_row _ _ _ _ _ _ hh
  have HH := Lib.hid H
  have HHB := Lib.hid hh
  have HV := Lib.hid hv
  have HR := Lib.hid hr
  have HY := Lib.hid hy
  obtain ⟨q0, q1, q2, q3, q4⟩ := cells5 hv
  clear H hv hr hy hh
  go_enter Try.func30, Try.ntmps30
  unfold plB at *
  simp only [plV] at *
  go_wp2_with fail
  have d3 : (w.alloc (.cells #[.int .i64 b, .int .i64 o] 80)).cell? ⟨hb, 0, none⟩ = some (.pointer (some ⟨g.h, 0, none⟩)) := (World.cell?_alloc_lt _ _ _ hhl).trans c3
  have d2 : (w.alloc (.cells #[.int .i64 b, .int .i64 o] 80)).cell? ⟨g.h, 2, none⟩ = some (.map (some g.sb)) := (World.cell?_alloc_lt _ _ _ hl).trans c2
  have d0 : (w.alloc (.cells #[.int .i64 b, .int .i64 o] 80)).cell? ⟨w.heap.size, 0, none⟩ = some (.int .i64 b) := by go_simp
  have d1 : (w.alloc (.cells #[.int .i64 b, .int .i64 o] 80)).cell? ⟨w.heap.size, 1, none⟩ = some (.int .i64 o) := by go_simp
  have HB := Lib.hid hB
  have hZ : (w.alloc (.cells #[.int .i64 b, .int .i64 o] 80)).heap.size = w.heap.size + 1 := by simp
  have hhZ : hb < (w.alloc (.cells #[.int .i64 b, .int .i64 o] 80)).heap.size := by omega
  have hlZ : g.h < (w.alloc (.cells #[.int .i64 b, .int .i64 o] 80)).heap.size := by omega
  have hwZ : w.heap.size < (w.alloc (.cells #[.int .i64 b, .int .i64 o] 80)).heap.size := by omega
  clear hB c2 c3 q0 q1 q2 q3 q4
  generalize (w.alloc (.cells #[.int .i64 b, .int .i64 o] 80)) = Z at *
  generalize hn0 : w.heap.size = n0 at *
  have HN0 := Lib.hid hn0
  clear hn0
  have HZ := Lib.hid hZ
  clear hZ
  obtain ⟨fs, hfs, hse⟩ := HH.out.stands
  have HSE := Lib.hid hse
  have HFS := Lib.hid hfs
  clear hse hfs
  have HB64 := Lib.hid hb64
  have HO64 := Lib.hid ho64
  clear hb64 ho64
  refine wp_region_held_drew (S := fun W : World => Below Z.heap.size Z W) (by kernel_rfl) ((Below.refl _ _).drew) (fun hHeld => ?_)
  refine wpAnyH_take (i := 0) (oi := ({ dst := some 9, op := Go.Op.load 23 (Go.Operand.tmp 2), type := 23, pos := "heap.go:55", after := #[], guard := none } : Oper)) (v := .pointer (some ⟨g.h, 0, none⟩)) rfl (by kernel_rfl) (by kernel_rfl) (by kernel_rfl) (fun _ _ _ h => h) (Or.inl ⟨by rfl, ?hy1⟩) (by assumption) ?_
  case hy1 => ((intro W hSW; have e := (hSW.cell (p := ⟨hb, 0, none⟩) hhZ).trans d3; go_simp); (try with_reducible rfl); (try exact ⟨rfl, rfl, rfl⟩))
  simp only [Act.put, List.setIfInBounds_toArray, List.set_cons_zero, List.set_cons_succ]
  refine wpAnyH_take (i := 1) (oi := ({ dst := some 10, op := Go.Op.nilCheck (Go.Operand.tmp 9), type := 0, pos := "heap.go:55", after := #[{ on := 0, ground := Go.Ground.data }], guard := none } : Oper)) (v := .pointer (some ⟨g.h, 0, none⟩)) rfl (by kernel_rfl) (by kernel_rfl) (by kernel_rfl) (fun _ _ _ h => h) (Or.inl ⟨by rfl, ?hy2⟩) (by assumption) ?_
  case hy2 => ((intro W hSW; (try dsimp only at hSW); go_simp); (try with_reducible rfl); (try exact ⟨rfl, rfl, rfl⟩))
  simp only [Act.put, List.setIfInBounds_toArray, List.set_cons_zero, List.set_cons_succ]
  refine wpAnyH_take (i := 2) (oi := ({ dst := some 11, op := Go.Op.fieldAddr 69 (Go.Operand.tmp 10) 2, type := 0, pos := "heap.go:55", after := #[{ on := 1, ground := Go.Ground.data }], guard := none } : Oper)) (v := .pointer (some ⟨g.h, 2, none⟩)) rfl (by kernel_rfl) (by kernel_rfl) (by kernel_rfl) (fun _ _ _ h => h) (Or.inl ⟨by rfl, ?hy3⟩) (by assumption) ?_
  case hy3 => ((intro W hSW; (try dsimp only at hSW); go_simp); (try with_reducible rfl); (try exact ⟨rfl, rfl, rfl⟩))
  simp only [Act.put, List.setIfInBounds_toArray, List.set_cons_zero, List.set_cons_succ]
  refine wpAnyH_take (i := 3) (oi := ({ dst := some 12, op := Go.Op.load 67 (Go.Operand.tmp 11), type := 67, pos := "heap.go:55", after := #[{ on := 2, ground := Go.Ground.data }], guard := none } : Oper)) (v := .map (some g.sb)) rfl (by kernel_rfl) (by kernel_rfl) (by kernel_rfl) (fun _ _ _ h => h) (Or.inl ⟨by rfl, ?hy4⟩) (by assumption) ?_
  case hy4 => ((intro W hSW; have e := (hSW.cell (p := ⟨g.h, 2, none⟩) hlZ).trans d2; go_simp); (try with_reducible rfl); (try exact ⟨rfl, rfl, rfl⟩))
  simp only [Act.put, List.setIfInBounds_toArray, List.set_cons_zero, List.set_cons_succ]
  refine wpAnyH_take (i := 4) (oi := ({ dst := some 13, op := Go.Op.load 80 (Go.Operand.tmp 5), type := 80, pos := "heap.go:55", after := #[], guard := none } : Oper)) (v := .agg #[.int .i64 b, .int .i64 o]) rfl (by kernel_rfl) (by kernel_rfl) (by kernel_rfl) (fun _ _ _ h => h) (Or.inl ⟨by rfl, ?hy5⟩) (by assumption) ?_
  case hy5 => ((intro W hSW; have e := (hSW.cell (p := ⟨n0, 0, none⟩) hwZ).trans d0; have e2 := (hSW.cell (p := ⟨n0, 1, none⟩) hwZ).trans d1; go_simp); (try with_reducible rfl); (try exact ⟨rfl, rfl, rfl⟩))
  simp only [Act.put, List.setIfInBounds_toArray, List.set_cons_zero, List.set_cons_succ]
  refine wpAnyH_take (i := 5) (oi := ({ dst := some 14, op := Go.Op.lookup 67 (Go.Operand.tmp 12) (Go.Operand.tmp 13) true, type := 85, pos := "heap.go:55", after := #[{ on := 3, ground := Go.Ground.data }, { on := 4, ground := Go.Ground.data }], guard := none } : Oper)) (v := .tuple #[(.agg (valA y)), .bool true]) rfl (by kernel_rfl) (by kernel_rfl) (by kernel_rfl) (fun _ _ _ h => h) (Or.inl ⟨by rfl, ?hy6⟩) (by assumption) ?_
  case hy6 => ((intro W hSW; have e := HLK.out W hSW; go_simp); (try with_reducible rfl); (try exact ⟨rfl, rfl, rfl⟩))
  simp only [Act.put, List.setIfInBounds_toArray, List.set_cons_zero, List.set_cons_succ]
  refine wpAnyH_take (i := 6) (oi := ({ dst := some 8, op := Go.Op.move (Go.Operand.tmp 14), type := 85, pos := "heap.go:55", after := #[{ on := 5, ground := Go.Ground.data }], guard := none } : Oper)) (v := .tuple #[(.agg (valA y)), .bool true]) rfl (by kernel_rfl) (by kernel_rfl) (by kernel_rfl) (fun _ _ _ h => h) (Or.inl ⟨by rfl, ?hy7⟩) (by assumption) ?_
  case hy7 => ((intro W hSW; (try dsimp only at hSW); go_simp); (try with_reducible rfl); (try exact ⟨rfl, rfl, rfl⟩))
  simp only [Act.put, List.setIfInBounds_toArray, List.set_cons_zero, List.set_cons_succ]
  refine wpAnyH_take (i := 7) (oi := ({ dst := some 15, op := Go.Op.extract (Go.Operand.tmp 8) 0, type := 35, pos := "heap.go:55", after := #[{ on := 6, ground := Go.Ground.data }], guard := none } : Oper)) (v := (.agg (valA y))) rfl (by kernel_rfl) (by kernel_rfl) (by kernel_rfl) (fun _ _ _ h => h) (Or.inl ⟨by rfl, ?hy8⟩) (by assumption) ?_
  case hy8 => ((intro W hSW; (try dsimp only at hSW); go_simp); (try with_reducible rfl); (try exact ⟨rfl, rfl, rfl⟩))
  simp only [Act.put, List.setIfInBounds_toArray, List.set_cons_zero, List.set_cons_succ]
  refine wpAnyH_take (i := 8) (oi := ({ dst := some 16, op := Go.Op.extract (Go.Operand.tmp 8) 1, type := 4, pos := "heap.go:55", after := #[{ on := 6, ground := Go.Ground.data }, { on := 10, ground := Go.Ground.gcOnly Go.Departure.lateStores }], guard := none } : Oper)) (v := .bool true) rfl (by kernel_rfl) (by kernel_rfl) (by kernel_rfl) (fun _ _ _ h => h) (Or.inl ⟨by rfl, ?hy9⟩) (by assumption) ?_
  case hy9 => ((intro W hSW; (try dsimp only at hSW); go_simp); (try with_reducible rfl); (try exact ⟨rfl, rfl, rfl⟩))
  simp only [Act.put, List.setIfInBounds_toArray, List.set_cons_zero, List.set_cons_succ]
  refine wpAnyH_ready (rs := [9]) (by kernel_rfl) (by simp) ?_
  refine (AllReadyH.cons (i := 9) (o := ({ dst := some 6, op := Go.Op.alloc 35, type := 0, pos := "heap.go:55", after := #[], guard := none } : Oper)) rfl (fun K hK => ?_) AllReadyH.nil)
  have HZ9 := Lib.hid (heap_alloc_new Z.drew (.cells (valA v0) 35))
  go_simp
  refine hK.out _ _ (hHeld.alloc (hHeld.size) _) (fun hHeld => ?_)
  clear hK K
  try simp only [Act.put, List.setIfInBounds_toArray, List.set_cons_zero, List.set_cons_succ]
  refine wpAnyH_ready (rs := [10]) (by kernel_rfl) (by simp) ?_
  refine (AllReadyH.cons (i := 10) (o := ({ dst := none, op := Go.Op.store 35 (Go.Operand.tmp 6) (Go.Operand.tmp 15), type := 0, pos := "heap.go:55", after := #[{ on := 9, ground := Go.Ground.data }, { on := 7, ground := Go.Ground.data }, { on := 0, ground := Go.Ground.phase }, { on := 1, ground := Go.Ground.phase }, { on := 2, ground := Go.Ground.phase }, { on := 3, ground := Go.Ground.phase }, { on := 4, ground := Go.Ground.phase }, { on := 5, ground := Go.Ground.phase }, { on := 6, ground := Go.Ground.phase }, { on := 7, ground := Go.Ground.phase }, { on := 8, ground := Go.Ground.textOnly Go.Departure.lateStores }, { on := 9, ground := Go.Ground.phase }], guard := none } : Oper)) rfl (fun K hK => ?_) AllReadyH.nil)
  rw [if_pos (by rfl)]
  refine wp_store_row 35 (.tmp 6) (.tmp 15) rfl Z.heap.size (valA y) rfl rfl 35 (valA v0) HZ9.out sizeVal rfl (by simp [valA, Value.oneCell']) ?_
  refine hK.out _ _ (hHeld.trans ((Onl.setRow Z.heap.size _ _).toBelow (Nat.le_refl _) hHeld.size)) (fun hHeld => ?_)
  clear hK K
  try simp only [Act.put, List.setIfInBounds_toArray, List.set_cons_zero, List.set_cons_succ]
  refine wpAnyH_take (i := 11) (oi := ({ dst := some 7, op := Go.Op.assign (Go.Operand.tmp 16), type := 4, pos := "heap.go:55", after := #[{ on := 8, ground := Go.Ground.data }, { on := 10, ground := Go.Ground.chain }, { on := 0, ground := Go.Ground.phase }, { on := 1, ground := Go.Ground.phase }, { on := 2, ground := Go.Ground.phase }, { on := 3, ground := Go.Ground.phase }, { on := 4, ground := Go.Ground.phase }, { on := 5, ground := Go.Ground.phase }, { on := 6, ground := Go.Ground.phase }, { on := 7, ground := Go.Ground.phase }, { on := 8, ground := Go.Ground.phase }, { on := 9, ground := Go.Ground.phase }, { on := 10, ground := Go.Ground.phase }], guard := none } : Oper)) (v := .bool true) rfl (by kernel_rfl) (by kernel_rfl) (by kernel_rfl) (fun _ _ _ h => h) (Or.inl ⟨by rfl, ?hy10⟩) (by assumption) ?_
  case hy10 => ((intro W hSW; (try dsimp only at hSW); go_simp); (try with_reducible rfl); (try exact ⟨rfl, rfl, rfl⟩))
  simp only [Act.put, List.setIfInBounds_toArray, List.set_cons_zero, List.set_cons_succ]
  refine wpAnyH_done (by kernel_rfl) ?_ _
  have s3 := (hHeld.cell (p := ⟨hb, 0, none⟩) hhZ).trans d3
  have s2 := (hHeld.cell (p := ⟨g.h, 2, none⟩) hlZ).trans d2
  have s0 := (hHeld.cell (p := ⟨n0, 0, none⟩) hwZ).trans d0
  have s1 := (hHeld.cell (p := ⟨n0, 1, none⟩) hwZ).trans d1
  have HT := Lib.hid hHeld
  clear hHeld HZ9 HLK d3 d2 d0 d1
  generalize (World.setRow _ _ _ : World) = T at *
  have hTw : ∀ j, j < w.heap.size → T.heap[j]? = w.heap[j]? := fun j hj => (HT.out.block j (by rw [HZ.out, ← HN0.out]; omega)).trans (HB.out.block j (by rw [← HN0.out]; omega))
  have HTW := Lib.hid hTw
  have TM : Hid (MpIs T 80 g.sb g.cnt fs) := Lib.hid (HFS.out.keep (hTw _ HFS.out.lt))
  have tv : T.heap[vb]? = some (.cells (valA x) 35) := (hTw _ (by rw [HN0.out]; omega)).trans HV.out
  clear hTw
  go_wp2_with fail
  go_still_tail 6, (by kernel_rfl)
  refine wpStill_load_row rfl 35 (.tmp 3) rfl vb rfl 35 (valA x) (0, 0) _ tv Try.underlying35 rfl sizeVal ?_
  refine wpStill_nil ?_
  change wpList _ _ _ _ _ T.drew
  have tmd : MpIs T.drew 80 g.sb g.cnt fs := TM.out
  go_wp2_with (at_mapUpdate; refine wpList_put _ rfl _ _ _ 67 rfl 80 35 lawPlace Try.underlying67 g.sb g.cnt fs rfl tmd (by unfold maxLen; omega) (plV b o) (.agg (valA x)) (keyP b o) rfl rfl (key_pl HB64.out HO64.out) ?_; intro w6 hm6 hg6)
  go_end0
  have hW6 : ∀ j, g.own j → j ≠ g.sb → w6.heap[j]? = w.heap[j]? := fun j hj hn => by
    have hl := HH.out.lt j hj
    have hz : T.drew.heap.size = T.heap.size := rfl
    exact (hg6.block j (by rw [hz]; have := HT.out.size; rw [HZ.out] at this; rw [HN0.out] at hl; omega) (by simpa using hn)).trans (HTW.out j hl)
  obtain ⟨r1, r2⟩ : o ∈ r.used ∧ True := by
    obtain ⟨_, r', h1, h2⟩ := HH.out.inv b o y HY.out
    rw [HR.out] at h1
    cases h1
    exact ⟨h2, trivial⟩
  refine ⟨rfl, g.setSt b o x, HH.out.setSt x HB64.out HO64.out (by omega) HR.out r1 hW6 fs HSE.out hm6, rfl, g.setSt_ab b o x, by simp only [G.setSt]; omega, ?_⟩
  have e1 := (Stays.below (o := g.own) (w := w) (w' := T) ⟨HT.out.os.trans HB.out.os, HT.out.tape.trans HB.out.tape, HT.out.output.trans HB.out.output, Nat.le_trans HB.out.size HT.out.size, HTW.out⟩).drew
  exact e1.trans (Stays.grown hg6 (fun k e => by cases e; exact .inr (.inr (.inl rfl))))
set_option maxHeartbeats 2000000 in
theorem store1_new {w : World} {g : G} {hb vb : Nat} {b o : Int} (x : Val) {r : Room} (H : HeapAt w g) (hb64 : in64 b) (ho64 : in64 o) (hc : g.cnt < 1073741822) (hr : g.room b = some r) (hy : g.st b o = none)
    (hh : w.heap[hb]? = some (.cells #[.pointer (some ⟨g.h, 0, none⟩)] 23)) (hv : w.heap[vb]? = some (vlB x)) :
    Calls Try.prog 30 #[.pointer (some ⟨r.rb, 0, none⟩), plV b o, .pointer (some ⟨hb, 0, none⟩), .pointer (some ⟨vb, 0, none⟩)] w (StTo w g b o x) := by
  have hB : Below w.heap.size w (w.alloc (plB b o)) := (Below.refl _ _).alloc (Nat.le_refl _) _
  have hlk : ∀ W, Below (w.alloc (plB b o)).heap.size (w.alloc (plB b o)) W → (Instr.lookup 67 (.map (some g.sb)) (.agg #[.int .i64 b, .int .i64 o]) true).run Try.prog W = .ok (.tuple #[.agg (valA v0), .bool false]) W := fun W hW => by
    have := look_st (H.below (hB.trans (hW.mono (by simp)))) hb64 ho64 true
    rw [hy] at this
    exact this
  have HLK := Lib.hid hlk
  clear hlk
  obtain ⟨-, -, c2⟩ := box_cells H
  have hl := lt_of_at H.box
  have hhl := lt_of_at hh
  have hvl := lt_of_at hv
  have c3 : w.cell? ⟨hb, 0, none⟩ = some (.pointer (some ⟨g.h, 0, none⟩)) := cell_of_row _ _ _ _ _ _ hh
  have HH := Lib.hid H
  have HHB := Lib.hid hh
  have HV := Lib.hid hv
  have HR := Lib.hid hr
  have HY := Lib.hid hy
  obtain ⟨q0, q1, q2, q3, q4⟩ := cells5 hv
  clear H hv hr hy hh
  go_enter Try.func30, Try.ntmps30
  unfold plB at *
  simp only [plV] at *
  go_wp2_with fail
  have d3 : (w.alloc (.cells #[.int .i64 b, .int .i64 o] 80)).cell? ⟨hb, 0, none⟩ = some (.pointer (some ⟨g.h, 0, none⟩)) := (World.cell?_alloc_lt _ _ _ hhl).trans c3
  have d2 : (w.alloc (.cells #[.int .i64 b, .int .i64 o] 80)).cell? ⟨g.h, 2, none⟩ = some (.map (some g.sb)) := (World.cell?_alloc_lt _ _ _ hl).trans c2
  have d0 : (w.alloc (.cells #[.int .i64 b, .int .i64 o] 80)).cell? ⟨w.heap.size, 0, none⟩ = some (.int .i64 b) := by go_simp
  have d1 : (w.alloc (.cells #[.int .i64 b, .int .i64 o] 80)).cell? ⟨w.heap.size, 1, none⟩ = some (.int .i64 o) := by go_simp
  have HB := Lib.hid hB
  have hZ : (w.alloc (.cells #[.int .i64 b, .int .i64 o] 80)).heap.size = w.heap.size + 1 := by simp
  have hhZ : hb < (w.alloc (.cells #[.int .i64 b, .int .i64 o] 80)).heap.size := by omega
  have hlZ : g.h < (w.alloc (.cells #[.int .i64 b, .int .i64 o] 80)).heap.size := by omega
  have hwZ : w.heap.size < (w.alloc (.cells #[.int .i64 b, .int .i64 o] 80)).heap.size := by omega
  clear hB c2 c3 q0 q1 q2 q3 q4
  generalize (w.alloc (.cells #[.int .i64 b, .int .i64 o] 80)) = Z at *
  generalize hn0 : w.heap.size = n0 at *
  have HN0 := Lib.hid hn0
  clear hn0
  have HZ := Lib.hid hZ
  clear hZ
  obtain ⟨fs, hfs, hse⟩ := HH.out.stands
  have HSE := Lib.hid hse
  have HFS := Lib.hid hfs
  clear hse hfs
  have HB64 := Lib.hid hb64
  have HO64 := Lib.hid ho64
  clear hb64 ho64
  refine wp_region_held_drew (S := fun W : World => Below Z.heap.size Z W) (by kernel_rfl) ((Below.refl _ _).drew) (fun hHeld => ?_)
  refine wpAnyH_take (i := 0) (oi := ({ dst := some 9, op := Go.Op.load 23 (Go.Operand.tmp 2), type := 23, pos := "heap.go:55", after := #[], guard := none } : Oper)) (v := .pointer (some ⟨g.h, 0, none⟩)) rfl (by kernel_rfl) (by kernel_rfl) (by kernel_rfl) (fun _ _ _ h => h) (Or.inl ⟨by rfl, ?hy1⟩) (by assumption) ?_
  case hy1 => ((intro W hSW; have e := (hSW.cell (p := ⟨hb, 0, none⟩) hhZ).trans d3; go_simp); (try with_reducible rfl); (try exact ⟨rfl, rfl, rfl⟩))
  simp only [Act.put, List.setIfInBounds_toArray, List.set_cons_zero, List.set_cons_succ]
  refine wpAnyH_take (i := 1) (oi := ({ dst := some 10, op := Go.Op.nilCheck (Go.Operand.tmp 9), type := 0, pos := "heap.go:55", after := #[{ on := 0, ground := Go.Ground.data }], guard := none } : Oper)) (v := .pointer (some ⟨g.h, 0, none⟩)) rfl (by kernel_rfl) (by kernel_rfl) (by kernel_rfl) (fun _ _ _ h => h) (Or.inl ⟨by rfl, ?hy2⟩) (by assumption) ?_
  case hy2 => ((intro W hSW; (try dsimp only at hSW); go_simp); (try with_reducible rfl); (try exact ⟨rfl, rfl, rfl⟩))
  simp only [Act.put, List.setIfInBounds_toArray, List.set_cons_zero, List.set_cons_succ]
  refine wpAnyH_take (i := 2) (oi := ({ dst := some 11, op := Go.Op.fieldAddr 69 (Go.Operand.tmp 10) 2, type := 0, pos := "heap.go:55", after := #[{ on := 1, ground := Go.Ground.data }], guard := none } : Oper)) (v := .pointer (some ⟨g.h, 2, none⟩)) rfl (by kernel_rfl) (by kernel_rfl) (by kernel_rfl) (fun _ _ _ h => h) (Or.inl ⟨by rfl, ?hy3⟩) (by assumption) ?_
  case hy3 => ((intro W hSW; (try dsimp only at hSW); go_simp); (try with_reducible rfl); (try exact ⟨rfl, rfl, rfl⟩))
  simp only [Act.put, List.setIfInBounds_toArray, List.set_cons_zero, List.set_cons_succ]
  refine wpAnyH_take (i := 3) (oi := ({ dst := some 12, op := Go.Op.load 67 (Go.Operand.tmp 11), type := 67, pos := "heap.go:55", after := #[{ on := 2, ground := Go.Ground.data }], guard := none } : Oper)) (v := .map (some g.sb)) rfl (by kernel_rfl) (by kernel_rfl) (by kernel_rfl) (fun _ _ _ h => h) (Or.inl ⟨by rfl, ?hy4⟩) (by assumption) ?_
  case hy4 => ((intro W hSW; have e := (hSW.cell (p := ⟨g.h, 2, none⟩) hlZ).trans d2; go_simp); (try with_reducible rfl); (try exact ⟨rfl, rfl, rfl⟩))
  simp only [Act.put, List.setIfInBounds_toArray, List.set_cons_zero, List.set_cons_succ]
  refine wpAnyH_take (i := 4) (oi := ({ dst := some 13, op := Go.Op.load 80 (Go.Operand.tmp 5), type := 80, pos := "heap.go:55", after := #[], guard := none } : Oper)) (v := .agg #[.int .i64 b, .int .i64 o]) rfl (by kernel_rfl) (by kernel_rfl) (by kernel_rfl) (fun _ _ _ h => h) (Or.inl ⟨by rfl, ?hy5⟩) (by assumption) ?_
  case hy5 => ((intro W hSW; have e := (hSW.cell (p := ⟨n0, 0, none⟩) hwZ).trans d0; have e2 := (hSW.cell (p := ⟨n0, 1, none⟩) hwZ).trans d1; go_simp); (try with_reducible rfl); (try exact ⟨rfl, rfl, rfl⟩))
  simp only [Act.put, List.setIfInBounds_toArray, List.set_cons_zero, List.set_cons_succ]
  refine wpAnyH_take (i := 5) (oi := ({ dst := some 14, op := Go.Op.lookup 67 (Go.Operand.tmp 12) (Go.Operand.tmp 13) true, type := 85, pos := "heap.go:55", after := #[{ on := 3, ground := Go.Ground.data }, { on := 4, ground := Go.Ground.data }], guard := none } : Oper)) (v := .tuple #[(.agg (valA v0)), .bool false]) rfl (by kernel_rfl) (by kernel_rfl) (by kernel_rfl) (fun _ _ _ h => h) (Or.inl ⟨by rfl, ?hy6⟩) (by assumption) ?_
  case hy6 => ((intro W hSW; have e := HLK.out W hSW; go_simp); (try with_reducible rfl); (try exact ⟨rfl, rfl, rfl⟩))
  simp only [Act.put, List.setIfInBounds_toArray, List.set_cons_zero, List.set_cons_succ]
  refine wpAnyH_take (i := 6) (oi := ({ dst := some 8, op := Go.Op.move (Go.Operand.tmp 14), type := 85, pos := "heap.go:55", after := #[{ on := 5, ground := Go.Ground.data }], guard := none } : Oper)) (v := .tuple #[(.agg (valA v0)), .bool false]) rfl (by kernel_rfl) (by kernel_rfl) (by kernel_rfl) (fun _ _ _ h => h) (Or.inl ⟨by rfl, ?hy7⟩) (by assumption) ?_
  case hy7 => ((intro W hSW; (try dsimp only at hSW); go_simp); (try with_reducible rfl); (try exact ⟨rfl, rfl, rfl⟩))
  simp only [Act.put, List.setIfInBounds_toArray, List.set_cons_zero, List.set_cons_succ]
  refine wpAnyH_take (i := 7) (oi := ({ dst := some 15, op := Go.Op.extract (Go.Operand.tmp 8) 0, type := 35, pos := "heap.go:55", after := #[{ on := 6, ground := Go.Ground.data }], guard := none } : Oper)) (v := (.agg (valA v0))) rfl (by kernel_rfl) (by kernel_rfl) (by kernel_rfl) (fun _ _ _ h => h) (Or.inl ⟨by rfl, ?hy8⟩) (by assumption) ?_
  case hy8 => ((intro W hSW; (try dsimp only at hSW); go_simp); (try with_reducible rfl); (try exact ⟨rfl, rfl, rfl⟩))
  simp only [Act.put, List.setIfInBounds_toArray, List.set_cons_zero, List.set_cons_succ]
  refine wpAnyH_take (i := 8) (oi := ({ dst := some 16, op := Go.Op.extract (Go.Operand.tmp 8) 1, type := 4, pos := "heap.go:55", after := #[{ on := 6, ground := Go.Ground.data }, { on := 10, ground := Go.Ground.gcOnly Go.Departure.lateStores }], guard := none } : Oper)) (v := .bool false) rfl (by kernel_rfl) (by kernel_rfl) (by kernel_rfl) (fun _ _ _ h => h) (Or.inl ⟨by rfl, ?hy9⟩) (by assumption) ?_
  case hy9 => ((intro W hSW; (try dsimp only at hSW); go_simp); (try with_reducible rfl); (try exact ⟨rfl, rfl, rfl⟩))
  simp only [Act.put, List.setIfInBounds_toArray, List.set_cons_zero, List.set_cons_succ]
  refine wpAnyH_ready (rs := [9]) (by kernel_rfl) (by simp) ?_
  refine (AllReadyH.cons (i := 9) (o := ({ dst := some 6, op := Go.Op.alloc 35, type := 0, pos := "heap.go:55", after := #[], guard := none } : Oper)) rfl (fun K hK => ?_) AllReadyH.nil)
  have HZ9 := Lib.hid (heap_alloc_new Z.drew (.cells (valA v0) 35))
  go_simp
  refine hK.out _ _ (hHeld.alloc (hHeld.size) _) (fun hHeld => ?_)
  clear hK K
  try simp only [Act.put, List.setIfInBounds_toArray, List.set_cons_zero, List.set_cons_succ]
  refine wpAnyH_ready (rs := [10]) (by kernel_rfl) (by simp) ?_
  refine (AllReadyH.cons (i := 10) (o := ({ dst := none, op := Go.Op.store 35 (Go.Operand.tmp 6) (Go.Operand.tmp 15), type := 0, pos := "heap.go:55", after := #[{ on := 9, ground := Go.Ground.data }, { on := 7, ground := Go.Ground.data }, { on := 0, ground := Go.Ground.phase }, { on := 1, ground := Go.Ground.phase }, { on := 2, ground := Go.Ground.phase }, { on := 3, ground := Go.Ground.phase }, { on := 4, ground := Go.Ground.phase }, { on := 5, ground := Go.Ground.phase }, { on := 6, ground := Go.Ground.phase }, { on := 7, ground := Go.Ground.phase }, { on := 8, ground := Go.Ground.textOnly Go.Departure.lateStores }, { on := 9, ground := Go.Ground.phase }], guard := none } : Oper)) rfl (fun K hK => ?_) AllReadyH.nil)
  rw [if_pos (by rfl)]
  refine wp_store_row 35 (.tmp 6) (.tmp 15) rfl Z.heap.size (valA v0) rfl rfl 35 (valA v0) HZ9.out sizeVal rfl (by simp [valA, Value.oneCell']) ?_
  refine hK.out _ _ (hHeld.trans ((Onl.setRow Z.heap.size _ _).toBelow (Nat.le_refl _) hHeld.size)) (fun hHeld => ?_)
  clear hK K
  try simp only [Act.put, List.setIfInBounds_toArray, List.set_cons_zero, List.set_cons_succ]
  refine wpAnyH_take (i := 11) (oi := ({ dst := some 7, op := Go.Op.assign (Go.Operand.tmp 16), type := 4, pos := "heap.go:55", after := #[{ on := 8, ground := Go.Ground.data }, { on := 10, ground := Go.Ground.chain }, { on := 0, ground := Go.Ground.phase }, { on := 1, ground := Go.Ground.phase }, { on := 2, ground := Go.Ground.phase }, { on := 3, ground := Go.Ground.phase }, { on := 4, ground := Go.Ground.phase }, { on := 5, ground := Go.Ground.phase }, { on := 6, ground := Go.Ground.phase }, { on := 7, ground := Go.Ground.phase }, { on := 8, ground := Go.Ground.phase }, { on := 9, ground := Go.Ground.phase }, { on := 10, ground := Go.Ground.phase }], guard := none } : Oper)) (v := .bool false) rfl (by kernel_rfl) (by kernel_rfl) (by kernel_rfl) (fun _ _ _ h => h) (Or.inl ⟨by rfl, ?hy10⟩) (by assumption) ?_
  case hy10 => ((intro W hSW; (try dsimp only at hSW); go_simp); (try with_reducible rfl); (try exact ⟨rfl, rfl, rfl⟩))
  simp only [Act.put, List.setIfInBounds_toArray, List.set_cons_zero, List.set_cons_succ]
  refine wpAnyH_done (by kernel_rfl) ?_ _
  have s3 := (hHeld.cell (p := ⟨hb, 0, none⟩) hhZ).trans d3
  have s2 := (hHeld.cell (p := ⟨g.h, 2, none⟩) hlZ).trans d2
  have s0 := (hHeld.cell (p := ⟨n0, 0, none⟩) hwZ).trans d0
  have s1 := (hHeld.cell (p := ⟨n0, 1, none⟩) hwZ).trans d1
  have HT := Lib.hid hHeld
  clear hHeld HZ9 HLK d3 d2 d0 d1
  generalize (World.setRow _ _ _ : World) = T at *
  have hTw : ∀ j, j < w.heap.size → T.heap[j]? = w.heap[j]? := fun j hj => (HT.out.block j (by rw [HZ.out, ← HN0.out]; omega)).trans (HB.out.block j (by rw [← HN0.out]; omega))
  have HTW := Lib.hid hTw
  have TM : Hid (MpIs T 80 g.sb g.cnt fs) := Lib.hid (HFS.out.keep (hTw _ HFS.out.lt))
  have tv : T.heap[vb]? = some (.cells (valA x) 35) := (hTw _ (by rw [HN0.out]; omega)).trans HV.out
  obtain ⟨u1, u2, u3, u4, u5⟩ := HH.out.room b r HR.out
  have lrb := lt_of_at u1
  have tr : T.heap[r.rb]? = some (.cells #[.int .i64 r.size, .bool r.free, r.us] 73) := (hTw _ lrb).trans u1
  have tu : T.cell? ⟨r.rb, 2, none⟩ = some r.us := cell_of_row _ _ _ _ _ _ tr
  have tf : T.frozen? ⟨r.rb, 2, none⟩ = false := frozen_of_row _ _ _ _ _ tr
  have lrT := lt_of_at tr
  have TOW : Hid (T.ownsRow 0 3 1 r.us r.used.length (i64L r.used)) := Lib.hid (own_at u2 (fun j hj => hTw j (u2.lt j hj).2))
  have hlenU := u3
  have hne : r.us.ownBlock ≠ some r.rb := fun e => by
    obtain ⟨cs, hcs⟩ := own_blk u2 e
    exact row_ne hcs u1 (by decide) rfl
  have HNE := Lib.hid hne
  have HTR := Lib.hid tr
  have HU := Lib.hid u4
  obtain ⟨i0, hi0, hz0, hz1, hz2⟩ := info_parts infoInt
  clear hTw u1 u2 u3 u4 u5 tr lrb hne
  generalize hus : r.us = us at *
  have HUS := Lib.hid hus
  generalize hnn : r.used.length = nn at *
  have HNN := Lib.hid hnn
  clear hus hnn
  go_wp2_with fail
  go_region_law ((refine step_append_lies _ (by rfl) _ _ _ (by rfl) 0 3 i0 _ 1 8 Try.underlying71 hi0 hz0 hz1 hz2 rfl (by omega) us nn (i64L r.used) (by rfl) ((TOW.out.alloc _).drew) ⟨T.heap.size, 0, none⟩ 1 1 [.int .i64 o] (by rfl) (by rfl) (World.news_of_block (cs := #[.int .i64 o]) (t := 3) (fr := (0, 0)) (heap_alloc_new T _)) (by simp [Value.oneCell']) (by omega) (by unfold maxLen; omega) (by omega) (by simp) (T.heap.size + 1) (by simp) ?_; intro gg cap w1 hown1 hgrow hat hlt; have g10 : w1.cell? ⟨r.rb, 2, none⟩ = some us := (hgrow.cell_far ⟨r.rb, 2, none⟩ (by simp; omega) (Ne.symm HNE.out)).trans ((World.cell?_alloc_lt T _ ⟨r.rb, 2, none⟩ lrT).trans tu); have k10 : w1.frozen? ⟨r.rb, 2, none⟩ = false := (hgrow.frozen_far ⟨r.rb, 2, none⟩ (by simp; omega) (Ne.symm HNE.out)).trans (by go_simp)))
  all_goals
    have hat2 : us.ownBlock = some gg ∨ gg = T.heap.size + 1 := hat
    have hown2 : w1.ownsRow 0 3 1 (.slice (some ⟨gg, 0, none⟩) (nn + 1) cap) (nn + 1) (i64L r.used ++ [.int .i64 o]) := hown1
    have hgr2 : (T.alloc (.cells #[.int .i64 o] 3)).drew.grownBy w1 us.ownBlock := hgrow
    have st := st_new HH.out HR.out HUS.out HT.out HB.out HN0.out HZ.out HTR.out HU.out HNN.out HNE.out hlenU HO64.out hown2 hgr2 hat2
    clear hat hown1 hgrow g10 k10 hlt tu tf TOW hat2 hown2 hgr2
    obtain ⟨stA, stB, stC⟩ := st
    have t3 : (w1.setCell ⟨r.rb, 2, none⟩ (.slice (some ⟨gg, 0, none⟩) (nn + 1) cap)).cell? ⟨hb, 0, none⟩ = some (.pointer (some ⟨g.h, 0, none⟩)) := (World.cell?_of_block (stA hb (lt_of_row HHB.out) (row_ne HHB.out (HH.out.room b r HR.out).1 (by decide)) (fun e => by obtain ⟨cs, hcs⟩ := own_blk (HH.out.room b r HR.out).2.1 (HUS.out ▸ e); exact row_ne HHB.out hcs (by decide) rfl))).trans (cell_of_row _ _ _ _ _ _ HHB.out)
    have t2 : (w1.setCell ⟨r.rb, 2, none⟩ (.slice (some ⟨gg, 0, none⟩) (nn + 1) cap)).cell? ⟨g.h, 2, none⟩ = some (.map (some g.sb)) := (World.cell?_of_block (stA g.h (lt_of_row HH.out.box) (row_ne HH.out.box (HH.out.room b r HR.out).1 (by decide)) (fun e => by obtain ⟨cs, hcs⟩ := own_blk (HH.out.room b r HR.out).2.1 (HUS.out ▸ e); exact row_ne HH.out.box hcs (by decide) rfl))).trans (cell_of_row _ _ _ _ _ _ HH.out.box)
    have t0 : (w1.setCell ⟨r.rb, 2, none⟩ (.slice (some ⟨gg, 0, none⟩) (nn + 1) cap)).cell? ⟨n0, 0, none⟩ = some (.int .i64 b) := (World.cell?_of_block stB).trans s0
    have t1 : (w1.setCell ⟨r.rb, 2, none⟩ (.slice (some ⟨gg, 0, none⟩) (nn + 1) cap)).cell? ⟨n0, 1, none⟩ = some (.int .i64 o) := (World.cell?_of_block stB).trans s1
    have tvw : (w1.setCell ⟨r.rb, 2, none⟩ (.slice (some ⟨gg, 0, none⟩) (nn + 1) cap)).heap[vb]? = some (.cells (valA x) 35) := (stA vb (lt_of_row HV.out) (row_ne HV.out (HH.out.room b r HR.out).1 (by decide)) (fun e => by obtain ⟨cs, hcs⟩ := own_blk (HH.out.room b r HR.out).2.1 (HUS.out ▸ e); exact row_ne HV.out hcs (by decide) rfl)).trans HV.out
    have TMU : Hid (MpIs (w1.setCell ⟨r.rb, 2, none⟩ (.slice (some ⟨gg, 0, none⟩) (nn + 1) cap)) 80 g.sb g.cnt fs) := Lib.hid (HFS.out.keep (stA g.sb HFS.out.lt (map_cell HFS.out.isMap (HH.out.room b r HR.out).1).symm (fun e => by obtain ⟨cs, hcs⟩ := own_blk (HH.out.room b r HR.out).2.1 (HUS.out ▸ e); exact map_cell HFS.out.isMap hcs rfl)))
    have STA := Lib.hid stA
    have STC := Lib.hid stC
    clear stA stB stC s3 s2 s0 s1 tv TM
    have hh3 := World.block_lt_of_cell? _ _ t3
    have hh2 := World.block_lt_of_cell? _ _ t2
    have hh0 := World.block_lt_of_cell? _ _ t0
    simp only at hh3 hh2 hh0
    generalize (w1.setCell ⟨r.rb, 2, none⟩ (.slice (some ⟨gg, 0, none⟩) (nn + 1) cap)) = U at *
    go_wp2_with fail
    go_still_tail 6, (by kernel_rfl)
    refine wpStill_load_row rfl 35 (.tmp 3) rfl vb rfl 35 (valA x) (0, 0) _ tvw Try.underlying35 rfl sizeVal ?_
    refine wpStill_nil ?_
    change wpList _ _ _ _ _ U.drew
    have tmd : MpIs U.drew 80 g.sb g.cnt fs := TMU.out
    go_wp2_with (at_mapUpdate; refine wpList_put _ rfl _ _ _ 67 rfl 80 35 lawPlace Try.underlying67 g.sb g.cnt fs rfl tmd (by unfold maxLen; omega) (plV b o) (.agg (valA x)) (keyP b o) rfl rfl (key_pl HB64.out HO64.out) ?_; intro w6 hm6 hg6)
    go_end0
    have h1 := STC.out.1
    have hU := STC.out.2
    have hsbm : ∃ es c, w.heap[g.sb]? = some (.map es c) := HFS.out.isMap
    refine ⟨rfl, (g.setUs b (.slice (some ⟨gg, 0, none⟩) (nn + 1) cap) (r.used ++ [o])).setSt b o x, h1.setSt x HB64.out HO64.out (by simp only [G.setUs]; omega) (r := { r with us := .slice (some ⟨gg, 0, none⟩) (nn + 1) cap, used := r.used ++ [o] }) (by show (if b = b then (g.room b).map _ else g.room b) = _; rw [if_pos rfl, HR.out]; rfl) (by simp) (fun j hj hn => hg6.block j (h1.lt j hj) (fun q => hn (by injection q))) fs HSE.out (hm6.mono (by simp only [G.setUs]; omega)), rfl, by rw [G.setSt_ab, G.setUs_ab], by simp only [G.setSt, G.setUs]; omega, ?_⟩
    exact hU.drew.trans (Stays.grown hg6 (fun k e => by cases e; exact .inr (.inr (.inl rfl))))
end Go.Proofs.Ytjianllngobhhaa
