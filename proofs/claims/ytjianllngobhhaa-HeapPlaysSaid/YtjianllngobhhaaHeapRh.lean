/- The document's Make. Conditions: each theorem's. -/
import Derived.Test.YtjianllngobhhaaHeapRg
import Derived.Deep.AppendLies
namespace Go.Proofs.Ytjianllngobhhaa
open Go.RowKit Go.Maps
set_option linter.unusedVariables false
set_option linter.unusedSimpArgs false
set_option maxRecDepth 100000
open Hp
namespace Hp
def Rb.new (s : Int) (f : Bool) : Rb := ⟨s, f, true, .slice none 0 0, []⟩
def rMake (l : List Rb) (s : Int) (f : Bool) : List Rb := if big s then l else l ++ [Rb.new s f]
def rMakeV (l : List Rb) (s : Int) : Ptr := if big s then p0 else ⟨(l.length : Int) + 1, 0, 0, s⟩
end Hp
theorem infoRB : (Try.prog.info? 77).map (fun i => (i.zero, i.size, i.bytes)) = some (some (.agg #[.int .i64 0, .bool false, .bool false, .slice none 0 0]), 4, 40) := by kernel_rfl
theorem info_split {t : TypeId} {z : Value} {n m : Nat} (h : (Try.prog.info? t).map (fun i => (i.zero, i.size, i.bytes)) = some (some z, n, m)) : ∃ i, Try.prog.info? t = some i ∧ i.zero = some z ∧ i.size = n ∧ i.bytes = m := by
  cases hi : Try.prog.info? t with
  | none => rw [hi] at h; cases h
  | some i =>
    rw [hi] at h
    simp only [Option.map_some, Option.some.injEq, Prod.mk.injEq] at h
    exact ⟨i, rfl, h.1, h.2.1, h.2.2⟩
theorem res_cct {P : Program} {fn : Func} {p q u : Tmp} {ty ty2 : TypeId} (h : fn.results = #[.cell p ty, .cell q ty2, .tmp u]) (tmps : Array Value) (w : World) (g g2 : Nat) (t t2 : TypeId) (cs cs2 : Array Value) (fr fr2 : Nat × Nat) (d d2 : TypeDesc) (v : Value)
    (hp : tmps.getD p undef = .pointer (some ⟨g, 0, none⟩)) (hq : tmps.getD q undef = .pointer (some ⟨g2, 0, none⟩)) (hv : tmps.getD u undef = v) (hg : w.heap[g]? = some (.cells cs t fr)) (hg2 : w.heap[g2]? = some (.cells cs2 t2 fr2))
    (hu : P.underlying ty = some d) (hd : (match d with | .struct _ | .array _ _ => true | _ => false) = true) (hi : (P.info? ty).map (·.size) = some cs.size)
    (hu2 : P.underlying ty2 = some d2) (hd2 : (match d2 with | .struct _ | .array _ _ => true | _ => false) = true) (hi2 : (P.info? ty2).map (·.size) = some cs2.size) :
    (results fn tmps).run P w = .ok (.tuple #[.agg cs, .agg cs2, v]) w := by
  simp only [results, h]
  simp at hp hq hv
  simp [Sem.run_bind, Result.andThen, hp, hq, hv, asAddr, run_loadVar_row w g t ty cs fr d hg hu hd hi, run_loadVar_row w g2 t2 ty2 cs2 fr2 d2 hg2 hu2 hd2 hi2]
/-- The document's heap with a new block behind the others. -/
theorem rf_append {w w' : World} {base g cap : Nat} {v : Value} {l : List Rb} (r : Rb) (H : RfAt w base v l) (hr : r.row = .slice none 0 0 ∧ r.cs = [])
    (hown : w'.ownsRow base 77 4 (.slice (some ⟨g, 0, none⟩) (l.length + 1) cap) (l.length + 1) (rbsL l ++ r.l)) (hgr : w.grownBy w' v.ownBlock) (hat : v.ownBlock = some g ∨ w.heap.size ≤ g) :
    RfAt w' base (.slice (some ⟨g, 0, none⟩) (l.length + 1) cap) (l ++ [r]) := by
  refine ⟨?_, fun b m => ?_⟩
  · have e1 : (l ++ [r]).length = l.length + 1 := by simp
    have e2 : rbsL (l ++ [r]) = rbsL l ++ r.l := by simp [rbsL]
    rw [e1, e2]
    exact hown
  · rcases List.mem_append.1 m with h | h
    · obtain ⟨h1, h2⟩ := H.cels b h
      refine ⟨h1.keep fun j hj => hgr.block j (h1.lt j hj).2 (fun e => by rcases h2 with h2 | h2; rw [h2] at hj; cases hj; exact h2 (hj.trans e)), ?_⟩
      cases hb : b.row.ownBlock with
      | none => exact .inl rfl
      | some j =>
        refine .inr fun e => ?_
        have e' : j = g := by simpa [Value.ownBlock] using e
        subst e'
        rcases hat with h | h
        · rcases h2 with h2 | h2
          · rw [h2] at hb; cases hb
          · exact h2 (hb.trans h.symm)
        · have := (h1.lt j hb).2; omega
    · rw [List.mem_singleton.1 h, hr.1, hr.2]
      exact ⟨⟨rfl, .inl ⟨rfl, rfl⟩⟩, .inl rfl⟩
theorem rdid_append {w W w' : World} {base g cap : Nat} {v : Value} {l : List Rb} (r : Rb) (hW : Below w.heap.size w W) (H : RfAt w base v l) (hr : r.row = .slice none 0 0 ∧ r.cs = [])
    (hown : w'.ownsRow base 77 4 (.slice (some ⟨g, 0, none⟩) (l.length + 1) cap) (l.length + 1) (rbsL l ++ r.l)) (hgr : W.grownBy w' v.ownBlock) (hat : v.ownBlock = some g ∨ W.heap.size ≤ g) :
    RDid w base v l (.slice (some ⟨g, 0, none⟩) (l.length + 1) cap) (l ++ [r]) w' := by
  have hs := hW.size
  refine ⟨rf_append r (H.below hW) hr hown hgr hat, hgr.os.trans hW.os, hgr.tape.trans hW.tape, hgr.output.trans hW.output, Nat.le_trans hs hgr.size, fun j hj hn => ?_, fun j hj => ?_⟩
  · exact (hgr.block j (by omega) (fun e => hn (.inl e.symm))).trans (hW.block j hj)
  · rcases hj with h | ⟨b, m, h⟩
    · have e' : g = j := by simpa [Value.ownBlock] using h
      subst e'
      rcases hat with h | h
      · exact .inl (.inl h)
      · exact .inr (by omega)
    · rcases List.mem_append.1 m with m | m
      · exact .inl (.inr ⟨b, m, h⟩)
      · rw [List.mem_singleton.1 m, hr.1] at h; cases h
theorem sizeRP : (Try.prog.info? 39).map (·.size) = some 4 := by kernel_rfl
theorem RDid.drew {w w' : World} {base : Nat} {v v' : Value} {l l' : List Rb} (h : RDid w base v l v' l' w') : RDid w base v l v' l' w'.drew := ⟨h.at_.keep fun _ _ => rfl, h.stays.drew⟩
theorem make_box {Z : World} {n : Nat} {x a b c d : Value} {T1 T2 : TypeId} (h1 : Z.heap[n + 1]? = some (.cells #[x] T1)) (h2 : Z.heap[n + 1 + 1]? = some (.cells #[a, b, c, d] T2)) (V a' b' c' d' : Value) :
    ((((((Z.setCell ⟨n + 1, 0, none⟩ V).setCell ⟨n + 1 + 1, 0, none⟩ a').setCell ⟨n + 1 + 1, 1, none⟩ b').setCell ⟨n + 1 + 1, 2, none⟩ c').setCell ⟨n + 1 + 1, 3, none⟩ d').drew).heap[n + 1]? = some (.cells #[V] T1) ∧
    ((((((Z.setCell ⟨n + 1, 0, none⟩ V).setCell ⟨n + 1 + 1, 0, none⟩ a').setCell ⟨n + 1 + 1, 1, none⟩ b').setCell ⟨n + 1 + 1, 2, none⟩ c').setCell ⟨n + 1 + 1, 3, none⟩ d').drew).heap[n + 1 + 1]? = some (.cells #[a', b', c', d'] T2) := by
  have near := (Below.heap_setCell Z ⟨n + 1, 0, none⟩ V (n + 1 + 1) (fun e => by have e' : n + 1 + 1 = n + 1 := e; omega)).trans h2
  have x1 : (Z.setCell ⟨n + 1, 0, none⟩ V).heap[n + 1]? = some (.cells #[V] T1) := heap_setCell_same _ _ _ _ _ _ h1
  clear h1 h2
  generalize Z.setCell ⟨n + 1, 0, none⟩ V = Z0 at *
  have far : ∀ (W : World) (k : Nat) (u : Value), (W.setCell ⟨n + 1 + 1, k, none⟩ u).heap[n + 1]? = W.heap[n + 1]? := fun W k u => Below.heap_setCell W ⟨n + 1 + 1, k, none⟩ u (n + 1) (fun e => by have e' : n + 1 = n + 1 + 1 := e; omega)
  have s1 : (Z0.setCell ⟨n + 1 + 1, 0, none⟩ a').heap[n + 1 + 1]? = some (.cells #[a', b, c, d] T2) := heap_setCell_same _ _ _ _ _ _ near
  have y1 := (far Z0 0 a').trans x1
  clear near x1
  generalize Z0.setCell ⟨n + 1 + 1, 0, none⟩ a' = Z1 at *
  have s2 : (Z1.setCell ⟨n + 1 + 1, 1, none⟩ b').heap[n + 1 + 1]? = some (.cells #[a', b', c, d] T2) := heap_setCell_same _ _ _ _ _ _ s1
  have y2 := (far Z1 1 b').trans y1
  clear s1 y1
  generalize Z1.setCell ⟨n + 1 + 1, 1, none⟩ b' = Z2 at *
  have s3 : (Z2.setCell ⟨n + 1 + 1, 2, none⟩ c').heap[n + 1 + 1]? = some (.cells #[a', b', c', d] T2) := heap_setCell_same _ _ _ _ _ _ s2
  have y3 := (far Z2 2 c').trans y2
  clear s2 y2
  generalize Z2.setCell ⟨n + 1 + 1, 2, none⟩ c' = Z3 at *
  have s4 : (Z3.setCell ⟨n + 1 + 1, 3, none⟩ d').heap[n + 1 + 1]? = some (.cells #[a', b', c', d'] T2) := heap_setCell_same _ _ _ _ _ _ s3
  have y4 := (far Z3 3 d').trans y3
  clear s3 y3
  generalize Z3.setCell ⟨n + 1 + 1, 3, none⟩ d' = Z4 at *
  exact ⟨y4, s4⟩
set_option maxHeartbeats 2000000 in
theorem rmake_any {w : World} {base : Nat} {v : Value} {l : List Rb} (s : Int) (f : Bool) (hs : in64 s) (H : RfAt w base v l) (hl : l.length < 1000000) (hbase : base ≤ w.heap.size) :
    Calls Try.prog 12 #[.agg #[v], .int .i64 s, .bool f] w fun e w' => ∃ v', e = .returned (.tuple #[.agg #[v'], (rMakeV l s).v, .bool (!big s)]) ∧ RDid w base v l v' (rMake l s f) w' := by
  obtain ⟨A, c, rfl⟩ := rsl H.row
  have hB3 : Below w.heap.size w (((w.alloc (.cells #[.slice A l.length c] 28)).alloc (.cells #[.slice none 0 0] 28)).alloc (.cells #[.int .i64 0, .int .i64 0, .int .i64 0, .int .i64 0] 39)) := (((Below.refl _ _).alloc (Nat.le_refl _) _).alloc (by simp) _).alloc (by simp; omega) _
  cases hbg : big s
  · have hV : rMakeV l s = ⟨(l.length : Int) + 1, 0, 0, s⟩ := by unfold rMakeV; rw [hbg]; rfl
    have hM : rMake l s f = l ++ [Rb.new s f] := by unfold rMake; rw [hbg]; rfl
    rw [hV, hM]
    have h12 : decide (s < 0) = false ∧ decide (s > 4194304) = false := by unfold big at hbg; simpa using hbg
    obtain ⟨t1, t2⟩ := h12
    obtain ⟨i0, hi0, hz0, hz1, hz2⟩ := info_split infoRB
    have hOW := Lib.hid (fun (X : World) (hX : Below w.heap.size w X) => (H.below hX).row)
    have hAP := Lib.hid (fun (W w' : World) (g cap : Nat) (hW : Below w.heap.size w W) => rdid_append (w := w) (W := W) (w' := w') (g := g) (cap := cap) (Rb.new s f) hW H ⟨rfl, rfl⟩)
    have HLT := Lib.hid H.lt0
    have HN0 : Hid (∀ j, w.heap.size ≤ j → some j ≠ (Value.slice A l.length c).ownBlock) := Lib.hid (fun j hj e => by have := H.lt0 j (.inl e.symm); omega)
    have HNO : Hid (∀ gb cap j : Nat, rOwn (.slice (some ⟨gb, 0, none⟩) (l.length + 1) cap) (l ++ [Rb.new s f]) j → w.heap.size ≤ j → gb ≠ j → False) := Lib.hid (fun gb cap j e hj hne => by
      rcases e with e | ⟨b, m, e⟩
      · exact hne (by simpa [Value.ownBlock] using e)
      · rcases List.mem_append.1 m with m | m
        · have := H.lt0 j (.inr ⟨b, m, e⟩); omega
        · rw [List.mem_singleton.1 m] at e; cases e)
    clear H hV hM hbg
    have hHB := Lib.hid hB3
    have hsz := hB3.size
    clear hB3
    go_enter Try.func12, Try.ntmps12
    go_wp2_with (at_builtin; refine wpList_append_lies (o := ⟨some 23, _, _, _, _, _⟩) _ rfl (.tmp 18) (.tmp 22) 26 rfl base 77 i0 (.agg #[.int .i64 0, .bool false, .bool false, .slice none 0 0]) 4 40 Try.underlying26 hi0 hz0 hz1 hz2 rfl (by decide) _ l.length (rbsL l) rfl (hOW.out _ (hHB.out.alloc hsz _)) ⟨w.heap.size + 1 + 1 + 1, 0, none⟩ 1 1 [.int .i64 s, .bool f, .bool true, .slice none 0 0] rfl rfl (World.news_of_block (cs := #[.int .i64 s, .bool f, .bool true, .slice none 0 0]) (t := 77) (fr := (0, 0)) (row_new (by simp) _)) (by simp [Value.oneCell']) (by omega) (by unfold maxLen; omega) (by omega) (by simp; omega) (w.heap.size + 1 + 1 + 1 + 1) (by simp) ?_; intro gb cap w7 hown7 hgrow7 hat7 hlt7; have hd7 := hAP.out _ _ _ _ (hHB.out.alloc hsz _) hown7 hgrow7 (hat7.imp id (fun e => by rw [e]; simp only [World.size_alloc]; omega)); have g0 := (hgrow7.block w.heap.size (by simp only [World.size_alloc]; omega) (HN0.out _ (by omega))).trans (row_up (row_up (row_up (row_new rfl _) _) _) _); have g1 := (hgrow7.block (w.heap.size + 1) (by simp only [World.size_alloc]; omega) (HN0.out _ (by omega))).trans (row_up (row_up (row_new (by simp) _) _) _); have g2 := (hgrow7.block (w.heap.size + 1 + 1) (by simp only [World.size_alloc]; omega) (HN0.out _ (by omega))).trans (row_up (row_new (by simp) _) _); have d0 := cell_of_row _ _ 0 _ _ _ g0; have z0 := frozen_of_row _ _ 0 _ _ g0)
    have hn0 : ¬ rOwn (.slice (some ⟨gb, 0, none⟩) (l.length + 1) cap) (l ++ [Rb.new s f]) w.heap.size := fun e => HNO.out _ _ _ e (Nat.le_refl _) (fun e2 => by subst e2; rcases hat7 with h | h; exact HN0.out _ (Nat.le_refl _) h.symm; omega)
    have r0 : (w7.setCell ⟨w.heap.size, 0, none⟩ (.slice (some ⟨gb, 0, none⟩) (l.length + 1) cap)).heap[w.heap.size]? = some (.cells #[.slice (some ⟨gb, 0, none⟩) (l.length + 1) cap] 28) := heap_setCell_same _ _ _ _ _ _ g0
    have r1 := (Below.heap_setCell w7 ⟨w.heap.size, 0, none⟩ (.slice (some ⟨gb, 0, none⟩) (l.length + 1) cap) (w.heap.size + 1) (fun e => by have e' : w.heap.size + 1 = w.heap.size := e; omega)).trans g1
    have r2 := (Below.heap_setCell w7 ⟨w.heap.size, 0, none⟩ (.slice (some ⟨gb, 0, none⟩) (l.length + 1) cap) (w.heap.size + 1 + 1) (fun e => by have e' : w.heap.size + 1 + 1 = w.heap.size := e; omega)).trans g2
    have rd := hd7.setCell hn0 (Nat.le_refl _) (k := 0) (.slice (some ⟨gb, 0, none⟩) (l.length + 1) cap)
    have hn1 : ¬ rOwn (.slice (some ⟨gb, 0, none⟩) (l.length + 1) cap) (l ++ [Rb.new s f]) (w.heap.size + 1) := fun e => HNO.out _ _ _ e (by omega) (fun e2 => by subst e2; rcases hat7 with h | h; exact HN0.out _ (by omega) h.symm; omega)
    have hn2 : ¬ rOwn (.slice (some ⟨gb, 0, none⟩) (l.length + 1) cap) (l ++ [Rb.new s f]) (w.heap.size + 1 + 1) := fun e => HNO.out _ _ _ e (by omega) (fun e2 => by subst e2; rcases hat7 with h | h; exact HN0.out _ (by omega) h.symm; omega)
    clear g0 g1 g2 d0 z0 hd7 hown7 hgrow7 hOW hAP
    generalize World.setCell w7 _ _ = Z at *
    have d0 := cell_of_row _ _ 0 _ _ _ r0
    have d1 := cell_of_row _ _ 0 _ _ _ r1
    have z1 := frozen_of_row _ _ 0 _ _ r1
    obtain ⟨q0, q1, q2, q3⟩ := cells4 r2
    have y0 := frozen_of_row _ _ 0 _ _ r2
    have y1 := frozen_of_row _ _ 1 _ _ r2
    have y2 := frozen_of_row _ _ 2 _ _ r2
    have y3 := frozen_of_row _ _ 3 _ _ r2
    have RD := Lib.hid rd
    have R1 := Lib.hid r1
    have R2 := Lib.hid r2
    clear rd r0 r1 r2 hHB HNO HN0 HLT hat7 hlt7
    go_region
    obtain ⟨x1, x2⟩ := make_box R1.out R2.out (.slice (some ⟨gb, 0, none⟩) (l.length + 1) cap) (.int .i64 ((l.length : Int) + 1)) (.int .i64 0) (.int .i64 0) (.int .i64 s)
    have rd5 := (((((RD.out.setCell (k := 0) hn1 (by omega) (.slice (some ⟨gb, 0, none⟩) (l.length + 1) cap)).setCell (k := 0) hn2 (by omega) (.int .i64 ((l.length : Int) + 1))).setCell (k := 1) hn2 (by omega) (.int .i64 0)).setCell (k := 2) hn2 (by omega) (.int .i64 0)).setCell (k := 3) hn2 (by omega) (.int .i64 s)).drew
    go_wp2
    exact bodyPost_ret (v := .tuple #[.agg #[.slice (some ⟨gb, 0, none⟩) (l.length + 1) cap], .agg #[.int .i64 ((l.length : Int) + 1), .int .i64 0, .int .i64 0, .int .i64 s], .bool true]) (res_cct Try.results12 _ _ (w.heap.size + 1) (w.heap.size + 1 + 1) 28 39 #[.slice (some ⟨gb, 0, none⟩) (l.length + 1) cap] #[.int .i64 ((l.length : Int) + 1), .int .i64 0, .int .i64 0, .int .i64 s] (0, 0) (0, 0) _ _ _ rfl rfl rfl x1 x2 Try.underlying28 rfl sizeRH Try.underlying39 rfl sizeRP) rfl ⟨_, rfl, rd5⟩
  · have hV : rMakeV l s = p0 := by unfold rMakeV; rw [hbg]; rfl
    have hM : rMake l s f = l := by unfold rMake; rw [hbg]; rfl
    rw [hV, hM]
    have hRR := Lib.hid (fun (O1 : Obj) => RDid.refl H ((((Below.refl _ _).alloc (Nat.le_refl _) (.cells #[.slice A l.length c] 28)).alloc (by simp) O1).alloc (by simp; omega) (.cells #[.int .i64 0, .int .i64 0, .int .i64 0, .int .i64 0] 39)))
    have h12 : decide (s < 0) = true ∨ (decide (s < 0) = false ∧ decide (s > 4194304) = true) := by
      unfold big at hbg
      cases h1 : decide (s < 0)
      · rw [h1] at hbg; exact .inr ⟨rfl, by simpa using hbg⟩
      · exact .inl rfl
    clear hV hM hbg H hB3 hbase
    rcases h12 with t1 | ⟨t1, t2⟩
    all_goals
      go_enter Try.func12, Try.ntmps12
      go_wp2
      exact bodyPost_ret (v := .tuple #[.agg #[.slice A l.length c], .agg #[.int .i64 0, .int .i64 0, .int .i64 0, .int .i64 0], .bool false]) (res_cct Try.results12 _ _ (w.heap.size + 1) (w.heap.size + 1 + 1) 28 39 #[.slice A l.length c] #[.int .i64 0, .int .i64 0, .int .i64 0, .int .i64 0] (0, 0) (0, 0) _ _ _ rfl rfl rfl (row_up (row_new (by simp) _) _) (row_new (by simp) _) Try.underlying28 rfl sizeRH Try.underlying39 rfl sizeRP) rfl ⟨_, rfl, hRR.out _⟩
end Go.Proofs.Ytjianllngobhhaa
