/- Package heap: Make. Conditions: each theorem's. -/
import Derived.Test.YtjianllngobhhaaHeapC
namespace Go.Proofs.Ytjianllngobhhaa
open Go.RowKit Go.Maps
set_option linter.unusedVariables false
set_option linter.unusedSimpArgs false
set_option maxRecDepth 100000
open Hp
theorem results_cell_tmp {P : Program} {fn : Func} {p u : Tmp} {ty : TypeId} (h : fn.results = #[.cell p ty, .tmp u]) (tmps : Array Value) : results fn tmps = (do
    let x ← loadVar ty (← asAddr (tmps.getD p undef))
    pure (.tuple #[x, tmps.getD u undef])) := by
  simp [results, h]
theorem res_cell_tmp {P : Program} {fn : Func} {p u : Tmp} {ty : TypeId} (h : fn.results = #[.cell p ty, .tmp u]) (tmps : Array Value) (w : World) (g : Nat) (t : TypeId) (cs : Array Value) (fr : Nat × Nat) (d : TypeDesc) (v : Value)
    (hp : tmps.getD p undef = .pointer (some ⟨g, 0, none⟩)) (hv : tmps.getD u undef = v) (hg : w.heap[g]? = some (.cells cs t fr))
    (hu : P.underlying ty = some d) (hd : (match d with | .struct _ | .array _ _ => true | _ => false) = true) (hi : (P.info? ty).map (·.size) = some cs.size) :
    (results fn tmps).run P w = .ok (.tuple #[.agg cs, v]) w := by
  rw [results_cell_tmp (P := P) h]
  simp [hp, hv, asAddr, run_loadVar_row w g t ty cs fr d hg hu hd hi, Result.andThen]
theorem sizePtr : (Try.prog.info? 31).map (·.size) = some 4 := by kernel_rfl
theorem sizeVal : (Try.prog.info? 35).map (·.size) = some 5 := by kernel_rfl
def HoldG (P : Prop) : Prop := P
theorem holdG {P : Prop} (h : HoldG P) : P := h
namespace Hp
def big (s : Int) : Bool := decide (s < 0) || decide (s > 4194304)
def G.make (g : G) (s : Int) (f : Bool) (rb : Nat) : G := { g with made := g.made + 1, cnt := g.cnt + 1, room := fun b => if b = g.made + 1 then some ⟨rb, s, f, .slice none 0 0, []⟩ else g.room b }
def Ab.make (A : Ab) (s : Int) (f : Bool) : Ab := if big s then A else { A with made := A.made + 1, room := fun b => if b = A.made + 1 then some (s, f) else A.room b }
def Ab.makeV (A : Ab) (s : Int) : Ptr := if big s then p0 else ⟨A.made + 1, 0, 0, s⟩
def Ab.makeE (s : Int) : Int := if big s then 1 else 0
theorem G.make_ab (g : G) {s : Int} (f : Bool) (rb : Nat) (h : big s = false) : (g.make s f rb).ab = g.ab.make s f := by
  unfold Ab.make G.ab G.make
  rw [h]
  simp only [Bool.false_eq_true, if_false, Ab.mk.injEq, true_and, and_true]
  funext b
  by_cases e : b = g.made + 1
  · simp [e]
  · simp [e]
theorem G.make_own (g : G) (s : Int) (f : Bool) (rb : Nat) {j : Nat} (h : (g.make s f rb).own j) : g.own j ∨ j = rb := by
  rcases h with h | h | h | ⟨b, r, e, h⟩
  · exact .inl (.inl h)
  · exact .inl (.inr (.inl h))
  · exact .inl (.inr (.inr (.inl h)))
  · simp only [G.make] at e
    split at e
    · cases e
      rcases h with h | h
      · exact .inr h
      · cases h
    · exact .inl (.inr (.inr (.inr ⟨b, r, e, h⟩)))
end Hp
/-- The heap behind Make. -/
theorem make_at {w w' : World} {g : G} {s : Int} {f : Bool} {rb : Nat} (H : HeapAt w g) (hs : big s = false) (hrb : ¬ g.own rb) (hc : g.cnt < 1073741824)
    (hb : ∀ j, g.own j → j ≠ g.h → j ≠ g.lb → w'.heap[j]? = w.heap[j]?)
    (hbox : w'.heap[g.h]? = some (.cells #[.int .i64 (g.made + 1), .map (some g.lb), .map (some g.sb)] 69))
    (fl : Lit → Option Value) (hfl : MpIs w 3 g.lb g.cnt fl) (hfe : ∀ b, in64 b → fl (.int .i64 b) = (g.room b).map fun r => .pointer (some ⟨r.rb, 0, none⟩))
    (hl : MpIs w' 3 g.lb (g.cnt + 1) (setF fl (.int .i64 (g.made + 1)) (some (.pointer (some ⟨rb, 0, none⟩)))))
    (hr : w'.heap[rb]? = some (.cells #[.int .i64 s, .bool f, .slice none 0 0] 73)) : HeapAt w' (g.make s f rb) := by
  have hsz : 0 ≤ s ∧ s ≤ 4194304 := by unfold big at hs; simp at hs; omega
  have hm := H.mkd
  obtain ⟨fs, hfs, hse⟩ := H.stands
  have hlb : ∃ es c, w.heap[g.lb]? = some (.map es c) := hfl.isMap
  have hsbm : ∃ es c, w.heap[g.sb]? = some (.map es c) := hfs.isMap
  have nmap : ∀ {j cs t fr}, w.heap[j]? = some (.cells cs t fr) → j ≠ g.lb := by
    rintro j cs t fr e rfl
    obtain ⟨_, _, hlb⟩ := hlb
    rw [hlb] at e; cases e
  have hsh : g.sb ≠ g.h := by
    intro e
    obtain ⟨_, _, h1⟩ := hsbm
    rw [e, H.box] at h1; cases h1
  have hold : ∀ b r, g.room b = some r → b ≠ g.made + 1 := fun b r e e2 => by have := (H.room b r e).2.2.2.2.2.1; omega
  refine ⟨hbox, ⟨_, hl, fun b hb64 => ?_⟩, ⟨fs, (hfs.keep (hb _ (.inr (.inr (.inl rfl))) hsh H.ms.symm)).mono (Nat.le_succ _), hse⟩, H.ms, fun b r e => ?_, fun b r b' r' e e' hne => ?_, fun b o x e => ?_, by simp only [G.make]; omega⟩
  · simp only [G.make]
    by_cases e : b = g.made + 1
    · subst e; rw [if_pos rfl, setF_same]; rfl
    · rw [if_neg e, setF_other _ _ (fun q => e (by injection q)), hfe b hb64]
  · simp only [G.make] at e
    split at e
    · next hbm =>
      cases e
      subst hbm
      exact ⟨hr, ⟨by simp [i64L], .inl ⟨rfl, rfl⟩⟩, Nat.zero_le _, by simp, by simp only [G.make]; omega⟩
    · obtain ⟨h1, h2, h3, h4, h5, h6, h7⟩ := H.room b r e
      have hrh : r.rb ≠ g.h := by
        intro q
        rw [q, H.box] at h1
        injection h1 with h1
        injection h1 with _ h1 _
        exact absurd h1 (by decide)
      have ush : ∀ j, r.us.ownBlock = some j → w'.heap[j]? = w.heap[j]? := by
        intro j hj
        rcases h2.2 with ⟨q, _⟩ | ⟨q, cap, cur, e1, _, e3, _⟩
        · rw [q] at hj; cases hj
        · rw [e1] at hj
          cases hj
          refine hb _ (.inr (.inr (.inr ⟨b, r, e, .inr (by rw [e1]; rfl)⟩))) ?_ (nmap e3)
          intro q2
          have q3 : q = g.h := q2
          rw [q3, H.box] at e3
          injection e3 with e3
          injection e3 with _ e3 _
          exact absurd e3 (by decide)
      exact ⟨(hb _ (.inr (.inr (.inr ⟨b, r, e, .inl rfl⟩))) hrh (nmap h1)).trans h1, own_at h2 ush, Nat.le_trans h3 (Nat.le_succ _), h4, h5, by simp only [G.make]; omega, h7⟩
  · simp only [G.make] at e e'
    split at e <;> split at e'
    · omega
    · cases e
      exact ⟨fun q => hrb (.inr (.inr (.inr ⟨b', r', e', .inl q⟩))), .inl rfl⟩
    · cases e'
      refine ⟨fun q => hrb (.inr (.inr (.inr ⟨b, r, e, .inl q.symm⟩))), ?_⟩
      rcases h0 : r.us.ownBlock with _ | j
      · exact .inl rfl
      · exact .inr (by simp [Value.ownBlock])
    · exact H.apart b r b' r' e e' hne
  · obtain ⟨h1, r, h2, h3⟩ := H.inv b o x e
    exact ⟨h1, r, by simp only [G.make]; rw [if_neg (hold b r h2)]; exact h2, h3⟩
set_option maxHeartbeats 1000000 in
theorem make_bad {w : World} {h : Nat} (s : Int) (f : Bool) (hb : big s = true) :
    Calls Try.prog 11 #[.pointer (some ⟨h, 0, none⟩), .int .i64 s, .bool f] w fun e w' => e = .returned (.tuple #[p0.v, .int .i64 1]) ∧ Below w.heap.size w w' := by
  have hlt : decide (s < 0) = true ∨ (decide (s < 0) = false ∧ decide (4194304 < s) = true) := by
    unfold big at hb
    cases h1 : decide (s < 0)
    · rw [h1] at hb; exact .inr ⟨rfl, by simpa using hb⟩
    · exact .inl rfl
  clear hb
  rcases hlt with hlt | ⟨hlt, hgt⟩
  all_goals
    go_enter Try.func11, Try.ntmps11
    go_wp2
    refine bodyPost_ret (by simp [results, Try.results11, go_sem]; rfl) rfl ⟨?_, (Below.refl _ _).alloc (Nat.le_refl _) _⟩
    rfl
theorem map_cell {w : World} {b : Nat} (h : ∃ es c, w.heap[b]? = some (.map es c)) {x : Nat} {cs : Array Value} {t : TypeId} {fr : Nat × Nat} (hx : w.heap[x]? = some (.cells cs t fr)) : x ≠ b := by
  rintro rfl
  obtain ⟨es, c, h⟩ := h
  rw [h] at hx; cases hx
set_option maxHeartbeats 1000000 in
theorem make_ok {w : World} {g : G} {h : Nat} (H : HeapAt w g) (hh : g.h = h) (hc : g.cnt < 1073741824) (s : Int) (f : Bool) (hb : big s = false) :
    Calls Try.prog 11 #[.pointer (some ⟨h, 0, none⟩), .int .i64 s, .bool f] w fun e w' => ∃ rb, e = .returned (.tuple #[(Ptr.mk (g.made + 1) 0 0 s).v, .int .i64 0]) ∧ HeapAt w' (g.make s f rb) ∧ Stays g.own w (g.make s f rb).own w' := by
  have hlt : decide (s < 0) = false ∧ decide (4194304 < s) = false := by unfold big at hb; simpa using hb
  obtain ⟨h1, h2⟩ := hlt
  obtain ⟨c0, c1, -⟩ := box_cells H
  have hm := H.mkd
  have hB := Lib.hid hb
  have hh' := lt_of_at H.box
  have HH := Lib.hid H
  have hx := frozen_of_row w g.h 0 _ _ H.box
  have hw : IntKind.i64.wrap (g.made + 1) = g.made + 1 := IntWalk.i64_in _ (by omega)
  have hw2 : wrap64 (g.made + 1) = g.made + 1 := IntWalk.wrap64_in _ (by omega)
  clear H hb
  subst hh
  go_enter Try.func11, Try.ntmps11
  go_wp2
  have hbX : ((w.setCell ⟨g.h, 0, none⟩ (.int .i64 (g.made + 1))).alloc (.cells #[.int .i64 0, .int .i64 0, .int .i64 0, .int .i64 0] 31)).heap[g.h]? = some (.cells #[.int .i64 (g.made + 1), .map (some g.lb), .map (some g.sb)] 69) :=
    row_up (by rw [heap_setCell_same _ _ _ _ _ _ HH.out.box]; rfl) _
  have hoX : ∀ j, j < w.heap.size → j ≠ g.h → ((w.setCell ⟨g.h, 0, none⟩ (.int .i64 (g.made + 1))).alloc (.cells #[.int .i64 0, .int .i64 0, .int .i64 0, .int .i64 0] 31)).heap[j]? = w.heap[j]? := fun j hj hn =>
    (heap_alloc_old _ _ (by simp [World.setCell]; omega)).trans (Below.heap_setCell w _ _ j hn)
  have hsX : ((w.setCell ⟨g.h, 0, none⟩ (.int .i64 (g.made + 1))).alloc (.cells #[.int .i64 0, .int .i64 0, .int .i64 0, .int .i64 0] 31)).heap.size = w.heap.size + 1 := by simp [World.setCell]
  have hrX : ((w.setCell ⟨g.h, 0, none⟩ (.int .i64 (g.made + 1))).alloc (.cells #[.int .i64 0, .int .i64 0, .int .i64 0, .int .i64 0] 31)).heap[w.heap.size]? = some (.cells #[.int .i64 0, .int .i64 0, .int .i64 0, .int .i64 0] 31) := row_new (by simp [World.setCell]) _
  have hqX : ((w.setCell ⟨g.h, 0, none⟩ (.int .i64 (g.made + 1))).alloc (.cells #[.int .i64 0, .int .i64 0, .int .i64 0, .int .i64 0] 31)).os = w.os ∧ ((w.setCell ⟨g.h, 0, none⟩ (.int .i64 (g.made + 1))).alloc (.cells #[.int .i64 0, .int .i64 0, .int .i64 0, .int .i64 0] 31)).tape = w.tape ∧ ((w.setCell ⟨g.h, 0, none⟩ (.int .i64 (g.made + 1))).alloc (.cells #[.int .i64 0, .int .i64 0, .int .i64 0, .int .i64 0] 31)).output = w.output := ⟨rfl, rfl, rfl⟩
  generalize (w.setCell ⟨g.h, 0, none⟩ (.int .i64 (g.made + 1))).alloc (.cells #[.int .i64 0, .int .i64 0, .int .i64 0, .int .i64 0] 31) = X at *
  clear c0 c1 hx
  have d0 : X.cell? ⟨g.h, 0, none⟩ = some (.int .i64 (g.made + 1)) := cell_of_row _ _ _ _ _ _ hbX
  have d1 : X.cell? ⟨g.h, 1, none⟩ = some (.map (some g.lb)) := cell_of_row _ _ _ _ _ _ hbX
  have hhX : g.h < X.heap.size := by omega
  have OX := Lib.hid hoX
  have RX := Lib.hid hrX
  have BX := Lib.hid hbX
  obtain ⟨fl, hfl, hfe⟩ := HH.out.live
  have hlh : g.lb ≠ g.h := (map_cell hfl.isMap HH.out.box).symm
  have hfY : MpIs (X.drew.alloc (.cells #[.int .i64 s, .bool f, .slice none 0 0] 73)) 3 g.lb g.cnt fl := hfl.keep ((heap_alloc_old _ _ (by have := hfl.lt; show g.lb < X.heap.size; omega)).trans (OX.out g.lb hfl.lt hlh))
  obtain ⟨w2, hrun, hmp, hgr⟩ := hfY.put lawInt Try.underlying66 (by unfold maxLen; omega) (val := .pointer (some ⟨w.heap.size + 1, 0, none⟩)) (key_int (n := g.made + 1) (by unfold in64; omega))
  have hrun : (Instr.mapUpdate 66 (.map (some g.lb)) (.int .i64 (g.made + 1)) (.pointer (some ⟨w.heap.size + 1, 0, none⟩))).run Try.prog (X.alloc (.cells #[.int .i64 s, .bool f, .slice none 0 0] 73)).drew = .ok () w2 := hrun
  have HMP := Lib.hid hmp
  have HGR := Lib.hid hgr
  have hgs := hgr.size
  simp only [World.size_alloc] at hgs
  have hgs2 : X.heap.size + 1 ≤ w2.heap.size := hgs
  have hneh : g.lb ≠ g.h := hlh
  have e0 : w2.cell? ⟨g.h, 0, none⟩ = some (.int .i64 (g.made + 1)) := hgr.cell ((World.cell?_alloc_lt _ _ _ hhX).trans d0) (by simpa using hlh.symm)
  have e1 : w2.cell? ⟨g.h, 1, none⟩ = some (.map (some g.lb)) := hgr.cell ((World.cell?_alloc_lt _ _ _ hhX).trans d1) (by simpa using hlh.symm)
  have r2 : w2.heap[w.heap.size]? = some (.cells #[.int .i64 0, .int .i64 0, .int .i64 0, .int .i64 0] 31) := (hgr.block _ (by show w.heap.size < (X.drew.heap.push _).size; simp; show w.heap.size < X.heap.size + 1; omega) (by have := hfl.lt; simp; omega)).trans (row_up (w := X.drew) RX.out _)
  have R2 := Lib.hid r2
  have HFL := Lib.hid hfl
  have HFE := Lib.hid hfe
  clear hoX hrX hbX hfY hmp hgr hfl hfe hgs r2
  go_region_held3 (fun W => W.cell? ⟨g.h, 0, none⟩ = some (.int .i64 (g.made + 1)) ∧ W.cell? ⟨g.h, 1, none⟩ = some (.map (some g.lb))) (go_keep) (fail)
  have f2 : ∀ j, w2.frozen? ⟨w.heap.size, j, none⟩ = false := fun j => frozen_of_row _ _ _ _ _ R2.out
  have hl2 : w.heap.size < w2.heap.size := by omega
  go_wp2_with (first | (go_at_call 26; refine (whole_any _ _ _).mono ?_; rintro e w3 ⟨he, hb3⟩; simp only [Ptr.v] at he; subst he; have R3 : w3.heap[w.heap.size]? = some (.cells #[.int .i64 0, .int .i64 0, .int .i64 0, .int .i64 0] 31) := (hb3.block _ hl2).trans R2.out) | (refine wpList_store_row (o := ⟨none, .store 31 (.tmp 6) (.tmp 39), _, _, _, _⟩) rfl 31 (.tmp 6) (.tmp 39) rfl w.heap.size #[.int .i64 (g.made + 1), .int .i64 0, .int .i64 0, .int .i64 s] rfl rfl 31 #[.int .i64 0, .int .i64 0, .int .i64 0, .int .i64 0] R3 sizePtr rfl (by simp [Value.oneCell']) ?_))
  have hsz3 := hb3.size
  have hlbl := HFL.out.lt
  have W0 : ∀ j, j < w2.heap.size → j ≠ w.heap.size → (w3.setRow w.heap.size #[.int .i64 (g.made + 1), .int .i64 0, .int .i64 0, .int .i64 s]).heap[j]? = w2.heap[j]? := fun j hj hn =>
    (setRow_other _ _ _ _ hn).trans (hb3.block j hj)
  have W1 : ∀ j, j < X.heap.size + 1 → j ≠ w.heap.size → j ≠ g.lb → (w3.setRow w.heap.size #[.int .i64 (g.made + 1), .int .i64 0, .int .i64 0, .int .i64 s]).heap[j]? = (X.drew.alloc (.cells #[.int .i64 s, .bool f, .slice none 0 0] 73)).heap[j]? := fun j hj hn hl =>
    (W0 j (by omega) hn).trans (HGR.out.block j (by rw [World.size_alloc]; exact hj) (fun e => hl (by injection e)))
  have W2 : ∀ j, j < w.heap.size → j ≠ g.h → j ≠ g.lb → (w3.setRow w.heap.size #[.int .i64 (g.made + 1), .int .i64 0, .int .i64 0, .int .i64 s]).heap[j]? = w.heap[j]? := fun j hj hn hl =>
    (W1 j (by omega) (by omega) hl).trans ((heap_alloc_old _ _ (by show j < X.heap.size; omega)).trans (OX.out j hj hn))
  refine bodyPost_ret (v := .tuple #[(Ptr.mk (g.made + 1) 0 0 s).v, .int .i64 0]) (res_cell_tmp Try.results11 _ _ w.heap.size 31 _ (0, 0) _ _ rfl rfl (setRow_heap _ w.heap.size _ _ _ _ R3) Try.underlying31 rfl sizePtr) rfl ⟨w.heap.size + 1, rfl, ?_, ?_⟩
  · refine make_at HH.out hB.out (fun e => ?_) hc (fun j hj h1 h2 => W2 j (HH.out.lt j hj) h1 h2) ?_ fl HFL.out HFE.out (HMP.out.keep (W0 _ (by omega) (by omega))) ?_
    · have := HH.out.lt _ e; omega
    · exact (W1 _ (by omega) (by omega) (Ne.symm hneh)).trans (row_up (w := X.drew) BX.out _)
    · exact (W1 _ (by omega) (by omega) (by omega)).trans (row_new hsX _)
  · refine ⟨hb3.os.trans (HGR.out.os.trans hqX.1), hb3.tape.trans (HGR.out.tape.trans hqX.2.1), hb3.output.trans (HGR.out.output.trans hqX.2.2), ?_, fun k hk hn => W2 k hk (fun e => hn (.inl e)) (fun e => hn (.inr (.inl e))), fun k hk => (g.make_own s f _ hk).imp id (fun e => by omega)⟩
    simp [World.setRow]
    omega
/-- Make, any size. -/
theorem make_any {w : World} {h : Nat} {o : Nat → Prop} {c : Nat} {A : Ab} (H : HpIs w h o c A) (hc : c < 1073741824) (s : Int) (f : Bool) :
    Calls Try.prog 11 #[.pointer (some ⟨h, 0, none⟩), .int .i64 s, .bool f] w fun e w' => ∃ o', e = .returned (.tuple #[(A.makeV s).v, .int .i64 (Ab.makeE s)]) ∧ HpIs w' h o' (c + 1) (A.make s f) ∧ Stays o w o' w' := by
  obtain ⟨g, H, rfl, rfl, hg, rfl⟩ := H
  cases hb : big s
  · refine (make_ok H rfl (by omega) s f hb).mono ?_
    rintro e w' ⟨rb, rfl, H', hs⟩
    refine ⟨_, ?_, ⟨_, H', rfl, rfl, ?_, (g.make_ab f rb hb).symm⟩, hs⟩
    · simp only [Ab.makeV, Ab.makeE, hb]; rfl
    · simp only [G.make]; omega
  · refine (make_bad s f hb).mono ?_
    rintro e w' ⟨rfl, hbe⟩
    refine ⟨g.own, ?_, ?_, Stays.below hbe⟩
    · simp only [Ab.makeV, Ab.makeE, hb]; rfl
    · have e : g.ab.make s f = g.ab := by unfold Ab.make; rw [hb]; rfl
      rw [e]
      exact ⟨g, H.below hbe, rfl, rfl, by omega, rfl⟩
end Go.Proofs.Ytjianllngobhhaa
