/- A tree's parts are told one after the other, each ahead of its kids: walk. Conditions: each theorem's. -/
import Derived.Test.YtfjobnljdkiihaaGreatDoorQtTwI
import Derived.Test.YtfjobnljdkiihaaGreatDoorQtTwH
namespace Go.Proofs.YtfjobnljdkiihaaGreatDoor
open Go.RowKit Go.Maps Go.Shelf
set_option linter.unusedVariables false
set_option linter.unusedSimpArgs false
set_option maxRecDepth 100000
attribute [local go_sem] Oper.semAt_some
open Lx Pa Go.Lib Qi
def Marks (N0 : Nat) (Ds : List Nat) (w : World) : Prop := Ds.Nodup ∧ ∀ D ∈ Ds, N0 ≤ D ∧ w.heap[D]? = some (.deferred (some []))
def mkD (D : Nat) : Deferred := { target := .collected D, args := #[] }
theorem Marks.lt {N0 : Nat} {Ds : List Nat} {w : World} (h : Marks N0 Ds w) {D : Nat} (hD : D ∈ Ds) : D < w.heap.size := (Array.getElem?_eq_some_iff.1 (h.2 D hD).2).1
theorem Marks.keep {N0 : Nat} {Ds : List Nat} {w w' : World} (h : Marks N0 Ds w) (hk : ∀ D ∈ Ds, w.heap[D]? = some (.deferred (some [])) → w'.heap[D]? = some (.deferred (some []))) : Marks N0 Ds w' := ⟨h.1, fun D hD => ⟨(h.2 D hD).1, hk D hD (h.2 D hD).2⟩⟩
theorem Marks.kx {N0 b : Nat} {t : TypeId} {Ds : List Nat} {w w' : World} (h : Marks N0 Ds w) (hk : Kx b t w w') (hb : ∃ c u, w.heap[b]? = some (.cells c u)) : Marks N0 Ds w' := h.keep fun D hD hd => hk.block D _ hd (fun e => by
 subst e
 obtain ⟨c, u, hc⟩ := hb
 rw [hc] at hd
 injection hd with hd
 cases hd) (fun c z e => by cases e)
theorem Marks.cons {N0 D : Nat} {Ds : List Nat} {w w' : World} (h : Marks N0 Ds w) (hk : Marks N0 Ds w') (hD : w.heap.size ≤ D) (hN : N0 ≤ w.heap.size) (hd : w'.heap[D]? = some (.deferred (some []))) : Marks N0 (D :: Ds) w' :=
 ⟨List.nodup_cons.2 ⟨fun hm => by have := h.lt hm; omega, hk.1⟩, fun E hE => by
  rcases List.mem_cons.1 hE with rfl | hE
  ·exact ⟨by omega, hd⟩
  ·exact hk.2 E hE⟩
theorem leaves_marks {F : Fence} {n : Nat} {P : Program} {fn : Func} {tmps : Array Value} {R : Ending → World → Prop} {N0 : Nat} : ∀ (Ds : List Nat) (w : World), Marks N0 Ds w →
  (∀ w', Below N0 w w' → (∀ (k : Nat) (o : Obj), w.heap[k]? = some o → o.isCells = true → w'.heap[k]? = some o) → LeavesInM F n P fn tmps R [] .returning w') → LeavesInM F n P fn tmps R (Ds.map mkD) .returning w := by
 intro Ds
 induction Ds with
 | nil => intro w _ h; exact h w (Below.refl _ _) fun k o ho _ => ho
 | cons D Ds ih =>
  intro w hM h
  obtain ⟨hN, hd⟩ := hM.2 D (by simp)
  have hlt := hM.lt (D := D) (by simp)
  refine ⟨by simp, .inl ⟨_, _, rfl, run_takeDeferred hd, ih _ ⟨(List.nodup_cons.1 hM.1).2, fun E hE => ⟨(hM.2 E (by simp [hE])).1, ?_⟩⟩ fun w' hb hc => h w' ?_ fun k o ho hcc => hc k o ?_ hcc⟩⟩
  ·rw [World.putObj_heap_other (fun e => (List.nodup_cons.1 hM.1).1 (by rw [← e]; exact hE))]
   exact (hM.2 E (by simp [hE])).2
  ·exact ((Below.refl N0 w).grown (grownBy_putObj' w D _) (by omega) (fun k e => by cases e; exact hN)).trans hb
  ·rw [World.putObj_heap_other (fun e => by subst e; rw [hd] at ho; cases ho; cases hcc)]
   exact ho
theorem isb_cells {T e : TypeId} {B b : Nat} {bs : List Value} {w w' : World} (h : Lib.IsBuilder T e B b bs w) (hc : ∀ (k : Nat) (o : Obj), w.heap[k]? = some o → o.isCells = true → w'.heap[k]? = some o) : Lib.IsBuilder T e B b bs w' := by
 have key : ∀ p, Lib.BuilderAt T e B b p bs w → Lib.BuilderAt T e B b p bs w' := fun p h => by
  obtain ⟨hB, v, hb, hown, hne⟩ := h
  refine ⟨hB, v, hc b _ hb rfl, ⟨hown.1, ?_⟩, hne⟩
  rcases hown.2 with hh | ⟨g, cap, cur, hv, hg, hh, r⟩
  ·exact .inl hh
  ·exact .inr ⟨g, cap, cur, hv, hg, hc g _ hh rfl, r⟩
 exact h.imp (key _) (key _)
theorem wpIn_app {F : Fence} {n : Nat} {P : Program} {o : Oper} {a : Act} {w w' : World} {K : Act → World → Prop} {Q : Exit → Act → World → Prop} (s x : Operand) (t : TypeId) (hop : o.op = Op.call { callee := Callee.builtin Builtin.append, args := #[s, x], argTypes := #[t, t] })
  (v y v' : Value) (hs : a.eval s = v) (hx : a.eval x = y) (hrun : (Builtin.append_ #[t, t] o.type #[v, y]).run P w = .ok v' w') (hK : K (a.put o.dst v') w') : o.wpIn F n P a w K Q := by
 unfold Oper.wpIn
 refine ⟨?_, ?_⟩
 ·simp [Oper.about, hop, resolve, Target.leads, Sem.run_pure]
 ·rw [Oper.semAt_plain F _ _ (by rw [hop]; intro c hc'; cases hc')]
  simp [execOp, hop, resolve, invoke, builtin, hs, hx, hrun, Result.andThen]
  exact hK
theorem ownFrom_kx {β : Type} {b : Nat} {t : TypeId} {B : Nat} {w0 : World} (hB : w0.heap.size ≤ B) : OwnFrom B (fun (_ : β) W => Kx b t w0 W) := fun _ X Y row hs hg hr =>
 ⟨Nat.le_trans hs.size hg.size, fun k o ho h1 h2 => by
  have h3 := hs.block k o ho h1 h2
  refine (hg.block k (Array.getElem?_eq_some_iff.1 h3).1 (fun e => ?_)).trans h3
  have := (hr k e.symm).1
  have := (Array.getElem?_eq_some_iff.1 ho).1
  omega⟩
theorem LAt.fin {α : Type} {E : Elem α} {w : World} {S : Nat → Prop} {l : List α} {A : Option Addr} {cap : Nat} (h : LAt E w S l (.slice A l.length cap)) (d : Nat) (hd : d < w.heap.size) :
  ∃ (g o : Nat) (cs : Fin l.length → Array Value), g < w.heap.size ∧ (0 < l.length → A = some ⟨g, o, none⟩ ∧ S g) ∧ ∀ j : Fin l.length, w.rangeAt g (o + j.val * E.z) (cs j).toList ∧ (cs j).size = E.z := by
 by_cases hl : l.length = 0
 ·exact ⟨d, 0, fun _ => #[], hd, fun h => by omega, fun j => absurd j.isLt (by omega)⟩
 ·obtain ⟨rows, h1, ⟨A', cap', e, h2, h3, h4⟩, h5⟩ := h
  injection e with e1 e2 e3
  subst e1
  obtain ⟨g, o, rfl, hS, hg, hr⟩ := h4 (by omega)
  have hz : ∀ r ∈ rows, r.length = E.z := fun r hr' => by
   obtain ⟨k, hk, rfl⟩ := List.getElem_of_mem hr'
   exact E.len (h5 k (l[k]'(by omega)) _ (List.getElem?_eq_getElem (by omega)) (List.getElem?_eq_getElem hk))
  refine ⟨g, o, fun j => (rows[j.val]'(by have := j.isLt; omega)).toArray, hg, fun _ => ⟨rfl, hS⟩, fun j => ⟨fun i u hu => ?_, ?_⟩⟩
  ·rw [Nat.add_assoc]
   exact hr _ u (flat_get rows j.val i _ u hz (List.getElem?_eq_getElem (by have := j.isLt; omega)) (by simpa using hu))
  ·rw [List.size_toArray]
   exact hz _ (List.getElem_mem _)
theorem flat_ge {α : Type} {f : α → List UInt8} (hf : ∀ x, 0 < (f x).length) : ∀ l : List α, l.length ≤ (l.flatMap f).length
 | [] => Nat.zero_le _
 | x :: l => by
  have := flat_ge hf l
  have := hf x
  simp only [List.length_cons, List.flatMap_cons, List.length_append]
  omega
theorem ownsRow_cut {w : World} {N0 : Nat} {e : TypeId} {v : Value} {xs : List Value} {x : Value} (h : w.ownsRow N0 e 1 v (xs.length + 1) (xs ++ [x])) :
  ∃ g cap, v = .slice (some ⟨g, 0, none⟩) (xs.length + 1) cap ∧ xs.length + 1 ≤ cap ∧ cap ≤ maxLen ∧ N0 ≤ g ∧ w.cell? ⟨g, xs.length, none⟩ = some x ∧ w.ownsRow N0 e 1 (.slice (some ⟨g, 0, none⟩) xs.length cap) xs.length xs ∧ ∃ cs, w.heap[g]? = some (.cells cs e) := by
 rcases h.2 with ⟨_, h0⟩ | ⟨g, cap, cur, rfl, hB, hg, h1, h2, h3, h4⟩
 ·omega
 ·refine ⟨g, cap, rfl, h1, h2, hB, ?_, ⟨by simp, .inr ⟨g, cap, cur, rfl, hB, hg, by omega, h2, h3, ?_⟩⟩, cur, hg⟩
  ·rw [cell_of_row _ _ _ _ _ _ hg, ← Array.getElem?_toList]
   have h5 : (cur.toList.take ((xs.length + 1) * 1))[xs.length]? = some x := by rw [h4]; simp
   rw [List.getElem?_take] at h5
   split at h5
   ·exact h5
   ·cases h5
  ·have h5 := congrArg (List.take xs.length) h4
   rw [List.take_take, List.take_append_of_le_length (Nat.le_refl _), List.take_length, show min xs.length ((xs.length + 1) * 1) = xs.length * 1 by omega] at h5
   exact h5
def TellE (T : PrintTabs) (B b bw : Nat) : Prop := ∀ (x : PEx) (p : Value) (X : List UInt8) (w : World), Wr T B b X w → w.heap[bw]? = some (.cells #[.pointer (some ⟨b, 0, none⟩)] 90) → PtA exA w (Bl B) p x → fE x → X.length + (ownE T x).length ≤ 1000000000000 →
  Calls Tryz.prog 80 #[p, .pointer (some ⟨bw, 0, none⟩)] w fun e w' => ∃ v, e = .returned v ∧ LAt exA w' (Bl B) (kidsE x) v ∧ Wr T B b (X ++ ownE T x) w' ∧ Below B w w' ∧ Tq b w w'
theorem exT_pos (T : PrintTabs) (x : PEx) : 0 < (exT T x).length := by
 rw [exT_own, List.length_append]
 have := ownE_pos T x
 omega
structure SkE (T : PrintTabs) (B b bw N0 Bt : Nat) (w0 : World) (Y : List UInt8) (st : List PEx) (ps : List Value) (v : Value) (X : List UInt8) (w : World) : Prop where
 box : w.heap[Bt]? = some (.cells #[v] 159)
 row : w.ownsRow N0 125 1 v ps.length ps
 len : ps.length = st.length
 pt : ∀ (i : Nat) (x : PEx) (p : Value), st[i]? = some x → ps[i]? = some p → PtA exA w (Bl B) p x ∧ fE x
 wr : Wr T B b X w
 tx : X ++ st.reverse.flatMap (exT T) = Y
 be : Below B w0 w
 tq : Tq b w0 w
 bw : w.heap[bw]? = some (.cells #[.pointer (some ⟨b, 0, none⟩)] 90)
theorem skE_all {l : List PEx} : fEs l → ∀ x ∈ l, fE x := by
 induction l with
 | nil => intro _ x hx; simp at hx
 | cons y l ih =>
  intro h x hx
  rcases List.mem_cons.1 hx with rfl | hx
  ·exact h.1
  ·exact ih h.2 x hx
set_option maxHeartbeats 16000000 in
theorem walkE_in (T : PrintTabs) (B b bw : Nat) (x0 : PEx) (p0 : Value) (X0 : List UInt8) (w : World) (hT : TellE T B b bw) (h : Wr T B b X0 w) (hbw : w.heap[bw]? = some (.cells #[.pointer (some ⟨b, 0, none⟩)] 90)) (hp : PtA exA w (Bl B) p0 x0) (hf : fE x0) (hlen : X0.length + (exT T x0).length ≤ 1000000000000) :
  CallsIn Fence.wide 9 Tryz.prog 79 #[p0, .func (.func 80) #[] #[.pointer (some ⟨bw, 0, none⟩)]] w fun e w' => e = .returned (.tuple #[]) ∧ Wr T B b (X0 ++ exT T x0) w' ∧ Below B w w' ∧ Tq b w w' := by
 obtain ⟨g0, o0, c0, rfl, hS0, hg0, hx0, hr0⟩ := id hp
 refine callsIn_of_wp_marks Tryz.func79 rfl trivial ?_ rfl
 simp only [Tryz.ntmps79, List.size_toArray, List.length_cons, List.length_nil, Nat.reduceAdd, Nat.reduceSub, Array.replicate_succ, Array.replicate_zero, List.push_toArray, List.append_toArray, List.nil_append, List.cons_append]
 have HP := Lib.hid hp
 have HW := Lib.hid h
 have HBW := Lib.hid hbw
 clear hp h hbw hx0 hr0
 have hz1 : (w.alloc (.cells #[.pointer (some ⟨g0, o0, none⟩)] 125)).heap.size = w.heap.size + 1 := by simp
 gi_wp2
 obtain ⟨W1, hW1⟩ : ∃ W1, ((w.alloc (.cells #[.pointer (some ⟨g0, o0, none⟩)] 125)).alloc (.cells #[.slice (some ⟨w.heap.size, 0, none⟩) 1 1] 159)) = W1 := ⟨_, rfl⟩
 rw [hW1]
 have hb1 : Below w.heap.size w W1 := by rw [← hW1]; exact ((Below.refl _ _).alloc (Nat.le_refl _) _).alloc (by simp) _
 have hbx : W1.heap[w.heap.size + 1]? = some (.cells #[.slice (some ⟨w.heap.size, 0, none⟩) 1 1] 159) := by
  rw [← hW1, ← hz1]; exact heap_new _ _
 have hrw : W1.heap[w.heap.size]? = some (.cells #[.pointer (some ⟨g0, o0, none⟩)] 125) := by
  rw [← hW1, Below.heap_alloc _ _ _ (by simp)]; exact heap_new _ _
 clear hW1 hz1
 have hBw := HW.out.bw
 have S0 : SkE T B b bw w.heap.size (w.heap.size + 1) w (X0 ++ exT T x0) [x0] [.pointer (some ⟨g0, o0, none⟩)] (.slice (some ⟨w.heap.size, 0, none⟩) 1 1) X0 W1 :=
  ⟨hbx, ⟨by simp, .inr ⟨w.heap.size, 1, _, rfl, Nat.le_refl _, hrw, Nat.le_refl _, by unfold maxLen; omega, by simp, by simp⟩⟩, rfl, fun i x p hx hpp => by
   match i, hx, hpp with
   | 0, hx, hpp => simp at hx hpp; subst hx; subst hpp; exact ⟨HP.out.keep (bl_keep (hb1.mono hBw)) hb1.size, hf⟩,
   HW.out.below hb1, by simp, hb1.mono hBw, Tq.of_below hb1, (hb1.block bw (Array.getElem?_eq_some_iff.1 HBW.out).1).trans HBW.out⟩
 clear hb1 hbx hrw
 refine wpIn_loop (fun a W => ∃ (u5 u6 u10 u11 u12 u13 u14 u15 u16 u17 u18 u19 u20 u21 u22 u23 u24 u25 u26 : Value) (Ds : List Nat) (st : List PEx) (ps : List Value) (v : Value) (X : List UInt8), SkE T B b bw w.heap.size (w.heap.size + 1) w (X0 ++ exT T x0) st ps v X W ∧ Marks w.heap.size Ds W ∧ a = { tmps := #[.pointer (some ⟨g0, o0, none⟩), .func (.func 80) #[] #[.pointer (some ⟨bw, 0, none⟩)], undef, undef, .pointer (some ⟨w.heap.size + 1, 0, none⟩), u5, u6, undef, .pointer (some ⟨g0, o0, none⟩), .slice (some ⟨w.heap.size, 0, none⟩) 1 1, u10, u11, u12, u13, u14, u15, u16, u17, u18, u19, u20, u21, u22, u23, u24, u25, u26, undef, undef, undef, undef, undef, undef, undef, undef], defers := Ds.map mkD }) (fun _ W => 1000000000000 - blen b W) ?start ?round
 case start => exact ⟨_, _, _, _, _, _, _, _, _, _, _, _, _, _, _, _, _, _, _, [], _, _, _, _, S0, ⟨List.nodup_nil, fun D hD => by simp at hD⟩, rfl⟩
 case round =>
  clear S0
  rintro a wr ⟨u5, u6, u10, u11, u12, u13, u14, u15, u16, u17, u18, u19, u20, u21, u22, u23, u24, u25, u26, Ds, st, ps, v, X, hS, hM, rfl⟩
  rcases List.eq_nil_or_concat st with rfl | ⟨st0, x, rfl⟩
  ·have hps : ps = [] := List.eq_nil_of_length_eq_zero (by rw [hS.len]; rfl)
   subst hps
   obtain ⟨A, cap, rfl⟩ : ∃ A cap, v = .slice A 0 cap := by
    rcases hS.row.2 with ⟨rfl, _⟩ | ⟨g, cap, cur, rfl, _⟩ <;> exact ⟨_, _, rfl⟩
   have hbc : wr.cell? ⟨w.heap.size + 1, 0, none⟩ = some (.slice A 0 cap) := by simp [World.cell?, hS.box]
   have HS := Lib.hid hS
   have HM := Lib.hid hM
   clear hS hM
   gi_wp2
   refine leaves_marks Ds wr HM.out fun w' hb hc => ?_
   refine ⟨_, results_none rfl _ _ _, rfl, ?_, HS.out.be.trans (hb.mono hBw), Nat.le_trans HS.out.tq.size hb.size, fun k o ho h1 h2 => (hb.block k (Array.getElem?_eq_some_iff.1 ho).1).trans (HS.out.tq.block k o ho h1 h2)⟩
   have h1 := HS.out.wr
   have h2 := HS.out.tx
   simp at h2
   rw [← h2]
   exact ⟨isb_cells h1.bl hc, h1.tb.keep (hb.mono hBw), Nat.le_trans h1.bw hb.size⟩
  ·rw [List.concat_eq_append] at hS
   obtain ⟨ps0, p, rfl⟩ : ∃ ps0 p, ps = ps0 ++ [p] := by
    rcases List.eq_nil_or_concat ps with rfl | ⟨ps0, p, rfl⟩
    ·have := hS.len; simp at this
    ·exact ⟨ps0, p, by simp⟩
   have hl0 : ps0.length = st0.length := by have := hS.len; simp at this; exact this
   have hrow := hS.row
   rw [show (ps0 ++ [p]).length = ps0.length + 1 by simp] at hrow
   obtain ⟨g, cap, rfl, hc1, hc2, hNg, hcell, hrow0, cs0, hg⟩ := ownsRow_cut hrow
   obtain ⟨hp, hfx⟩ := hS.pt st0.length x p (by simp) (by rw [← hl0]; simp)
   obtain ⟨gx, ox, cx, rfl, hSx, hgx, hxx, hrx⟩ := id hp
   have htx := hS.tx
   rw [List.reverse_append, List.reverse_singleton, List.singleton_append, List.flatMap_cons, exT_own] at htx
   have hlenx : X.length + (ownE T x).length ≤ 1000000000000 := by
    have := congrArg List.length htx
    simp only [List.length_append] at this
    omega
   have hlim : ps0.length + 1 ≤ 1000000000001 := by
    have h1 := congrArg List.length htx
    have h2 := flat_ge (exT_pos T) st0.reverse
    simp only [List.length_append, List.length_reverse] at h1 h2
    omega
   have hbc : wr.cell? ⟨w.heap.size + 1, 0, none⟩ = some (.slice (some ⟨g, 0, none⟩) (ps0.length + 1) cap) := by simp [World.cell?, hS.box]
   have hfz : wr.frozen? ⟨w.heap.size + 1, 0, none⟩ = false := by simp [World.frozen?, hS.box]
   have hcall := hT x (.pointer (some ⟨gx, ox, none⟩)) X wr hS.wr hS.bw hp hfx hlenx
   have HS := Lib.hid hS
   have HM := Lib.hid hM
   have HT := Lib.hid htx
   have HG := Lib.hid hg
   have HR := Lib.hid hrow0
   have HL := Lib.hid hl0
   have HC2 := Lib.hid hc2
   clear hS hM htx hg hrow0 hrow hl0 hxx hrx hp hlenx hc2
   gi_wp2_with (refine ⟨trivial, ?_⟩; gi_at_call 80; refine (callsIn_wide.2 hcall).mono ?_)
   rintro e W2 ⟨v2, rfl, hk, hW2, hb2, tq2⟩
   obtain ⟨A, kc, rfl⟩ := hk.slice
   clear hcall
   have hbox2 := tq2.block _ _ HS.out.box (fun e => by
    obtain ⟨_, cc, hc⟩ := HS.out.wr.at_
    rw [← e, HS.out.box] at hc
    injection hc with hc
    injection hc with _ hc _
    revert hc; decide) (fun c z e => by injection e with _ e _; revert e; decide)
   have hbc2 : W2.cell? ⟨w.heap.size + 1, 0, none⟩ = some (.slice (some ⟨g, 0, none⟩) (ps0.length + 1) cap) := by simp [World.cell?, hbox2]
   have hfz2 : W2.frozen? ⟨w.heap.size + 1, 0, none⟩ = false := by simp [World.frozen?, hbox2]
   have hlt2 : w.heap.size + 1 < W2.heap.size := (Array.getElem?_eq_some_iff.1 hbox2).1
   have hcl : ps0.length ≤ cap := by omega
   have hBX := Lib.hid hbox2
   have HK := Lib.hid hk
   have HW2 := Lib.hid hW2
   have HB2 := Lib.hid hb2
   have HQ2 := Lib.hid tq2
   clear hbox2 hk hW2 hb2 tq2 hcell hbc hfz
   gi_wp2_with (refine ⟨trivial, ?_⟩; gi_at_call 98; refine (backE_in Fence.wide _ trivial rfl _ _ _ _).mono ?_; rintro e W5 ⟨rfl, rfl⟩)
   obtain ⟨W3, hW3⟩ : ∃ W3, ((W2.setCell ⟨w.heap.size + 1, 0, none⟩ (.slice (some ⟨g, 0, none⟩) ps0.length cap)).alloc (.cells #[.slice A (kidsE x).length kc] 35)).alloc (.cells #[.slice A (kidsE x).length kc] 35) = W3 := ⟨_, rfl⟩
   rw [hW3]
   have hB3 : Below w.heap.size W2 W3 := by
    have hz2 := HQ2.out.size
    have hz0 := HS.out.be.size
    rw [← hW3]
    exact (((Below.refl _ W2).setCell (p := ⟨w.heap.size + 1, 0, none⟩) (by show w.heap.size ≤ w.heap.size + 1; omega) _).alloc (by simp [World.setCell]; omega) _).alloc (by simp [World.setCell]; omega) _
   have hK3 : Kx (w.heap.size + 1) 125 W2 W3 := by rw [← hW3]; exact (((Kx.refl _ _ W2).setCell 0 _).alloc _).alloc _
   have hs3 : W3.heap.size = W2.heap.size + 2 := by rw [← hW3]; simp [World.setCell]
   have hbx3 : W3.heap[w.heap.size + 1]? = some (.cells #[.slice (some ⟨g, 0, none⟩) ps0.length cap] 159) := by
    rw [← hW3, Below.heap_alloc _ _ _ (by simp [World.setCell]; omega), Below.heap_alloc _ _ _ (by simp [World.setCell]; omega)]
    exact Boxed.set (t := 159) _ hBX.out
   have hkb3 : W3.heap[W2.heap.size]? = some (.cells #[.slice A (kidsE x).length kc] 35) := by
    rw [← hW3, Below.heap_alloc _ _ _ (by simp [World.setCell])]
    have := heap_new (W2.setCell ⟨w.heap.size + 1, 0, none⟩ (.slice (some ⟨g, 0, none⟩) ps0.length cap)) (.cells #[.slice A (kidsE x).length kc] 35)
    simpa [World.setCell] using this
   have hkc3 : W3.heap[W2.heap.size + 1]? = some (.cells #[.slice A (kidsE x).length kc] 35) := by
    rw [← hW3]
    have := heap_new ((W2.setCell ⟨w.heap.size + 1, 0, none⟩ (.slice (some ⟨g, 0, none⟩) ps0.length cap)).alloc (.cells #[.slice A (kidsE x).length kc] 35)) (.cells #[.slice A (kidsE x).length kc] 35)
    simpa [World.setCell] using this
   have hrow3 : W3.ownsRow w.heap.size 125 1 (.slice (some ⟨g, 0, none⟩) ps0.length cap) ps0.length ps0 := by
    have hr := HR.out
    rcases hr.2 with ⟨h1, _⟩ | ⟨g', cap', cur, h1, h2, h3, h4⟩
    ·cases h1
    ·refine ⟨hr.1, .inr ⟨g', cap', cur, h1, h2, ?_, h4⟩⟩
     have h5 := HQ2.out.block g' _ h3 (fun e => by
      obtain ⟨_, cc, hc⟩ := HS.out.wr.at_
      rw [← e, h3] at hc
      injection hc with hc
      injection hc with _ hc _
      revert hc; decide) (fun c z e => by injection e with _ e _; revert e; decide)
     rw [← hW3, Below.heap_alloc _ _ _ (by simp [World.setCell]; have := (Array.getElem?_eq_some_iff.1 h5).1; omega), Below.heap_alloc _ _ _ (by simp [World.setCell]; exact (Array.getElem?_eq_some_iff.1 h5).1), Below.heap_setCell _ _ _ _ (fun e => by
      have e2 : g' = w.heap.size + 1 := e
      rw [e2] at h3
      rw [HS.out.box] at h3
      injection h3 with h3
      injection h3 with _ h3 _
      revert h3; decide)]
     exact h5
   clear hW3
   have hlk : (kidsE x).length ≤ 1000000000000 := by
    have h1 := congrArg List.length HT.out
    have h2 := flat_ge (exT_pos T) (kidsE x)
    simp only [List.length_append] at h1
    omega
   have hlt0 : (ps0.length + (kidsE x).length : Nat) ≤ 1000000000000 := by
    have h1 := congrArg List.length HT.out
    have h2 := flat_ge (exT_pos T) (kidsE x)
    have h3 := flat_ge (exT_pos T) st0.reverse
    have h4 := HL.out
    simp only [List.length_append, List.length_reverse] at h1 h3
    omega
   have hk3 := HK.out.keep (bl_keep (hB3.mono hBw)) hB3.size
   have hN3 : w.heap.size ≤ W3.heap.size := by have := HQ2.out.size; have := HS.out.be.size; omega
   obtain ⟨gk, ok, cs, hgk, hA, hcs⟩ := hk3.fin (w.heap.size + 1) (Array.getElem?_eq_some_iff.1 hbx3).1
   obtain ⟨ptr, hptr⟩ : ∃ ptr : Fin (kidsE x).length → Value, ptr = fun j => .pointer (some ⟨gk, ok + j.val * 9, none⟩) := ⟨_, rfl⟩
   have hrow3' : W3.ownsRow w.heap.size 125 1 (.slice (some ⟨g, 0, none⟩) ps0.length cap) (ps0.length + ([] : List (Fin (kidsE x).length)).length) (ps0 ++ ([] : List (Fin (kidsE x).length)).map ptr) := by simpa using hrow3
   refine wpIn_rangeFunc_ownG (α := Fin (kidsE x).length) rfl (by omega) (gf := 121) (lb := #[.pointer (some ⟨W2.heap.size + 1, 0, none⟩)]) rfl trivial (enters_of Tryz.func121 (by kernel_rfl) rfl)
    (bwE_stops Fence.wide 8 trivial rfl (by omega) (W2.heap.size + 1) gk ok (kidsE x).length kc A cs (by omega) W3 hgk (fun h => (hA h).1) hkc3 hcs) kb_t (kb_b (by omega) hgk) (Below.refl _ _) (fun _ => rfl)
    (fun pre W => (∃ v, Boxed W (w.heap.size + 1) 159 v ∧ W.ownsRow w.heap.size 125 1 v (ps0.length + pre.length) (ps0 ++ pre.map ptr) ∧ True) ∧ Kx (w.heap.size + 1) 125 W3 W ∧ Below w.heap.size W3 W)
    (fun _ _ _ => False)
    (OwnFrom.and (Own.from (holdsRow_own w.heap.size (w.heap.size + 1) 159 125 1 (fun pre : List (Fin (kidsE x).length) => ps0.length + pre.length) (fun pre => ps0 ++ pre.map ptr) (fun _ _ => True)) _) (OwnFrom.and (ownFrom_kx (Nat.le_refl _)) (ownFrom_below hN3 hN3)))
    (fun _ _ _ _ _ hs _ _ => hs)
    ⟨⟨_, hbx3, hrow3', trivial⟩, Kx.refl _ _ _, Below.refl _ _⟩
    (fun j => { tmps := #[.pointer (some ⟨g0, o0, none⟩), .func (.func 80) #[] #[.pointer (some ⟨bw, 0, none⟩)], undef, undef, .pointer (some ⟨w.heap.size + 1, 0, none⟩), .int .i64 (ps0.length : Int), .pointer (some ⟨W2.heap.size, 0, none⟩), .int .i64 (j.val : Int), .pointer (some ⟨g0, o0, none⟩), .slice (some ⟨w.heap.size, 0, none⟩) 1 1, .slice (some ⟨g, 0, none⟩) (ps0.length + 1) cap, .int .i64 ((ps0.length : Int) + 1), .bool true, .slice (some ⟨g, 0, none⟩) (ps0.length + 1) cap, .int .i64 ((ps0.length : Int) + 1), .int .i64 (ps0.length : Int), .func (.func 80) #[] #[.pointer (some ⟨bw, 0, none⟩)], .slice (some ⟨g, 0, none⟩) (ps0.length + 1) cap, .int .i64 (ps0.length : Int), .pointer (some ⟨g, ps0.length, none⟩), .pointer (some ⟨gx, ox, none⟩), .slice A (kidsE x).length kc, .slice (some ⟨g, 0, none⟩) (ps0.length + 1) cap, .int .i64 (ps0.length : Int), .slice (some ⟨g, 0, none⟩) ps0.length cap, .slice A (kidsE x).length kc, .func (.func 121) #[] #[.pointer (some ⟨W2.heap.size + 1, 0, none⟩)], .int .i64 (j.val : Int), .agg (cs j), undef, undef, undef, undef, undef, undef], defers := [] }) ?assign ?body ?done ?stop
   case assign =>
    intro l j W K hK
    gi_wp2
    exact hK
   case stop =>
    rintro D c pre W _ _ h _
    exact h.elim
   case body =>
    rintro l pre j W ⟨⟨v, hv, hrow, -⟩, hkx, hbe⟩ hlt
    obtain ⟨hA1, hA2⟩ := hA (by have := j.isLt; omega)
    have hz3 := hbe.size
    have hkb := hkx.block _ _ hkb3 (by omega) (fun c z e => by injection e with _ e _; revert e; decide)
    have hkc := hkx.block _ _ hkc3 (by omega) (fun c z e => by injection e with _ e _; revert e; decide)
    have c1 : W.cell? ⟨W2.heap.size, 0, none⟩ = some (.slice (some ⟨gk, ok, none⟩) (kidsE x).length kc) := by rw [← hA1]; simp [World.cell?, hkb]
    have c2 : W.cell? ⟨w.heap.size + 1, 0, none⟩ = some v := hv.cell
    have hlW2 : W2.heap.size < W.heap.size := by omega
    have hlBt : w.heap.size + 1 < W.heap.size := by omega
    obtain ⟨i0, hi, hz0, hz1, hz2⟩ := info_parts (show (Tryz.prog.info? 125).map (fun i => (i.zero, i.size, i.bytes)) = some (some (.pointer none), 1, 8) by kernel_rfl)
    have hjl : (j.val : Int) < ((kidsE x).length : Int) := by have := j.isLt; omega
    have hj0 : (0 : Int) ≤ (j.val : Int) := by omega
    have hN0 : w.heap.size ≤ W.drew.heap.size := by show w.heap.size ≤ W.heap.size; omega
    have hpj : ptr j = .pointer (some ⟨gk, ok + j.val * 9, none⟩) := by rw [hptr]
    obtain ⟨v', W5, hrun, hown', hgrow, -⟩ := run_append_own (P := Tryz.prog) (W.drew.alloc (.cells #[ptr j] 125)) w.heap.size 159 159 125 i0 (.pointer none) 1 8 (by kernel_rfl) hi hz0 hz1 hz2 rfl (by decide) v (ps0.length + pre.length) (ps0 ++ pre.map ptr)
     (World.ownsRow.alloc (w := W.drew) hrow _) ⟨W.heap.size, 0, none⟩ 1 1 [ptr j] rfl (cell_one_new W.drew _ _) (by rw [hpj]; simp [Value.oneCell']) (by unfold maxLen; omega) (by omega) (by simp; omega)
    obtain ⟨g', cap', rfl⟩ := ownsRow_succ hown'
    obtain ⟨hv1, hv2, hr2, hk2, hb2'⟩ := Boxed.appended (W := W.drew) (n₀ := w.heap.size) hv (by decide) hrow hN0 (by omega) hown' hgrow
    have hc5 := hv1.cell
    have hf5 := hv1.frozen
    have hK5 : Kx (w.heap.size + 1) 125 W (W5.setCell ⟨w.heap.size + 1, 0, none⟩ (.slice (some ⟨g', 0, none⟩) (ps0.length + pre.length + 1) cap')) :=
     ((((Kx.refl _ _ W).drew).alloc _).grown hgrow (fun k hk => by obtain ⟨_, _, cs', fr, h⟩ := own_typ (World.ownsRow.alloc (w := W.drew) hrow (.cells #[ptr j] 125)) k hk; exact ⟨cs', fr, h⟩)).setCell 0 _
    rw [hpj] at hrun
    have mixed : Tryz.prog.follows .mixedOrders = true := by kernel_rfl
    have HR1 := Lib.hid hrun
    have H1 := Lib.hid hkx
    have H2 := Lib.hid hbe
    have H3 := Lib.hid hown'
    have H4 := Lib.hid hgrow
    have H5 := Lib.hid hr2
    have H6 := Lib.hid hk2
    have H7 := Lib.hid hb2'
    have H8 := Lib.hid hK5
    have H9 := Lib.hid hkc
    have H10 := Lib.hid hA
    have H11 := Lib.hid hcs
    clear hkx hbe hown' hgrow hr2 hk2 hb2' hK5 hrow hA hcs hkb hkc hv hrow3' hrow3 hv1 hpj hA1
    have hb5 : Below w.heap.size W (W5.setCell ⟨w.heap.size + 1, 0, none⟩ (.slice (some ⟨g', 0, none⟩) (ps0.length + pre.length + 1) cap')) := ((Below.refl _ W).drew).trans H7.out
    have hfin : Hid (KeepsFrom W3.heap.size W (W5.setCell ⟨w.heap.size + 1, 0, none⟩ (.slice (some ⟨g', 0, none⟩) (ps0.length + pre.length + 1) cap')) ∧ Kb (W2.heap.size + 1) gk W (W5.setCell ⟨w.heap.size + 1, 0, none⟩ (.slice (some ⟨g', 0, none⟩) (ps0.length + pre.length + 1) cap')) ∧ (∃ v, Boxed (W5.setCell ⟨w.heap.size + 1, 0, none⟩ (.slice (some ⟨g', 0, none⟩) (ps0.length + pre.length + 1) cap')) (w.heap.size + 1) 159 v ∧ World.ownsRow (W5.setCell ⟨w.heap.size + 1, 0, none⟩ (.slice (some ⟨g', 0, none⟩) (ps0.length + pre.length + 1) cap')) w.heap.size 125 1 v (ps0.length + (pre ++ [j]).length) (ps0 ++ (pre ++ [j]).map ptr) ∧ True) ∧ Kx (w.heap.size + 1) 125 W3 (W5.setCell ⟨w.heap.size + 1, 0, none⟩ (.slice (some ⟨g', 0, none⟩) (ps0.length + pre.length + 1) cap')) ∧ Below w.heap.size W3 (W5.setCell ⟨w.heap.size + 1, 0, none⟩ (.slice (some ⟨g', 0, none⟩) (ps0.length + pre.length + 1) cap'))) :=
     Lib.hid ⟨((KeepsOthers.drew W).trans H6.out).from _, ⟨(H8.out.block _ _ H9.out (by omega) (fun c z e => by injection e with _ e _; revert e; decide)).trans H9.out.symm, hb5.block gk (Nat.lt_of_lt_of_le hA2 hBw)⟩,
      ⟨⟨_, hv2, by simpa [Nat.add_assoc] using H5.out, trivial⟩, H1.out.trans H8.out, H2.out.trans hb5⟩⟩
    clear hb5
    gi_wp2
    refine wpIn_region_any mixed ?_
    change wpAnyIn _ _ _ _ _ _ _ _ _ (World.drew _)
    refine wpAnyIn_ready (rs := [0, 1, 2]) (by kernel_rfl) (by simp) ?_
    refine (AllReadyIn.cons rfl (fun K hK => ?_) (AllReadyIn.cons rfl (fun K hK => ?_) (AllReadyIn.cons rfl (fun K hK => ?_) AllReadyIn.nil)))
    ·go_simp
     refine hK _ _ ?_
     clear hK K
     (try simp only [Act.put, sZa, sZb, sZc])
     refine wpAnyIn_ready (rs := [1, 2]) (by kernel_rfl) (by simp) ?_
     refine (AllReadyIn.cons rfl (fun K hK => ?_) (AllReadyIn.cons rfl (fun K hK => ?_) AllReadyIn.nil))
     ·go_simp
      refine hK _ _ ?_
      clear hK K
      (try simp only [Act.put, sZa, sZb, sZc])
      refine wpAnyIn_ready (rs := [2]) (by kernel_rfl) (by simp) ?_
      refine (AllReadyIn.cons rfl (fun K hK => ?_) AllReadyIn.nil)
      go_simp
      refine hK _ _ ?_
      clear hK K
      (try simp only [Act.put, sZa, sZb, sZc])
      refine wpAnyIn_ready (rs := [3]) (by kernel_rfl) (by simp) ?_
      refine (AllReadyIn.cons rfl (fun K hK => ?_) AllReadyIn.nil)
      go_simp
      refine hK _ _ ?_
      clear hK K
      (try simp only [Act.put, sZa, sZb, sZc])
      refine wpAnyIn_ready (rs := [4]) (by kernel_rfl) (by simp) ?_
      refine (AllReadyIn.cons rfl (fun K hK => ?_) AllReadyIn.nil)
      go_simp
      refine hK _ _ ?_
      clear hK K
      (try simp only [Act.put, sZa, sZb, sZc])
      refine wpAnyIn_ready (rs := [5]) (by kernel_rfl) (by simp) ?_
      refine (AllReadyIn.cons rfl (fun K hK => ?_) AllReadyIn.nil)
      rw [if_pos (by rfl)]
      refine wpIn_app (.tmp 29) (.tmp 33) 159 rfl _ _ _ rfl rfl HR1.out ?_
      refine hK _ _ ?_
      clear hK K
      (try simp only [Act.put, sZa, sZb, sZc])
      refine wpAnyIn_ready (rs := [6]) (by kernel_rfl) (by simp) ?_
      refine (AllReadyIn.cons rfl (fun K hK => ?_) AllReadyIn.nil)
      go_simp
      refine hK _ _ ?_
      clear hK K
      (try simp only [Act.put, sZa, sZb, sZc])
      refine wpAnyIn_done (by kernel_rfl) ?_ _
      exact hfin.out
     ·go_simp
      refine hK _ _ ?_
      clear hK K
      (try simp only [Act.put, sZa, sZb, sZc])
      refine wpAnyIn_ready (rs := [1]) (by kernel_rfl) (by simp) ?_
      refine (AllReadyIn.cons rfl (fun K hK => ?_) AllReadyIn.nil)
      go_simp
      refine hK _ _ ?_
      clear hK K
      (try simp only [Act.put, sZa, sZb, sZc])
      refine wpAnyIn_ready (rs := [3]) (by kernel_rfl) (by simp) ?_
      refine (AllReadyIn.cons rfl (fun K hK => ?_) AllReadyIn.nil)
      go_simp
      refine hK _ _ ?_
      clear hK K
      (try simp only [Act.put, sZa, sZb, sZc])
      refine wpAnyIn_ready (rs := [4]) (by kernel_rfl) (by simp) ?_
      refine (AllReadyIn.cons rfl (fun K hK => ?_) AllReadyIn.nil)
      go_simp
      refine hK _ _ ?_
      clear hK K
      (try simp only [Act.put, sZa, sZb, sZc])
      refine wpAnyIn_ready (rs := [5]) (by kernel_rfl) (by simp) ?_
      refine (AllReadyIn.cons rfl (fun K hK => ?_) AllReadyIn.nil)
      rw [if_pos (by rfl)]
      refine wpIn_app (.tmp 29) (.tmp 33) 159 rfl _ _ _ rfl rfl HR1.out ?_
      refine hK _ _ ?_
      clear hK K
      (try simp only [Act.put, sZa, sZb, sZc])
      refine wpAnyIn_ready (rs := [6]) (by kernel_rfl) (by simp) ?_
      refine (AllReadyIn.cons rfl (fun K hK => ?_) AllReadyIn.nil)
      go_simp
      refine hK _ _ ?_
      clear hK K
      (try simp only [Act.put, sZa, sZb, sZc])
      refine wpAnyIn_done (by kernel_rfl) ?_ _
      exact hfin.out
    ·go_simp
     refine hK _ _ ?_
     clear hK K
     (try simp only [Act.put, sZa, sZb, sZc])
     refine wpAnyIn_ready (rs := [0, 2]) (by kernel_rfl) (by simp) ?_
     refine (AllReadyIn.cons rfl (fun K hK => ?_) (AllReadyIn.cons rfl (fun K hK => ?_) AllReadyIn.nil))
     ·go_simp
      refine hK _ _ ?_
      clear hK K
      (try simp only [Act.put, sZa, sZb, sZc])
      refine wpAnyIn_ready (rs := [2]) (by kernel_rfl) (by simp) ?_
      refine (AllReadyIn.cons rfl (fun K hK => ?_) AllReadyIn.nil)
      go_simp
      refine hK _ _ ?_
      clear hK K
      (try simp only [Act.put, sZa, sZb, sZc])
      refine wpAnyIn_ready (rs := [3]) (by kernel_rfl) (by simp) ?_
      refine (AllReadyIn.cons rfl (fun K hK => ?_) AllReadyIn.nil)
      go_simp
      refine hK _ _ ?_
      clear hK K
      (try simp only [Act.put, sZa, sZb, sZc])
      refine wpAnyIn_ready (rs := [4]) (by kernel_rfl) (by simp) ?_
      refine (AllReadyIn.cons rfl (fun K hK => ?_) AllReadyIn.nil)
      go_simp
      refine hK _ _ ?_
      clear hK K
      (try simp only [Act.put, sZa, sZb, sZc])
      refine wpAnyIn_ready (rs := [5]) (by kernel_rfl) (by simp) ?_
      refine (AllReadyIn.cons rfl (fun K hK => ?_) AllReadyIn.nil)
      rw [if_pos (by rfl)]
      refine wpIn_app (.tmp 29) (.tmp 33) 159 rfl _ _ _ rfl rfl HR1.out ?_
      refine hK _ _ ?_
      clear hK K
      (try simp only [Act.put, sZa, sZb, sZc])
      refine wpAnyIn_ready (rs := [6]) (by kernel_rfl) (by simp) ?_
      refine (AllReadyIn.cons rfl (fun K hK => ?_) AllReadyIn.nil)
      go_simp
      refine hK _ _ ?_
      clear hK K
      (try simp only [Act.put, sZa, sZb, sZc])
      refine wpAnyIn_done (by kernel_rfl) ?_ _
      exact hfin.out
     ·go_simp
      refine hK _ _ ?_
      clear hK K
      (try simp only [Act.put, sZa, sZb, sZc])
      refine wpAnyIn_ready (rs := [0, 3]) (by kernel_rfl) (by simp) ?_
      refine (AllReadyIn.cons rfl (fun K hK => ?_) (AllReadyIn.cons rfl (fun K hK => ?_) AllReadyIn.nil))
      ·go_simp
       refine hK _ _ ?_
       clear hK K
       (try simp only [Act.put, sZa, sZb, sZc])
       refine wpAnyIn_ready (rs := [3]) (by kernel_rfl) (by simp) ?_
       refine (AllReadyIn.cons rfl (fun K hK => ?_) AllReadyIn.nil)
       go_simp
       refine hK _ _ ?_
       clear hK K
       (try simp only [Act.put, sZa, sZb, sZc])
       refine wpAnyIn_ready (rs := [4]) (by kernel_rfl) (by simp) ?_
       refine (AllReadyIn.cons rfl (fun K hK => ?_) AllReadyIn.nil)
       go_simp
       refine hK _ _ ?_
       clear hK K
       (try simp only [Act.put, sZa, sZb, sZc])
       refine wpAnyIn_ready (rs := [5]) (by kernel_rfl) (by simp) ?_
       refine (AllReadyIn.cons rfl (fun K hK => ?_) AllReadyIn.nil)
       rw [if_pos (by rfl)]
       refine wpIn_app (.tmp 29) (.tmp 33) 159 rfl _ _ _ rfl rfl HR1.out ?_
       refine hK _ _ ?_
       clear hK K
       (try simp only [Act.put, sZa, sZb, sZc])
       refine wpAnyIn_ready (rs := [6]) (by kernel_rfl) (by simp) ?_
       refine (AllReadyIn.cons rfl (fun K hK => ?_) AllReadyIn.nil)
       go_simp
       refine hK _ _ ?_
       clear hK K
       (try simp only [Act.put, sZa, sZb, sZc])
       refine wpAnyIn_done (by kernel_rfl) ?_ _
       exact hfin.out
      ·go_simp
       refine hK _ _ ?_
       clear hK K
       (try simp only [Act.put, sZa, sZb, sZc])
       refine wpAnyIn_ready (rs := [0, 4]) (by kernel_rfl) (by simp) ?_
       refine (AllReadyIn.cons rfl (fun K hK => ?_) (AllReadyIn.cons rfl (fun K hK => ?_) AllReadyIn.nil))
       ·go_simp
        refine hK _ _ ?_
        clear hK K
        (try simp only [Act.put, sZa, sZb, sZc])
        refine wpAnyIn_ready (rs := [4]) (by kernel_rfl) (by simp) ?_
        refine (AllReadyIn.cons rfl (fun K hK => ?_) AllReadyIn.nil)
        go_simp
        refine hK _ _ ?_
        clear hK K
        (try simp only [Act.put, sZa, sZb, sZc])
        refine wpAnyIn_ready (rs := [5]) (by kernel_rfl) (by simp) ?_
        refine (AllReadyIn.cons rfl (fun K hK => ?_) AllReadyIn.nil)
        rw [if_pos (by rfl)]
        refine wpIn_app (.tmp 29) (.tmp 33) 159 rfl _ _ _ rfl rfl HR1.out ?_
        refine hK _ _ ?_
        clear hK K
        (try simp only [Act.put, sZa, sZb, sZc])
        refine wpAnyIn_ready (rs := [6]) (by kernel_rfl) (by simp) ?_
        refine (AllReadyIn.cons rfl (fun K hK => ?_) AllReadyIn.nil)
        go_simp
        refine hK _ _ ?_
        clear hK K
        (try simp only [Act.put, sZa, sZb, sZc])
        refine wpAnyIn_done (by kernel_rfl) ?_ _
        exact hfin.out
       ·go_simp
        refine hK _ _ ?_
        clear hK K
        (try simp only [Act.put, sZa, sZb, sZc])
        refine wpAnyIn_ready (rs := [0]) (by kernel_rfl) (by simp) ?_
        refine (AllReadyIn.cons rfl (fun K hK => ?_) AllReadyIn.nil)
        go_simp
        refine hK _ _ ?_
        clear hK K
        (try simp only [Act.put, sZa, sZb, sZc])
        refine wpAnyIn_ready (rs := [5]) (by kernel_rfl) (by simp) ?_
        refine (AllReadyIn.cons rfl (fun K hK => ?_) AllReadyIn.nil)
        rw [if_pos (by rfl)]
        refine wpIn_app (.tmp 29) (.tmp 33) 159 rfl _ _ _ rfl rfl HR1.out ?_
        refine hK _ _ ?_
        clear hK K
        (try simp only [Act.put, sZa, sZb, sZc])
        refine wpAnyIn_ready (rs := [6]) (by kernel_rfl) (by simp) ?_
        refine (AllReadyIn.cons rfl (fun K hK => ?_) AllReadyIn.nil)
        go_simp
        refine hK _ _ ?_
        clear hK K
        (try simp only [Act.put, sZa, sZb, sZc])
        refine wpAnyIn_done (by kernel_rfl) ?_ _
        exact hfin.out
    ·go_simp
     refine hK _ _ ?_
     clear hK K
     (try simp only [Act.put, sZa, sZb, sZc])
     refine wpAnyIn_ready (rs := [0, 1]) (by kernel_rfl) (by simp) ?_
     refine (AllReadyIn.cons rfl (fun K hK => ?_) (AllReadyIn.cons rfl (fun K hK => ?_) AllReadyIn.nil))
     ·go_simp
      refine hK _ _ ?_
      clear hK K
      (try simp only [Act.put, sZa, sZb, sZc])
      refine wpAnyIn_ready (rs := [1]) (by kernel_rfl) (by simp) ?_
      refine (AllReadyIn.cons rfl (fun K hK => ?_) AllReadyIn.nil)
      go_simp
      refine hK _ _ ?_
      clear hK K
      (try simp only [Act.put, sZa, sZb, sZc])
      refine wpAnyIn_ready (rs := [3]) (by kernel_rfl) (by simp) ?_
      refine (AllReadyIn.cons rfl (fun K hK => ?_) AllReadyIn.nil)
      go_simp
      refine hK _ _ ?_
      clear hK K
      (try simp only [Act.put, sZa, sZb, sZc])
      refine wpAnyIn_ready (rs := [4]) (by kernel_rfl) (by simp) ?_
      refine (AllReadyIn.cons rfl (fun K hK => ?_) AllReadyIn.nil)
      go_simp
      refine hK _ _ ?_
      clear hK K
      (try simp only [Act.put, sZa, sZb, sZc])
      refine wpAnyIn_ready (rs := [5]) (by kernel_rfl) (by simp) ?_
      refine (AllReadyIn.cons rfl (fun K hK => ?_) AllReadyIn.nil)
      rw [if_pos (by rfl)]
      refine wpIn_app (.tmp 29) (.tmp 33) 159 rfl _ _ _ rfl rfl HR1.out ?_
      refine hK _ _ ?_
      clear hK K
      (try simp only [Act.put, sZa, sZb, sZc])
      refine wpAnyIn_ready (rs := [6]) (by kernel_rfl) (by simp) ?_
      refine (AllReadyIn.cons rfl (fun K hK => ?_) AllReadyIn.nil)
      go_simp
      refine hK _ _ ?_
      clear hK K
      (try simp only [Act.put, sZa, sZb, sZc])
      refine wpAnyIn_done (by kernel_rfl) ?_ _
      exact hfin.out
     ·go_simp
      refine hK _ _ ?_
      clear hK K
      (try simp only [Act.put, sZa, sZb, sZc])
      refine wpAnyIn_ready (rs := [0, 3]) (by kernel_rfl) (by simp) ?_
      refine (AllReadyIn.cons rfl (fun K hK => ?_) (AllReadyIn.cons rfl (fun K hK => ?_) AllReadyIn.nil))
      ·go_simp
       refine hK _ _ ?_
       clear hK K
       (try simp only [Act.put, sZa, sZb, sZc])
       refine wpAnyIn_ready (rs := [3]) (by kernel_rfl) (by simp) ?_
       refine (AllReadyIn.cons rfl (fun K hK => ?_) AllReadyIn.nil)
       go_simp
       refine hK _ _ ?_
       clear hK K
       (try simp only [Act.put, sZa, sZb, sZc])
       refine wpAnyIn_ready (rs := [4]) (by kernel_rfl) (by simp) ?_
       refine (AllReadyIn.cons rfl (fun K hK => ?_) AllReadyIn.nil)
       go_simp
       refine hK _ _ ?_
       clear hK K
       (try simp only [Act.put, sZa, sZb, sZc])
       refine wpAnyIn_ready (rs := [5]) (by kernel_rfl) (by simp) ?_
       refine (AllReadyIn.cons rfl (fun K hK => ?_) AllReadyIn.nil)
       rw [if_pos (by rfl)]
       refine wpIn_app (.tmp 29) (.tmp 33) 159 rfl _ _ _ rfl rfl HR1.out ?_
       refine hK _ _ ?_
       clear hK K
       (try simp only [Act.put, sZa, sZb, sZc])
       refine wpAnyIn_ready (rs := [6]) (by kernel_rfl) (by simp) ?_
       refine (AllReadyIn.cons rfl (fun K hK => ?_) AllReadyIn.nil)
       go_simp
       refine hK _ _ ?_
       clear hK K
       (try simp only [Act.put, sZa, sZb, sZc])
       refine wpAnyIn_done (by kernel_rfl) ?_ _
       exact hfin.out
      ·go_simp
       refine hK _ _ ?_
       clear hK K
       (try simp only [Act.put, sZa, sZb, sZc])
       refine wpAnyIn_ready (rs := [0, 4]) (by kernel_rfl) (by simp) ?_
       refine (AllReadyIn.cons rfl (fun K hK => ?_) (AllReadyIn.cons rfl (fun K hK => ?_) AllReadyIn.nil))
       ·go_simp
        refine hK _ _ ?_
        clear hK K
        (try simp only [Act.put, sZa, sZb, sZc])
        refine wpAnyIn_ready (rs := [4]) (by kernel_rfl) (by simp) ?_
        refine (AllReadyIn.cons rfl (fun K hK => ?_) AllReadyIn.nil)
        go_simp
        refine hK _ _ ?_
        clear hK K
        (try simp only [Act.put, sZa, sZb, sZc])
        refine wpAnyIn_ready (rs := [5]) (by kernel_rfl) (by simp) ?_
        refine (AllReadyIn.cons rfl (fun K hK => ?_) AllReadyIn.nil)
        rw [if_pos (by rfl)]
        refine wpIn_app (.tmp 29) (.tmp 33) 159 rfl _ _ _ rfl rfl HR1.out ?_
        refine hK _ _ ?_
        clear hK K
        (try simp only [Act.put, sZa, sZb, sZc])
        refine wpAnyIn_ready (rs := [6]) (by kernel_rfl) (by simp) ?_
        refine (AllReadyIn.cons rfl (fun K hK => ?_) AllReadyIn.nil)
        go_simp
        refine hK _ _ ?_
        clear hK K
        (try simp only [Act.put, sZa, sZb, sZc])
        refine wpAnyIn_done (by kernel_rfl) ?_ _
        exact hfin.out
       ·go_simp
        refine hK _ _ ?_
        clear hK K
        (try simp only [Act.put, sZa, sZb, sZc])
        refine wpAnyIn_ready (rs := [0]) (by kernel_rfl) (by simp) ?_
        refine (AllReadyIn.cons rfl (fun K hK => ?_) AllReadyIn.nil)
        go_simp
        refine hK _ _ ?_
        clear hK K
        (try simp only [Act.put, sZa, sZb, sZc])
        refine wpAnyIn_ready (rs := [5]) (by kernel_rfl) (by simp) ?_
        refine (AllReadyIn.cons rfl (fun K hK => ?_) AllReadyIn.nil)
        rw [if_pos (by rfl)]
        refine wpIn_app (.tmp 29) (.tmp 33) 159 rfl _ _ _ rfl rfl HR1.out ?_
        refine hK _ _ ?_
        clear hK K
        (try simp only [Act.put, sZa, sZb, sZc])
        refine wpAnyIn_ready (rs := [6]) (by kernel_rfl) (by simp) ?_
        refine (AllReadyIn.cons rfl (fun K hK => ?_) AllReadyIn.nil)
        go_simp
        refine hK _ _ ?_
        clear hK K
        (try simp only [Act.put, sZa, sZb, sZc])
        refine wpAnyIn_done (by kernel_rfl) ?_ _
        exact hfin.out
   case done =>
    rintro D ys W hD rfl ⟨⟨v, hv, hrow, -⟩, hkx, hbe⟩ hK
    gi_wp2
    have be2 : Below w.heap.size W2 W := hB3.trans hbe
    have kx2 : Kx (w.heap.size + 1) 125 W2 W := hK3.trans hkx
    have hbl := (Array.getElem?_eq_some_iff.1 HBW.out).1
    have hneb : bw ≠ b := fun e => by
     obtain ⟨_, cc, hc⟩ := HW.out.at_
     rw [← e, HBW.out] at hc
     injection hc with hc
     injection hc with _ hc _
     revert hc; decide
    have wrW : Wr T B b (X ++ ownE T x) W := HW2.out.kx kx2 (be2.mono hBw) ⟨_, by first | exact .inl hBX.out | exact .inr hBX.out⟩ (by decide) (by decide)
    have hbw : W.heap[bw]? = some (.cells #[.pointer (some ⟨b, 0, none⟩)] 90) := (be2.block bw hbl).trans (HQ2.out.block bw _ HS.out.bw hneb (fun c z e => by injection e with _ e _; revert e; decide))
    have tqW : Tq b w W := ⟨Nat.le_trans HS.out.tq.size (Nat.le_trans HQ2.out.size be2.size), fun k o ho h1 h2 => (be2.block k (Array.getElem?_eq_some_iff.1 ho).1).trans (HQ2.out.block k o (HS.out.tq.block k o ho h1 h2) h1 h2)⟩
    have hM2 : Marks w.heap.size Ds W2 := HM.out.keep fun D hD hd => HQ2.out.block D _ hd (fun e => by
     obtain ⟨_, cc, hc⟩ := HS.out.wr.at_
     rw [← e, hd] at hc
     injection hc with hc
     cases hc) (fun c z e => by cases e)
    have hM3 : Marks w.heap.size Ds W3 := hM2.kx hK3 ⟨_, _, hBX.out⟩
    have hMW : Marks w.heap.size Ds W := hM3.kx hkx ⟨_, _, hbx3⟩
    have hMD := hM3.cons hMW hD hN3 hK
    have hfk := skE_all (fE_kids hfx)
    have hpt : ∀ (i : Nat) (y : PEx) (p : Value), (st0 ++ (kidsE x).reverse)[i]? = some y → (ps0 ++ (bwL (kidsE x).length).map ptr)[i]? = some p → PtA exA W (Bl B) p y ∧ fE y := fun i y p hy hpp => by
     have hl0 := HL.out
     by_cases hi : i < st0.length
     ·rw [List.getElem?_append_left hi] at hy
      rw [List.getElem?_append_left (by omega)] at hpp
      obtain ⟨h1, h2⟩ := HS.out.pt i y p (by rw [List.getElem?_append_left hi]; exact hy) (by rw [List.getElem?_append_left (by omega)]; exact hpp)
      exact ⟨h1.keep (bl_keep (HB2.out.trans (be2.mono hBw))) (Nat.le_trans HB2.out.size be2.size), h2⟩
     ·rw [List.getElem?_append_right (by omega)] at hy
      rw [List.getElem?_append_right (by omega), hl0] at hpp
      generalize i - st0.length = m at *
      have hm : m < (kidsE x).length := by have := (List.getElem?_eq_some_iff.1 hy).1; simpa using this
      have hbm := bwL_get (kidsE x).length ((kidsE x).length - 1 - m) (by omega)
      rw [show (kidsE x).length - ((kidsE x).length - 1 - m + 1) = m by omega] at hbm
      rw [List.getElem?_map, hbm] at hpp
      simp only [Option.map_some, Option.some.injEq] at hpp
      subst hpp
      rw [List.getElem?_reverse hm] at hy
      obtain ⟨rfl, -⟩ := hA (by omega)
      have hk4 := hk3.keep (bl_keep (hbe.mono hBw)) hbe.size
      refine ⟨?_, hfk y (List.mem_of_getElem? hy)⟩
      rw [hptr]
      exact hk4.pt _ hy
    refine ⟨⟨_, _, _, _, _, _, _, _, _, _, _, _, _, _, _, _, _, _, _, D :: Ds, st0 ++ (kidsE x).reverse, ps0 ++ (bwL (kidsE x).length).map ptr, v, X ++ ownE T x, ⟨hv, by simpa using hrow, by simp [bwL_len, HL.out], hpt, wrW, ?tx, HS.out.be.trans (HB2.out.trans (be2.mono hBw)), tqW, hbw⟩, hMD, rfl⟩, ?mu⟩
    case tx =>
     rw [List.reverse_append, List.reverse_reverse, List.flatMap_append, ← HT.out]
     simp only [List.append_assoc]
    case mu =>
     rw [wrW.len, HS.out.wr.len, List.length_append]
     have := ownE_pos T x
     have h1 := congrArg List.length HT.out
     simp only [List.length_append] at h1
     omega
theorem walkE_any (T : PrintTabs) (B b bw : Nat) (x0 : PEx) (p0 : Value) (X0 : List UInt8) (w : World) (hT : TellE T B b bw) (h : Wr T B b X0 w) (hbw : w.heap[bw]? = some (.cells #[.pointer (some ⟨b, 0, none⟩)] 90)) (hp : PtA exA w (Bl B) p0 x0) (hf : fE x0) (hlen : X0.length + (exT T x0).length ≤ 1000000000000) :
  Calls Tryz.prog 79 #[p0, .func (.func 80) #[] #[.pointer (some ⟨bw, 0, none⟩)]] w fun e w' => e = .returned (.tuple #[]) ∧ Wr T B b (X0 ++ exT T x0) w' ∧ Below B w w' ∧ Tq b w w' :=
 callsIn_wide.1 (walkE_in T B b bw x0 p0 X0 w hT h hbw hp hf hlen)
def TellS (T : PrintTabs) (B b bw : Nat) : Prop := ∀ (x : PSt) (p : Value) (X : List UInt8) (w : World), Wr T B b X w → w.heap[bw]? = some (.cells #[.pointer (some ⟨b, 0, none⟩)] 90) → PtA stA w (Bl B) p x → fS x → X.length + (ownS T x).length ≤ 1000000000000 →
  Calls Tryz.prog 55 #[p, .pointer (some ⟨bw, 0, none⟩)] w fun e w' => ∃ v, e = .returned v ∧ LAt stA w' (Bl B) (kidsS x) v ∧ Wr T B b (X ++ ownS T x) w' ∧ Below B w w' ∧ Tq b w w'
theorem stT_pos (T : PrintTabs) (x : PSt) : 0 < (stT T x).length := by
 rw [stT_own, List.length_append]
 have := ownS_pos T x
 omega
structure SkS (T : PrintTabs) (B b bw N0 Bt : Nat) (w0 : World) (Y : List UInt8) (st : List PSt) (ps : List Value) (v : Value) (X : List UInt8) (w : World) : Prop where
 box : w.heap[Bt]? = some (.cells #[v] 138)
 row : w.ownsRow N0 121 1 v ps.length ps
 len : ps.length = st.length
 pt : ∀ (i : Nat) (x : PSt) (p : Value), st[i]? = some x → ps[i]? = some p → PtA stA w (Bl B) p x ∧ fS x
 wr : Wr T B b X w
 tx : X ++ st.reverse.flatMap (stT T) = Y
 be : Below B w0 w
 tq : Tq b w0 w
 bw : w.heap[bw]? = some (.cells #[.pointer (some ⟨b, 0, none⟩)] 90)
theorem skS_all {l : List PSt} : fSs l → ∀ x ∈ l, fS x := by
 induction l with
 | nil => intro _ x hx; simp at hx
 | cons y l ih =>
  intro h x hx
  rcases List.mem_cons.1 hx with rfl | hx
  ·exact h.1
  ·exact ih h.2 x hx
set_option maxHeartbeats 16000000 in
theorem walkS_in (T : PrintTabs) (B b bw : Nat) (x0 : PSt) (p0 : Value) (X0 : List UInt8) (w : World) (hT : TellS T B b bw) (h : Wr T B b X0 w) (hbw : w.heap[bw]? = some (.cells #[.pointer (some ⟨b, 0, none⟩)] 90)) (hp : PtA stA w (Bl B) p0 x0) (hf : fS x0) (hlen : X0.length + (stT T x0).length ≤ 1000000000000) :
  CallsIn Fence.wide 9 Tryz.prog 54 #[p0, .func (.func 55) #[] #[.pointer (some ⟨bw, 0, none⟩)]] w fun e w' => e = .returned (.tuple #[]) ∧ Wr T B b (X0 ++ stT T x0) w' ∧ Below B w w' ∧ Tq b w w' := by
 obtain ⟨g0, o0, c0, rfl, hS0, hg0, hx0, hr0⟩ := id hp
 refine callsIn_of_wp_marks Tryz.func54 rfl trivial ?_ rfl
 simp only [Tryz.ntmps54, List.size_toArray, List.length_cons, List.length_nil, Nat.reduceAdd, Nat.reduceSub, Array.replicate_succ, Array.replicate_zero, List.push_toArray, List.append_toArray, List.nil_append, List.cons_append]
 have HP := Lib.hid hp
 have HW := Lib.hid h
 have HBW := Lib.hid hbw
 clear hp h hbw hx0 hr0
 have hz1 : (w.alloc (.cells #[.pointer (some ⟨g0, o0, none⟩)] 121)).heap.size = w.heap.size + 1 := by simp
 gi_wp2
 obtain ⟨W1, hW1⟩ : ∃ W1, ((w.alloc (.cells #[.pointer (some ⟨g0, o0, none⟩)] 121)).alloc (.cells #[.slice (some ⟨w.heap.size, 0, none⟩) 1 1] 138)) = W1 := ⟨_, rfl⟩
 rw [hW1]
 have hb1 : Below w.heap.size w W1 := by rw [← hW1]; exact ((Below.refl _ _).alloc (Nat.le_refl _) _).alloc (by simp) _
 have hbx : W1.heap[w.heap.size + 1]? = some (.cells #[.slice (some ⟨w.heap.size, 0, none⟩) 1 1] 138) := by
  rw [← hW1, ← hz1]; exact heap_new _ _
 have hrw : W1.heap[w.heap.size]? = some (.cells #[.pointer (some ⟨g0, o0, none⟩)] 121) := by
  rw [← hW1, Below.heap_alloc _ _ _ (by simp)]; exact heap_new _ _
 clear hW1 hz1
 have hBw := HW.out.bw
 have S0 : SkS T B b bw w.heap.size (w.heap.size + 1) w (X0 ++ stT T x0) [x0] [.pointer (some ⟨g0, o0, none⟩)] (.slice (some ⟨w.heap.size, 0, none⟩) 1 1) X0 W1 :=
  ⟨hbx, ⟨by simp, .inr ⟨w.heap.size, 1, _, rfl, Nat.le_refl _, hrw, Nat.le_refl _, by unfold maxLen; omega, by simp, by simp⟩⟩, rfl, fun i x p hx hpp => by
   match i, hx, hpp with
   | 0, hx, hpp => simp at hx hpp; subst hx; subst hpp; exact ⟨HP.out.keep (bl_keep (hb1.mono hBw)) hb1.size, hf⟩,
   HW.out.below hb1, by simp, hb1.mono hBw, Tq.of_below hb1, (hb1.block bw (Array.getElem?_eq_some_iff.1 HBW.out).1).trans HBW.out⟩
 clear hb1 hbx hrw
 refine wpIn_loop (fun a W => ∃ (u5 u6 u10 u11 u12 u13 u14 u15 u16 u17 u18 u19 u20 u21 u22 u23 u24 u25 u26 : Value) (Ds : List Nat) (st : List PSt) (ps : List Value) (v : Value) (X : List UInt8), SkS T B b bw w.heap.size (w.heap.size + 1) w (X0 ++ stT T x0) st ps v X W ∧ Marks w.heap.size Ds W ∧ a = { tmps := #[.pointer (some ⟨g0, o0, none⟩), .func (.func 55) #[] #[.pointer (some ⟨bw, 0, none⟩)], undef, undef, .pointer (some ⟨w.heap.size + 1, 0, none⟩), u5, u6, undef, .pointer (some ⟨g0, o0, none⟩), .slice (some ⟨w.heap.size, 0, none⟩) 1 1, u10, u11, u12, u13, u14, u15, u16, u17, u18, u19, u20, u21, u22, u23, u24, u25, u26, undef, undef, undef, undef, undef, undef, undef, undef], defers := Ds.map mkD }) (fun _ W => 1000000000000 - blen b W) ?start ?round
 case start => exact ⟨_, _, _, _, _, _, _, _, _, _, _, _, _, _, _, _, _, _, _, [], _, _, _, _, S0, ⟨List.nodup_nil, fun D hD => by simp at hD⟩, rfl⟩
 case round =>
  clear S0
  rintro a wr ⟨u5, u6, u10, u11, u12, u13, u14, u15, u16, u17, u18, u19, u20, u21, u22, u23, u24, u25, u26, Ds, st, ps, v, X, hS, hM, rfl⟩
  rcases List.eq_nil_or_concat st with rfl | ⟨st0, x, rfl⟩
  ·have hps : ps = [] := List.eq_nil_of_length_eq_zero (by rw [hS.len]; rfl)
   subst hps
   obtain ⟨A, cap, rfl⟩ : ∃ A cap, v = .slice A 0 cap := by
    rcases hS.row.2 with ⟨rfl, _⟩ | ⟨g, cap, cur, rfl, _⟩ <;> exact ⟨_, _, rfl⟩
   have hbc : wr.cell? ⟨w.heap.size + 1, 0, none⟩ = some (.slice A 0 cap) := by simp [World.cell?, hS.box]
   have HS := Lib.hid hS
   have HM := Lib.hid hM
   clear hS hM
   gi_wp2
   refine leaves_marks Ds wr HM.out fun w' hb hc => ?_
   refine ⟨_, results_none rfl _ _ _, rfl, ?_, HS.out.be.trans (hb.mono hBw), Nat.le_trans HS.out.tq.size hb.size, fun k o ho h1 h2 => (hb.block k (Array.getElem?_eq_some_iff.1 ho).1).trans (HS.out.tq.block k o ho h1 h2)⟩
   have h1 := HS.out.wr
   have h2 := HS.out.tx
   simp at h2
   rw [← h2]
   exact ⟨isb_cells h1.bl hc, h1.tb.keep (hb.mono hBw), Nat.le_trans h1.bw hb.size⟩
  ·rw [List.concat_eq_append] at hS
   obtain ⟨ps0, p, rfl⟩ : ∃ ps0 p, ps = ps0 ++ [p] := by
    rcases List.eq_nil_or_concat ps with rfl | ⟨ps0, p, rfl⟩
    ·have := hS.len; simp at this
    ·exact ⟨ps0, p, by simp⟩
   have hl0 : ps0.length = st0.length := by have := hS.len; simp at this; exact this
   have hrow := hS.row
   rw [show (ps0 ++ [p]).length = ps0.length + 1 by simp] at hrow
   obtain ⟨g, cap, rfl, hc1, hc2, hNg, hcell, hrow0, cs0, hg⟩ := ownsRow_cut hrow
   obtain ⟨hp, hfx⟩ := hS.pt st0.length x p (by simp) (by rw [← hl0]; simp)
   obtain ⟨gx, ox, cx, rfl, hSx, hgx, hxx, hrx⟩ := id hp
   have htx := hS.tx
   rw [List.reverse_append, List.reverse_singleton, List.singleton_append, List.flatMap_cons, stT_own] at htx
   have hlenx : X.length + (ownS T x).length ≤ 1000000000000 := by
    have := congrArg List.length htx
    simp only [List.length_append] at this
    omega
   have hlim : ps0.length + 1 ≤ 1000000000001 := by
    have h1 := congrArg List.length htx
    have h2 := flat_ge (stT_pos T) st0.reverse
    simp only [List.length_append, List.length_reverse] at h1 h2
    omega
   have hbc : wr.cell? ⟨w.heap.size + 1, 0, none⟩ = some (.slice (some ⟨g, 0, none⟩) (ps0.length + 1) cap) := by simp [World.cell?, hS.box]
   have hfz : wr.frozen? ⟨w.heap.size + 1, 0, none⟩ = false := by simp [World.frozen?, hS.box]
   have hcall := hT x (.pointer (some ⟨gx, ox, none⟩)) X wr hS.wr hS.bw hp hfx hlenx
   have HS := Lib.hid hS
   have HM := Lib.hid hM
   have HT := Lib.hid htx
   have HG := Lib.hid hg
   have HR := Lib.hid hrow0
   have HL := Lib.hid hl0
   have HC2 := Lib.hid hc2
   clear hS hM htx hg hrow0 hrow hl0 hxx hrx hp hlenx hc2
   gi_wp2_with (refine ⟨trivial, ?_⟩; gi_at_call 55; refine (callsIn_wide.2 hcall).mono ?_)
   rintro e W2 ⟨v2, rfl, hk, hW2, hb2, tq2⟩
   obtain ⟨A, kc, rfl⟩ := hk.slice
   clear hcall
   have hbox2 := tq2.block _ _ HS.out.box (fun e => by
    obtain ⟨_, cc, hc⟩ := HS.out.wr.at_
    rw [← e, HS.out.box] at hc
    injection hc with hc
    injection hc with _ hc _
    revert hc; decide) (fun c z e => by injection e with _ e _; revert e; decide)
   have hbc2 : W2.cell? ⟨w.heap.size + 1, 0, none⟩ = some (.slice (some ⟨g, 0, none⟩) (ps0.length + 1) cap) := by simp [World.cell?, hbox2]
   have hfz2 : W2.frozen? ⟨w.heap.size + 1, 0, none⟩ = false := by simp [World.frozen?, hbox2]
   have hlt2 : w.heap.size + 1 < W2.heap.size := (Array.getElem?_eq_some_iff.1 hbox2).1
   have hcl : ps0.length ≤ cap := by omega
   have hBX := Lib.hid hbox2
   have HK := Lib.hid hk
   have HW2 := Lib.hid hW2
   have HB2 := Lib.hid hb2
   have HQ2 := Lib.hid tq2
   clear hbox2 hk hW2 hb2 tq2 hcell hbc hfz
   gi_wp2_with (refine ⟨trivial, ?_⟩; gi_at_call 78; refine (backS_in Fence.wide _ trivial rfl _ _ _ _).mono ?_; rintro e W5 ⟨rfl, rfl⟩)
   obtain ⟨W3, hW3⟩ : ∃ W3, ((W2.setCell ⟨w.heap.size + 1, 0, none⟩ (.slice (some ⟨g, 0, none⟩) ps0.length cap)).alloc (.cells #[.slice A (kidsS x).length kc] 40)).alloc (.cells #[.slice A (kidsS x).length kc] 40) = W3 := ⟨_, rfl⟩
   rw [hW3]
   have hB3 : Below w.heap.size W2 W3 := by
    have hz2 := HQ2.out.size
    have hz0 := HS.out.be.size
    rw [← hW3]
    exact (((Below.refl _ W2).setCell (p := ⟨w.heap.size + 1, 0, none⟩) (by show w.heap.size ≤ w.heap.size + 1; omega) _).alloc (by simp [World.setCell]; omega) _).alloc (by simp [World.setCell]; omega) _
   have hK3 : Kx (w.heap.size + 1) 121 W2 W3 := by rw [← hW3]; exact (((Kx.refl _ _ W2).setCell 0 _).alloc _).alloc _
   have hs3 : W3.heap.size = W2.heap.size + 2 := by rw [← hW3]; simp [World.setCell]
   have hbx3 : W3.heap[w.heap.size + 1]? = some (.cells #[.slice (some ⟨g, 0, none⟩) ps0.length cap] 138) := by
    rw [← hW3, Below.heap_alloc _ _ _ (by simp [World.setCell]; omega), Below.heap_alloc _ _ _ (by simp [World.setCell]; omega)]
    exact Boxed.set (t := 138) _ hBX.out
   have hkb3 : W3.heap[W2.heap.size]? = some (.cells #[.slice A (kidsS x).length kc] 40) := by
    rw [← hW3, Below.heap_alloc _ _ _ (by simp [World.setCell])]
    have := heap_new (W2.setCell ⟨w.heap.size + 1, 0, none⟩ (.slice (some ⟨g, 0, none⟩) ps0.length cap)) (.cells #[.slice A (kidsS x).length kc] 40)
    simpa [World.setCell] using this
   have hkc3 : W3.heap[W2.heap.size + 1]? = some (.cells #[.slice A (kidsS x).length kc] 40) := by
    rw [← hW3]
    have := heap_new ((W2.setCell ⟨w.heap.size + 1, 0, none⟩ (.slice (some ⟨g, 0, none⟩) ps0.length cap)).alloc (.cells #[.slice A (kidsS x).length kc] 40)) (.cells #[.slice A (kidsS x).length kc] 40)
    simpa [World.setCell] using this
   have hrow3 : W3.ownsRow w.heap.size 121 1 (.slice (some ⟨g, 0, none⟩) ps0.length cap) ps0.length ps0 := by
    have hr := HR.out
    rcases hr.2 with ⟨h1, _⟩ | ⟨g', cap', cur, h1, h2, h3, h4⟩
    ·cases h1
    ·refine ⟨hr.1, .inr ⟨g', cap', cur, h1, h2, ?_, h4⟩⟩
     have h5 := HQ2.out.block g' _ h3 (fun e => by
      obtain ⟨_, cc, hc⟩ := HS.out.wr.at_
      rw [← e, h3] at hc
      injection hc with hc
      injection hc with _ hc _
      revert hc; decide) (fun c z e => by injection e with _ e _; revert e; decide)
     rw [← hW3, Below.heap_alloc _ _ _ (by simp [World.setCell]; have := (Array.getElem?_eq_some_iff.1 h5).1; omega), Below.heap_alloc _ _ _ (by simp [World.setCell]; exact (Array.getElem?_eq_some_iff.1 h5).1), Below.heap_setCell _ _ _ _ (fun e => by
      have e2 : g' = w.heap.size + 1 := e
      rw [e2] at h3
      rw [HS.out.box] at h3
      injection h3 with h3
      injection h3 with _ h3 _
      revert h3; decide)]
     exact h5
   clear hW3
   have hlk : (kidsS x).length ≤ 1000000000000 := by
    have h1 := congrArg List.length HT.out
    have h2 := flat_ge (stT_pos T) (kidsS x)
    simp only [List.length_append] at h1
    omega
   have hlt0 : (ps0.length + (kidsS x).length : Nat) ≤ 1000000000000 := by
    have h1 := congrArg List.length HT.out
    have h2 := flat_ge (stT_pos T) (kidsS x)
    have h3 := flat_ge (stT_pos T) st0.reverse
    have h4 := HL.out
    simp only [List.length_append, List.length_reverse] at h1 h3
    omega
   have hk3 := HK.out.keep (bl_keep (hB3.mono hBw)) hB3.size
   have hN3 : w.heap.size ≤ W3.heap.size := by have := HQ2.out.size; have := HS.out.be.size; omega
   obtain ⟨gk, ok, cs, hgk, hA, hcs⟩ := hk3.fin (w.heap.size + 1) (Array.getElem?_eq_some_iff.1 hbx3).1
   obtain ⟨ptr, hptr⟩ : ∃ ptr : Fin (kidsS x).length → Value, ptr = fun j => .pointer (some ⟨gk, ok + j.val * 10, none⟩) := ⟨_, rfl⟩
   have hrow3' : W3.ownsRow w.heap.size 121 1 (.slice (some ⟨g, 0, none⟩) ps0.length cap) (ps0.length + ([] : List (Fin (kidsS x).length)).length) (ps0 ++ ([] : List (Fin (kidsS x).length)).map ptr) := by simpa using hrow3
   refine wpIn_rangeFunc_ownG (α := Fin (kidsS x).length) rfl (by omega) (gf := 97) (lb := #[.pointer (some ⟨W2.heap.size + 1, 0, none⟩)]) rfl trivial (enters_of Tryz.func97 (by kernel_rfl) rfl)
    (bwS_stops Fence.wide 8 trivial rfl (by omega) (W2.heap.size + 1) gk ok (kidsS x).length kc A cs (by omega) W3 hgk (fun h => (hA h).1) hkc3 hcs) kb_t (kb_b (by omega) hgk) (Below.refl _ _) (fun _ => rfl)
    (fun pre W => (∃ v, Boxed W (w.heap.size + 1) 138 v ∧ W.ownsRow w.heap.size 121 1 v (ps0.length + pre.length) (ps0 ++ pre.map ptr) ∧ True) ∧ Kx (w.heap.size + 1) 121 W3 W ∧ Below w.heap.size W3 W)
    (fun _ _ _ => False)
    (OwnFrom.and (Own.from (holdsRow_own w.heap.size (w.heap.size + 1) 138 121 1 (fun pre : List (Fin (kidsS x).length) => ps0.length + pre.length) (fun pre => ps0 ++ pre.map ptr) (fun _ _ => True)) _) (OwnFrom.and (ownFrom_kx (Nat.le_refl _)) (ownFrom_below hN3 hN3)))
    (fun _ _ _ _ _ hs _ _ => hs)
    ⟨⟨_, hbx3, hrow3', trivial⟩, Kx.refl _ _ _, Below.refl _ _⟩
    (fun j => { tmps := #[.pointer (some ⟨g0, o0, none⟩), .func (.func 55) #[] #[.pointer (some ⟨bw, 0, none⟩)], undef, undef, .pointer (some ⟨w.heap.size + 1, 0, none⟩), .int .i64 (ps0.length : Int), .pointer (some ⟨W2.heap.size, 0, none⟩), .int .i64 (j.val : Int), .pointer (some ⟨g0, o0, none⟩), .slice (some ⟨w.heap.size, 0, none⟩) 1 1, .slice (some ⟨g, 0, none⟩) (ps0.length + 1) cap, .int .i64 ((ps0.length : Int) + 1), .bool true, .slice (some ⟨g, 0, none⟩) (ps0.length + 1) cap, .int .i64 ((ps0.length : Int) + 1), .int .i64 (ps0.length : Int), .func (.func 55) #[] #[.pointer (some ⟨bw, 0, none⟩)], .slice (some ⟨g, 0, none⟩) (ps0.length + 1) cap, .int .i64 (ps0.length : Int), .pointer (some ⟨g, ps0.length, none⟩), .pointer (some ⟨gx, ox, none⟩), .slice A (kidsS x).length kc, .slice (some ⟨g, 0, none⟩) (ps0.length + 1) cap, .int .i64 (ps0.length : Int), .slice (some ⟨g, 0, none⟩) ps0.length cap, .slice A (kidsS x).length kc, .func (.func 97) #[] #[.pointer (some ⟨W2.heap.size + 1, 0, none⟩)], .int .i64 (j.val : Int), .agg (cs j), undef, undef, undef, undef, undef, undef], defers := [] }) ?assign ?body ?done ?stop
   case assign =>
    intro l j W K hK
    gi_wp2
    exact hK
   case stop =>
    rintro D c pre W _ _ h _
    exact h.elim
   case body =>
    rintro l pre j W ⟨⟨v, hv, hrow, -⟩, hkx, hbe⟩ hlt
    obtain ⟨hA1, hA2⟩ := hA (by have := j.isLt; omega)
    have hz3 := hbe.size
    have hkb := hkx.block _ _ hkb3 (by omega) (fun c z e => by injection e with _ e _; revert e; decide)
    have hkc := hkx.block _ _ hkc3 (by omega) (fun c z e => by injection e with _ e _; revert e; decide)
    have c1 : W.cell? ⟨W2.heap.size, 0, none⟩ = some (.slice (some ⟨gk, ok, none⟩) (kidsS x).length kc) := by rw [← hA1]; simp [World.cell?, hkb]
    have c2 : W.cell? ⟨w.heap.size + 1, 0, none⟩ = some v := hv.cell
    have hlW2 : W2.heap.size < W.heap.size := by omega
    have hlBt : w.heap.size + 1 < W.heap.size := by omega
    obtain ⟨i0, hi, hz0, hz1, hz2⟩ := info_parts (show (Tryz.prog.info? 121).map (fun i => (i.zero, i.size, i.bytes)) = some (some (.pointer none), 1, 8) by kernel_rfl)
    have hjl : (j.val : Int) < ((kidsS x).length : Int) := by have := j.isLt; omega
    have hj0 : (0 : Int) ≤ (j.val : Int) := by omega
    have hN0 : w.heap.size ≤ W.drew.heap.size := by show w.heap.size ≤ W.heap.size; omega
    have hpj : ptr j = .pointer (some ⟨gk, ok + j.val * 10, none⟩) := by rw [hptr]
    obtain ⟨v', W5, hrun, hown', hgrow, -⟩ := run_append_own (P := Tryz.prog) (W.drew.alloc (.cells #[ptr j] 121)) w.heap.size 138 138 121 i0 (.pointer none) 1 8 (by kernel_rfl) hi hz0 hz1 hz2 rfl (by decide) v (ps0.length + pre.length) (ps0 ++ pre.map ptr)
     (World.ownsRow.alloc (w := W.drew) hrow _) ⟨W.heap.size, 0, none⟩ 1 1 [ptr j] rfl (cell_one_new W.drew _ _) (by rw [hpj]; simp [Value.oneCell']) (by unfold maxLen; omega) (by omega) (by simp; omega)
    obtain ⟨g', cap', rfl⟩ := ownsRow_succ hown'
    obtain ⟨hv1, hv2, hr2, hk2, hb2'⟩ := Boxed.appended (W := W.drew) (n₀ := w.heap.size) hv (by decide) hrow hN0 (by omega) hown' hgrow
    have hc5 := hv1.cell
    have hf5 := hv1.frozen
    have hK5 : Kx (w.heap.size + 1) 121 W (W5.setCell ⟨w.heap.size + 1, 0, none⟩ (.slice (some ⟨g', 0, none⟩) (ps0.length + pre.length + 1) cap')) :=
     ((((Kx.refl _ _ W).drew).alloc _).grown hgrow (fun k hk => by obtain ⟨_, _, cs', fr, h⟩ := own_typ (World.ownsRow.alloc (w := W.drew) hrow (.cells #[ptr j] 121)) k hk; exact ⟨cs', fr, h⟩)).setCell 0 _
    rw [hpj] at hrun
    have mixed : Tryz.prog.follows .mixedOrders = true := by kernel_rfl
    have HR1 := Lib.hid hrun
    have H1 := Lib.hid hkx
    have H2 := Lib.hid hbe
    have H3 := Lib.hid hown'
    have H4 := Lib.hid hgrow
    have H5 := Lib.hid hr2
    have H6 := Lib.hid hk2
    have H7 := Lib.hid hb2'
    have H8 := Lib.hid hK5
    have H9 := Lib.hid hkc
    have H10 := Lib.hid hA
    have H11 := Lib.hid hcs
    clear hkx hbe hown' hgrow hr2 hk2 hb2' hK5 hrow hA hcs hkb hkc hv hrow3' hrow3 hv1 hpj hA1
    have hb5 : Below w.heap.size W (W5.setCell ⟨w.heap.size + 1, 0, none⟩ (.slice (some ⟨g', 0, none⟩) (ps0.length + pre.length + 1) cap')) := ((Below.refl _ W).drew).trans H7.out
    have hfin : Hid (KeepsFrom W3.heap.size W (W5.setCell ⟨w.heap.size + 1, 0, none⟩ (.slice (some ⟨g', 0, none⟩) (ps0.length + pre.length + 1) cap')) ∧ Kb (W2.heap.size + 1) gk W (W5.setCell ⟨w.heap.size + 1, 0, none⟩ (.slice (some ⟨g', 0, none⟩) (ps0.length + pre.length + 1) cap')) ∧ (∃ v, Boxed (W5.setCell ⟨w.heap.size + 1, 0, none⟩ (.slice (some ⟨g', 0, none⟩) (ps0.length + pre.length + 1) cap')) (w.heap.size + 1) 138 v ∧ World.ownsRow (W5.setCell ⟨w.heap.size + 1, 0, none⟩ (.slice (some ⟨g', 0, none⟩) (ps0.length + pre.length + 1) cap')) w.heap.size 121 1 v (ps0.length + (pre ++ [j]).length) (ps0 ++ (pre ++ [j]).map ptr) ∧ True) ∧ Kx (w.heap.size + 1) 121 W3 (W5.setCell ⟨w.heap.size + 1, 0, none⟩ (.slice (some ⟨g', 0, none⟩) (ps0.length + pre.length + 1) cap')) ∧ Below w.heap.size W3 (W5.setCell ⟨w.heap.size + 1, 0, none⟩ (.slice (some ⟨g', 0, none⟩) (ps0.length + pre.length + 1) cap'))) :=
     Lib.hid ⟨((KeepsOthers.drew W).trans H6.out).from _, ⟨(H8.out.block _ _ H9.out (by omega) (fun c z e => by injection e with _ e _; revert e; decide)).trans H9.out.symm, hb5.block gk (Nat.lt_of_lt_of_le hA2 hBw)⟩,
      ⟨⟨_, hv2, by simpa [Nat.add_assoc] using H5.out, trivial⟩, H1.out.trans H8.out, H2.out.trans hb5⟩⟩
    clear hb5
    gi_wp2
    refine wpIn_region_any mixed ?_
    change wpAnyIn _ _ _ _ _ _ _ _ _ (World.drew _)
    refine wpAnyIn_ready (rs := [0, 1, 2]) (by kernel_rfl) (by simp) ?_
    refine (AllReadyIn.cons rfl (fun K hK => ?_) (AllReadyIn.cons rfl (fun K hK => ?_) (AllReadyIn.cons rfl (fun K hK => ?_) AllReadyIn.nil)))
    ·go_simp
     refine hK _ _ ?_
     clear hK K
     (try simp only [Act.put, sZa, sZb, sZc])
     refine wpAnyIn_ready (rs := [1, 2]) (by kernel_rfl) (by simp) ?_
     refine (AllReadyIn.cons rfl (fun K hK => ?_) (AllReadyIn.cons rfl (fun K hK => ?_) AllReadyIn.nil))
     ·go_simp
      refine hK _ _ ?_
      clear hK K
      (try simp only [Act.put, sZa, sZb, sZc])
      refine wpAnyIn_ready (rs := [2]) (by kernel_rfl) (by simp) ?_
      refine (AllReadyIn.cons rfl (fun K hK => ?_) AllReadyIn.nil)
      go_simp
      refine hK _ _ ?_
      clear hK K
      (try simp only [Act.put, sZa, sZb, sZc])
      refine wpAnyIn_ready (rs := [3]) (by kernel_rfl) (by simp) ?_
      refine (AllReadyIn.cons rfl (fun K hK => ?_) AllReadyIn.nil)
      go_simp
      refine hK _ _ ?_
      clear hK K
      (try simp only [Act.put, sZa, sZb, sZc])
      refine wpAnyIn_ready (rs := [4]) (by kernel_rfl) (by simp) ?_
      refine (AllReadyIn.cons rfl (fun K hK => ?_) AllReadyIn.nil)
      go_simp
      refine hK _ _ ?_
      clear hK K
      (try simp only [Act.put, sZa, sZb, sZc])
      refine wpAnyIn_ready (rs := [5]) (by kernel_rfl) (by simp) ?_
      refine (AllReadyIn.cons rfl (fun K hK => ?_) AllReadyIn.nil)
      rw [if_pos (by rfl)]
      refine wpIn_app (.tmp 29) (.tmp 33) 138 rfl _ _ _ rfl rfl HR1.out ?_
      refine hK _ _ ?_
      clear hK K
      (try simp only [Act.put, sZa, sZb, sZc])
      refine wpAnyIn_ready (rs := [6]) (by kernel_rfl) (by simp) ?_
      refine (AllReadyIn.cons rfl (fun K hK => ?_) AllReadyIn.nil)
      go_simp
      refine hK _ _ ?_
      clear hK K
      (try simp only [Act.put, sZa, sZb, sZc])
      refine wpAnyIn_done (by kernel_rfl) ?_ _
      exact hfin.out
     ·go_simp
      refine hK _ _ ?_
      clear hK K
      (try simp only [Act.put, sZa, sZb, sZc])
      refine wpAnyIn_ready (rs := [1]) (by kernel_rfl) (by simp) ?_
      refine (AllReadyIn.cons rfl (fun K hK => ?_) AllReadyIn.nil)
      go_simp
      refine hK _ _ ?_
      clear hK K
      (try simp only [Act.put, sZa, sZb, sZc])
      refine wpAnyIn_ready (rs := [3]) (by kernel_rfl) (by simp) ?_
      refine (AllReadyIn.cons rfl (fun K hK => ?_) AllReadyIn.nil)
      go_simp
      refine hK _ _ ?_
      clear hK K
      (try simp only [Act.put, sZa, sZb, sZc])
      refine wpAnyIn_ready (rs := [4]) (by kernel_rfl) (by simp) ?_
      refine (AllReadyIn.cons rfl (fun K hK => ?_) AllReadyIn.nil)
      go_simp
      refine hK _ _ ?_
      clear hK K
      (try simp only [Act.put, sZa, sZb, sZc])
      refine wpAnyIn_ready (rs := [5]) (by kernel_rfl) (by simp) ?_
      refine (AllReadyIn.cons rfl (fun K hK => ?_) AllReadyIn.nil)
      rw [if_pos (by rfl)]
      refine wpIn_app (.tmp 29) (.tmp 33) 138 rfl _ _ _ rfl rfl HR1.out ?_
      refine hK _ _ ?_
      clear hK K
      (try simp only [Act.put, sZa, sZb, sZc])
      refine wpAnyIn_ready (rs := [6]) (by kernel_rfl) (by simp) ?_
      refine (AllReadyIn.cons rfl (fun K hK => ?_) AllReadyIn.nil)
      go_simp
      refine hK _ _ ?_
      clear hK K
      (try simp only [Act.put, sZa, sZb, sZc])
      refine wpAnyIn_done (by kernel_rfl) ?_ _
      exact hfin.out
    ·go_simp
     refine hK _ _ ?_
     clear hK K
     (try simp only [Act.put, sZa, sZb, sZc])
     refine wpAnyIn_ready (rs := [0, 2]) (by kernel_rfl) (by simp) ?_
     refine (AllReadyIn.cons rfl (fun K hK => ?_) (AllReadyIn.cons rfl (fun K hK => ?_) AllReadyIn.nil))
     ·go_simp
      refine hK _ _ ?_
      clear hK K
      (try simp only [Act.put, sZa, sZb, sZc])
      refine wpAnyIn_ready (rs := [2]) (by kernel_rfl) (by simp) ?_
      refine (AllReadyIn.cons rfl (fun K hK => ?_) AllReadyIn.nil)
      go_simp
      refine hK _ _ ?_
      clear hK K
      (try simp only [Act.put, sZa, sZb, sZc])
      refine wpAnyIn_ready (rs := [3]) (by kernel_rfl) (by simp) ?_
      refine (AllReadyIn.cons rfl (fun K hK => ?_) AllReadyIn.nil)
      go_simp
      refine hK _ _ ?_
      clear hK K
      (try simp only [Act.put, sZa, sZb, sZc])
      refine wpAnyIn_ready (rs := [4]) (by kernel_rfl) (by simp) ?_
      refine (AllReadyIn.cons rfl (fun K hK => ?_) AllReadyIn.nil)
      go_simp
      refine hK _ _ ?_
      clear hK K
      (try simp only [Act.put, sZa, sZb, sZc])
      refine wpAnyIn_ready (rs := [5]) (by kernel_rfl) (by simp) ?_
      refine (AllReadyIn.cons rfl (fun K hK => ?_) AllReadyIn.nil)
      rw [if_pos (by rfl)]
      refine wpIn_app (.tmp 29) (.tmp 33) 138 rfl _ _ _ rfl rfl HR1.out ?_
      refine hK _ _ ?_
      clear hK K
      (try simp only [Act.put, sZa, sZb, sZc])
      refine wpAnyIn_ready (rs := [6]) (by kernel_rfl) (by simp) ?_
      refine (AllReadyIn.cons rfl (fun K hK => ?_) AllReadyIn.nil)
      go_simp
      refine hK _ _ ?_
      clear hK K
      (try simp only [Act.put, sZa, sZb, sZc])
      refine wpAnyIn_done (by kernel_rfl) ?_ _
      exact hfin.out
     ·go_simp
      refine hK _ _ ?_
      clear hK K
      (try simp only [Act.put, sZa, sZb, sZc])
      refine wpAnyIn_ready (rs := [0, 3]) (by kernel_rfl) (by simp) ?_
      refine (AllReadyIn.cons rfl (fun K hK => ?_) (AllReadyIn.cons rfl (fun K hK => ?_) AllReadyIn.nil))
      ·go_simp
       refine hK _ _ ?_
       clear hK K
       (try simp only [Act.put, sZa, sZb, sZc])
       refine wpAnyIn_ready (rs := [3]) (by kernel_rfl) (by simp) ?_
       refine (AllReadyIn.cons rfl (fun K hK => ?_) AllReadyIn.nil)
       go_simp
       refine hK _ _ ?_
       clear hK K
       (try simp only [Act.put, sZa, sZb, sZc])
       refine wpAnyIn_ready (rs := [4]) (by kernel_rfl) (by simp) ?_
       refine (AllReadyIn.cons rfl (fun K hK => ?_) AllReadyIn.nil)
       go_simp
       refine hK _ _ ?_
       clear hK K
       (try simp only [Act.put, sZa, sZb, sZc])
       refine wpAnyIn_ready (rs := [5]) (by kernel_rfl) (by simp) ?_
       refine (AllReadyIn.cons rfl (fun K hK => ?_) AllReadyIn.nil)
       rw [if_pos (by rfl)]
       refine wpIn_app (.tmp 29) (.tmp 33) 138 rfl _ _ _ rfl rfl HR1.out ?_
       refine hK _ _ ?_
       clear hK K
       (try simp only [Act.put, sZa, sZb, sZc])
       refine wpAnyIn_ready (rs := [6]) (by kernel_rfl) (by simp) ?_
       refine (AllReadyIn.cons rfl (fun K hK => ?_) AllReadyIn.nil)
       go_simp
       refine hK _ _ ?_
       clear hK K
       (try simp only [Act.put, sZa, sZb, sZc])
       refine wpAnyIn_done (by kernel_rfl) ?_ _
       exact hfin.out
      ·go_simp
       refine hK _ _ ?_
       clear hK K
       (try simp only [Act.put, sZa, sZb, sZc])
       refine wpAnyIn_ready (rs := [0, 4]) (by kernel_rfl) (by simp) ?_
       refine (AllReadyIn.cons rfl (fun K hK => ?_) (AllReadyIn.cons rfl (fun K hK => ?_) AllReadyIn.nil))
       ·go_simp
        refine hK _ _ ?_
        clear hK K
        (try simp only [Act.put, sZa, sZb, sZc])
        refine wpAnyIn_ready (rs := [4]) (by kernel_rfl) (by simp) ?_
        refine (AllReadyIn.cons rfl (fun K hK => ?_) AllReadyIn.nil)
        go_simp
        refine hK _ _ ?_
        clear hK K
        (try simp only [Act.put, sZa, sZb, sZc])
        refine wpAnyIn_ready (rs := [5]) (by kernel_rfl) (by simp) ?_
        refine (AllReadyIn.cons rfl (fun K hK => ?_) AllReadyIn.nil)
        rw [if_pos (by rfl)]
        refine wpIn_app (.tmp 29) (.tmp 33) 138 rfl _ _ _ rfl rfl HR1.out ?_
        refine hK _ _ ?_
        clear hK K
        (try simp only [Act.put, sZa, sZb, sZc])
        refine wpAnyIn_ready (rs := [6]) (by kernel_rfl) (by simp) ?_
        refine (AllReadyIn.cons rfl (fun K hK => ?_) AllReadyIn.nil)
        go_simp
        refine hK _ _ ?_
        clear hK K
        (try simp only [Act.put, sZa, sZb, sZc])
        refine wpAnyIn_done (by kernel_rfl) ?_ _
        exact hfin.out
       ·go_simp
        refine hK _ _ ?_
        clear hK K
        (try simp only [Act.put, sZa, sZb, sZc])
        refine wpAnyIn_ready (rs := [0]) (by kernel_rfl) (by simp) ?_
        refine (AllReadyIn.cons rfl (fun K hK => ?_) AllReadyIn.nil)
        go_simp
        refine hK _ _ ?_
        clear hK K
        (try simp only [Act.put, sZa, sZb, sZc])
        refine wpAnyIn_ready (rs := [5]) (by kernel_rfl) (by simp) ?_
        refine (AllReadyIn.cons rfl (fun K hK => ?_) AllReadyIn.nil)
        rw [if_pos (by rfl)]
        refine wpIn_app (.tmp 29) (.tmp 33) 138 rfl _ _ _ rfl rfl HR1.out ?_
        refine hK _ _ ?_
        clear hK K
        (try simp only [Act.put, sZa, sZb, sZc])
        refine wpAnyIn_ready (rs := [6]) (by kernel_rfl) (by simp) ?_
        refine (AllReadyIn.cons rfl (fun K hK => ?_) AllReadyIn.nil)
        go_simp
        refine hK _ _ ?_
        clear hK K
        (try simp only [Act.put, sZa, sZb, sZc])
        refine wpAnyIn_done (by kernel_rfl) ?_ _
        exact hfin.out
    ·go_simp
     refine hK _ _ ?_
     clear hK K
     (try simp only [Act.put, sZa, sZb, sZc])
     refine wpAnyIn_ready (rs := [0, 1]) (by kernel_rfl) (by simp) ?_
     refine (AllReadyIn.cons rfl (fun K hK => ?_) (AllReadyIn.cons rfl (fun K hK => ?_) AllReadyIn.nil))
     ·go_simp
      refine hK _ _ ?_
      clear hK K
      (try simp only [Act.put, sZa, sZb, sZc])
      refine wpAnyIn_ready (rs := [1]) (by kernel_rfl) (by simp) ?_
      refine (AllReadyIn.cons rfl (fun K hK => ?_) AllReadyIn.nil)
      go_simp
      refine hK _ _ ?_
      clear hK K
      (try simp only [Act.put, sZa, sZb, sZc])
      refine wpAnyIn_ready (rs := [3]) (by kernel_rfl) (by simp) ?_
      refine (AllReadyIn.cons rfl (fun K hK => ?_) AllReadyIn.nil)
      go_simp
      refine hK _ _ ?_
      clear hK K
      (try simp only [Act.put, sZa, sZb, sZc])
      refine wpAnyIn_ready (rs := [4]) (by kernel_rfl) (by simp) ?_
      refine (AllReadyIn.cons rfl (fun K hK => ?_) AllReadyIn.nil)
      go_simp
      refine hK _ _ ?_
      clear hK K
      (try simp only [Act.put, sZa, sZb, sZc])
      refine wpAnyIn_ready (rs := [5]) (by kernel_rfl) (by simp) ?_
      refine (AllReadyIn.cons rfl (fun K hK => ?_) AllReadyIn.nil)
      rw [if_pos (by rfl)]
      refine wpIn_app (.tmp 29) (.tmp 33) 138 rfl _ _ _ rfl rfl HR1.out ?_
      refine hK _ _ ?_
      clear hK K
      (try simp only [Act.put, sZa, sZb, sZc])
      refine wpAnyIn_ready (rs := [6]) (by kernel_rfl) (by simp) ?_
      refine (AllReadyIn.cons rfl (fun K hK => ?_) AllReadyIn.nil)
      go_simp
      refine hK _ _ ?_
      clear hK K
      (try simp only [Act.put, sZa, sZb, sZc])
      refine wpAnyIn_done (by kernel_rfl) ?_ _
      exact hfin.out
     ·go_simp
      refine hK _ _ ?_
      clear hK K
      (try simp only [Act.put, sZa, sZb, sZc])
      refine wpAnyIn_ready (rs := [0, 3]) (by kernel_rfl) (by simp) ?_
      refine (AllReadyIn.cons rfl (fun K hK => ?_) (AllReadyIn.cons rfl (fun K hK => ?_) AllReadyIn.nil))
      ·go_simp
       refine hK _ _ ?_
       clear hK K
       (try simp only [Act.put, sZa, sZb, sZc])
       refine wpAnyIn_ready (rs := [3]) (by kernel_rfl) (by simp) ?_
       refine (AllReadyIn.cons rfl (fun K hK => ?_) AllReadyIn.nil)
       go_simp
       refine hK _ _ ?_
       clear hK K
       (try simp only [Act.put, sZa, sZb, sZc])
       refine wpAnyIn_ready (rs := [4]) (by kernel_rfl) (by simp) ?_
       refine (AllReadyIn.cons rfl (fun K hK => ?_) AllReadyIn.nil)
       go_simp
       refine hK _ _ ?_
       clear hK K
       (try simp only [Act.put, sZa, sZb, sZc])
       refine wpAnyIn_ready (rs := [5]) (by kernel_rfl) (by simp) ?_
       refine (AllReadyIn.cons rfl (fun K hK => ?_) AllReadyIn.nil)
       rw [if_pos (by rfl)]
       refine wpIn_app (.tmp 29) (.tmp 33) 138 rfl _ _ _ rfl rfl HR1.out ?_
       refine hK _ _ ?_
       clear hK K
       (try simp only [Act.put, sZa, sZb, sZc])
       refine wpAnyIn_ready (rs := [6]) (by kernel_rfl) (by simp) ?_
       refine (AllReadyIn.cons rfl (fun K hK => ?_) AllReadyIn.nil)
       go_simp
       refine hK _ _ ?_
       clear hK K
       (try simp only [Act.put, sZa, sZb, sZc])
       refine wpAnyIn_done (by kernel_rfl) ?_ _
       exact hfin.out
      ·go_simp
       refine hK _ _ ?_
       clear hK K
       (try simp only [Act.put, sZa, sZb, sZc])
       refine wpAnyIn_ready (rs := [0, 4]) (by kernel_rfl) (by simp) ?_
       refine (AllReadyIn.cons rfl (fun K hK => ?_) (AllReadyIn.cons rfl (fun K hK => ?_) AllReadyIn.nil))
       ·go_simp
        refine hK _ _ ?_
        clear hK K
        (try simp only [Act.put, sZa, sZb, sZc])
        refine wpAnyIn_ready (rs := [4]) (by kernel_rfl) (by simp) ?_
        refine (AllReadyIn.cons rfl (fun K hK => ?_) AllReadyIn.nil)
        go_simp
        refine hK _ _ ?_
        clear hK K
        (try simp only [Act.put, sZa, sZb, sZc])
        refine wpAnyIn_ready (rs := [5]) (by kernel_rfl) (by simp) ?_
        refine (AllReadyIn.cons rfl (fun K hK => ?_) AllReadyIn.nil)
        rw [if_pos (by rfl)]
        refine wpIn_app (.tmp 29) (.tmp 33) 138 rfl _ _ _ rfl rfl HR1.out ?_
        refine hK _ _ ?_
        clear hK K
        (try simp only [Act.put, sZa, sZb, sZc])
        refine wpAnyIn_ready (rs := [6]) (by kernel_rfl) (by simp) ?_
        refine (AllReadyIn.cons rfl (fun K hK => ?_) AllReadyIn.nil)
        go_simp
        refine hK _ _ ?_
        clear hK K
        (try simp only [Act.put, sZa, sZb, sZc])
        refine wpAnyIn_done (by kernel_rfl) ?_ _
        exact hfin.out
       ·go_simp
        refine hK _ _ ?_
        clear hK K
        (try simp only [Act.put, sZa, sZb, sZc])
        refine wpAnyIn_ready (rs := [0]) (by kernel_rfl) (by simp) ?_
        refine (AllReadyIn.cons rfl (fun K hK => ?_) AllReadyIn.nil)
        go_simp
        refine hK _ _ ?_
        clear hK K
        (try simp only [Act.put, sZa, sZb, sZc])
        refine wpAnyIn_ready (rs := [5]) (by kernel_rfl) (by simp) ?_
        refine (AllReadyIn.cons rfl (fun K hK => ?_) AllReadyIn.nil)
        rw [if_pos (by rfl)]
        refine wpIn_app (.tmp 29) (.tmp 33) 138 rfl _ _ _ rfl rfl HR1.out ?_
        refine hK _ _ ?_
        clear hK K
        (try simp only [Act.put, sZa, sZb, sZc])
        refine wpAnyIn_ready (rs := [6]) (by kernel_rfl) (by simp) ?_
        refine (AllReadyIn.cons rfl (fun K hK => ?_) AllReadyIn.nil)
        go_simp
        refine hK _ _ ?_
        clear hK K
        (try simp only [Act.put, sZa, sZb, sZc])
        refine wpAnyIn_done (by kernel_rfl) ?_ _
        exact hfin.out
   case done =>
    rintro D ys W hD rfl ⟨⟨v, hv, hrow, -⟩, hkx, hbe⟩ hK
    gi_wp2
    have be2 : Below w.heap.size W2 W := hB3.trans hbe
    have kx2 : Kx (w.heap.size + 1) 121 W2 W := hK3.trans hkx
    have hbl := (Array.getElem?_eq_some_iff.1 HBW.out).1
    have hneb : bw ≠ b := fun e => by
     obtain ⟨_, cc, hc⟩ := HW.out.at_
     rw [← e, HBW.out] at hc
     injection hc with hc
     injection hc with _ hc _
     revert hc; decide
    have wrW : Wr T B b (X ++ ownS T x) W := HW2.out.kx kx2 (be2.mono hBw) ⟨_, by first | exact .inl hBX.out | exact .inr hBX.out⟩ (by decide) (by decide)
    have hbw : W.heap[bw]? = some (.cells #[.pointer (some ⟨b, 0, none⟩)] 90) := (be2.block bw hbl).trans (HQ2.out.block bw _ HS.out.bw hneb (fun c z e => by injection e with _ e _; revert e; decide))
    have tqW : Tq b w W := ⟨Nat.le_trans HS.out.tq.size (Nat.le_trans HQ2.out.size be2.size), fun k o ho h1 h2 => (be2.block k (Array.getElem?_eq_some_iff.1 ho).1).trans (HQ2.out.block k o (HS.out.tq.block k o ho h1 h2) h1 h2)⟩
    have hM2 : Marks w.heap.size Ds W2 := HM.out.keep fun D hD hd => HQ2.out.block D _ hd (fun e => by
     obtain ⟨_, cc, hc⟩ := HS.out.wr.at_
     rw [← e, hd] at hc
     injection hc with hc
     cases hc) (fun c z e => by cases e)
    have hM3 : Marks w.heap.size Ds W3 := hM2.kx hK3 ⟨_, _, hBX.out⟩
    have hMW : Marks w.heap.size Ds W := hM3.kx hkx ⟨_, _, hbx3⟩
    have hMD := hM3.cons hMW hD hN3 hK
    have hfk := skS_all (fS_kids hfx)
    have hpt : ∀ (i : Nat) (y : PSt) (p : Value), (st0 ++ (kidsS x).reverse)[i]? = some y → (ps0 ++ (bwL (kidsS x).length).map ptr)[i]? = some p → PtA stA W (Bl B) p y ∧ fS y := fun i y p hy hpp => by
     have hl0 := HL.out
     by_cases hi : i < st0.length
     ·rw [List.getElem?_append_left hi] at hy
      rw [List.getElem?_append_left (by omega)] at hpp
      obtain ⟨h1, h2⟩ := HS.out.pt i y p (by rw [List.getElem?_append_left hi]; exact hy) (by rw [List.getElem?_append_left (by omega)]; exact hpp)
      exact ⟨h1.keep (bl_keep (HB2.out.trans (be2.mono hBw))) (Nat.le_trans HB2.out.size be2.size), h2⟩
     ·rw [List.getElem?_append_right (by omega)] at hy
      rw [List.getElem?_append_right (by omega), hl0] at hpp
      generalize i - st0.length = m at *
      have hm : m < (kidsS x).length := by have := (List.getElem?_eq_some_iff.1 hy).1; simpa using this
      have hbm := bwL_get (kidsS x).length ((kidsS x).length - 1 - m) (by omega)
      rw [show (kidsS x).length - ((kidsS x).length - 1 - m + 1) = m by omega] at hbm
      rw [List.getElem?_map, hbm] at hpp
      simp only [Option.map_some, Option.some.injEq] at hpp
      subst hpp
      rw [List.getElem?_reverse hm] at hy
      obtain ⟨rfl, -⟩ := hA (by omega)
      have hk4 := hk3.keep (bl_keep (hbe.mono hBw)) hbe.size
      refine ⟨?_, hfk y (List.mem_of_getElem? hy)⟩
      rw [hptr]
      exact hk4.pt _ hy
    refine ⟨⟨_, _, _, _, _, _, _, _, _, _, _, _, _, _, _, _, _, _, _, D :: Ds, st0 ++ (kidsS x).reverse, ps0 ++ (bwL (kidsS x).length).map ptr, v, X ++ ownS T x, ⟨hv, by simpa using hrow, by simp [bwL_len, HL.out], hpt, wrW, ?tx, HS.out.be.trans (HB2.out.trans (be2.mono hBw)), tqW, hbw⟩, hMD, rfl⟩, ?mu⟩
    case tx =>
     rw [List.reverse_append, List.reverse_reverse, List.flatMap_append, ← HT.out]
     simp only [List.append_assoc]
    case mu =>
     rw [wrW.len, HS.out.wr.len, List.length_append]
     have := ownS_pos T x
     have h1 := congrArg List.length HT.out
     simp only [List.length_append] at h1
     omega
theorem walkS_any (T : PrintTabs) (B b bw : Nat) (x0 : PSt) (p0 : Value) (X0 : List UInt8) (w : World) (hT : TellS T B b bw) (h : Wr T B b X0 w) (hbw : w.heap[bw]? = some (.cells #[.pointer (some ⟨b, 0, none⟩)] 90)) (hp : PtA stA w (Bl B) p0 x0) (hf : fS x0) (hlen : X0.length + (stT T x0).length ≤ 1000000000000) :
  Calls Tryz.prog 54 #[p0, .func (.func 55) #[] #[.pointer (some ⟨bw, 0, none⟩)]] w fun e w' => e = .returned (.tuple #[]) ∧ Wr T B b (X0 ++ stT T x0) w' ∧ Below B w w' ∧ Tq b w w' :=
 callsIn_wide.1 (walkS_in T B b bw x0 p0 X0 w hT h hbw hp hf hlen)
end Go.Proofs.YtfjobnljdkiihaaGreatDoor
