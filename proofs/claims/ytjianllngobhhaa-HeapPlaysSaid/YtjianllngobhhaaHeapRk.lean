/- The document's Store. Conditions: each theorem's. -/
import Derived.Test.YtjianllngobhhaaHeapRi
namespace Go.Proofs.Ytjianllngobhhaa
open Go.RowKit Go.Maps
set_option linter.unusedVariables false
set_option linter.unusedSimpArgs false
set_option maxRecDepth 100000
open Hp
theorem infoRC : (Try.prog.info? 84).map (fun i => (i.zero, i.size, i.bytes)) = some (some (.agg #[.int .i64 0, .int .u64 0, .int .i64 0, .int .i64 0, .int .i64 0, .int .i64 0]), 6, 48) := by kernel_rfl
theorem sizeRC : (Try.prog.info? 84).map (·.size) = some 6 := by kernel_rfl
/-- The boxes of Store. -/
theorem store_box {w w2 : World} {o1 o2 o3 o4 : Obj} (hb : Below (w.heap.size + 1 + 1 + 1 + 1) ((((w.alloc o1).alloc o2).alloc o3).alloc o4) w2) :
    w2.heap[w.heap.size]? = some o1 ∧ w2.heap[w.heap.size + 1]? = some o2 ∧ w2.heap[w.heap.size + 1 + 1]? = some o3 ∧ w2.heap[w.heap.size + 1 + 1 + 1]? = some o4 ∧ Below w.heap.size w w2 :=
  ⟨row_in hb (row_up (row_up (row_up (row_new rfl _) _) _) _) (by omega), row_in hb (row_up (row_up (row_new (by simp) _) _) _) (by omega), row_in hb (row_up (row_new (by simp) _) _) (by omega), row_in hb (row_new (by simp) _) (by omega),
   (((((Below.refl _ _).alloc (Nat.le_refl _) _).alloc (by simp) _).alloc (by simp; omega) _).alloc (by simp; omega) _).trans (hb.mono (by omega))⟩
/-- What stands at the loop's head. -/
structure StL (w w2 : World) (base : Nat) (bk pr : Array Value) (hv : Value) (cs T : List (Int × Val)) (row v : Value) (X : World) : Prop where
  b0 : X.heap[w.heap.size]? = some (.cells #[hv] 28)
  b1 : X.heap[w.heap.size + 1]? = some (.cells pr 39)
  b3 : X.heap[w.heap.size + 1 + 1 + 1]? = some (.cells #[.slice none 0 0] 28)
  b4 : X.heap[w2.heap.size]? = some (.cells bk 77)
  old : CelsAt X base row cs
  new : CelsAt X (w2.heap.size + 1) v T
  below : Below w.heap.size w X
  size : w2.heap.size + 1 ≤ X.heap.size
theorem StL.drewN {w w2 X : World} {base : Nat} {bk pr : Array Value} {hv row v : Value} {cs T : List (Int × Val)} (h : StL w w2 base bk pr hv cs T row v X) (k : Nat) : StL w w2 base bk pr hv cs T row v (X.drewN k) :=
  ⟨h.b0, h.b1, h.b3, h.b4, own_at h.old fun _ _ => rfl, own_at h.new fun _ _ => rfl, belowN h.below, h.size⟩
theorem take_filter {cs : List (Int × Val)} {j : Nat} (hj : j < cs.length) (f : Int × Val → Bool) : (cs.take (j + 1)).filter f = (cs.take j).filter f ++ (if f cs[j] then [cs[j]] else []) := by
  rw [List.take_succ_eq_append_getElem hj, List.filter_append]
  congr 1
  cases h : f cs[j] <;> simp [h]
theorem celsL_snoc (T : List (Int × Val)) (c : Int × Val) : celsL (T ++ [c]) = celsL T ++ celL c := by simp [celsL]
theorem StL.push {w w2 X Y : World} {base gb cap : Nat} {bk pr : Array Value} {hv row v : Value} {cs T : List (Int × Val)} (h : StL w w2 base bk pr hv cs T row v X) (c : Int × Val) (hw : w.heap.size + 1 + 1 + 1 < w2.heap.size) (ho : ∀ j, row.ownBlock = some j → j < w2.heap.size)
    (hown : Y.ownsRow (w2.heap.size + 1) 84 6 (.slice (some ⟨gb, 0, none⟩) (T.length + 1) cap) (T.length + 1) (celsL T ++ celL c)) (O : Obj) (hg : (X.alloc O).grownBy Y v.ownBlock) : StL w w2 base bk pr hv cs (T ++ [c]) row (.slice (some ⟨gb, 0, none⟩) (T.length + 1) cap) Y := by
  have hv : ∀ j, j ≤ w2.heap.size → some j ≠ v.ownBlock := fun j hj e => by have := (h.new.lt j e.symm).1; omega
  have hs := h.size
  have hk : ∀ {j : Nat} {o : Obj}, X.heap[j]? = some o → j ≤ w2.heap.size → Y.heap[j]? = some o := fun {j o} e hj => (hg.block j (by have := lt_of_at e; simp only [World.size_alloc]; omega) (hv j hj)).trans (row_up e _)
  refine ⟨hk h.b0 (by omega), hk h.b1 (by omega), hk h.b3 (by omega), hk h.b4 (Nat.le_refl _), ?_, ?_, ?_, ?_⟩
  · exact h.old.keep fun j hj => (hg.block j (by have := (h.old.lt j hj).2; simp only [World.size_alloc]; omega) (hv j (by have := ho j hj; omega))).trans (heap_alloc_old _ _ (h.old.lt j hj).2)
  · unfold CelsAt
    rw [celsL_snoc, List.length_append]
    exact hown
  · have hb := h.below
    have ha := hb.alloc hb.size O
    exact ⟨hg.os.trans ha.os, hg.tape.trans ha.tape, hg.output.trans ha.output, Nat.le_trans ha.size hg.size, fun j hj => (hg.block j (by have := ha.size; omega) (hv j (by omega))).trans (ha.block j hj)⟩
  · have := hg.size; simp only [World.size_alloc] at this; omega
theorem stl_end {w w2 X : World} {base base' : Nat} {bk pr : Array Value} {hv row v : Value} {cs : List (Int × Val)} {o : Int} {x : Val} (h : StL w w2 base bk pr hv cs ((o, x) :: cs.filter fun c => decide (c.1 ≠ o)) row v X) (hb : base' ≤ w2.heap.size) (hw : w.heap.size ≤ w2.heap.size) :
    CelsAt (X.setCell ⟨w2.heap.size, 3, none⟩ v) base' v (Hp.stored cs o x) ∧ ∀ g, g < w.heap.size → (v.ownBlock = none ∨ v.ownBlock ≠ some g) := by
  refine ⟨?_, fun g hg => .inr fun e => by have := (h.new.lt g e).1; omega⟩
  have h1 : CelsAt X base' v (Hp.stored cs o x) := ⟨h.new.1, h.new.2.imp id (fun ⟨g, cap, cur, e1, e2, r⟩ => ⟨g, cap, cur, e1, by omega, r⟩)⟩
  exact h1.keep fun j hj => Below.heap_setCell X _ v j (fun e => by have e' : j = w2.heap.size := e; have := (h.new.lt j hj).1; omega)
set_option maxHeartbeats 4000000 in
theorem rstore_any {w : World} {base : Nat} {v : Value} {l : List Rb} (p : Ptr) (hp : p.ok) (n : Int) (x : Val) (H : RfAt w base v l) (hbase : base ≤ w.heap.size) (hcs : ∀ r ∈ l, r.cs.length < 1000000) :
    Calls Try.prog 17 #[.agg #[v], p.v, .int .i64 n, x.v] w fun e w' => e = .returned (.tuple #[.agg #[v], .int .i64 (atV (rLiv l p.bl) p n)]) ∧ ∃ l', RDid w base v l v l' w' ∧ l'.length = l.length ∧ (∀ r ∈ l', ∃ r0 ∈ l, r.cs.length ≤ r0.cs.length + 1) ∧ ∀ A, Rel A l → Rel (A.store p n x) l' := by
  have HR := Lib.hid (fun (X : World) (hX : Below w.heap.size w X) => RDid.refl H hX)
  have HA := Lib.hid (fun (X : World) (hX : Below w.heap.size w X) => rat_any p hp n (H.below hX))
  have hlen := rlen H.row
  unfold maxLen at hlen
  obtain ⟨E, HE0⟩ : ∃ E, E = atV (rLiv l p.bl) p n := ⟨_, rfl⟩
  rw [← HE0] at HA ⊢
  have HE := Lib.hid HE0
  clear HE0
  have HLT := Lib.hid H.lt0
  by_cases hz : E = 0
  · have hE := HE.out
    have hL : rLiv l p.bl = true := by
      rw [hE] at hz
      unfold atV at hz
      cases hL : rLiv l p.bl
      · rw [hL] at hz
        exfalso
        revert hz
        cases wid n
        · simp
        · simp only [if_true, if_false, Bool.true_eq_false]
          split <;> simp
      · rfl
    have hB : 1 ≤ p.bl ∧ p.bl ≤ l.length := by
      by_cases h : 1 ≤ p.bl ∧ p.bl ≤ l.length
      · exact h
      · unfold rLiv at hL; rw [rbOf_none h] at hL; cases hL
    obtain ⟨k, hk, hpk, he⟩ := rbOf_some hB.1 hB.2
    have hlv : l[k].live = true := by unfold rLiv at hL; rw [he] at hL; exact hL
    have HST := Lib.hid (fun (row : Value) (A : Ab) (h : Rel A l) => (show Rel (A.store p n x) (l.set k (l[k].store row p.off x)) by
      unfold Ab.store
      rw [if_pos (by rw [h.at_, ← HE.out]; exact hz)]
      have h1 := h.store he hlv row p.off x
      rwa [hpk, show ((k : Int) + 1 - 1).toNat = k by omega, ← hpk] at h1))
    obtain ⟨g, cap, cur, rfl, hg, hh, -⟩ := rb_at H k hk
    have hgl := H.lt0 g (.inl rfl)
    have HRG := Lib.hid (fun (Z : World) (hZ : Below w.heap.size w Z) => (show Z.rangeAt g (k * 4) (Rb.l l[k]) from rb_range (H.below hZ) k hk))
    have HOC := Lib.hid (fun (Z : World) (hZ : Below w.heap.size w Z) => ((H.below hZ).cels _ (List.getElem_mem hk)).1)
    have HW := Lib.hid (fun (X : World) (r : Rb) (hX : Below w.heap.size w X) (h1 : ∃ A n c, r.row = .slice A n c) h2 => rwith_any (w := X) k hk r h1 (H.below hX) h2)
    have HD := Lib.hid (fun (X X2 : World) (r : Rb) (hX : Below w.heap.size w X) (h2 : RfAt X2 base (.slice (some ⟨g, 0, none⟩) l.length cap) (l.set k r)) (ho : Onl g X X2) hr => rdid_with hX h2 ho hr)
    have hcl := hcs _ (List.getElem_mem hk)
    have HM := Lib.hid (List.getElem_mem hk)
    have hrow := rsl ((H.cels _ (List.getElem_mem hk)).1)
    have HB4 : Hid (Below w.heap.size w ((((w.alloc (.cells #[.slice (some ⟨g, 0, none⟩) l.length cap] 28)).alloc (.cells #[.int .i64 p.bl, .int .i64 p.off, .int .i64 p.lo, .int .i64 p.hi] 39)).alloc (.cells (valA x) 51)).alloc (.cells #[.slice none 0 0] 28))) := Lib.hid (((((Below.refl _ _).alloc (Nat.le_refl _) _).alloc (by simp) _).alloc (by simp; omega) _).alloc (by simp; omega) _)
    have HA2 := Lib.hid (HA.out _ HB4.out)
    have e1 : IntKind.i64.wrap ((k : Int) + 1 - 1) = k := by rw [show (k : Int) + 1 - 1 = k by omega]; exact IntWalk.i64_in _ (by omega)
    have dj0 : (0 : Int) ≤ (k : Int) := by omega
    have dj1 : (k : Int) < (l.length : Int) := by omega
    have hbs := Lib.hid hbase
    clear H HA hB hL he hh hcs hE HE HB4 hbase
    generalize l[k] = r at *
    obtain ⟨rs, rf, rl, rr, cs⟩ := r
    obtain ⟨A2, cp2, hro⟩ := hrow
    dsimp only at hro hlv
    subst hro hlv hz
    unfold Rb.store at HST
    dsimp only at HST HOC hcl
    unfold Rb.l at HRG
    obtain ⟨b, o, lo, hi⟩ := p
    obtain ⟨xn, xb, xo, xl, xh⟩ := x
    dsimp only at hpk
    subst hpk
    simp only [Ptr.v, Val.v, valA] at *
    go_enter Try.func17, Try.ntmps17
    go_wp2_with (first
      | (go_at_call 29; refine HA2.out.mono ?_; rintro e w2 ⟨rfl, hb⟩; simp only [World.size_alloc] at hb; obtain ⟨q0, q1, q2, q3, hbb⟩ := store_box hb; have d0 := cell_of_row _ _ 0 _ _ _ q0; obtain ⟨y0, y1, y2, y3⟩ := cells4 q1; have d3 := cell_of_row _ _ 0 _ _ _ q3; have z3 := frozen_of_row _ _ 0 _ _ q3; obtain ⟨v0', v1', v2', v3', v4'⟩ := cells5 (V := ⟨xn, ⟨xb, xo, xl, xh⟩⟩) q2; have l0 := lt_of_at q0; have l1 := lt_of_at q1; have l2 := lt_of_at q2; have l3 := lt_of_at q3)
      | ((with_reducible show wpList _ _ _ (Oper.mk (some 28) _ _ _ _ _ :: _) _ _); refine wpList_load_mid (op := ⟨some 28, _, _, _, _, _⟩) rfl 77 (.tmp 27) rfl g (k * 4) rfl _ _ (HRG.out _ hbb) Try.underlying77 rfl sizeRB ?_))
    have HOB := Lib.hid (fun j hj => (HLT.out j (.inr ⟨_, HM.out, hj⟩) : j < w.heap.size))
    have hw2 : w.heap.size + 1 + 1 + 1 < w2.heap.size := l3
    have h0 : StL w w2 base #[.int .i64 rs, .bool rf, .bool true, .slice A2 cs.length cp2] #[.int .i64 ((k : Int) + 1), .int .i64 o, .int .i64 lo, .int .i64 hi] (.slice (some ⟨g, 0, none⟩) l.length cap) cs [(o, ⟨xn, ⟨xb, xo, xl, xh⟩⟩)] (.slice A2 cs.length cp2) (.slice (some ⟨w2.heap.size + 1, 0, none⟩) 1 1)
        ((w2.alloc (.cells #[.int .i64 rs, .bool rf, .bool true, .slice A2 cs.length cp2] 77)).alloc (.cells #[.int .i64 o, .int .u64 xn, .int .i64 xb, .int .i64 xo, .int .i64 xl, .int .i64 xh] 84)) := by
      have hbz : ∀ O1 O2, Below w.heap.size w ((w2.alloc O1).alloc O2) := fun O1 O2 => (hbb.alloc hbb.size O1).alloc (by simp only [World.size_alloc]; have := hbb.size; omega) O2
      exact ⟨row_up (row_up q0 _) _, row_up (row_up q1 _) _, row_up (row_up q3 _) _, row_up (row_new rfl _) _, HOC.out _ (hbz _ _), ⟨rfl, .inr ⟨_, 1, _, rfl, Nat.le_refl _, row_new (by simp) _, by simp, by unfold maxLen; omega, rfl, rfl⟩⟩, hbz _ _, by simp⟩
    go_loopw [12, 37] (fun v a wr => ∃ j : Nat, j ≤ cs.length ∧ a = .int .i64 j ∧ Hid (StL w w2 base #[.int .i64 rs, .bool rf, .bool true, .slice A2 cs.length cp2] #[.int .i64 ((k : Int) + 1), .int .i64 o, .int .i64 lo, .int .i64 hi] (.slice (some ⟨g, 0, none⟩) l.length cap) cs ((o, ⟨xn, ⟨xb, xo, xl, xh⟩⟩) :: (cs.take j).filter fun c => decide (c.1 ≠ o)) (.slice A2 cs.length cp2) v wr)) (fun _ a _ => cs.length - (intOf a).toNat)
    case atStart => exact ⟨0, by omega, rfl, Lib.hid h0⟩
    case round =>
      obtain ⟨j, hj, rfl, hS⟩ := hrel
      clear h0 q0 q1 q2 q3 d0 y0 y1 y2 y3 d3 z3 v0' v1' v2' v3' v4'
      by_cases hlt : j < cs.length
      · obtain ⟨i0, hi0, hz0, hz1, hz2⟩ := info_split infoRC
        obtain ⟨gg, cap2, cur2, hve, _, hgg, hsz2, hn2, hm2, hc6⟩ := cel_at hS.out.old j hlt
        injection hve with hA _ hC
        subst hA hC
        have hRo := HOB.out gg rfl
        have e0 : wr.cell? ⟨gg, j * 6, none⟩ = some (.int .i64 cs[j].1) := hc6 0 (by omega)
        have HR6 : Hid (∀ X : World, X.heap = wr.heap → X.rangeAt gg (j * 6) (celL cs[j])) := Lib.hid fun X hX i u hu => by
          have hi : i < 6 := by
            have := (List.getElem?_eq_some_iff.1 hu).1
            simpa [celL] using this
          have hx : X.cell? ⟨gg, j * 6 + i, none⟩ = wr.cell? ⟨gg, j * 6 + i, none⟩ := by simp only [World.cell?, hX]
          rw [hx, hc6 i hi, hu]
        obtain ⟨q0, q1, q2, q3⟩ := cells4 hS.out.b1
        obtain ⟨u0, u1, u2, u3⟩ := cells4 hS.out.b4
        have HTF := Lib.hid (take_filter hlt (fun c : Int × Val => decide (c.1 ≠ o)))
        have t1 : decide ((j : Int) < (cs.length : Int)) = true := by simp; omega
        have dk0 : (0 : Int) ≤ (j : Int) := by omega
        have dk1 : (j : Int) < (cs.length : Int) := by omega
        have u5 : IntKind.i64.wrap ((j : Int) + 1) = j + 1 := IntWalk.i64_in _ (by omega)
        by_cases heq : cs[j].1 = o
        · have t2 : (cs[j].1 != o) = false := by simpa using heq
          have hT : (cs.take (j + 1)).filter (fun c : Int × Val => decide (c.1 ≠ o)) = (cs.take j).filter (fun c : Int × Val => decide (c.1 ≠ o)) := by rw [HTF.out]; simp [heq]
          have HT := Lib.hid hT
          clear heq hT
          go_wp2_with fail
          go_quiet (fail)
          go_wp2
          go_roundw
          case rel => exact ⟨j + 1, by omega, by simp, Lib.hid (by rw [HT.out]; exact hS.out.drewN _)⟩
          case measure => simp [intOf]; omega
        · have t2 : (cs[j].1 != o) = true := by simpa using heq
          have hT : (cs.take (j + 1)).filter (fun c : Int × Val => decide (c.1 ≠ o)) = (cs.take j).filter (fun c : Int × Val => decide (c.1 ≠ o)) ++ [cs[j]] := by rw [HTF.out]; simp [heq]
          have HT := Lib.hid hT
          clear heq hT
          have hTl : ((o, (⟨xn, ⟨xb, xo, xl, xh⟩⟩ : Val)) :: (cs.take j).filter fun c => decide (c.1 ≠ o)).length ≤ 1000001 := by
            have := List.length_filter_le (fun c : Int × Val => decide (c.1 ≠ o)) (cs.take j)
            simp only [List.length_cons, List.length_take] at *
            omega
          go_wp2_with fail
          go_quiet (fail)
          have hS' := Lib.hid (hS.out.drewN nq)
          have hrg := HR6.out (wr.drewN nq) rfl
          have hcj : ∃ y0 y1 y2 y3 y4 y5, celL cs[j] = [.int .i64 y0, .int .u64 y1, .int .i64 y2, .int .i64 y3, .int .i64 y4, .int .i64 y5] := ⟨_, _, _, _, _, _, rfl⟩
          generalize wr.drewN nq = X at *
          obtain ⟨_, _, _, m3⟩ := cells4 hS'.out.b4
          obtain ⟨y0, y1, y2, y3, y4, y5, hcl2⟩ := hcj
          have HCL := Lib.hid hcl2
          rw [hcl2] at hrg
          have hnw := hS'.out.new
          have hPU := Lib.hid (fun (Y : World) (gb cap : Nat) => StL.push (Y := Y) (gb := gb) (cap := cap) hS'.out cs[j] hw2 (fun jj hjj => by have := HOB.out jj hjj; omega))
          unfold CelsAt at hnw
          rw [hcl2] at hPU
          generalize ((o, (⟨xn, ⟨xb, xo, xl, xh⟩⟩ : Val)) :: (cs.take j).filter fun c => decide (c.1 ≠ o)).length = nT at *
          have hnw := Lib.hid hnw
          have hXs := hS'.out.size
          clear hcl2 e0 u0 u1 u2 u3 q0 q1 q2 q3
          go_wp2_with (first
            | ((with_reducible show wpList _ _ _ (Oper.mk (some 54) _ _ _ _ _ :: _) _ _); refine wpList_load_mid (op := ⟨some 54, _, _, _, _, _⟩) rfl 84 (.tmp 53) rfl gg (j * 6) rfl _ _ hrg Try.underlying84 rfl sizeRC ?_)
            | (at_builtin; refine wpList_append_lies (o := ⟨some 56, _, _, _, _, _⟩) _ rfl (.tmp 49) (.tmp 55) 75 rfl (w2.heap.size + 1) 84 i0 (.agg #[.int .i64 0, .int .u64 0, .int .i64 0, .int .i64 0, .int .i64 0, .int .i64 0]) 6 48 Try.underlying75 hi0 hz0 hz1 hz2 rfl (by decide) _ nT _ rfl (hnw.out.alloc _) ⟨X.heap.size, 0, none⟩ 1 1 [.int .i64 y0, .int .u64 y1, .int .i64 y2, .int .i64 y3, .int .i64 y4, .int .i64 y5] rfl rfl (World.news_of_block (cs := #[.int .i64 y0, .int .u64 y1, .int .i64 y2, .int .i64 y3, .int .i64 y4, .int .i64 y5]) (t := 84) (fr := (0, 0)) (heap_alloc_new X _)) (by simp [Value.oneCell']) (by omega) (by unfold maxLen; omega) (by omega) (by simp; omega) (X.heap.size + 1) (by simp) ?_; intro gb cap w7 hown7 hgrow7 hat7 hlt7))
          go_roundw
          case rel => exact ⟨j + 1, by omega, by simp, Lib.hid (by rw [HT.out]; exact hPU.out _ _ _ hown7 _ hgrow7)⟩
          case measure => simp [intOf]; omega
      · have hjj : j = cs.length := by omega
        subst hjj
        rw [List.take_length] at hS
        have t1 : decide ((cs.length : Int) < (cs.length : Int)) = false := by simp
        obtain ⟨hv1, hv2⟩ := stl_end (base' := base) hS.out (by have := hbs.out; omega) (by omega)
        obtain ⟨A3, c3, hv3⟩ := rsl hS.out.new
        obtain ⟨nT, hnT⟩ : ∃ nT, nT = ((o, (⟨xn, ⟨xb, xo, xl, xh⟩⟩ : Val)) :: cs.filter fun c => decide (c.1 ≠ o)).length := ⟨_, rfl⟩
        rw [← hnT] at hv3
        subst hv3
        clear hnT
        have b0 := hS.out.b0
        have b1 := hS.out.b1
        have b3 := hS.out.b3
        have b4 := hS.out.b4
        have hbe := hS.out.below
        have d0 := cell_of_row _ _ 0 _ _ _ b0
        obtain ⟨y0, y1, y2, y3⟩ := cells4 b1
        obtain ⟨u0, u1, u2, u3⟩ := cells4 b4
        have z4 := frozen_of_row _ _ 3 _ _ b4
        have b4' : (wr.setCell ⟨w2.heap.size, 3, none⟩ (.slice A3 nT c3)).heap[w2.heap.size]? = some (.cells #[.int .i64 rs, .bool rf, .bool true, .slice A3 nT c3] 77) := heap_setCell_same _ _ _ _ _ _ b4
        have hbY : Below w.heap.size w (wr.setCell ⟨w2.heap.size, 3, none⟩ (.slice A3 nT c3)) := hbe.setCell (by show _ ≤ w2.heap.size; omega) _
        have b3' := (Below.heap_setCell wr ⟨w2.heap.size, 3, none⟩ (.slice A3 nT c3) (w.heap.size + 1 + 1 + 1) (fun e => by have e' : w.heap.size + 1 + 1 + 1 = w2.heap.size := e; omega)).trans b3
        have hWW := Lib.hid (HW.out _ ⟨rs, rf, true, .slice A3 nT c3, Hp.stored cs o ⟨xn, ⟨xb, xo, xl, xh⟩⟩⟩ hbY ⟨_, _, _, rfl⟩ ⟨hv1, hv2 g (by omega)⟩)
        have hl3 := lt_of_at b3'
        clear b0 b1 b3 b4 hv1 u0 u1 u2
        unfold Rb.a at hWW
        dsimp only at hWW
        go_wp2_with (first
          | ((with_reducible show wpList _ _ _ (Oper.mk (some 63) _ _ _ _ _ :: _) _ _); refine wpList_load_row (o := ⟨some 63, .load 77 (.tmp 11), _, _, _, _⟩) rfl 77 (.tmp 11) rfl w2.heap.size rfl 77 _ (0, 0) _ b4' Try.underlying77 rfl sizeRB ?_)
          | (go_at_call 31; refine hWW.out.mono ?_; rintro e w3 ⟨rfl, h3, ho⟩; have g3 := (ho.block (w.heap.size + 1 + 1 + 1) hl3 (by omega)).trans b3'; have hd3 := HD.out _ _ _ hbY h3 ho (fun j hj => .inr (by have := (hS.out.new.lt j hj).1; omega)); have d5 := cell_of_row _ _ 0 _ _ _ g3; have z5 := frozen_of_row _ _ 0 _ _ g3))
        have hx : (w3.setCell ⟨w.heap.size + 1 + 1 + 1, 0, none⟩ (.slice (some ⟨g, 0, none⟩) l.length cap)).heap[w.heap.size + 1 + 1 + 1]? = some (.cells #[.slice (some ⟨g, 0, none⟩) l.length cap] 28) := heap_setCell_same _ _ _ _ _ _ g3
        have hno : ¬ rOwn (.slice (some ⟨g, 0, none⟩) l.length cap) (l.set k ⟨rs, rf, true, .slice A3 nT c3, Hp.stored cs o ⟨xn, ⟨xb, xo, xl, xh⟩⟩⟩) (w.heap.size + 1 + 1 + 1) := by
          rintro (e | ⟨b, m, e⟩)
          · have := HLT.out _ (.inl e); omega
          · rcases List.mem_or_eq_of_mem_set m with m | m
            · have := HLT.out _ (.inr ⟨b, m, e⟩); omega
            · subst m
              have := (hS.out.new.lt _ e).1
              omega
        refine bodyPost_ret (v := .tuple #[.agg #[.slice (some ⟨g, 0, none⟩) l.length cap], .int .i64 0]) (res_cell_tmp Try.results17 _ _ (w.heap.size + 1 + 1 + 1) 28 #[.slice (some ⟨g, 0, none⟩) l.length cap] (0, 0) _ _ rfl rfl hx Try.underlying28 rfl sizeRH) rfl ⟨rfl, _, hd3.setCell hno (by omega) _, List.length_set .., fun r m => ?_, HST.out _⟩
        rcases List.mem_or_eq_of_mem_set m with m | m
        · exact ⟨r, m, by omega⟩
        · subst m
          refine ⟨_, HM.out, ?_⟩
          show (Hp.stored cs o ⟨xn, ⟨xb, xo, xl, xh⟩⟩).length ≤ cs.length + 1
          unfold Hp.stored
          have := List.length_filter_le (fun c : Int × Val => decide (c.1 ≠ o)) cs
          simp only [List.length_cons]
          omega
  · have hz' : (E != 0) = true := by simpa using hz
    have hst : ∀ A, Rel A l → Rel (A.store p n x) l := fun A h => by
      unfold Ab.store
      rw [if_neg (by rw [h.at_, ← HE.out]; exact hz)]
      exact h
    have HST := Lib.hid hst
    clear hst hz
    obtain ⟨A, c, rfl⟩ := rsl H.row
    have hB4 : Below w.heap.size w ((((w.alloc (.cells #[.slice A l.length c] 28)).alloc (.cells #[.int .i64 p.bl, .int .i64 p.off, .int .i64 p.lo, .int .i64 p.hi] 39)).alloc (.cells (valA x) 51)).alloc (.cells #[.slice none 0 0] 28)) := ((((Below.refl _ _).alloc (Nat.le_refl _) _).alloc (by simp) _).alloc (by simp; omega) _).alloc (by simp; omega) _
    have HA2 := Lib.hid (HA.out _ hB4)
    clear H HA hB4 hbase hcs HE
    obtain ⟨b, o, lo, hi⟩ := p
    obtain ⟨xn, xb, xo, xl, xh⟩ := x
    simp only [Ptr.v, Val.v, valA] at *
    go_enter Try.func17, Try.ntmps17
    go_wp2_with (go_at_call 29; refine HA2.out.mono ?_; rintro e w2 ⟨rfl, hb⟩; simp only [World.size_alloc] at hb; obtain ⟨q0, q1, q2, q3, hbb⟩ := store_box hb; have d0 := cell_of_row _ _ 0 _ _ _ q0; have d3 := cell_of_row _ _ 0 _ _ _ q3; have z3 := frozen_of_row _ _ 0 _ _ q3)
    exact bodyPost_ret (v := .tuple #[.agg #[.slice A l.length c], .int .i64 E]) (res_cell_tmp Try.results17 _ _ (w.heap.size + 1 + 1 + 1) 28 #[.slice A l.length c] (0, 0) _ _ rfl rfl (heap_setCell_same _ _ _ _ _ _ q3) Try.underlying28 rfl sizeRH) rfl ⟨rfl, l, (HR.out _ hbb).setCell (fun e => by have := HLT.out _ e; omega) (by omega) _, rfl, fun r m => ⟨r, m, by omega⟩, HST.out⟩
end Go.Proofs.Ytjianllngobhhaa
