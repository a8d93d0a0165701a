/- An expression that is handed in: what it is, read off what the form reads of it. Conditions: each theorem's. -/
import Derived.Test.YtfjobnljdkiihaaGreatDoorQtTwP
import Derived.Test.YtfjobnljdkiihaaGreatDoorRows
import Derived.Deep.Slices
import Derived.ChangeArms
import Derived.OpenShut
namespace Go.Proofs.YtfjobnljdkiihaaGreatDoor
open Go.RowKit Go.Maps
set_option linter.unusedVariables false
set_option linter.unusedSimpArgs false
set_option maxRecDepth 100000
open Lx Pa Go.Lib Qi
theorem cells_ex : Tryz.prog.cellsOf 39 = 9 := by kernel_rfl
theorem cells_i : Tryz.prog.cellsOf 3 = 1 := by kernel_rfl
theorem cells_s : Tryz.prog.cellsOf 9 = 1 := by kernel_rfl
theorem cells_u : Tryz.prog.cellsOf 34 = 1 := by kernel_rfl
theorem cells_k : Tryz.prog.cellsOf 35 = 1 := by kernel_rfl
theorem cells_t : Tryz.prog.cellsOf 37 = 3 := by kernel_rfl
theorem fits_of {k : IntKind} {n : Int} (h : (Lit.int k n).wf = true) : k.min ≤ n ∧ n ≤ k.max := by simpa [Lit.wf] using h
theorem fitI_of {n : Int} (h : (Lit.int .i64 n).wf = true) : fitI n := by
  have := fits_of h
  simp [IntKind.min, IntKind.max, IntKind.signed, IntKind.bits] at this
  unfold fitI; omega
theorem fitU_of {n : Int} (h : (Lit.int .u64 n).wf = true) : fitU n := by
  have := fits_of h
  simp [IntKind.min, IntKind.max, IntKind.signed, IntKind.bits] at this
  unfold fitU; omega
theorem qt_lenB (T : PrintTabs) (s : ByteArray) : (qt T s).length ≤ 10 * s.size + 2 := by
  unfold Qi.qt
  rw [List.length_map]
  have := quoteZ_length_le T s
  omega
theorem exsT_bulk {H : Type} (T : PrintTabs) : ∀ (l : List PEx) (ds : List (DataW H)), l.length = ds.length → (∀ (i : Nat) x d, l[i]? = some x → ds[i]? = some d → (exT T x).length ≤ 300 * Rows.uptoBulk d) → (exsT T l).length ≤ 300 * Rows.uptoBulkAll ds
  | [], ds, _, _ => by simp [exsT]
  | x :: l, [], h, _ => by simp at h
  | x :: l, d :: ds, h, hh => by
    have h1 := hh 0 x d rfl rfl
    have h2 := exsT_bulk T l ds (by simpa using h) (fun i x d hx hd => hh (i + 1) x d (by simpa using hx) (by simpa using hd))
    simp only [exsT, List.length_append, Rows.uptoBulkAll]
    omega
theorem bulk_pos {H : Type} (d : DataW H) : 1 ≤ Rows.uptoBulk d := by
  cases d with
  | lit l => cases l <;> simp [Rows.uptoBulk]
  | _ => simp [Rows.uptoBulk]
theorem bulk_mem {H : Type} : ∀ (ds : List (DataW H)) (i : Nat) d, ds[i]? = some d → Rows.uptoBulk d ≤ Rows.uptoBulkAll ds
  | [], i, d, h => by simp at h
  | x :: l, 0, d, h => by
    simp only [List.getElem?_cons_zero, Option.some.injEq] at h
    subst h; simp only [Rows.uptoBulkAll]; omega
  | x :: l, i + 1, d, h => by
    have := bulk_mem l i d (by simpa using h)
    simp only [Rows.uptoBulkAll]; omega
theorem bulk_len {H : Type} : ∀ (ds : List (DataW H)), ds.length ≤ Rows.uptoBulkAll ds
  | [] => Nat.zero_le _
  | x :: l => by
    have := bulk_len l
    have := bulk_pos x
    simp only [Rows.uptoBulkAll, List.length_cons]; omega
theorem fEs_all : ∀ l : List PEx, (∀ x ∈ l, fE x) → fEs l
  | [], _ => trivial
  | x :: l, h => ⟨h x (List.mem_cons_self), fEs_all l fun y hy => h y (List.mem_cons_of_mem _ hy)⟩
theorem flat9 {w : World} {g : Nat} : ∀ (rows : List (List Value)) (o : Nat), (∀ c ∈ rows, c.length = 9) → (∀ (i : Nat) c, rows[i]? = some c → w.rangeAt g (o + i * 9) c) → w.rangeAt g o rows.flatten
  | [], o, _, _ => fun j u hu => by simp at hu
  | c :: l, o, hc, h => by
    have h9 := hc c List.mem_cons_self
    have h2 := flat9 (w := w) (g := g) l (o + 9) (fun c hm => hc c (List.mem_cons_of_mem _ hm)) (fun i d hd => by
      have := h (i + 1) d (by simpa using hd)
      rwa [show o + (i + 1) * 9 = o + 9 + i * 9 from by omega] at this)
    intro j u hu
    rw [List.flatten_cons] at hu
    by_cases hj : j < 9
    · rw [List.getElem?_append_left (by omega)] at hu
      have := h 0 c rfl j u hu
      rwa [Nat.zero_mul, Nat.add_zero] at this
    · rw [List.getElem?_append_right (by omega), h9] at hu
      have := h2 (j - 9) u hu
      rwa [show o + 9 + (j - 9) = o + j from by omega] at this
theorem nine {cs : List Value} (h : cs.length = 9) : ∃ a b c d e f g i j, cs = [a, b, c, d, e, f, g, i, j] := by
  match cs, h with
  | [a, b, c, d, e, f, g, i, j], _ => exact ⟨_, _, _, _, _, _, _, _, _, rfl⟩
theorem seven {α : Type} {cs : List α} (h : cs.length = 7) : ∃ a b c d e f g, cs = [a, b, c, d, e, f, g] := by
  match cs, h with
  | [a, b, c, d, e, f, g], _ => exact ⟨_, _, _, _, _, _, _, rfl⟩
theorem three {α : Type} {cs : List α} (h : cs.length = 3) : ∃ a b c, cs = [a, b, c] := by
  match cs, h with
  | [a, b, c], _ => exact ⟨_, _, _, rfl⟩
instance : Inhabited PEx := ⟨ex0⟩
set_option maxHeartbeats 4000000 in
/-- An expression, opened. -/
theorem open_ex {H : Type} {enc : TypeId × Value → H} {W : World} {sp : Nat → Bool} {hd : Bool} (T : PrintTabs) : ∀ (fuel : Nat) (cs : List Value) (x : DataW H × List MemPlace), DataW.trod enc Tryz.prog W 0 sp hd fuel 39 cs = some x →
    Rows.uptoBulk x.1 ≤ 1048576 → ∃ e : PEx, ExA W (Bl W.heap.size) e cs ∧ fE e ∧ (exT T e).length ≤ 300 * Rows.uptoBulk x.1 := by
  intro fuel
  induction fuel using Nat.strongRecOn with
  | _ fuel ih =>
    intro cs x h hB
    obtain ⟨xs, n, rfl, rfl, hl, hxl, hf⟩ := DataW.trod_struct Tryz.underlying39 h
    rw [cells_ex] at hl
    obtain ⟨c0, c1, c2, c3, c4, c5, c6, c7, c8, rfl⟩ := nine hl
    obtain ⟨y0, y1, y2, y3, y4, y5, y6, rfl⟩ := seven (hxl.trans (by rfl))
    have f0 : DataW.trod enc Tryz.prog W 0 sp hd n 3 [c0] = some y0 := by
      have h0 : DataW.trod enc Tryz.prog W 0 sp hd n 3 (([c0, c1, c2, c3, c4, c5, c6, c7, c8].drop 0).take (Tryz.prog.cellsOf 3)) = some y0 := hf 0 _ rfl
      rw [cells_i] at h0
      exact h0
    have f1 : DataW.trod enc Tryz.prog W 0 sp hd n 9 [c1] = some y1 := by
      have h0 : DataW.trod enc Tryz.prog W 0 sp hd n 9 (([c0, c1, c2, c3, c4, c5, c6, c7, c8].drop 1).take (Tryz.prog.cellsOf 9)) = some y1 := hf 1 _ rfl
      rw [cells_s] at h0
      exact h0
    have f2 : DataW.trod enc Tryz.prog W 0 sp hd n 9 [c2] = some y2 := by
      have h0 : DataW.trod enc Tryz.prog W 0 sp hd n 9 (([c0, c1, c2, c3, c4, c5, c6, c7, c8].drop 2).take (Tryz.prog.cellsOf 9)) = some y2 := hf 2 _ rfl
      rw [cells_s] at h0
      exact h0
    have f3 : DataW.trod enc Tryz.prog W 0 sp hd n 34 [c3] = some y3 := by
      have h0 : DataW.trod enc Tryz.prog W 0 sp hd n 34 (([c0, c1, c2, c3, c4, c5, c6, c7, c8].drop 3).take (Tryz.prog.cellsOf 34)) = some y3 := hf 3 _ rfl
      rw [cells_u] at h0
      exact h0
    have f4 : DataW.trod enc Tryz.prog W 0 sp hd n 35 [c4] = some y4 := by
      have h0 : DataW.trod enc Tryz.prog W 0 sp hd n 35 (([c0, c1, c2, c3, c4, c5, c6, c7, c8].drop 4).take (Tryz.prog.cellsOf 35)) = some y4 := hf 4 _ rfl
      rw [cells_k] at h0
      exact h0
    have f5 : DataW.trod enc Tryz.prog W 0 sp hd n 37 [c5, c6, c7] = some y5 := by
      have h0 : DataW.trod enc Tryz.prog W 0 sp hd n 37 (([c0, c1, c2, c3, c4, c5, c6, c7, c8].drop 5).take (Tryz.prog.cellsOf 37)) = some y5 := hf 5 _ rfl
      rw [cells_t] at h0
      exact h0
    have f6 : DataW.trod enc Tryz.prog W 0 sp hd n 3 [c8] = some y6 := by
      have h0 : DataW.trod enc Tryz.prog W 0 sp hd n 3 (([c0, c1, c2, c3, c4, c5, c6, c7, c8].drop 8).take (Tryz.prog.cellsOf 3)) = some y6 := hf 6 _ rfl
      rw [cells_i] at h0
      exact h0
    clear hf h hl hxl
    obtain ⟨kd, e0, rfl, w0⟩ := DataW.trod_int Tryz.underlying3 f0
    obtain ⟨op, e1, rfl, w1⟩ := DataW.trod_string Tryz.underlying9 f1
    obtain ⟨nm, e2, rfl, w2⟩ := DataW.trod_string Tryz.underlying9 f2
    obtain ⟨num, e3, rfl, w3⟩ := DataW.trod_int Tryz.underlying34 f3
    obtain ⟨at_, e6, rfl, w6⟩ := DataW.trod_int Tryz.underlying3 f6
    obtain ⟨ys, m, rfl, rfl, _, hyl, hg⟩ := DataW.trod_struct Tryz.underlying37 f5
    obtain ⟨z0, z1, z2, rfl⟩ := three (hyl.trans (by rfl))
    have g0 : DataW.trod enc Tryz.prog W 0 sp hd m 3 [c5] = some z0 := by
      have h0 : DataW.trod enc Tryz.prog W 0 sp hd m 3 (([c5, c6, c7].drop 0).take (Tryz.prog.cellsOf 3)) = some z0 := hg 0 _ rfl
      rw [cells_i] at h0
      exact h0
    have g1 : DataW.trod enc Tryz.prog W 0 sp hd m 3 [c6] = some z1 := by
      have h0 : DataW.trod enc Tryz.prog W 0 sp hd m 3 (([c5, c6, c7].drop 1).take (Tryz.prog.cellsOf 3)) = some z1 := hg 1 _ rfl
      rw [cells_i] at h0
      exact h0
    have g2 : DataW.trod enc Tryz.prog W 0 sp hd m 9 [c7] = some z2 := by
      have h0 : DataW.trod enc Tryz.prog W 0 sp hd m 9 (([c5, c6, c7].drop 2).take (Tryz.prog.cellsOf 9)) = some z2 := hg 2 _ rfl
      rw [cells_s] at h0
      exact h0
    clear hg hyl
    obtain ⟨ba, d0, rfl, u0⟩ := DataW.trod_int Tryz.underlying3 g0
    obtain ⟨st, d1, rfl, u1⟩ := DataW.trod_int Tryz.underlying3 g1
    obtain ⟨rc, d2, rfl, u2⟩ := DataW.trod_string Tryz.underlying9 g2
    simp only [List.cons.injEq, and_true] at e0 e1 e2 e3 e6 d0 d1 d2
    subst e0 e1 e2 e3 e6 d0 d1 d2
    clear f0 f1 f2 f3 f5 f6 g0 g1 g2
    simp only [List.map_cons, List.map_nil, Rows.uptoBulk, Rows.uptoBulkAll, Array.length_toList] at hB ⊢
    have hop : op.data.size = op.size := rfl
    have hnm : nm.data.size = nm.size := rfl
    have hrc : rc.data.size = rc.size := rfl
    have HK : ∃ kids : List PEx, ExA W (Bl W.heap.size) (.mk kd op nm num kids ⟨ba, st, rc⟩ 0) (exQ kd op nm num c4 ⟨ba, st, rc⟩ at_) ∧ fEs kids ∧ kids.length ≤ 1048576 ∧ (exsT T kids).length ≤ 300 * Rows.uptoBulk y4.1 := by
      rcases DataW.trod_slice Tryz.underlying35 f4 with ⟨e4, rfl⟩ | ⟨A, len, cap, elems, rest, n', hn', e4, rfl, _, hl, hm, hlen, hel, _, _⟩
      · simp only [List.cons.injEq, and_true] at e4
        subst e4
        exact ⟨[], .mk (rows := []) rfl (RowAt.nil _ _) (fun i hi => by simp at hi), trivial, by simp, by simp [exsT]⟩
      · simp only [List.cons.injEq, and_true] at e4
        subst e4
        obtain rfl : n' = m := by omega
        simp only [Rows.uptoBulk] at hB ⊢
        rw [cells_ex] at hel
        have hbl := bulk_len (elems.map (·.1))
        rw [List.length_map] at hbl
        obtain ⟨V, hV⟩ := Deep.choose_lt (α := PEx × List Value) (n := len) (p := fun i v => W.cells? 0 (A.add (i * 9)) 9 = some v.2 ∧ ExA W (Bl W.heap.size) v.1 v.2 ∧ fE v.1 ∧ ∀ d, elems[i]? = some d → (exT T v.1).length ≤ 300 * Rows.uptoBulk d.1) (fun i hi => by
          have hi2 : i < elems.length := by omega
          have h1 := hel i hi
          rw [List.getElem?_eq_getElem hi2] at h1
          obtain ⟨cs', hc, hd'⟩ := Option.bind_eq_some_iff.1 h1
          have hbm := bulk_mem (elems.map (·.1)) i (elems[i]).1 (by simp [hi2])
          obtain ⟨e, he1, he2, he3⟩ := ih n' (by omega) cs' _ hd' (by omega)
          exact ⟨(e, cs'), hc, he1, he2, fun d hd => by rw [List.getElem?_eq_getElem hi2] at hd; injection hd with hd; subst hd; exact he3⟩)
        refine ⟨(List.range len).map fun i => (V i).1, .mk (rows := (List.range len).map fun i => (V i).2) (by simp) ?_ ?_, ?_, ?_, ?_⟩
        · refine ⟨some A, cap, by simp, by simpa using hl, hm, fun hn => ?_⟩
          have hn : 0 < len := by simpa using hn
          have hb : ∀ i, i < len → ∀ k, k < 9 → ∃ u, (V i).2[k]? = some u ∧ W.cell? ((A.add (i * 9)).add k) = some u := fun i hi k hk => by
            obtain ⟨_, hl2, hc⟩ := World.cells?_some (hV i hi).1
            exact ⟨(V i).2[k]'(by omega), List.getElem?_eq_getElem _, (hc k hk).trans (List.getElem?_eq_getElem _)⟩
          obtain ⟨u, _, hu⟩ := hb 0 hn 0 (by omega)
          obtain ⟨g, o, q⟩ := A
          rw [Nat.zero_mul] at hu
          have hu : W.cell? ⟨g, o, q⟩ = some u := hu
          have hq : q = none := by
            cases q with
            | none => rfl
            | some q =>
              exfalso
              unfold World.cell? at hu
              split at hu <;> simp at hu
          subst hq
          have hg : g < W.heap.size := by
            unfold World.cell? at hu
            split at hu
            · rename_i hh
              exact (Array.getElem?_eq_some_iff.1 hh).1
            · cases hu
          refine ⟨g, o, rfl, hg, hg, flat9 _ _ ?_ ?_⟩
          · intro c hc
            obtain ⟨i, hi, rfl⟩ := List.mem_map.1 hc
            exact (World.cells?_some (hV i (List.mem_range.1 hi)).1).2.1
          · intro i c hc k u hu
            have hi : i < len := by
              have := (List.getElem?_eq_some_iff.1 hc).1
              simpa using this
            have hce : c = (V i).2 := by
              rw [List.getElem?_map, List.getElem?_range hi] at hc
              simpa using hc.symm
            subst hce
            have hk : k < 9 := by
              have := (List.getElem?_eq_some_iff.1 hu).1
              rwa [(World.cells?_some (hV i hi).1).2.1] at this
            obtain ⟨u', hu1, hu2⟩ := hb i hi k hk
            rw [hu] at hu1
            injection hu1 with hu1
            subst hu1
            rw [Deep.add_add] at hu2
            have he : (⟨g, o, none⟩ : Addr).add (i * 9 + k) = ⟨g, o + i * 9 + k, none⟩ := by
              unfold Addr.add
              split
              · rename_i h0; congr 1; omega
              · simp; omega
            rwa [he] at hu2
        · intro i hi
          have hi : i < len := by simpa using hi
          have := (hV i hi).2.1
          simpa [hi] using this
        · refine fEs_all _ fun x hx => ?_
          obtain ⟨i, hi, rfl⟩ := List.mem_map.1 hx
          exact (hV i (List.mem_range.1 hi)).2.2.1
        · simp; omega
        · have := exsT_bulk T ((List.range len).map fun i => (V i).1) (elems.map (·.1)) (by simp [hlen]) (fun i x d hx hd => by
            have hi : i < len := by
              have := (List.getElem?_eq_some_iff.1 hx).1
              simpa using this
            rw [List.getElem?_map, List.getElem?_range hi] at hx
            have hx : (V i).1 = x := by simpa using hx
            subst hx
            obtain ⟨el, h1, rfl⟩ := List.getElem?_map .. ▸ hd |> Option.map_eq_some_iff.1
            exact (hV i hi).2.2.2 el h1)
          omega
    obtain ⟨kids, k1, k2, k3, k4⟩ := HK
    refine ⟨_, k1, ⟨⟨by omega, by omega, ⟨by simp only; omega, fitI_of u0, fitI_of u1⟩, fitI_of w0, fitU_of w3⟩, k2⟩, ?_⟩
    have q1 := qt_lenB T op
    have q2 := qt_lenB T nm
    have q3 := qt_lenB T rc
    have i0 := itoaI (fitI_of w0)
    have i1 := itoaU (fitU_of w3)
    have i2 := itoaI (fitI_of u0)
    have i3 := itoaI (fitI_of u1)
    have i4 := itoaN (n := kids.length) (by omega)
    simp only [exT, exLine, typT, List.length_append, List.length_cons, List.length_nil]
    omega
end Go.Proofs.YtfjobnljdkiihaaGreatDoor
