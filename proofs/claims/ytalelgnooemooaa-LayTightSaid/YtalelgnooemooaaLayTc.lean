/- Append of an own row to a fresh one; fields' rows. Conditions: each theorem's. -/
import Derived.Test.YtalelgnooemooaaLayTa
import Derived.Test.YtalelgnooemooaaLayQ
import Derived.Deep.AppendSrc
import Derived.Deep.AppendLies
namespace Go.Proofs.Ytalelgnooemooaa
open Go.RowKit Go.Maps
set_option linter.unusedVariables false
set_option linter.unusedSimpArgs false
set_option maxRecDepth 10000
open Py
/-- Kinds that came in. -/
def KsAt (w : World) (A : Option Addr) (ks : List Nat) : Prop := 0 < ks.length → ∃ g o, A = some ⟨g, o, none⟩ ∧ g < w.heap.size ∧ ∀ j, j < ks.length → ks.getD j 0 < 256 ∧ w.cell? ⟨g, o + j, none⟩ = some (.int .u8 (ks.getD j 0))
def HoldG (P : Prop) : Prop := P
theorem holdG {P : Prop} (h : HoldG P) : P := h
def fdsL (fs : List Fe) : List Value := fs.flatMap fdL
theorem grown_refl (w : World) (r : Option Nat) : w.grownBy w r := ⟨rfl, rfl, rfl, Nat.le_refl _, fun _ _ _ => rfl⟩
/-- Append of an own row, empty or not, to an own row that has room for nothing more or something. -/
theorem wpList_append_own {P : Program} {w : World} {ops : Array Oper} {rest : List Oper} {o : Oper} {a : Act} {Q : Exit → Act → World → Prop} (hgd : o.guard = none) (s x : Operand) (t : TypeId)
    (ho : o.op = .call { callee := .builtin .append, args := #[s, x], argTypes := #[t, t] })
    (base : Nat) (e : TypeId) (i : TypeInfo) (z : Value) (size bytes : Nat) (ht : P.underlying t = some (.slice e)) (hi : P.info? e = some i) (hz : i.zero = some z)
    (hsize : i.size = size) (hby : i.bytes = bytes) (hzs : z.cells.size = size) (hsz : 0 < size)
    (b n c : Nat) (xs : List Value) (hs : a.eval s = .slice (some ⟨b, 0, none⟩) n c) (hnc : n ≤ c) (hown : w.ownsRow base e size (.slice (some ⟨b, 0, none⟩) n c) n xs)
    (base2 : Nat) (v2 : Value) (m : Nat) (xs2 : List Value) (hx : a.eval x = v2) (hown2 : w.ownsRow base2 e size v2 m xs2) (h1 : ∀ u ∈ xs2, u.oneCell' = true)
    (h63 : n + m ≤ maxLen) (hbytes : (n + m) * bytes ≤ 140737488355328) (hbase : base ≤ w.heap.size) (H : Nat) (hH : w.heap.size = H)
    (h : ∀ g cap w', w'.ownsRow base e size (.slice (some ⟨g, 0, none⟩) (n + m) cap) (n + m) (xs ++ xs2) → w.grownBy w' (some b) → (g = b ∨ g = H) → g < w'.heap.size → wpList P ops Q rest (a.put o.dst (.slice (some ⟨g, 0, none⟩) (n + m) cap)) w') : wpList P ops Q (o :: rest) a w := by
  by_cases hm : m = 0
  · subst hm
    have hx2 : xs2 = [] := by have := hown2.1; rw [Nat.zero_mul] at this; exact List.eq_nil_of_length_eq_zero this
    subst hx2
    have hsrc : Src P i.size t v2 0 [] w := by
      rcases hown2.2 with ⟨rfl, _⟩ | ⟨g', cap', cur', rfl, _⟩
      · exact Src.ofNil w ht 0
      · exact Src.ofSlice w ht ⟨g', 0, none⟩ 0 cap' [] (by simp) (by simp) (by simp)
    have hr := run_append_room_src (P := P) w t t o.type e i ht hi b 0 n c v2 0 [] hsrc (by omega) (by simp) (by simp)
    have hlt : b < w.heap.size := (hown.lt b rfl).2
    have hh := h b c w (by simpa using hown) (grown_refl w _) (.inl rfl) hlt
    refine wpList_plain hgd fun _ hK => ?_
    unfold Oper.wp execOp
    simp only [ho, resolve, invoke, builtin, Sem.run_bind, Sem.run_pure, Result.andThen_ok, List.map_toArray, List.map_cons, List.map_nil, hs, hx, hr, Nat.add_zero]
    exact hK _ _ hh
  · rcases hown2.2 with ⟨_, h0⟩ | ⟨g', cap', cur', rfl, _⟩
    · exact absurd h0 hm
    · exact wpList_append_lies w hgd s x t ho base e i z size bytes ht hi hz hsize hby hzs hsz _ n xs hs hown ⟨g', 0, none⟩ m cap' xs2 hx hown2.1 (hown2.cells rfl) h1 (by omega) h63 hbytes hbase H hH fun g cap w' p1 p2 p3 p4 => h g cap w' p1 p2 (p3.imp (fun e => by simpa [Value.ownBlock] using e.symm) id) p4
theorem own_set {w : World} {base size n p k : Nat} {e : TypeId} {v x : Value} {xs : List Value} (h : w.ownsRow base e size v n xs) (hp : p < base) : (w.setCell ⟨p, k, none⟩ x).ownsRow base e size v n xs :=
  ownsRow_at h fun g cur hg hh => (heap_setCell_other _ _ _ _ (by show g ≠ p; omega)).trans hh
theorem own_one {w : World} {base : Nat} {e : TypeId} {x0 x1 x2 x3 x4 : Value} (hb : base ≤ w.heap.size) : (w.alloc (.cells #[x0, x1, x2, x3, x4] e)).ownsRow base e 5 (.slice (some ⟨w.heap.size, 0, none⟩) 1 1) 1 [x0, x1, x2, x3, x4] :=
  ⟨rfl, .inr ⟨w.heap.size, 1, _, rfl, hb, heap_alloc_new w _, Nat.le_refl _, by unfold maxLen; omega, rfl, rfl⟩⟩
theorem fdsL_snoc (fs : List Fe) (f : Fe) : fdsL (fs ++ [f]) = fdsL fs ++ fdL f := by simp [fdsL]
theorem fdsL_cons (fs : List Fe) (f : Fe) : fdsL (f :: fs) = fdL f ++ fdsL fs := rfl
theorem fdsL_one (fs : List Fe) : ∀ u ∈ fdsL fs, u.oneCell' = true := by
  intro u hu
  simp only [fdsL, List.mem_flatMap] at hu
  obtain ⟨f, _, hf⟩ := hu
  simp only [fdL, List.mem_cons, List.not_mem_nil, or_false] at hf
  rcases hf with rfl | rfl | rfl | rfl | rfl <;> rfl
def szK (k : Nat) : Int := sizeV (tyK k)
theorem infoFd : (Try.prog.info? 47).map (fun i => (i.zero, i.size, i.bytes)) = some (some (.agg #[.string ⟨#[]⟩, .int .i64 0, .int .i64 0, .string ⟨#[]⟩, .int .i64 0]), 5, 56) := by kernel_rfl
theorem fe_cells5 {w : World} {b : Nat} {x0 x1 x2 x3 x4 : Value} {t : TypeId} (h : w.heap[b]? = some (.cells #[x0, x1, x2, x3, x4] t)) : w.cell? ⟨b, 0, none⟩ = some x0 ∧ w.cell? ⟨b, 1, none⟩ = some x1 ∧ w.cell? ⟨b, 2, none⟩ = some x2 ∧ w.cell? ⟨b, 3, none⟩ = some x3 ∧ w.cell? ⟨b, 4, none⟩ = some x4 := by
  rw [cell_of_row _ _ _ _ _ _ h, cell_of_row _ _ _ _ _ _ h, cell_of_row _ _ _ _ _ _ h, cell_of_row _ _ _ _ _ _ h, cell_of_row _ _ _ _ _ _ h]
  exact ⟨rfl, rfl, rfl, rfl, rfl⟩
theorem row_up {w : World} {b : Nat} {x : Obj} (h : w.heap[b]? = some x) (o : Obj) : (w.alloc o).heap[b]? = some x := (heap_alloc_old w o (Array.getElem?_eq_some_iff.1 h).1).trans h
theorem row_new {w : World} {n : Nat} (h : w.heap.size = n) (o : Obj) : (w.alloc o).heap[n]? = some o := by subst h; exact heap_alloc_new w o
theorem fdsL_len (fs : List Fe) : (fdsL fs).length = fs.length * 5 := by
  induction fs with
  | nil => rfl
  | cons f fs ih => rw [fdsL_cons, List.length_append, ih]; simp [fdL]; omega
theorem fdsL_get (fs : List Fe) (k : Nat) (hk : k < fs.length) (j : Nat) (hj : j < 5) : (fdsL fs)[k * 5 + j]? = (fdL (fs.getD k fd0))[j]? := by
  induction fs generalizing k with
  | nil => simp at hk
  | cons f fs ih =>
    have hl : (fdL f).length = 5 := rfl
    cases k with
    | zero =>
      rw [List.getD_cons_zero, Nat.zero_mul, Nat.zero_add, fdsL_cons, List.getElem?_append_left (by omega)]
    | succ k =>
      rw [List.getD_cons_succ, fdsL_cons, List.getElem?_append_right (by omega), ← ih k (by simpa using hk), hl]
      congr 1
      omega
/-- An own row of fields is one in memory. -/
theorem own_fds {w : World} {base n : Nat} {v : Value} {fs : List Fe} (h : w.ownsRow base 47 5 v n (fdsL fs)) (hl : fs.length = n) (h0 : 0 < n) : ∃ g cap, v = .slice (some ⟨g, 0, none⟩) n cap ∧ base ≤ g ∧ g < w.heap.size ∧ n ≤ cap ∧ cap ≤ maxLen ∧ ∀ W : World, W.heap[g]? = w.heap[g]? → ∀ B, g < B → FdsAt W B (some ⟨g, 0, none⟩) fs := by
  obtain ⟨_, h⟩ := h
  rcases h with ⟨rfl, hz⟩ | ⟨g, cap, cur, rfl, hb, hh, hn, hm, hsz, htk⟩
  · omega
  · refine ⟨g, cap, rfl, hb, (Array.getElem?_eq_some_iff.1 hh).1, hn, hm, fun W hW B hB _ => ⟨g, 0, rfl, hB, fun k hk j v hj => ?_⟩⟩
    have hj5 : j < 5 := by
      rcases Nat.lt_or_ge j 5 with h | h
      · exact h
      · rw [List.getElem?_eq_none (by simpa [fdL] using h)] at hj; cases hj
    rw [← fdsL_get fs k hk j hj5, ← htk, List.getElem?_take, if_pos (by omega)] at hj
    rw [cell_of_row W g _ _ _ _ (hW.trans hh)]
    simpa [Nat.zero_add] using hj
def l2 (fs rv : List Fe) : List Sc := [⟨⟨#[97]⟩, fs, 0⟩, ⟨⟨#[98]⟩, rv, 0⟩]
theorem l2_a (fs rv : List Fe) : sIdx (l2 fs rv) ⟨#[97]⟩ = (0 : Nat) := by
  have e : ((⟨#[97]⟩ : ByteArray).toList == (⟨#[97]⟩ : ByteArray).toList) = true := beq_self_eq_true _
  simp only [sIdx, l2, idx, e, if_true]
  rfl
theorem l2_b (fs rv : List Fe) : sIdx (l2 fs rv) ⟨#[98]⟩ = (1 : Nat) := by
  have e : ((⟨#[98]⟩ : ByteArray).toList == (⟨#[98]⟩ : ByteArray).toList) = true := beq_self_eq_true _
  have e2 : ((⟨#[97]⟩ : ByteArray).toList == (⟨#[98]⟩ : ByteArray).toList) = false := by
    rw [ByteArray.toList_eq, ByteArray.toList_eq]; rfl
  simp only [sIdx, l2, idx, e, e2, if_true]
  rfl
end Go.Proofs.Ytalelgnooemooaa
