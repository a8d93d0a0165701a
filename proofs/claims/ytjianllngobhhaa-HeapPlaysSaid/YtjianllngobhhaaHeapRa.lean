/- The document's heap in memory: blocks, cells; Live, At. Conditions: each theorem's. -/
import Derived.Test.YtjianllngobhhaaHeapMv
import Derived.Laws.Rows
namespace Go.Proofs.Ytjianllngobhhaa
open Go.RowKit Go.Maps
set_option linter.unusedVariables false
set_option linter.unusedSimpArgs false
set_option maxRecDepth 100000
open Hp
namespace Hp
/-- A block of the document's heap: its size, may it be freed, is it live, the row of its cells, and what they are. -/
structure Rb where
  size : Int
  free : Bool
  live : Bool
  row : Value
  cs : List (Int × Val)
def rb0 : Rb := ⟨0, false, false, .slice none 0 0, []⟩
def Rb.l (b : Rb) : List Value := [.int .i64 b.size, .bool b.free, .bool b.live, b.row]
def rbsL (l : List Rb) : List Value := l.flatMap Rb.l
def celL (c : Int × Val) : List Value := [.int .i64 c.1, .int .u64 c.2.num, .int .i64 c.2.p.bl, .int .i64 c.2.p.off, .int .i64 c.2.p.lo, .int .i64 c.2.p.hi]
def celsL (l : List (Int × Val)) : List Value := l.flatMap celL
end Hp
def CelsAt (w : World) (base : Nat) (v : Value) (l : List (Int × Val)) : Prop := w.ownsRow base 84 6 v l.length (celsL l)
/-- The document's heap: the row v of its blocks, none of which's cells lie in that row. -/
structure RfAt (w : World) (base : Nat) (v : Value) (l : List Rb) : Prop where
  row : w.ownsRow base 77 4 v l.length (rbsL l)
  cels : ∀ b ∈ l, CelsAt w base b.row b.cs ∧ (b.row.ownBlock = none ∨ b.row.ownBlock ≠ v.ownBlock)
theorem rsl {w : World} {base size n : Nat} {e : TypeId} {v : Value} {xs : List Value} (h : w.ownsRow base e size v n xs) : ∃ A c, v = .slice A n c := by
  rcases h.2 with ⟨rfl, rfl⟩ | ⟨g', cap, cur, rfl, _⟩
  · exact ⟨_, _, rfl⟩
  · exact ⟨_, _, rfl⟩
theorem rlen {w : World} {base size n : Nat} {e : TypeId} {v : Value} {xs : List Value} (h : w.ownsRow base e size v n xs) : n ≤ maxLen := by
  rcases h.2 with ⟨rfl, rfl⟩ | ⟨g', cap, cur, rfl, _, _, h1, h2, _⟩ <;> omega
theorem flat_get {α : Type} (f : α → List Value) (z : Nat) (hf : ∀ a, (f a).length = z) (l : List α) (k : Nat) (hk : k < l.length) (j : Nat) (hj : j < z) : (l.flatMap f)[k * z + j]? = (f l[k])[j]? := by
  induction l generalizing k with
  | nil => simp at hk
  | cons t l ih =>
    cases k with
    | zero =>
      simp only [List.flatMap_cons, Nat.zero_mul, Nat.zero_add, List.getElem_cons_zero]
      rw [List.getElem?_append_left (by rw [hf]; omega)]
    | succ k =>
      simp only [List.flatMap_cons, List.getElem_cons_succ]
      rw [List.getElem?_append_right (by rw [hf, Nat.add_mul]; omega)]
      rw [← ih k (by simpa using hk)]
      congr 1
      rw [hf, Nat.add_mul]; omega
theorem own_get {w : World} {base z n : Nat} {e : TypeId} {v : Value} {α : Type} (f : α → List Value) (hf : ∀ a, (f a).length = z) {l : List α} (h : w.ownsRow base e z v l.length (l.flatMap f)) (k : Nat) (hk : k < l.length) :
    ∃ g cap cur, v = .slice (some ⟨g, 0, none⟩) l.length cap ∧ base ≤ g ∧ w.heap[g]? = some (.cells cur e (0, 0)) ∧ cur.size = cap * z ∧ l.length ≤ cap ∧ cap ≤ maxLen ∧ ∀ j, j < z → w.cell? ⟨g, k * z + j, none⟩ = (f l[k])[j]? := by
  obtain ⟨hl, h⟩ := h
  rcases h with ⟨_, hz⟩ | ⟨g, cap, cur, rfl, hb, hh, hn, hm, hsz, htk⟩
  · omega
  · refine ⟨g, cap, cur, rfl, hb, hh, hsz, hn, hm, fun j hj => ?_⟩
    rw [cell_of_row _ _ _ _ _ _ hh, ← flat_get f z hf l k hk j hj, ← htk, List.getElem?_take, if_pos ?_]
    · simp
    · have : (k + 1) * z ≤ l.length * z := Nat.mul_le_mul_right _ (by omega)
      rw [Nat.add_mul] at this
      omega
theorem rb_at {w : World} {base : Nat} {v : Value} {l : List Rb} (h : RfAt w base v l) (k : Nat) (hk : k < l.length) : ∃ g cap cur, v = .slice (some ⟨g, 0, none⟩) l.length cap ∧ base ≤ g ∧ w.heap[g]? = some (.cells cur 77 (0, 0)) ∧ cur.size = cap * 4 ∧ l.length ≤ cap ∧ cap ≤ maxLen ∧
    w.cell? ⟨g, k * 4, none⟩ = some (.int .i64 l[k].size) ∧ w.cell? ⟨g, k * 4 + 1, none⟩ = some (.bool l[k].free) ∧ w.cell? ⟨g, k * 4 + 2, none⟩ = some (.bool l[k].live) ∧ w.cell? ⟨g, k * 4 + 3, none⟩ = some l[k].row := by
  obtain ⟨g, cap, cur, h1, h2, h3, h4, h5, h6, h7⟩ := own_get (n := 0) Rb.l (fun _ => rfl) h.row k hk
  exact ⟨g, cap, cur, h1, h2, h3, h4, h5, h6, h7 0 (by omega), h7 1 (by omega), h7 2 (by omega), h7 3 (by omega)⟩
theorem cel_at {w : World} {base : Nat} {v : Value} {l : List (Int × Val)} (h : CelsAt w base v l) (k : Nat) (hk : k < l.length) : ∃ g cap cur, v = .slice (some ⟨g, 0, none⟩) l.length cap ∧ base ≤ g ∧ w.heap[g]? = some (.cells cur 84 (0, 0)) ∧ cur.size = cap * 6 ∧ l.length ≤ cap ∧ cap ≤ maxLen ∧
    ∀ j, j < 6 → w.cell? ⟨g, k * 6 + j, none⟩ = (celL l[k])[j]? := own_get (n := 0) celL (fun _ => rfl) h k hk
theorem CelsAt.keep {w w' : World} {base : Nat} {v : Value} {l : List (Int × Val)} (h : CelsAt w base v l) (hb : ∀ j, v.ownBlock = some j → w'.heap[j]? = w.heap[j]?) : CelsAt w' base v l := own_at h hb
/-- The document's heap's own blocks. -/
def rOwn (v : Value) (l : List Rb) (j : Nat) : Prop := v.ownBlock = some j ∨ ∃ b ∈ l, b.row.ownBlock = some j
theorem RfAt.keep {w w' : World} {base : Nat} {v : Value} {l : List Rb} (h : RfAt w base v l) (hb : ∀ j, rOwn v l j → w'.heap[j]? = w.heap[j]?) : RfAt w' base v l :=
  ⟨own_at h.row fun j hj => hb j (.inl hj), fun b m => ⟨(h.cels b m).1.keep fun j hj => hb j (.inr ⟨b, m, hj⟩), (h.cels b m).2⟩⟩
theorem RfAt.lt {w : World} {base : Nat} {v : Value} {l : List Rb} (h : RfAt w base v l) : ∀ j, rOwn v l j → j < w.heap.size ∧ base ≤ j := by
  rintro j (hj | ⟨b, m, hj⟩)
  · exact ⟨(h.row.lt j hj).2, (h.row.lt j hj).1⟩
  · exact ⟨((h.cels b m).1.lt j hj).2, ((h.cels b m).1.lt j hj).1⟩
theorem RfAt.below {w w' : World} {base : Nat} {v : Value} {l : List Rb} (h : RfAt w base v l) (hb : Below w.heap.size w w') : RfAt w' base v l := h.keep fun j hj => hb.block j (h.lt j hj).1
theorem rf_nil (w : World) (base : Nat) : RfAt w base (.slice none 0 0) [] := ⟨⟨rfl, .inl ⟨rfl, rfl⟩⟩, fun _ h => by cases h⟩
namespace Hp
/-- Block b of them (the first is 1). -/
def rbOf (l : List Rb) (b : Int) : Option Rb := if 1 ≤ b then l[(b - 1).toNat]? else none
def rLiv (l : List Rb) (b : Int) : Bool := match rbOf l b with | some r => r.live | none => false
end Hp
theorem rbOf_some {l : List Rb} {b : Int} (h1 : 1 ≤ b) (h2 : b ≤ l.length) : ∃ k, ∃ hk : k < l.length, b = (k : Int) + 1 ∧ rbOf l b = some l[k] := by
  refine ⟨(b - 1).toNat, by omega, by omega, ?_⟩
  unfold rbOf
  rw [if_pos h1, List.getElem?_eq_getElem (by omega)]
theorem rbOf_none {l : List Rb} {b : Int} (h : ¬ (1 ≤ b ∧ b ≤ l.length)) : rbOf l b = none := by
  unfold rbOf
  split
  · rw [List.getElem?_eq_none (by omega)]
  · rfl
set_option maxHeartbeats 1000000 in
theorem rlive_any {w : World} {base : Nat} {v : Value} {l : List Rb} (b : Int) (hb : in64 b) (H : RfAt w base v l) :
    Calls Try.prog 25 #[.agg #[v], .int .i64 b] w fun e w' => e = .returned (.bool (rLiv l b)) ∧ Below w.heap.size w w' := by
  have hlen := rlen H.row
  unfold maxLen at hlen
  by_cases h : 1 ≤ b ∧ b ≤ l.length
  · obtain ⟨k, hk, rfl, he⟩ := rbOf_some h.1 h.2
    have hV : rLiv l ((k : Int) + 1) = l[k].live := by unfold rLiv; rw [he]
    rw [hV]
    obtain ⟨g, cap, cur, rfl, hg, hh, hs, hn, hm, -, -, c2, -⟩ := rb_at H k hk
    have hlt := lt_of_at hh
    have t1 : decide ((k : Int) + 1 ≥ 1) = true := by simp; omega
    have t2 : decide ((k : Int) + 1 ≤ (l.length : Int)) = true := by simp; omega
    have e1 : IntKind.i64.wrap ((k : Int) + 1 - 1) = k := by rw [show (k : Int) + 1 - 1 = k by omega]; exact IntWalk.i64_in _ (by omega)
    have dj0 : (0 : Int) ≤ (k : Int) := by omega
    have dj1 : (k : Int) < (l.length : Int) := by omega
    generalize l[k].live = B at *
    clear H he hV h
    go_enter Try.func25, Try.ntmps25
    go_wp2
    go_ret
    exact ⟨rfl, (Below.refl _ _).alloc (Nat.le_refl _) _⟩
  · have hV : rLiv l b = false := by unfold rLiv; rw [rbOf_none h]
    rw [hV]
    obtain ⟨A, c, rfl⟩ := rsl H.row
    unfold in64 at hb
    clear H hV
    go_enter Try.func25, Try.ntmps25
    go_wp2
    all_goals
      go_ret
      refine ⟨?_, (Below.refl _ _).alloc (Nat.le_refl _) _⟩
      first | rfl | (exfalso; omega)
end Go.Proofs.Ytjianllngobhhaa
