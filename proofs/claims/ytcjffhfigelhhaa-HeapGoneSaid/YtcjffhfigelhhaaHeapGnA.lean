/- HeapGone answers true. Conditions: each theorem's. -/
import Derived.Test.YtcjffhfigelhhaaHeapM
import Derived.Deep.MidRow
import Derived.Deep.AppendLies
namespace Go.Proofs.Ytcjffhfigelhhaa
open Go.RowKit Go.Maps
set_option linter.unusedVariables false
set_option linter.unusedSimpArgs false
set_option maxRecDepth 100000
open Hp
namespace Hp
def wv (x : Int) (b : Nat) : Int := IntKind.u64.wrap (x + (b : Int))
def gnRm (sz : List Int) (i : Nat) : Int → Option (Int × Bool) := fun b => if 1 ≤ b ∧ b ≤ i then some (sz.getD (b - 1).toNat 0 + 8, true) else none
structure GnOk (sz : List Int) (x : Int) (i : Nat) (A : Ab) : Prop where
  made : A.made = i
  room : A.room = gnRm sz i
  st : ∀ b : Nat, b < i → A.st ((b : Int) + 1) 0 = ⟨wv x b, p0⟩
structure GnM (sz : List Int) (x : Int) (i : Nat) (A : Ab) : Prop where
  made : A.made = (i : Int) + 1
  room : A.room = gnRm sz (i + 1)
  st : ∀ b : Nat, b < i → A.st ((b : Int) + 1) 0 = ⟨wv x b, p0⟩
def gnRd (sz : List Int) (n k : Nat) : Int → Option (Int × Bool) := fun b => if b = (k : Int) + 1 then none else gnRm sz n b
structure GnD (sz : List Int) (x : Int) (n k : Nat) (A : Ab) : Prop where
  made : A.made = n
  room : A.room = gnRd sz n k
  st : ∀ b : Nat, b < n → b ≠ k → A.st ((b : Int) + 1) 0 = ⟨wv x b, p0⟩
structure GnE (sz : List Int) (x : Int) (n k : Nat) (A : Ab) : Prop where
  made : A.made = (n : Int) + 1
  room : ∀ b : Nat, b < n → A.room ((b : Int) + 1) = gnRd sz n k ((b : Int) + 1)
  st : ∀ b : Nat, b < n → b ≠ k → A.st ((b : Int) + 1) 0 = ⟨wv x b, p0⟩
end Hp
/-- The heap within the law: what is the law's own is no block of it. -/
def Cg (P : Ab → Prop) (w : World) (h : Nat) (L : List Nat) (c : Nat) (V : World) : Prop :=
  ∃ o A, HpIs V h o c A ∧ P A ∧ (∀ m ∈ L, ¬ o m ∧ m < V.heap.size) ∧ (∀ j, o j → w.heap.size ≤ j) ∧ Below w.heap.size w V
section
variable {P Q : Ab → Prop} {w V N : World} {h c c' : Nat} {L L' : List Nat}
theorem Cg.be (H : Cg P w h L c V) : Below w.heap.size w V := by
  obtain ⟨o, A, h1, h2, h3, h4, h5⟩ := H; exact h5
theorem Cg.below (H : Cg P w h L c V) (hb : Below V.heap.size V N) : Cg P w h L c N := by
  obtain ⟨o, A, h1, h2, h3, h4, h5⟩ := H
  exact ⟨o, A, h1.below hb, h2, fun m hm => ⟨(h3 m hm).1, Nat.lt_of_lt_of_le (h3 m hm).2 hb.size⟩, h4, h5.trans (hb.mono h5.size)⟩
theorem Cg.alloc (H : Cg P w h L c V) (X : Obj) : Cg P w h (V.heap.size :: L) c (V.alloc X) := by
  obtain ⟨o, A, h1, h2, h3, h4, h5⟩ := H
  refine ⟨o, A, h1.alloc X, h2, fun m hm => ?_, h4, h5.alloc h5.size X⟩
  rcases List.mem_cons.1 hm with rfl | hm
  · exact ⟨fun e => by have := h1.lt _ e; omega, by simp⟩
  · exact ⟨(h3 m hm).1, by have := (h3 m hm).2; simp; omega⟩
theorem Cg.cut (H : Cg P w h L c V) (hL : ∀ m ∈ L', m ∈ L) (hc : c ≤ c') : Cg P w h L' c' V := by
  obtain ⟨o, A, h1, h2, h3, h4, h5⟩ := H
  exact ⟨o, A, h1.mono hc, h2, fun m hm => h3 m (hL m hm), h4, h5⟩
theorem Cg.imp (H : Cg P w h L c V) (hP : ∀ A, P A → Q A) : Cg Q w h L c V := by
  obtain ⟨o, A, h1, h2, r⟩ := H
  exact ⟨o, A, h1, hP A h2, r⟩
/-- A row of the law's own grows. -/
theorem Cg.grow {v : Option Nat} {g : Nat} (H : Cg P w h L c V) (hv : ∀ m, v = some m → m ∈ L ∧ w.heap.size ≤ m) (hg : V.grownBy N v) (hat : v = some g ∨ g = V.heap.size) (hlt : g < N.heap.size) : Cg P w h (g :: L) c N := by
  obtain ⟨o, A, h1, h2, h3, h4, h5⟩ := H
  refine ⟨o, A, h1.keep (fun j hj => hg.block j (h1.lt j hj) (fun e => (h3 j (hv j e.symm).1).1 hj)), h2, fun q hq => ?_, h4, ?_⟩
  · rcases List.mem_cons.1 hq with rfl | hq
    · refine ⟨fun e => ?_, hlt⟩
      rcases hat with e2 | e2
      · exact (h3 q (hv q e2).1).1 e
      · have := h1.lt _ e; omega
    · exact ⟨(h3 q hq).1, Nat.lt_of_lt_of_le (h3 q hq).2 hg.size⟩
  · exact ⟨hg.os.trans h5.os, hg.tape.trans h5.tape, hg.output.trans h5.output, Nat.le_trans h5.size hg.size, fun k hk => (hg.block k (Nat.lt_of_lt_of_le hk h5.size) (fun e => by have := (hv k e.symm).2; omega)).trans (h5.block k hk)⟩
/-- What a call that keeps to the heap's own does. -/
theorem Cg.stays {o' : Nat → Prop} {A' : Ab} {w' : World} {o : Nat → Prop} (h6 : HpIs w' h o' c' A') (hQ : Q A') (hs : Stays o V o' w') (h3 : ∀ m ∈ L, ¬ o m ∧ m < V.heap.size) (h4 : ∀ j, o j → w.heap.size ≤ j) (h5 : Below w.heap.size w V) :
    Cg Q w h L c' w' ∧ ∀ m ∈ L, m < V.heap.size → w'.heap[m]? = V.heap[m]? :=
  ⟨⟨o', A', h6, hQ, fun m hm => ⟨fun e => (hs.own m e).elim (h3 m hm).1 (fun e2 => by have := (h3 m hm).2; omega), Nat.lt_of_lt_of_le (h3 m hm).2 hs.size⟩, hs.ge h5.size h4, h5.trans (hs.toBelow h5.size h4)⟩, fun m hm hl => hs.block m hl (h3 m hm).1⟩
end
def ptA (b s : Int) : Value := .agg #[.int .i64 b, .int .i64 0, .int .i64 0, .int .i64 s]
def vlA (v : Int) : Value := .agg #[.int .u64 v, .int .i64 0, .int .i64 0, .int .i64 0, .int .i64 0]
theorem gn_ok (b s : Int) (hb : in64 b) (hs : in64 s) : (Ptr.mk b 0 0 s).ok := by
  refine ⟨hb, ?_, ?_, hs⟩ <;> (unfold in64; dsimp only; omega)
theorem gnRm_in {sz : List Int} {i b : Nat} (h : b < i) : gnRm sz i ((b : Int) + 1) = some (sz.getD b 0 + 8, true) := by
  unfold gnRm
  rw [if_pos ⟨by omega, by omega⟩]
  congr 4
  omega
section
variable {w V : World} {h c i n k : Nat} {L : List Nat} {sz : List Int} {x : Int}
theorem gnMake {s : Int} (H : Cg (GnOk sz x i) w h L c V) (hs : 0 ≤ s ∧ s < 256) (hsi : sz.getD i 0 = s) (hc : c < 1000) :
    Calls Try.prog 15 #[.pointer (some ⟨h, 0, none⟩), .int .i64 (s + 8), .bool true] V fun e w' => e = .returned (.tuple #[ptA ((i : Int) + 1) (s + 8), .int .i64 0]) ∧ Cg (GnM sz x i) w h L (c + 1) w' ∧ ∀ m ∈ L, m < V.heap.size → w'.heap[m]? = V.heap[m]? := by
  obtain ⟨o, A, h1, h2, h3, h4, h5⟩ := H
  have hb : big (s + 8) = false := by unfold big; simp; omega
  refine (make_any h1 (by omega) (s + 8) true).mono ?_
  rintro e w' ⟨o', rfl, h6, h7⟩
  refine ⟨?_, Cg.stays h6 ?_ h7 h3 h4 h5⟩
  · unfold Ab.makeV Ab.makeE
    rw [hb, h2.made]
    rfl
  · unfold Ab.make
    rw [hb]
    simp only [Bool.false_eq_true, if_false]
    refine ⟨by show A.made + 1 = _; rw [h2.made], ?_, h2.st⟩
    funext b
    show (if b = A.made + 1 then some (s + 8, true) else A.room b) = _
    rw [h2.made, h2.room]
    by_cases e : b = (i : Int) + 1
    · rw [if_pos e, e, gnRm_in (Nat.lt_succ_self i), hsi]
    · rw [if_neg e]
      unfold gnRm
      by_cases e2 : 1 ≤ b ∧ b ≤ (i : Int)
      · rw [if_pos e2, if_pos ⟨e2.1, by omega⟩]
      · rw [if_neg e2, if_neg (fun q => e2 ⟨q.1, by omega⟩)]
theorem gnStore {s : Int} (H : Cg (GnM sz x i) w h L c V) (hs : 0 ≤ s ∧ s < 256) (hi : i < 1000) (hsi : sz.getD i 0 = s) (hc : c < 1000) :
    Calls Try.prog 20 #[.pointer (some ⟨h, 0, none⟩), ptA ((i : Int) + 1) (s + 8), .int .i64 8, vlA (wv x i)] V fun e w' => e = .returned (.int .i64 0) ∧ Cg (GnOk sz x (i + 1)) w h L (c + 2) w' ∧ ∀ m ∈ L, m < V.heap.size → w'.heap[m]? = V.heap[m]? := by
  obtain ⟨o, A, h1, h2, h3, h4, h5⟩ := H
  have ha : A.at_ ⟨(i : Int) + 1, 0, 0, s + 8⟩ 8 = 0 := by
    unfold Ab.at_
    have hw : wid 8 = true := rfl
    have hf : fits ⟨(i : Int) + 1, 0, 0, s + 8⟩ 8 = true := by unfold fits; simp; omega
    rw [hw, hf]
    simp only [Bool.true_eq_false, if_false, if_true]
    rw [if_neg (by omega), h2.room, gnRm_in (Nat.lt_succ_self i)]
    rfl
  refine (store_any h1 (by omega) ⟨(i : Int) + 1, 0, 0, s + 8⟩ (gn_ok _ _ (by unfold in64; omega) (by unfold in64; omega)) 8 ⟨wv x i, p0⟩).mono ?_
  rintro e w' ⟨o', rfl, h6, h7⟩
  refine ⟨by rw [ha], Cg.stays h6 ?_ h7 h3 h4 h5⟩
  unfold Ab.store
  rw [if_pos ha]
  refine ⟨by show A.made = _; rw [h2.made]; simp, h2.room, fun b hb => ?_⟩
  simp only [Ab.put]
  by_cases e : b = i
  · subst e; rw [if_pos ⟨rfl, by trivial⟩]
  · rw [if_neg (fun q => e (by omega))]
    exact h2.st b (by omega)
theorem gn_drop {A : Ab} (H : GnOk sz x n A) (hk : k < n) : GnD sz x n k (A.drop ((k : Int) + 1)) := by
  refine ⟨H.made, ?_, fun b hb hne => ?_⟩
  · funext b
    show (if b = (k : Int) + 1 then none else A.room b) = _
    rw [H.room]; rfl
  · show (if (b : Int) + 1 = (k : Int) + 1 then v0 else A.st ((b : Int) + 1) 0) = _
    rw [if_neg (by omega)]
    exact H.st b hb
theorem gnEnd (H : Cg (GnOk sz x n) w h L c V) (hk : k < n) (hn : n < 1000) (hc : c < 1000) :
    Calls Try.prog 24 #[.pointer (some ⟨h, 0, none⟩), .int .i64 ((k : Int) + 1)] V fun e w' => e = .returned (.int .i64 0) ∧ Cg (GnD sz x n k) w h L (c + 1) w' ∧ ∀ m ∈ L, m < V.heap.size → w'.heap[m]? = V.heap[m]? := by
  obtain ⟨o, A, h1, h2, h3, h4, h5⟩ := H
  have hn0 : A.nb ((k : Int) + 1) = 0 := by
    unfold Ab.nb
    rw [h2.made, if_neg (by omega), h2.room, gnRm_in hk]
    rfl
  refine (end_any h1 (by omega) _ (by unfold in64; omega)).mono ?_
  rintro e w' ⟨o', rfl, h6, h7⟩
  refine ⟨by rw [hn0], Cg.stays h6 ?_ h7 h3 h4 h5⟩
  unfold Ab.endE
  rw [if_pos hn0]
  exact gn_drop h2 hk
theorem gnFree (H : Cg (GnOk sz x n) w h L c V) (hk : k < n) (hn : n < 1000) (hc : c < 1000) (hs : 0 ≤ sz.getD k 0 ∧ sz.getD k 0 < 256) :
    Calls Try.prog 22 #[.pointer (some ⟨h, 0, none⟩), ptA ((k : Int) + 1) (sz.getD k 0 + 8)] V fun e w' => e = .returned (.int .i64 0) ∧ Cg (GnD sz x n k) w h L (c + 1) w' ∧ ∀ m ∈ L, m < V.heap.size → w'.heap[m]? = V.heap[m]? := by
  obtain ⟨o, A, h1, h2, h3, h4, h5⟩ := H
  have hf : A.fr ⟨(k : Int) + 1, 0, 0, sz.getD k 0 + 8⟩ = 0 := by
    unfold Ab.fr
    rw [if_neg (by show ¬ (k : Int) + 1 = 0; omega), h2.room, gnRm_in hk]
    simp
  refine (free_any h1 (by omega) ⟨(k : Int) + 1, 0, 0, sz.getD k 0 + 8⟩ (gn_ok _ _ (by unfold in64; omega) (by unfold in64; omega))).mono ?_
  rintro e w' ⟨o', rfl, h6, h7⟩
  refine ⟨by rw [hf], Cg.stays h6 ?_ h7 h3 h4 h5⟩
  unfold Ab.freeE
  rw [if_pos hf]
  exact gn_drop h2 hk
theorem gnRd_k : gnRd sz n k ((k : Int) + 1) = none := if_pos rfl
theorem dLive (H : Cg (GnD sz x n k) w h L c V) (hn : k < 1000) :
    Calls Try.prog 28 #[.pointer (some ⟨h, 0, none⟩), .int .i64 ((k : Int) + 1)] V fun e w' => e = .returned (.bool false) ∧ Below V.heap.size V w' := by
  obtain ⟨o, A, h1, h2, h3, h4, h5⟩ := H
  refine (live_any h1 _ (by unfold in64; omega)).mono ?_
  rintro e w' ⟨rfl, hb⟩
  refine ⟨?_, hb⟩
  rw [h2.room, gnRd_k]
  rfl
theorem dFree {s : Int} (H : Cg (GnD sz x n k) w h L c V) (hn : k < 1000) (hc : c < 1000) (hs : 0 ≤ s ∧ s < 256) :
    Calls Try.prog 22 #[.pointer (some ⟨h, 0, none⟩), ptA ((k : Int) + 1) (s + 8)] V fun e w' => e = .returned (.int .i64 20) ∧ Cg (GnD sz x n k) w h L (c + 1) w' ∧ ∀ m ∈ L, m < V.heap.size → w'.heap[m]? = V.heap[m]? := by
  obtain ⟨o, A, h1, h2, h3, h4, h5⟩ := H
  have hf : A.fr ⟨(k : Int) + 1, 0, 0, s + 8⟩ = 20 := by
    unfold Ab.fr
    rw [if_neg (by show ¬ (k : Int) + 1 = 0; omega), h2.room, gnRd_k]
  refine (free_any h1 (by omega) ⟨(k : Int) + 1, 0, 0, s + 8⟩ (gn_ok _ _ (by unfold in64; omega) (by unfold in64; omega))).mono ?_
  rintro e w' ⟨o', rfl, h6, h7⟩
  refine ⟨by rw [hf], Cg.stays h6 ?_ h7 h3 h4 h5⟩
  unfold Ab.freeE
  rw [hf, if_neg (by decide)]
  exact h2
theorem d_nb {A : Ab} (H : GnD sz x n k A) (hk : k < n) : A.nb ((k : Int) + 1) = 20 := by
  unfold Ab.nb
  rw [H.made, if_neg (by omega), H.room, gnRd_k]
  rfl
theorem dEnd (H : Cg (GnD sz x n k) w h L c V) (hk : k < n) (hn : n < 1000) (hc : c < 1000) :
    Calls Try.prog 24 #[.pointer (some ⟨h, 0, none⟩), .int .i64 ((k : Int) + 1)] V fun e w' => e = .returned (.int .i64 20) ∧ Cg (GnD sz x n k) w h L (c + 1) w' ∧ ∀ m ∈ L, m < V.heap.size → w'.heap[m]? = V.heap[m]? := by
  obtain ⟨o, A, h1, h2, h3, h4, h5⟩ := H
  refine (end_any h1 (by omega) _ (by unfold in64; omega)).mono ?_
  rintro e w' ⟨o', rfl, h6, h7⟩
  refine ⟨by rw [d_nb h2 hk], Cg.stays h6 ?_ h7 h3 h4 h5⟩
  unfold Ab.endE
  rw [d_nb h2 hk, if_neg (by decide)]
  exact h2
theorem dClear (H : Cg (GnD sz x n k) w h L c V) (hk : k < n) (hn : n < 1000) (hc : c < 1000) :
    Calls Try.prog 26 #[.pointer (some ⟨h, 0, none⟩), .int .i64 ((k : Int) + 1)] V fun e w' => e = .returned (.int .i64 20) ∧ Cg (GnD sz x n k) w h L (c + 1) w' ∧ ∀ m ∈ L, m < V.heap.size → w'.heap[m]? = V.heap[m]? := by
  obtain ⟨o, A, h1, h2, h3, h4, h5⟩ := H
  refine (clear_any h1 (by omega) _ (by unfold in64; omega)).mono ?_
  rintro e w' ⟨o', rfl, h6, h7⟩
  refine ⟨by rw [d_nb h2 hk], Cg.stays h6 ?_ h7 h3 h4 h5⟩
  unfold Ab.clearE
  rw [d_nb h2 hk, if_neg (by decide)]
  exact h2
theorem dMake (H : Cg (GnD sz x n k) w h L c V) (hc : c < 1000) :
    Calls Try.prog 15 #[.pointer (some ⟨h, 0, none⟩), .int .i64 8, .bool true] V fun e w' => e = .returned (.tuple #[ptA ((n : Int) + 1) 8, .int .i64 0]) ∧ Cg (GnE sz x n k) w h L (c + 1) w' ∧ ∀ m ∈ L, m < V.heap.size → w'.heap[m]? = V.heap[m]? := by
  obtain ⟨o, A, h1, h2, h3, h4, h5⟩ := H
  have hb : big 8 = false := rfl
  refine (make_any h1 (by omega) 8 true).mono ?_
  rintro e w' ⟨o', rfl, h6, h7⟩
  refine ⟨?_, Cg.stays h6 ?_ h7 h3 h4 h5⟩
  · unfold Ab.makeV Ab.makeE
    rw [hb, h2.made]
    rfl
  · unfold Ab.make
    rw [hb]
    simp only [Bool.false_eq_true, if_false]
    refine ⟨by show A.made + 1 = _; rw [h2.made], fun b hb => ?_, h2.st⟩
    show (if (b : Int) + 1 = A.made + 1 then some (8, true) else A.room ((b : Int) + 1)) = _
    rw [h2.made, if_neg (by omega), h2.room]
namespace Hp
def gC (b k : Nat) : Int := if b = k then 20 else 0
def gV (x : Int) (b k : Nat) : Int := if b = k then 0 else wv x b
theorem gC_y (k : Nat) : gC k k = 20 := if_pos rfl
theorem gC_n {b k : Nat} (h : b ≠ k) : gC b k = 0 := if_neg h
end Hp
theorem e_at {A : Ab} (H : GnE sz x n k A) {b : Nat} (hb : b < n) {p : Ptr} {m : Int} (hw : wid m = true) (hp : p.bl = (b : Int) + 1) (hf : fits p m = true) : A.at_ p m = gC b k := by
  unfold Ab.at_
  rw [hw, hf, hp, if_neg (by decide), if_neg (by omega), H.room b hb]
  unfold gC
  by_cases e : b = k
  · subst e; rw [gnRd_k]; simp
  · have e3 : gnRd sz n k ((b : Int) + 1) = gnRm sz n ((b : Int) + 1) := if_neg (by omega)
    rw [e3, gnRm_in hb, if_neg e]; rfl
theorem eLoad {b : Nat} (H : Cg (GnE sz x n k) w h L c V) (hb : b < n) (hn : n < 1000) (hs : 0 ≤ sz.getD b 0 ∧ sz.getD b 0 < 256) :
    Calls Try.prog 17 #[.pointer (some ⟨h, 0, none⟩), ptA ((b : Int) + 1) (sz.getD b 0 + 8), .int .i64 8] V fun e w' => e = .returned (.tuple #[vlA (gV x b k), .int .i64 (gC b k)]) ∧ Below V.heap.size V w' := by
  obtain ⟨o, A, h1, h2, h3, h4, h5⟩ := H
  have ha : A.at_ ⟨(b : Int) + 1, 0, 0, sz.getD b 0 + 8⟩ 8 = gC b k := e_at h2 hb rfl rfl (by unfold fits; rw [decide_eq_true_eq]; dsimp only; omega)
  refine (load_any h1 ⟨(b : Int) + 1, 0, 0, sz.getD b 0 + 8⟩ (gn_ok _ _ (by unfold in64; omega) (by unfold in64; omega)) 8).mono ?_
  rintro e w' ⟨rfl, hbe⟩
  refine ⟨?_, hbe⟩
  unfold Ab.load
  rw [ha]
  by_cases e : b = k
  · subst e
    unfold gC gV
    rw [if_pos rfl, if_pos rfl]; rfl
  · rw [gC_n e, if_pos rfl]
    show Ending.returned (.tuple #[(A.st ((b : Int) + 1) 0).v, _]) = _
    rw [h2.st b hb e]
    unfold gV
    rw [if_neg e]; rfl
theorem eStore {b : Nat} {v : Int} (H : Cg (GnE sz x n k) w h L c V) (hb : b < n) (hn : n < 1000) (hs : 0 ≤ sz.getD b 0 ∧ sz.getD b 0 < 256) (hc : c < 1000) :
    Calls Try.prog 20 #[.pointer (some ⟨h, 0, none⟩), (mv ⟨(b : Int) + 1, 0, 0, sz.getD b 0 + 8⟩ 1).v, .int .i64 1, vlA v] V fun e w' => e = .returned (.int .i64 (gC b k)) ∧ Cg (GnE sz x n k) w h L (c + 2) w' ∧ ∀ m ∈ L, m < V.heap.size → w'.heap[m]? = V.heap[m]? := by
  obtain ⟨o, A, h1, h2, h3, h4, h5⟩ := H
  have hm : mv ⟨(b : Int) + 1, 0, 0, sz.getD b 0 + 8⟩ 1 = ⟨(b : Int) + 1, 1, 0, sz.getD b 0 + 8⟩ := by
    unfold mv
    rw [if_neg (by show ¬ (b : Int) + 1 = 0; omega)]
    simp only [Int.zero_add]
    rw [w64_id (by unfold in64; omega)]
  have ha : A.at_ ⟨(b : Int) + 1, 1, 0, sz.getD b 0 + 8⟩ 1 = gC b k := e_at h2 hb rfl rfl (by unfold fits; rw [decide_eq_true_eq]; dsimp only; omega)
  have hok : (Ptr.mk ((b : Int) + 1) 1 0 (sz.getD b 0 + 8)).ok := by
    unfold Ptr.ok in64; refine ⟨?_, ?_, ?_, ?_⟩ <;> dsimp only <;> omega
  rw [hm]
  refine (store_any h1 (by omega) _ hok 1 ⟨v, p0⟩).mono ?_
  rintro e w' ⟨o', rfl, h6, h7⟩
  refine ⟨by rw [ha], Cg.stays h6 ?_ h7 h3 h4 h5⟩
  unfold Ab.store
  split
  · refine ⟨h2.made, h2.room, fun q hq hne => ?_⟩
    show (if (q : Int) + 1 = (b : Int) + 1 ∧ (0 : Int) = 1 then _ else _) = _
    rw [if_neg (fun e => absurd e.2 (by decide))]
    exact h2.st q hq hne
  · exact h2
end
end Go.Proofs.Ytcjffhfigelhhaa
