/- Both heaps of HeapPlays, side by side. Conditions: each theorem's. -/
import Derived.Test.YtjianllngobhhaaHeapRk
import Derived.Deep.MidRow
import Derived.Deep.AppendLies
namespace Go.Proofs.Ytjianllngobhhaa
open Go.RowKit Go.Maps
set_option linter.unusedVariables false
set_option linter.unusedSimpArgs false
set_option maxRecDepth 100000
open Hp
/-- Both heaps within the law: neither has a block of the other's, nor of the law's. -/
def Cp (w : World) (h : Nat) (L : List Nat) (i : Nat) (v : Value) (l : List Rb) (A : Ab) (V : World) : Prop :=
  ∃ o, HpIs V h o (2 * i) A ∧ RfAt V w.heap.size v l ∧ (l.length ≤ i ∧ ∀ r ∈ l, r.cs.length ≤ i) ∧ (∀ m ∈ L, ¬ o m ∧ ¬ rOwn v l m ∧ m < V.heap.size) ∧ (∀ j, o j → w.heap.size ≤ j ∧ ¬ rOwn v l j) ∧ Below w.heap.size w V
def Kept (L : List Nat) (V N : World) : Prop := ∀ m ∈ L, N.heap[m]? = V.heap[m]?
section
variable {w V N : World} {h i i' : Nat} {L L' : List Nat} {v v' : Value} {l l' : List Rb} {A A' : Ab}
theorem Cp.be (H : Cp w h L i v l A V) : Below w.heap.size w V := by
  obtain ⟨o, h1, h2, h3, h4, h5, h6⟩ := H; exact h6
theorem Cp.lt (H : Cp w h L i v l A V) {m : Nat} (hm : m ∈ L) : m < V.heap.size := by
  obtain ⟨o, h1, h2, h3, h4, h5, h6⟩ := H; exact (h4 m hm).2.2
theorem Cp.len (H : Cp w h L i v l A V) : l.length ≤ i := by
  obtain ⟨o, h1, h2, h3, h4, h5, h6⟩ := H; exact h3.1
theorem Cp.below (H : Cp w h L i v l A V) (hb : Below V.heap.size V N) : Cp w h L i v l A N := by
  obtain ⟨o, h1, h2, h3, h4, h5, h6⟩ := H
  exact ⟨o, h1.below hb, h2.below hb, h3, fun m hm => ⟨(h4 m hm).1, (h4 m hm).2.1, Nat.lt_of_lt_of_le (h4 m hm).2.2 hb.size⟩, h5, h6.trans (hb.mono h6.size)⟩
theorem Cp.kept (H : Cp w h L i v l A V) (hb : Below V.heap.size V N) : Kept L V N := fun m hm => hb.block m (H.lt hm)
theorem Cp.alloc (H : Cp w h L i v l A V) (X : Obj) : Cp w h (V.heap.size :: L) i v l A (V.alloc X) := by
  have hb : Below V.heap.size V (V.alloc X) := (Below.refl _ _).alloc (Nat.le_refl _) _
  obtain ⟨o, h1, h2, h3, h4, h5, h6⟩ := H
  refine ⟨o, h1.below hb, h2.below hb, h3, fun m hm => ?_, h5, h6.trans (hb.mono h6.size)⟩
  rcases List.mem_cons.1 hm with rfl | hm
  · exact ⟨fun e => by have := h1.lt _ e; omega, fun e => by have := (h2.lt _ e).1; omega, by simp⟩
  · exact ⟨(h4 m hm).1, (h4 m hm).2.1, Nat.lt_of_lt_of_le (h4 m hm).2.2 hb.size⟩
theorem Cp.cut (H : Cp w h L i v l A V) (hL : ∀ m ∈ L', m ∈ L) (hc : i ≤ i') : Cp w h L' i' v l A V := by
  obtain ⟨o, h1, h2, h3, h4, h5, h6⟩ := H
  exact ⟨o, h1.mono (by omega), h2, ⟨Nat.le_trans h3.1 hc, fun r hr => Nat.le_trans (h3.2 r hr) hc⟩, fun m hm => h4 m (hL m hm), h5, h6⟩
/-- A cell of the law's own is written. -/
theorem Cp.set (H : Cp w h L i v l A V) {m k : Nat} (hm : m ∈ L) (hw : w.heap.size ≤ m) (u : Value) : Cp w h L i v l A (V.setCell ⟨m, k, none⟩ u) := by
  obtain ⟨o, h1, h2, h3, h4, h5, h6⟩ := H
  have hk : ∀ j, j ≠ m → (V.setCell ⟨m, k, none⟩ u).heap[j]? = V.heap[j]? := fun j hj => Below.heap_setCell V _ u j hj
  refine ⟨o, h1.keep fun j hj => hk j (fun e => (h4 m hm).1 (e ▸ hj)), h2.keep fun j hj => hk j (fun e => (h4 m hm).2.1 (e ▸ hj)), h3, fun q hq => ⟨(h4 q hq).1, (h4 q hq).2.1, by simp only [World.size_setCell]; exact (h4 q hq).2.2⟩, h5, ?_⟩
  exact h6.setCell hw _
/-- A row of the law's own grows. -/
theorem Cp.grow {u : Option Nat} {g : Nat} (H : Cp w h L i v l A V) (hv : ∀ m, u = some m → m ∈ L ∧ w.heap.size ≤ m) (hg : V.grownBy N u) (hat : u = some g ∨ g = V.heap.size) (hlt : g < N.heap.size) : Cp w h (g :: L) i v l A N := by
  obtain ⟨o, h1, h2, h3, h4, h5, h6⟩ := H
  refine ⟨o, h1.keep (fun j hj => hg.block j (h1.lt j hj) (fun e => (h4 j (hv j e.symm).1).1 hj)), h2.keep (fun j hj => hg.block j (h2.lt j hj).1 (fun e => (h4 j (hv j e.symm).1).2.1 hj)), h3, fun q hq => ?_, h5, ?_⟩
  · rcases List.mem_cons.1 hq with rfl | hq
    · refine ⟨fun e => ?_, fun e => ?_, hlt⟩
      · rcases hat with e2 | e2
        · exact (h4 q (hv q e2).1).1 e
        · have := h1.lt _ e; omega
      · rcases hat with e2 | e2
        · exact (h4 q (hv q e2).1).2.1 e
        · have := (h2.lt _ e).1; omega
    · exact ⟨(h4 q hq).1, (h4 q hq).2.1, Nat.lt_of_lt_of_le (h4 q hq).2.2 hg.size⟩
  · exact ⟨hg.os.trans h6.os, hg.tape.trans h6.tape, hg.output.trans h6.output, Nat.le_trans h6.size hg.size, fun k hk => (hg.block k (Nat.lt_of_lt_of_le hk h6.size) (fun e => by have := (hv k e.symm).2; omega)).trans (h6.block k hk)⟩
theorem Cp.open_ (H : Cp w h L i v l A V) : ∃ o, HpIs V h o (2 * i) A ∧ ∀ o' A' w', HpIs w' h o' (2 * i + 2) A' → Stays o V o' w' → Cp w h L (i + 1) v l A' w' ∧ Kept L V w' := by
  obtain ⟨o, h1, h2, h3, h4, h5, h6⟩ := H
  refine ⟨o, h1, fun o' A' w' g1 g2 => ⟨⟨o', g1, h2.keep fun j hj => g2.block j (h2.lt j hj).1 (fun e => (h5 j e).2 hj), ⟨by omega, fun r hr => Nat.le_succ_of_le (h3.2 r hr)⟩, fun m hm => ⟨fun e => (g2.own m e).elim (h4 m hm).1 (fun e2 => by have := (h4 m hm).2.2; omega), (h4 m hm).2.1, Nat.lt_of_lt_of_le (h4 m hm).2.2 g2.size⟩, fun j hj => ?_, h6.trans (g2.toBelow h6.size fun j hj => (h5 j hj).1)⟩, fun m hm => g2.block m (h4 m hm).2.2 (h4 m hm).1⟩⟩
  rcases g2.own j hj with e | e
  · exact h5 j e
  · exact ⟨Nat.le_trans h6.size e, fun q => by have := (h2.lt j q).1; omega⟩
theorem Cp.opens (H : Cp w h L i v l A V) : RfAt V w.heap.size v l ∧ w.heap.size ≤ V.heap.size ∧ (∀ r ∈ l, r.cs.length ≤ i) ∧ ∀ v' l' w', RDid V w.heap.size v l v' l' w' → (l'.length ≤ i + 1 ∧ ∀ r ∈ l', r.cs.length ≤ i + 1) → Cp w h L (i + 1) v' l' A w' ∧ Kept L V w' := by
  obtain ⟨o, h1, h2, h3, h4, h5, h6⟩ := H
  refine ⟨h2, h6.size, h3.2, fun v' l' w' g hl => ⟨⟨o, (h1.mono (c' := 2 * (i + 1)) (by omega)).keep fun j hj => g.stays.block j (h1.lt j hj) (h5 j hj).2, g.at_, hl, fun m hm => ⟨(h4 m hm).1, fun e => (g.stays.own m e).elim (h4 m hm).2.1 (fun e2 => by have := (h4 m hm).2.2; omega), Nat.lt_of_lt_of_le (h4 m hm).2.2 g.stays.size⟩, fun j hj => ⟨(h5 j hj).1, fun e => ?_⟩, h6.trans (g.stays.toBelow h6.size fun j hj => (h2.lt j hj).2)⟩, fun m hm => g.stays.block m (h4 m hm).2.2 (h4 m hm).2.1⟩⟩
  rcases g.stays.own j e with e | e
  · exact (h5 j hj).2 e
  · have := h1.lt j hj; omega
theorem pMake (H : Cp w h L i v l A V) (hi : i < 1000) (s : Int) (f : Bool) :
    Calls Try.prog 11 #[.pointer (some ⟨h, 0, none⟩), .int .i64 s, .bool f] V fun e w' => e = .returned (.tuple #[(A.makeV s).v, .int .i64 (Ab.makeE s)]) ∧ Cp w h L (i + 1) v l (A.make s f) w' ∧ Kept L V w' := by
  obtain ⟨o, h1, h2⟩ := H.open_
  refine (make_any h1 (by omega) s f).mono ?_
  rintro e w' ⟨o', rfl, h6, h7⟩
  exact ⟨rfl, h2 _ _ _ (h6.mono (by omega)) h7⟩
theorem pLoad (H : Cp w h L i v l A V) (p : Ptr) (hp : p.ok) (n : Int) :
    Calls Try.prog 13 #[.pointer (some ⟨h, 0, none⟩), p.v, .int .i64 n] V fun e w' => e = .returned (.tuple #[(A.load p n).v, .int .i64 (A.at_ p n)]) ∧ Below V.heap.size V w' := by
  obtain ⟨o, h1, h2⟩ := H.open_
  exact load_any h1 p hp n
theorem pStore (H : Cp w h L i v l A V) (hi : i < 1000) (p : Ptr) (hp : p.ok) (n : Int) (x : Val) :
    Calls Try.prog 16 #[.pointer (some ⟨h, 0, none⟩), p.v, .int .i64 n, x.v] V fun e w' => e = .returned (.int .i64 (A.at_ p n)) ∧ Cp w h L (i + 1) v l (A.store p n x) w' ∧ Kept L V w' := by
  obtain ⟨o, h1, h2⟩ := H.open_
  refine (store_any h1 (by omega) p hp n x).mono ?_
  rintro e w' ⟨o', rfl, h6, h7⟩
  exact ⟨rfl, h2 _ _ _ h6 h7⟩
theorem pFree (H : Cp w h L i v l A V) (hi : i < 1000) (p : Ptr) (hp : p.ok) :
    Calls Try.prog 18 #[.pointer (some ⟨h, 0, none⟩), p.v] V fun e w' => e = .returned (.int .i64 (A.fr p)) ∧ Cp w h L (i + 1) v l (A.freeE p) w' ∧ Kept L V w' := by
  obtain ⟨o, h1, h2⟩ := H.open_
  refine (free_any h1 (by omega) p hp).mono ?_
  rintro e w' ⟨o', rfl, h6, h7⟩
  exact ⟨rfl, h2 _ _ _ (h6.mono (by omega)) h7⟩
theorem pEnd (H : Cp w h L i v l A V) (hi : i < 1000) (b : Int) (hb : in64 b) :
    Calls Try.prog 20 #[.pointer (some ⟨h, 0, none⟩), .int .i64 b] V fun e w' => e = .returned (.int .i64 (A.nb b)) ∧ Cp w h L (i + 1) v l (A.endE b) w' ∧ Kept L V w' := by
  obtain ⟨o, h1, h2⟩ := H.open_
  refine (end_any h1 (by omega) b hb).mono ?_
  rintro e w' ⟨o', rfl, h6, h7⟩
  exact ⟨rfl, h2 _ _ _ (h6.mono (by omega)) h7⟩
theorem pClear (H : Cp w h L i v l A V) (hi : i < 1000) (b : Int) (hb : in64 b) :
    Calls Try.prog 22 #[.pointer (some ⟨h, 0, none⟩), .int .i64 b] V fun e w' => e = .returned (.int .i64 (A.nb b)) ∧ Cp w h L (i + 1) v l (A.clearE b) w' ∧ Kept L V w' := by
  obtain ⟨o, h1, h2⟩ := H.open_
  refine (clear_any h1 (by omega) b hb).mono ?_
  rintro e w' ⟨o', rfl, h6, h7⟩
  exact ⟨rfl, h2 _ _ _ (h6.mono (by omega)) h7⟩
theorem pLive (H : Cp w h L i v l A V) (hR : Rel A l) (b : Int) (hb : in64 b) :
    Calls Try.prog 24 #[.pointer (some ⟨h, 0, none⟩), .int .i64 b] V fun e w' => e = .returned (.bool (rLiv l b)) ∧ Below V.heap.size V w' := by
  obtain ⟨o, h1, h2⟩ := H.open_
  rw [← hR.live]
  exact live_any h1 b hb
theorem qLive (H : Cp w h L i v l A V) (b : Int) (hb : in64 b) :
    Calls Try.prog 25 #[.agg #[v], .int .i64 b] V fun e w' => e = .returned (.bool (rLiv l b)) ∧ Below V.heap.size V w' := rlive_any b hb H.opens.1
theorem qMake (H : Cp w h L i v l A V) (hi : i < 1000) (s : Int) (hs : in64 s) (f : Bool) :
    Calls Try.prog 12 #[.agg #[v], .int .i64 s, .bool f] V fun e w' => ∃ v', e = .returned (.tuple #[.agg #[v'], (rMakeV l s).v, .bool (!big s)]) ∧ Cp w h L (i + 1) v' (rMake l s f) A w' ∧ Kept L V w' := by
  have hl := H.len
  obtain ⟨h1, hb, hc, h2⟩ := H.opens
  refine (rmake_any s f hs h1 (by omega) hb).mono ?_
  rintro e w' ⟨v', rfl, h6⟩
  refine ⟨v', rfl, h2 _ _ _ h6 ?_⟩
  unfold rMake
  split
  · exact ⟨by omega, fun r hr => Nat.le_succ_of_le (hc r hr)⟩
  · refine ⟨by simp; omega, fun r hr => ?_⟩
    rcases List.mem_append.1 hr with hr | hr
    · exact Nat.le_succ_of_le (hc r hr)
    · rw [List.mem_singleton.1 hr]; simp [Rb.new]
theorem qLoad (H : Cp w h L i v l A V) (hR : Rel A l) (p : Ptr) (hp : p.ok) (n : Int) :
    Calls Try.prog 14 #[.agg #[v], p.v, .int .i64 n] V fun e w' => e = .returned (.tuple #[(A.load p n).v, .int .i64 (A.at_ p n)]) ∧ Below V.heap.size V w' := by
  rw [hR.load, hR.at_]
  exact rload_any p hp n H.opens.1
theorem qStore (H : Cp w h L i v l A' V) (hi : i < 1000) (hR : Rel A l) (p : Ptr) (hp : p.ok) (n : Int) (x : Val) :
    Calls Try.prog 17 #[.agg #[v], p.v, .int .i64 n, x.v] V fun e w' => e = .returned (.tuple #[.agg #[v], .int .i64 (A.at_ p n)]) ∧ (∃ l', Cp w h L (i + 1) v l' A' w' ∧ Rel (A.store p n x) l' ∧ l'.length = l.length) ∧ Kept L V w' := by
  have hl := H.len
  obtain ⟨h1, hb, hc, h2⟩ := H.opens
  rw [hR.at_]
  refine (rstore_any p hp n x h1 hb (fun r hr => by have := hc r hr; omega)).mono ?_
  rintro e w' ⟨rfl, l', h6, h7, h8, h9⟩
  have h10 := h2 _ _ _ h6 ⟨by omega, fun r hr => by obtain ⟨r0, hr0, h⟩ := h8 r hr; have := hc r0 hr0; omega⟩
  exact ⟨rfl, ⟨l', h10.1, h9 A hR, h7⟩, h10.2⟩
theorem set_cs {k : Nat} {r : Rb} (h : ∀ q ∈ l, q.cs.length ≤ i) (hr : r.cs = []) : (l.set k r).length = l.length ∧ ∀ q ∈ l.set k r, q.cs.length ≤ i + 1 :=
  ⟨by simp, fun q hq => by
    rcases List.mem_or_eq_of_mem_set hq with e | rfl
    · exact Nat.le_succ_of_le (h q e)
    · rw [hr]; simp⟩
theorem rClear_cs (b : Int) (h : ∀ q ∈ l, q.cs.length ≤ i) : (rClear l b).length = l.length ∧ ∀ q ∈ rClear l b, q.cs.length ≤ i + 1 := by
  unfold rClear
  split
  · exact ⟨rfl, fun q hq => Nat.le_succ_of_le (h q hq)⟩
  · split
    · exact set_cs h rfl
    · exact ⟨rfl, fun q hq => Nat.le_succ_of_le (h q hq)⟩
theorem rEnd_cs (b : Int) (h : ∀ q ∈ l, q.cs.length ≤ i) : (rEnd l b).length = l.length ∧ ∀ q ∈ rEnd l b, q.cs.length ≤ i + 1 := by
  unfold rEnd
  split
  · exact ⟨rfl, fun q hq => Nat.le_succ_of_le (h q hq)⟩
  · split
    · exact set_cs h rfl
    · exact ⟨rfl, fun q hq => Nat.le_succ_of_le (h q hq)⟩
theorem rFree_cs (p : Ptr) (h : ∀ q ∈ l, q.cs.length ≤ i) : (rFree l p).length = l.length ∧ ∀ q ∈ rFree l p, q.cs.length ≤ i + 1 := by
  unfold rFree
  split
  · exact rEnd_cs _ h
  · exact ⟨rfl, fun q hq => Nat.le_succ_of_le (h q hq)⟩
theorem qFree (H : Cp w h L i v l A' V) (hi : i < 1000) (hR : Rel A l) (p : Ptr) (hp : p.ok) :
    Calls Try.prog 19 #[.agg #[v], p.v] V fun e w' => e = .returned (.tuple #[.agg #[v], .int .i64 (A.fr p)]) ∧ (∃ l', Cp w h L (i + 1) v l' A' w' ∧ Rel (A.freeE p) l' ∧ l'.length = l.length) ∧ Kept L V w' := by
  have hl := H.len
  obtain ⟨h1, hb, hc, h2⟩ := H.opens
  rw [hR.fr]
  refine (rfree_any p hp h1).mono ?_
  rintro e w' ⟨rfl, h6⟩
  have h8 := rFree_cs p hc
  have h10 := h2 _ _ _ h6 ⟨by omega, h8.2⟩
  exact ⟨rfl, ⟨_, h10.1, hR.free p, h8.1⟩, h10.2⟩
theorem qEnd (H : Cp w h L i v l A' V) (hi : i < 1000) (hR : Rel A l) (b : Int) (hb : in64 b) :
    Calls Try.prog 21 #[.agg #[v], .int .i64 b] V fun e w' => e = .returned (.tuple #[.agg #[v], .int .i64 (A.nb b)]) ∧ (∃ l', Cp w h L (i + 1) v l' A' w' ∧ Rel (A.endE b) l' ∧ l'.length = l.length) ∧ Kept L V w' := by
  have hl := H.len
  obtain ⟨h1, hbb, hc, h2⟩ := H.opens
  rw [hR.nb]
  refine (rend_any b hb h1).mono ?_
  rintro e w' ⟨rfl, h6⟩
  have h8 := rEnd_cs b hc
  have h10 := h2 _ _ _ h6 ⟨by omega, h8.2⟩
  exact ⟨rfl, ⟨_, h10.1, hR.end_ b, h8.1⟩, h10.2⟩
theorem qClear (H : Cp w h L i v l A' V) (hi : i < 1000) (hR : Rel A l) (b : Int) (hb : in64 b) :
    Calls Try.prog 23 #[.agg #[v], .int .i64 b] V fun e w' => e = .returned (.tuple #[.agg #[v], .int .i64 (A.nb b)]) ∧ (∃ l', Cp w h L (i + 1) v l' A' w' ∧ Rel (A.clearE b) l' ∧ l'.length = l.length) ∧ Kept L V w' := by
  have hl := H.len
  obtain ⟨h1, hbb, hc, h2⟩ := H.opens
  rw [hR.nb]
  refine (rclear_any b hb h1).mono ?_
  rintro e w' ⟨rfl, h6⟩
  have h8 := rClear_cs b hc
  have h10 := h2 _ _ _ h6 ⟨by omega, h8.2⟩
  exact ⟨rfl, ⟨_, h10.1, hR.clear b, h8.1⟩, h10.2⟩
end
def ptL (p : Ptr) : List Value := [.int .i64 p.bl, .int .i64 p.off, .int .i64 p.lo, .int .i64 p.hi]
def ptsL (l : List Ptr) : List Value := l.flatMap ptL
/-- The slice of the pointers that were made. -/
structure MdAt (w V : World) (L : List Nat) (v : Value) (mp : List Ptr) : Prop where
  row : V.ownsRow w.heap.size 31 4 v mp.length (ptsL mp)
  own : ∀ m, v.ownBlock = some m → m ∈ L ∧ w.heap.size ≤ m
  ok : ∀ p ∈ mp, p.ok
theorem MdAt.keep {w V N : World} {L : List Nat} {v : Value} {mp : List Ptr} (H : MdAt w V L v mp) (hk : Kept L V N) : MdAt w N L v mp :=
  ⟨own_at H.row (fun j hj => hk j (H.own j hj).1), H.own, H.ok⟩
theorem MdAt.more {w V : World} {L L' : List Nat} {v : Value} {mp : List Ptr} (H : MdAt w V L v mp) (h : ∀ m ∈ L, m ∈ L') : MdAt w V L' v mp := ⟨H.row, fun m hm => ⟨h m (H.own m hm).1, (H.own m hm).2⟩, H.ok⟩
theorem MdAt.nil (w V : World) (L : List Nat) : MdAt w V L (.slice none 0 0) [] := ⟨⟨rfl, .inl ⟨rfl, rfl⟩⟩, by simp [Value.ownBlock], by simp⟩
theorem MdAt.get {w V : World} {L : List Nat} {v : Value} {mp : List Ptr} (H : MdAt w V L v mp) (k : Nat) (hk : k < mp.length) : ∃ g cap, v = .slice (some ⟨g, 0, none⟩) mp.length cap ∧ g ∈ L ∧ w.heap.size ≤ g ∧ g < V.heap.size ∧
    V.cell? ⟨g, k * 4, none⟩ = some (.int .i64 mp[k].bl) ∧ V.cell? ⟨g, k * 4 + 1, none⟩ = some (.int .i64 mp[k].off) ∧ V.cell? ⟨g, k * 4 + 2, none⟩ = some (.int .i64 mp[k].lo) ∧ V.cell? ⟨g, k * 4 + 3, none⟩ = some (.int .i64 mp[k].hi) := by
  obtain ⟨g, cap, cur, h1, h2, h3, h4, h5, h6, h7⟩ := own_get (n := 0) ptL (fun _ => rfl) H.row k hk
  exact ⟨g, cap, h1, (H.own g (by rw [h1]; rfl)).1, h2, lt_of_at h3, h7 0 (by omega), h7 1 (by omega), h7 2 (by omega), h7 3 (by omega)⟩
theorem infoPm : (Try.prog.info? 31).map (fun i => (i.zero, i.size, i.bytes)) = some (some (.agg #[.int .i64 0, .int .i64 0, .int .i64 0, .int .i64 0]), 4, 32) := by kernel_rfl
end Go.Proofs.Ytjianllngobhhaa
