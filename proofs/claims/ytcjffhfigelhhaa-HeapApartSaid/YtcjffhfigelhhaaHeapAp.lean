/- HeapApart answers true. Conditions: each theorem's. -/
import Derived.Test.YtcjffhfigelhhaaHeapM
import Derived.Deep.MidRow
namespace Go.Proofs.Ytcjffhfigelhhaa
open Go.RowKit Go.Maps
set_option linter.unusedVariables false
set_option linter.unusedSimpArgs false
set_option maxRecDepth 100000
open Hp
namespace Hp
def apA (k : Int) : Ab := ⟨k, fun b => if 1 ≤ b ∧ b ≤ k then some (64, decide ((b - 1) % 2 = 0)) else none, fun _ _ => v0⟩
end Hp
theorem apA_make {k : Int} (h0 : 0 ≤ k) : (apA k).make 64 (decide (k % 2 = 0)) = apA (k + 1) ∧ (apA k).makeV 64 = ⟨k + 1, 0, 0, 64⟩ ∧ Ab.makeE 64 = 0 := by
  refine ⟨?_, rfl, rfl⟩
  have hb : big 64 = false := rfl
  unfold Ab.make apA
  rw [hb]
  simp only [Bool.false_eq_true, if_false, Ab.mk.injEq, true_and, and_true]
  funext b
  by_cases e : b = k + 1
  · subst e
    rw [if_pos rfl, if_pos ⟨by omega, by omega⟩, Int.add_sub_cancel]
  · rw [if_neg e]
    by_cases e2 : 1 ≤ b ∧ b ≤ k
    · rw [if_pos e2, if_pos ⟨e2.1, by omega⟩]
    · rw [if_neg e2, if_neg (fun q => e2 ⟨q.1, by omega⟩)]
theorem heap_setCells (b : Nat) : ∀ (vs : List Value) (o : Nat) (w : World) (j : Nat), j ≠ b → (w.setCells b o vs).heap[j]? = w.heap[j]?
  | [], _, _, _, _ => rfl
  | v :: r, o, w, j, h => by
    rw [World.setCells, heap_setCells b r (o + 1) _ j h]
    exact Below.heap_setCell _ _ _ _ h
theorem size_setCells (b : Nat) : ∀ (vs : List Value) (o : Nat) (w : World), (w.setCells b o vs).heap.size = w.heap.size
  | [], _, _ => rfl
  | v :: r, o, w => by
    rw [World.setCells, size_setCells b r (o + 1) _]
    simp [World.setCell]
theorem same_setCells (b : Nat) : ∀ (vs : List Value) (o : Nat) (w : World), (w.setCells b o vs).os = w.os ∧ (w.setCells b o vs).tape = w.tape ∧ (w.setCells b o vs).output = w.output
  | [], _, _ => ⟨rfl, rfl, rfl⟩
  | v :: r, o, w => by
    rw [World.setCells]
    exact same_setCells b r (o + 1) _
theorem below_setCells {B b o : Nat} {vs : List Value} {w : World} (h : B ≤ b) : Below B w (w.setCells b o vs) :=
  ⟨(same_setCells b vs o w).1, (same_setCells b vs o w).2.1, (same_setCells b vs o w).2.2, Nat.le_of_eq (size_setCells b vs o w).symm, fun k hk => heap_setCells b vs o w k (by omega)⟩
def pc (i : Int) : List Value := [.int .i64 (i + 1), .int .i64 0, .int .i64 0, .int .i64 64]
/-- The array of pointers, its first k made. -/
def LAt (W : World) (BL k : Nat) : Prop := W.there BL 0 16 ∧ ∀ i : Nat, i < k → W.rangeAt BL (4 * i) (pc i)
theorem LAt.keep {W W' : World} {BL k : Nat} (h : LAt W BL k) (e : W'.heap[BL]? = W.heap[BL]?) : LAt W' BL k := by
  have ec : ∀ j, W'.cell? ⟨BL, j, none⟩ = W.cell? ⟨BL, j, none⟩ := fun j => World.cell?_of_block (w := W) e
  have ef : ∀ j, W'.frozen? ⟨BL, j, none⟩ = W.frozen? ⟨BL, j, none⟩ := fun j => World.frozen?_of_block (w := W) e
  exact ⟨fun j hj => by rw [ec, ef]; exact h.1 j hj, fun i hi j v hv => by rw [ec]; exact h.2 i hi j v hv⟩
theorem LAt.there {W : World} {BL k i : Nat} (h : LAt W BL k) (hi : i < 4) : W.there BL (4 * i) 4 := fun j hj => by
  have := h.1 (4 * i + j) (by omega)
  rwa [Nat.zero_add] at this
theorem LAt.step {W : World} {BL k : Nat} (h : LAt W BL k) (hk : k < 4) : LAt (W.setCells BL (4 * k) (pc k)) BL (k + 1) := by
  refine ⟨World.there_setCells h.1 _ _ _, fun i hi => ?_⟩
  by_cases e : i = k
  · subst e
    exact World.rangeAt_setCells_same _ _ _ _ (h.there hk)
  · exact World.rangeAt_setCells_apart (h.2 i (by omega)) _ _ _ (.inr (.inl (by simp [pc]; omega)))
/-- What stands behind k makings. -/
structure ApTo (w : World) (h BL k : Nat) (wr : World) : Prop where
  hp : ∃ o, HpIs wr h o k (apA k) ∧ (∀ j, o j → w.heap.size ≤ j) ∧ ¬ o BL
  be : Below w.heap.size w wr
  l : LAt wr BL k
  bl : BL < wr.heap.size ∧ w.heap.size ≤ BL
theorem ap_step {w4 : World} {h c : Nat} {o2 : Nat → Prop} {k : Int} {b : Bool} (hb : b = decide (k % 2 = 0)) (h0 : 0 ≤ k) (H : HpIs w4 h o2 c ((apA k).make 64 b)) : HpIs w4 h o2 c (apA (k + 1)) := by
  rw [hb, (apA_make h0).1] at H
  exact H
/-- One making more. -/
theorem ap_end {w wr w4 : World} {h BL k : Nat} {o1 o2 : Nat → Prop} {X : Obj} (hk : k < 4) (hp : HpIs w4 h o2 (k + 1) (apA (k + 1))) (hs : Stays o1 wr o2 w4) (ho : (∀ j, o1 j → w.heap.size ≤ j) ∧ ¬ o1 BL) (hb : Below w.heap.size w wr) (hl : LAt wr BL k) (hbl : BL < wr.heap.size ∧ w.heap.size ≤ BL) :
    ApTo w h BL (k + 1) ((w4.alloc X).setCells BL (4 * k) (pc k)) := by
  have h1 : w4.heap[BL]? = wr.heap[BL]? := hs.block BL hbl.1 ho.2
  have h2 : ¬ o2 BL := fun e => (hs.own BL e).elim ho.2 (fun e => by have := hbl.1; omega)
  have hl4 := hl.keep h1
  have hlX : LAt (w4.alloc X) BL k := hl4.keep (heap_alloc_old _ _ (Nat.lt_of_lt_of_le hbl.1 hs.size))
  refine ⟨⟨o2, (hp.alloc X).keep (fun j hj => heap_setCells _ _ _ _ _ (fun e => h2 (e ▸ hj))), hs.ge hb.size ho.1, h2⟩, ?_, hlX.step hk, ?_, hbl.2⟩
  · have := (hb.trans (hs.toBelow hb.size ho.1))
    exact (this.alloc this.size X).trans (below_setCells hbl.2)
  · rw [size_setCells, World.size_alloc]
    have := hs.size
    omega
theorem ap_there {wr w4 : World} {BL k : Nat} {o1 o2 : Nat → Prop} {X : Obj} (hk : k < 4) (hs : Stays o1 wr o2 w4) (ho : ¬ o1 BL) (hl : LAt wr BL k) (hbl : BL < wr.heap.size) : (w4.alloc X).there BL (4 * k) 4 :=
  World.there_alloc ((hl.keep (hs.block BL hbl ho)).there hk) X
namespace Hp
def vo (s : Option Int) : Val := match s with | some v => ⟨v, p0⟩ | none => v0
structure ApOk (A : Ab) (S : Int → Int → Option Int) : Prop where
  room : A.room = (apA 4).room
  st : ∀ b a, 0 ≤ b → b < 4 → 0 ≤ a → a < 64 → A.st (b + 1) a = vo (S b a)
def setS (S : Int → Int → Option Int) (b a v : Int) : Int → Int → Option Int := fun b' a' => if b' = b ∧ a' = a then some v else S b' a'
end Hp
theorem ap_ok {k : Int} (h : k = 4) : ApOk (apA k) (fun _ _ => none) := by
  subst h
  exact ⟨rfl, fun _ _ _ _ _ _ => rfl⟩
theorem pokA (b : Int) (h0 : 0 ≤ b) (h1 : b < 4) : (Ptr.mk (b + 1) 0 0 64).ok := by unfold Ptr.ok in64; refine ⟨?_, ?_, ?_, ?_⟩ <;> dsimp only <;> omega
theorem ap_mv {b a : Int} (h0 : 0 ≤ b) (a0 : 0 ≤ a) (a1 : a < 64) : mv ⟨b + 1, 0, 0, 64⟩ a = ⟨b + 1, a, 0, 64⟩ := by
  unfold mv
  rw [if_neg (by show ¬ b + 1 = 0; omega)]
  simp only [Int.zero_add]
  rw [w64_id (by unfold in64; omega)]
theorem ap_at {A : Ab} {S : Int → Int → Option Int} (H : ApOk A S) {b a : Int} (b0 : 0 ≤ b) (b1 : b < 4) (a0 : 0 ≤ a) (a1 : a < 64) : A.at_ (mv ⟨b + 1, 0, 0, 64⟩ a) 1 = 0 := by
  rw [ap_mv b0 a0 a1]
  unfold Ab.at_
  have hw : wid 1 = true := rfl
  rw [hw, H.room]
  have hf : fits ⟨b + 1, a, 0, 64⟩ 1 = true := by unfold fits; simp; omega
  rw [hf]
  simp only [apA]
  rw [if_neg (by decide), if_neg (by omega), if_pos (⟨by omega, by omega⟩ : 1 ≤ b + 1 ∧ b + 1 ≤ 4)]
  rfl
theorem ap_st {A : Ab} {S : Int → Int → Option Int} (H : ApOk A S) {b a : Int} (v : Int) (b0 : 0 ≤ b) (b1 : b < 4) (a0 : 0 ≤ a) (a1 : a < 64) : ApOk (A.store (mv ⟨b + 1, 0, 0, 64⟩ a) 1 ⟨v, p0⟩) (setS S b a v) := by
  unfold Ab.store
  rw [ap_at H b0 b1 a0 a1, if_pos rfl, ap_mv b0 a0 a1]
  refine ⟨H.room, fun b' a' h1 h2 h3 h4 => ?_⟩
  simp only [Ab.put, setS]
  by_cases e : b' = b ∧ a' = a
  · rw [if_pos e, if_pos ⟨by omega, e.2⟩]; rfl
  · rw [if_neg e, if_neg (fun q => e ⟨by omega, q.2⟩)]
    exact H.st b' a' h1 h2 h3 h4
/-- The heap within the law: what is the law's own is no block of it. -/
def Ca (w : World) (h : Nat) (L : List Nat) (S : Int → Int → Option Int) (c : Nat) (V : World) : Prop :=
  ∃ o A, HpIs V h o c A ∧ ApOk A S ∧ (∀ m ∈ L, ¬ o m ∧ m < V.heap.size) ∧ (∀ j, o j → w.heap.size ≤ j) ∧ Below w.heap.size w V
theorem Ca.be {w V : World} {h c : Nat} {L : List Nat} {S : Int → Int → Option Int} (H : Ca w h L S c V) : Below w.heap.size w V := by
  obtain ⟨o, A, h1, h2, h3, h4, h5⟩ := H; exact h5
theorem Ca.below {w V N : World} {h c : Nat} {L : List Nat} {S : Int → Int → Option Int} (H : Ca w h L S c V) (hb : Below V.heap.size V N) : Ca w h L S c N := by
  obtain ⟨o, A, h1, h2, h3, h4, h5⟩ := H
  exact ⟨o, A, h1.below hb, h2, fun m hm => ⟨(h3 m hm).1, Nat.lt_of_lt_of_le (h3 m hm).2 hb.size⟩, h4, h5.trans (hb.mono h5.size)⟩
theorem Ca.alloc {w V : World} {h c : Nat} {L : List Nat} {S : Int → Int → Option Int} (H : Ca w h L S c V) (X : Obj) : Ca w h (V.heap.size :: L) S c (V.alloc X) := by
  obtain ⟨o, A, h1, h2, h3, h4, h5⟩ := H
  refine ⟨o, A, h1.alloc X, h2, fun m hm => ?_, h4, h5.alloc h5.size X⟩
  rcases List.mem_cons.1 hm with rfl | hm
  · exact ⟨fun e => by have := h1.lt _ e; omega, by simp⟩
  · exact ⟨(h3 m hm).1, by have := (h3 m hm).2; simp; omega⟩
/-- A block of the law's own is written. -/
theorem Ca.own {w V N : World} {h c m : Nat} {L : List Nat} {S : Int → Int → Option Int} (H : Ca w h L S c V) (hm : m ∈ L) (hw : w.heap.size ≤ m) (hg : V.grownBy N (some m)) : Ca w h L S c N := by
  obtain ⟨o, A, h1, h2, h3, h4, h5⟩ := H
  refine ⟨o, A, h1.keep (fun j hj => hg.block j (h1.lt j hj) (fun e => (h3 m hm).1 (by injection e with e; exact e ▸ hj))), h2, fun q hq => ⟨(h3 q hq).1, Nat.lt_of_lt_of_le (h3 q hq).2 hg.size⟩, h4, ?_⟩
  exact ⟨hg.os.trans h5.os, hg.tape.trans h5.tape, hg.output.trans h5.output, Nat.le_trans h5.size hg.size, fun k hk => (hg.block k (Nat.lt_of_lt_of_le hk h5.size) (fun e => by injection e with e; omega)).trans (h5.block k hk)⟩
theorem ca_cut {w V : World} {h c c' : Nat} {L L' : List Nat} {S : Int → Int → Option Int} (H : Ca w h L S c V) (hL : ∀ m ∈ L', m ∈ L) (hc : c ≤ c') : Ca w h L' S c' V := by
  obtain ⟨o, A, h1, h2, h3, h4, h5⟩ := H
  exact ⟨o, A, h1.mono hc, h2, fun m hm => h3 m (hL m hm), h4, h5⟩
theorem caStore {w V : World} {h c : Nat} {L : List Nat} {S : Int → Int → Option Int} {b a v : Int} (H : Ca w h L S c V) (hb : 0 ≤ b ∧ b < 4) (ha : 0 ≤ a ∧ a < 64) (hc : c < 1000) :
    Calls Try.prog 20 #[.pointer (some ⟨h, 0, none⟩), (mv ⟨b + 1, 0, 0, 64⟩ a).v, .int .i64 1, .agg #[.int .u64 v, .int .i64 0, .int .i64 0, .int .i64 0, .int .i64 0]] V fun e w' => e = .returned (.int .i64 0) ∧ Ca w h L (setS S b a v) (c + 2) w' ∧ ∀ m ∈ L, m < V.heap.size → w'.heap[m]? = V.heap[m]? := by
  obtain ⟨o, A, h1, h2, h3, h4, h5⟩ := H
  refine (store_any h1 (by omega) _ (mv_ok (pokA b hb.1 hb.2) a) 1 ⟨v, p0⟩).mono ?_
  rintro e w' ⟨o', rfl, h6, h7⟩
  exact ⟨by rw [ap_at h2 hb.1 hb.2 ha.1 ha.2], ⟨o', _, h6, ap_st h2 v hb.1 hb.2 ha.1 ha.2, fun m hm => ⟨fun e => (h7.own m e).elim (h3 m hm).1 (fun e2 => by have := (h3 m hm).2; omega), Nat.lt_of_lt_of_le (h3 m hm).2 h7.size⟩, h7.ge h5.size h4, h5.trans (h7.toBelow h5.size h4)⟩, fun m hm hl => h7.block m hl (h3 m hm).1⟩
theorem caLoad {w V : World} {h c : Nat} {L : List Nat} {S : Int → Int → Option Int} {b a : Int} (H : Ca w h L S c V) (hb : 0 ≤ b ∧ b < 4) (ha : 0 ≤ a ∧ a < 64) :
    Calls Try.prog 17 #[.pointer (some ⟨h, 0, none⟩), (mv ⟨b + 1, 0, 0, 64⟩ a).v, .int .i64 1] V fun e w' => e = .returned (.tuple #[.agg #[.int .u64 ((S b a).getD 0), .int .i64 0, .int .i64 0, .int .i64 0, .int .i64 0], .int .i64 0]) ∧ Below V.heap.size V w' := by
  obtain ⟨o, A, h1, h2, h3, h4, h5⟩ := H
  refine (load_any h1 _ (mv_ok (pokA b hb.1 hb.2) a) 1).mono ?_
  rintro e w' ⟨rfl, hbe⟩
  refine ⟨?_, hbe⟩
  unfold Ab.load
  rw [ap_at h2 hb.1 hb.2 ha.1 ha.2, if_pos rfl, ap_mv hb.1 ha.1 ha.2, h2.st b a hb.1 hb.2 ha.1 ha.2]
  cases S b a <;> rfl
theorem sizeQ : (Try.prog.info? 75).map (·.size) = some 2 := by kernel_rfl
/-! The map of the law. -/
theorem lawQ : Keyed Try.prog 75 := Keyed.of_law (deep_law_laid laidOut (m := 4) (by omega) (by decide +kernel) (by kernel_rfl) (by kernel_rfl))
theorem keyTQ : Try.prog.keyType 75 = true := by kernel_rfl
theorem cellsB : Try.prog.cellsOf 5 = 1 := by kernel_rfl
theorem cellsQ : Try.prog.cellsOf 75 = 2 := by kernel_rfl
def quV (x y : Int) : Value := .agg #[.int .u8 x, .int .u8 y]
def keyQ (x y : Int) : Lit := .string (keyBytes [.int .u8 x, .int .u8 y])
theorem wfB {n : Int} (h0 : 0 ≤ n) (h1 : n ≤ 255) : (Lit.int .u8 n).wf = true := by
  show (decide (IntKind.u8.min ≤ n) && decide (n ≤ IntKind.u8.max)) = true
  rw [show IntKind.u8.min = 0 from by decide, show IntKind.u8.max = 255 from by decide]
  simp
  omega
theorem litsB {m : Nat} {n : Int} (h : (Lit.int .u8 n).wf = true) : Try.prog.keyLits (m + 1) 5 [.int .u8 n] = some [.int .u8 n] := by
  unfold Program.keyLits
  simp [Try.underlying5, h]
theorem key_q {x y : Int} (x0 : 0 ≤ x) (x1 : x ≤ 255) (y0 : 0 ≤ y) (y1 : y ≤ 255) : keyOf Try.prog 75 (quV x y) = some (keyQ x y) := by
  obtain ⟨m, hm⟩ := sizeTys
  have hl : Try.prog.keyLits (Try.prog.types.size + 1) 75 [.int .u8 x, .int .u8 y] = some [.int .u8 x, .int .u8 y] := by
    rw [hm]
    unfold Program.keyLits
    simp only [Try.underlying75]
    simp [cellsB, cellsQ, litsB (wfB x0 x1), litsB (wfB y0 y1), List.range, List.range.loop]
  unfold keyOf
  have hf : Value.formed Try.prog 75 (quV x y) = true := by simp [Value.formed, quV, Try.underlying75, cellsQ, cellsB]
  simp only [quV] at hf ⊢
  simp only [Try.underlying75, keyTQ, hf, Value.cells, hl]
  rfl
theorem keyQ_inj {x y x' y' : Int} (x0 : 0 ≤ x) (x1 : x ≤ 255) (y0 : 0 ≤ y) (y1 : y ≤ 255) (x0' : 0 ≤ x') (x1' : x' ≤ 255) (y0' : 0 ≤ y') (y1' : y' ≤ 255) (e : keyQ x y = keyQ x' y') : x = x' ∧ y = y' := by
  have := lawQ.inj (key_q x0 x1 y0 y1) (e ▸ key_q x0' x1' y0' y1')
  simpa [quV] using this
theorem run_mmQ (w : World) : (Instr.makeMap 74 none).run Try.prog w = .ok (.map (some w.heap.size)) (w.alloc (.map #[] 0)) := by
  simp [Instr.makeMap, Try.underlying74]
def WantAt (W : World) (M c : Nat) (S : Int → Int → Option Int) : Prop := ∃ f, MpIs W 75 M c f ∧ ∀ b a, 0 ≤ b → b < 4 → 0 ≤ a → a < 64 → f (keyQ b a) = (S b a).map (.int .u64 ·)
theorem WantAt.lt {W : World} {M c : Nat} {S : Int → Int → Option Int} (h : WantAt W M c S) : M < W.heap.size := by obtain ⟨f, h, _⟩ := h; exact h.lt
theorem want_put {W : World} {M c : Nat} {S : Int → Int → Option Int} {f : Lit → Option Value} {b a v : Int} (hm : MpIs W 75 M c (setF f (keyQ b a) (some (.int .u64 v)))) (hf : ∀ b a, 0 ≤ b → b < 4 → 0 ≤ a → a < 64 → f (keyQ b a) = (S b a).map (.int .u64 ·)) (hb : 0 ≤ b ∧ b < 4) (ha : 0 ≤ a ∧ a < 64) : WantAt W M c (setS S b a v) := by
  refine ⟨_, hm, fun b' a' h1 h2 h3 h4 => ?_⟩
  unfold setS
  by_cases e : b' = b ∧ a' = a
  · obtain ⟨rfl, rfl⟩ := e
    rw [setF_same, if_pos ⟨rfl, rfl⟩]; rfl
  · rw [if_neg e, setF_other _ _ (fun q => e (keyQ_inj h1 (by omega) h3 (by omega) hb.1 (by omega) ha.1 (by omega) q))]
    exact hf b' a' h1 h2 h3 h4
theorem lt_of_eq {W Y : World} {j : Nat} (e : W.heap[j]? = Y.heap[j]?) (h : j < Y.heap.size) : j < W.heap.size := by
  rcases Nat.lt_or_ge j W.heap.size with hl | hg
  · exact hl
  · rw [Array.getElem?_eq_none hg, Array.getElem?_eq_getElem h] at e; cases e
theorem WantAt.keep {W W' : World} {M c : Nat} {S : Int → Int → Option Int} (h : WantAt W M c S) (e1 : W'.heap[M]? = W.heap[M]?) : WantAt W' M c S := by
  obtain ⟨f, h1, h2⟩ := h
  exact ⟨f, h1.keep e1, h2⟩
theorem zeroU (w : World) : (zeroValue 33).run Try.prog w = .ok (.int .u64 0) w := by kernel_rfl
theorem want_look {W : World} {M c : Nat} {S : Int → Int → Option Int} {b a : Int} (h : WantAt W M c S) (b0 : 0 ≤ b) (b1 : b < 4) (a0 : 0 ≤ a) (a1 : a < 64) :
    (Instr.lookup 74 (.map (some M)) (.agg #[.int .u8 b, .int .u8 a]) false).run Try.prog W = .ok (.int .u64 ((S b a).getD 0)) W := by
  obtain ⟨f, h1, h2⟩ := h
  have := h1.look lawQ Try.underlying74 (zeroU W) (key_q b0 (by omega) a0 (by omega)) false
  simp only [quV] at this
  rw [this, h2 b a b0 b1 a0 a1]
  cases S b a <;> rfl
theorem want_step {W W' W'' : World} {M c : Nat} {S : Int → Int → Option Int} (h : WantAt W M c S) (e1 : W''.heap[M]? = W'.heap[M]?) (e2 : W'.heap[M]? = W.heap[M]?) : WantAt W'' M c S := by
  obtain ⟨f, h1, h2⟩ := h
  exact ⟨f, h1.keep (e1.trans e2), h2⟩
/-- What stands behind j places. -/
def Ap2 (w : World) (h BL M j : Nat) (W : World) : Prop := LAt W BL 4 ∧ ∃ S, Ca w h [M, BL] S (4 + 2 * j) W ∧ WantAt W M j S
set_option maxHeartbeats 4000000 in
theorem heapApart_walk (A : Option Addr) (n c : Nat) (ks : List (Int × Int)) (x : Int) (w : World) (hn : ks.length = n) (hnc : n ≤ c) (hcm : c ≤ maxLen) (hx : 0 ≤ x ∧ x ≤ 18446744073709551615)
    (hin : 0 < n → ∃ g o, A = some ⟨g, o, none⟩ ∧ g < w.heap.size ∧ ∀ j, j < n → w.rangeAt g (o + 2 * j) [.int .u8 (ks.getD j (0, 0)).1, .int .u8 (ks.getD j (0, 0)).2])
    (hwf : ∀ k ∈ ks, 0 ≤ k.1 ∧ k.1 < 256 ∧ 0 ≤ k.2 ∧ k.2 < 256) :
    Calls Try.prog 8 #[.slice A n c, .int .u64 x] w fun e w' => e = .returned (.bool true) ∧ Below w.heap.size w w' := by
  unfold maxLen at hcm
  by_cases hbig : 40 < n
  · have d1 : decide ((40 : Int) < (n : Int)) = true := decide_eq_true (by omega)
    go_enter Try.func8, Try.ntmps8
    go_wp2_with fail
    refine (new_any _).mono ?_
    rintro e w1 ⟨h, o, rfl, hpa, hoa, hba⟩
    go_wp2_with fail
    refine (awake_any _).mono ?_
    rintro e w2 ⟨rfl, hb2⟩
    go_wp2_with fail
    refine (awake_any _).mono ?_
    rintro e w3 ⟨rfl, hb3⟩
    go_wp2
    go_ret
    exact ⟨rfl, hba.trans ((hb2.mono hba.size).trans (hb3.mono (Nat.le_trans hba.size hb2.size)))⟩
  · have d1 : decide ((40 : Int) < (n : Int)) = false := decide_eq_false (by omega)
    go_enter Try.func8, Try.ntmps8
    go_wp2_with fail
    refine (new_any _).mono ?_
    rintro e w1 ⟨h, o, rfl, hpa, hoa, hba⟩
    have HPA := Lib.hid hpa
    have HOA := Lib.hid hoa
    clear hpa hoa
    go_wp2_with fail
    refine (awake_any _).mono ?_
    rintro e w2 ⟨rfl, hb2⟩
    have HP2 := Lib.hid (HPA.out.below hb2)
    have HLT := Lib.hid HP2.out.lt
    have HB2 := Lib.hid (hba.trans (hb2.mono hba.size))
    clear hb2
    go_wp2_with fail
    go_loopw [30] (fun i wr => ∃ k : Nat, k ≤ 4 ∧ i = .int .i64 k ∧ Hid (ApTo w h w2.heap.size k wr)) (fun i _ => 4 - (intOf i).toNat)
    case atStart =>
      refine ⟨0, by omega, rfl, Lib.hid ⟨⟨o, ?_, HOA.out, fun e => by have := HLT.out _ e; omega⟩, HB2.out.alloc HB2.out.size _, ⟨fun j hj => ?_, fun i hi => by omega⟩, by simp, HB2.out.size⟩⟩
      · have e : apA 0 = ab0 := by
          unfold apA ab0
          simp only [Ab.mk.injEq, true_and, and_true]
          funext b
          rw [if_neg (by omega)]
        rw [show ((0 : Nat) : Int) = 0 from rfl, e]
        exact HP2.out.alloc _
      · have hr := heap_alloc_new w2 (.cells #[.int .i64 0, .int .i64 0, .int .i64 0, .int .i64 0, .int .i64 0, .int .i64 0, .int .i64 0, .int .i64 0, .int .i64 0, .int .i64 0, .int .i64 0, .int .i64 0, .int .i64 0, .int .i64 0, .int .i64 0, .int .i64 0] 73)
        rw [cell_of_row _ _ _ _ _ _ hr, frozen_of_row _ _ _ _ _ hr]
        have : j = 0 ∨ j = 1 ∨ j = 2 ∨ j = 3 ∨ j = 4 ∨ j = 5 ∨ j = 6 ∨ j = 7 ∨ j = 8 ∨ j = 9 ∨ j = 10 ∨ j = 11 ∨ j = 12 ∨ j = 13 ∨ j = 14 ∨ j = 15 := by omega
        rcases this with rfl | rfl | rfl | rfl | rfl | rfl | rfl | rfl | rfl | rfl | rfl | rfl | rfl | rfl | rfl | rfl <;> exact ⟨rfl, rfl⟩
    case round =>
      obtain ⟨k, hk, rfl, hap⟩ := hrel
      by_cases hlt : k < 4
      · obtain ⟨⟨o1, hp1, ho1, hn1⟩, hbe, hl, hbl⟩ := hap.out
        have hmk := apA_make (k := (k : Int)) (by omega)
        have HP1 := Lib.hid hp1
        have HO1 := Lib.hid (And.intro ho1 hn1)
        have HBE := Lib.hid hbe
        have HL := Lib.hid hl
        have HMK := Lib.hid hmk
        generalize w2.heap.size = BL at *
        clear hp1 ho1 hn1 hbe hl hmk hap
        have : k = 0 ∨ k = 1 ∨ k = 2 ∨ k = 3 := by omega
        obtain rfl | rfl | rfl | rfl := this
        · go_wp2_with fail
          refine (make_any HP1.out (by omega) 64 _).mono ?_
          rintro e w4 ⟨o2, he, hp2, hs2⟩
          have hmk := HMK.out.2.1
          rw [show (Ab.makeE 64 : Int) = 0 from rfl, hmk] at he
          simp only [Ptr.v] at he
          subst he
          have hp3 := Lib.hid (ap_step (by decide) (by omega) hp2)
          have HS2 := Lib.hid hs2
          clear hp2 hs2 hmk
          go_wp2_with (refine wpList_store_mid (op := ⟨none, .store 31 (.tmp 45) (.tmp 44), _, _, _, _⟩) rfl 31 (.tmp 45) (.tmp 44) rfl BL _ _ rfl rfl (ap_there (k := 0) (by omega) HS2.out HO1.out.2 HL.out hbl.1) sizePtr (by simp [Value.oneCell']) ?_)
          go_roundw
          case rel => exact ⟨1, by omega, rfl, Lib.hid (ap_end (k := 0) (by omega) hp3.out HS2.out HO1.out HBE.out HL.out hbl)⟩
          case measure => decide
        · go_wp2_with fail
          refine (make_any HP1.out (by omega) 64 _).mono ?_
          rintro e w4 ⟨o2, he, hp2, hs2⟩
          have hmk := HMK.out.2.1
          rw [show (Ab.makeE 64 : Int) = 0 from rfl, hmk] at he
          simp only [Ptr.v] at he
          subst he
          have hp3 := Lib.hid (ap_step (by decide) (by omega) hp2)
          have HS2 := Lib.hid hs2
          clear hp2 hs2 hmk
          go_wp2_with (refine wpList_store_mid (op := ⟨none, .store 31 (.tmp 45) (.tmp 44), _, _, _, _⟩) rfl 31 (.tmp 45) (.tmp 44) rfl BL _ _ rfl rfl (ap_there (k := 1) (by omega) HS2.out HO1.out.2 HL.out hbl.1) sizePtr (by simp [Value.oneCell']) ?_)
          go_roundw
          case rel => exact ⟨2, by omega, rfl, Lib.hid (ap_end (k := 1) (by omega) hp3.out HS2.out HO1.out HBE.out HL.out hbl)⟩
          case measure => decide
        · go_wp2_with fail
          refine (make_any HP1.out (by omega) 64 _).mono ?_
          rintro e w4 ⟨o2, he, hp2, hs2⟩
          have hmk := HMK.out.2.1
          rw [show (Ab.makeE 64 : Int) = 0 from rfl, hmk] at he
          simp only [Ptr.v] at he
          subst he
          have hp3 := Lib.hid (ap_step (by decide) (by omega) hp2)
          have HS2 := Lib.hid hs2
          clear hp2 hs2 hmk
          go_wp2_with (refine wpList_store_mid (op := ⟨none, .store 31 (.tmp 45) (.tmp 44), _, _, _, _⟩) rfl 31 (.tmp 45) (.tmp 44) rfl BL _ _ rfl rfl (ap_there (k := 2) (by omega) HS2.out HO1.out.2 HL.out hbl.1) sizePtr (by simp [Value.oneCell']) ?_)
          go_roundw
          case rel => exact ⟨3, by omega, rfl, Lib.hid (ap_end (k := 2) (by omega) hp3.out HS2.out HO1.out HBE.out HL.out hbl)⟩
          case measure => decide
        · go_wp2_with fail
          refine (make_any HP1.out (by omega) 64 _).mono ?_
          rintro e w4 ⟨o2, he, hp2, hs2⟩
          have hmk := HMK.out.2.1
          rw [show (Ab.makeE 64 : Int) = 0 from rfl, hmk] at he
          simp only [Ptr.v] at he
          subst he
          have hp3 := Lib.hid (ap_step (by decide) (by omega) hp2)
          have HS2 := Lib.hid hs2
          clear hp2 hs2 hmk
          go_wp2_with (refine wpList_store_mid (op := ⟨none, .store 31 (.tmp 45) (.tmp 44), _, _, _, _⟩) rfl 31 (.tmp 45) (.tmp 44) rfl BL _ _ rfl rfl (ap_there (k := 3) (by omega) HS2.out HO1.out.2 HL.out hbl.1) sizePtr (by simp [Value.oneCell']) ?_)
          go_roundw
          case rel => exact ⟨4, by omega, rfl, Lib.hid (ap_end (k := 3) (by omega) hp3.out HS2.out HO1.out HBE.out HL.out hbl)⟩
          case measure => decide
      · have dk : decide ((k : Int) < 4) = false := decide_eq_false (by omega)
        obtain ⟨⟨o1, hp1, ho1, hn1⟩, hbe, hl, hbl⟩ := hap.out
        have hca : Ca w h [w2.heap.size] (fun _ _ => none) 4 wr := ⟨o1, _, hp1.mono (by omega), ap_ok (show (k : Int) = 4 by omega), fun m hm => by simp at hm; subst hm; exact ⟨hn1, hbl.1⟩, ho1, hbe⟩
        have HCA := Lib.hid hca
        have hl4 : LAt wr w2.heap.size 4 := ⟨hl.1, fun i hi => hl.2 i (by omega)⟩
        have HL4 := Lib.hid hl4
        have hblz := hbl.1
        clear hp1 ho1 hn1 hbe hl hap hca hl4 hbl
        generalize w2.heap.size = BL at *
        have m1 := run_mmQ
        go_wp2_with fail
        have hmp : MpIs (wr.alloc (.map #[] 0)) 75 wr.heap.size 0 (fun _ => none) := mp_new wr _
        have HMP := Lib.hid hmp
        have HCB := Lib.hid (HCA.out.alloc (.map #[] 0))
        have HL5 := Lib.hid (HL4.out.keep (heap_alloc_old wr (.map #[] 0) hblz))
        have hBM : BL < wr.heap.size := hblz
        clear hmp m1 hblz
        have HBMw : Hid (w.heap.size ≤ wr.heap.size) := Lib.hid HCA.out.be.size
        generalize wr.alloc (.map #[] 0) = Z at *
        generalize wr.heap.size = M at *
        go_loopw [50] (fun i wr => ∃ j : Nat, j ≤ n ∧ i = .int .i64 j ∧ Hid (Ap2 w h BL M j wr)) (fun i _ => n - (intOf i).toNat)
        case atStart => exact ⟨0, Nat.zero_le _, rfl, Lib.hid ⟨HL5.out, fun _ _ => none, HCB.out, ⟨_, HMP.out, fun _ _ _ _ _ _ => rfl⟩⟩⟩
        case round =>
          obtain ⟨j, hj, rfl, ha2⟩ := hrel
          by_cases hlt : j < n
          · have dj0 : (0 : Int) ≤ (j : Int) := by omega
            have dj1 : (j : Int) < (n : Int) := by omega
            obtain ⟨ga, og, rfl, hga, hcell⟩ := hin (by omega)
            obtain ⟨hl5, S, hca, hwant⟩ := ha2.out
            have hkk := hwf (ks.getD j (0, 0)) (by rw [List.getD_eq_getElem?_getD, List.getElem?_eq_getElem (by omega)]; exact List.getElem_mem _)
            have hrg : wr.rangeAt ga (og + j * 2) [.int .u8 (ks.getD j (0, 0)).1, .int .u8 (ks.getD j (0, 0)).2] := fun q v hv => (World.cell?_of_block (w := w) (hca.be.block ga hga)).trans (by have := hcell j hlt q v hv; rwa [Nat.mul_comm 2 j] at this)
            have hgq : ga < wr.heap.size := Nat.lt_of_lt_of_le hga hca.be.size
            have HCA2 := Lib.hid hca
            have HW := Lib.hid hwant
            have HL := Lib.hid hl5
            clear hca hwant hl5 ha2 hcell
            generalize (ks.getD j (0, 0)).1 = k0 at *
            generalize (ks.getD j (0, 0)).2 = k1 at *
            obtain ⟨z0, z1, z2, z3⟩ := hkk
            have t0 : k0.tmod 4 = k0 % 4 := Int.tmod_eq_emod_of_nonneg z0
            have t1 : k1.tmod 64 = k1 % 64 := Int.tmod_eq_emod_of_nonneg z2
            have cA := hrg 0 _ rfl
            have cB := hrg 1 _ rfl
            simp only [Nat.add_zero] at cA
            obtain ⟨q, hq⟩ : ∃ q : Nat, k0 % 4 = (q : Int) := ⟨(k0 % 4).toNat, by omega⟩
            have hq4 : q < 4 := by omega
            have ha0 : 0 ≤ k1 % 64 ∧ k1 % 64 < 64 := by omega
            obtain ⟨f, hmp, hfe⟩ := HW.out
            have hmpY : MpIs (wr.alloc (.cells #[.int .u8 (k0 % 4), .int .u8 (k1 % 64)] 75)) 75 M j f := hmp.keep (heap_alloc_old _ _ hmp.lt)
            have HFE := Lib.hid hfe
            have HMY := Lib.hid hmpY
            have HKQ := Lib.hid (key_q (x := k0 % 4) (y := k1 % 64) (by omega) (by omega) (by omega) (by omega))
            have HQ := Lib.hid hq
            have HCY := Lib.hid (HCA2.out.alloc (.cells #[.int .u8 (k0 % 4), .int .u8 (k1 % 64)] 75))
            have hKB := heap_alloc_new wr (.cells #[.int .u8 (k0 % 4), .int .u8 (k1 % 64)] 75)
            have HKB := Lib.hid hKB
            clear hmp hfe hmpY hq hKB
            go_wp2_with (at_mapUpdate; refine wpList_put _ rfl _ _ _ 74 rfl 75 33 lawQ Try.underlying74 M j f rfl HMY.out (by unfold maxLen; omega) (quV (k0 % 4) (k1 % 64)) (.int .u64 (IntKind.u64.wrap (x + (j : Int)))) (keyQ (k0 % 4) (k1 % 64)) rfl rfl HKQ.out ?_; intro w5 hm5 hg5)
            have hKlt : wr.heap.size < (wr.alloc (.cells #[.int .u8 (k0 % 4), .int .u8 (k1 % 64)] 75)).heap.size := by simp
            have hMw : M < wr.heap.size := HW.out.lt
            have hC5 := HCY.out.own (m := M) (by simp) (by have := HBMw.out; omega) hg5
            have k5 : w5.heap[wr.heap.size]? = some (.cells #[.int .u8 (k0 % 4), .int .u8 (k1 % 64)] 75) := (hg5.block _ hKlt (fun e => by injection e with e; omega)).trans HKB.out
            have l5 : LAt w5 BL 4 := (HL.out.keep (heap_alloc_old _ _ (by omega))).keep (hg5.block BL (by simp; omega) (fun e => by injection e with e; omega))
            rw [HQ.out] at k5 hm5
            have kb0 : w5.cell? ⟨wr.heap.size, 0, none⟩ = some (.int .u8 (q : Int)) := cell_of_row _ _ _ _ _ _ k5
            have kb1 : w5.cell? ⟨wr.heap.size, 1, none⟩ = some (.int .u8 (k1 % 64)) := cell_of_row _ _ _ _ _ _ k5
            have HLK := Lib.hid (lt_of_at k5)
            have HWANT := Lib.hid (show WantAt w5 M (j + 1) (setS S q (k1 % 64) (IntKind.u64.wrap (x + (j : Int)))) from want_put hm5 HFE.out (by omega) (by omega))
            have HL6 := Lib.hid l5
            have HRG := Lib.hid (l5.2 q hq4)
            have HLB : Hid (BL < w5.heap.size) := Lib.hid (by have := hg5.size; simp at this; omega)
            have HMLT : Hid (M < w5.heap.size) := Lib.hid (by have := hg5.size; simp at this; omega)
            have HP := Lib.hid hC5
            clear hm5 hg5 k5 l5 hC5 hKlt HKB HCY HMY HFE HW HL HCA2
            simp only [pc] at HRG
            rw [Nat.mul_comm 4 q] at HRG
            generalize wr.heap.size = KB at *
            generalize w5 = Y at *
            have dq0 : (0 : Int) ≤ (q : Int) := by omega
            have dq1 : (q : Int) < 4 := by omega
            refine wp_region_held_drew (S := fun W : World => W.heap[BL]? = Y.heap[BL]? ∧ W.heap[KB]? = Y.heap[KB]? ∧ W.heap[M]? = Y.heap[M]?) (by kernel_rfl) ⟨rfl, rfl, rfl⟩ (fun hHeld => ?_)
            replace HP : Hid (Ca w h [KB, M, BL] S (4 + 2 * j) Y.drew) := Lib.hid (HP.out.below ((Below.refl _ _).drew))
            generalize hYD : Y.drew = V0 at *
            clear hYD
            refine wpAnyH_take (i := 0) (oi := ({ dst := some 68, op := Go.Op.move (Go.Operand.tmp 5), type := 23, pos := "law.go:223", after := #[], guard := none } : Oper)) (v := .pointer (some ⟨h, 0, none⟩)) rfl (by kernel_rfl) (by kernel_rfl) (by kernel_rfl) (fun _ _ _ h => h) (Or.inl ⟨by rfl, ?hy1⟩) (by assumption) ?_
            case hy1 => ((intro W hSW; go_simp); (try with_reducible rfl); (try exact ⟨rfl, rfl, rfl⟩))
            simp only [Act.put, List.setIfInBounds_toArray, List.set_cons_zero, List.set_cons_succ]
            refine wpAnyH_take (i := 1) (oi := ({ dst := some 69, op := Go.Op.indexAddr 75 (Go.Operand.tmp 12) (Go.Operand.const (Go.Value.int Go.IntKind.i64 0)), type := 0, pos := "law.go:223", after := #[], guard := none } : Oper)) (v := .pointer (some ⟨KB, 0, none⟩)) rfl (by kernel_rfl) (by kernel_rfl) (by kernel_rfl) (fun _ _ _ h => h) (Or.inl ⟨by rfl, ?hy2⟩) (by assumption) ?_
            case hy2 => ((intro W hSW; go_simp); (try with_reducible rfl); (try exact ⟨rfl, rfl, rfl⟩))
            simp only [Act.put, List.setIfInBounds_toArray, List.set_cons_zero, List.set_cons_succ]
            refine wpAnyH_take (i := 2) (oi := ({ dst := some 70, op := Go.Op.load 5 (Go.Operand.tmp 69), type := 5, pos := "law.go:223", after := #[{ on := 1, ground := Go.Ground.data }], guard := none } : Oper)) (v := .int .u8 (q : Int)) rfl (by kernel_rfl) (by kernel_rfl) (by kernel_rfl) (fun _ _ _ h => h) (Or.inl ⟨by rfl, ?hy3⟩) (by assumption) ?_
            case hy3 => ((intro W hSW; have e0 := (World.cell?_of_block (w := Y) (a := ⟨KB, 0, none⟩) hSW.2.1).trans kb0; have hl2 : KB < W.heap.size := World.block_lt_of_cell? _ _ e0; clear hSW; go_simp); (try with_reducible rfl); (try exact ⟨rfl, rfl, rfl⟩))
            simp only [Act.put, List.setIfInBounds_toArray, List.set_cons_zero, List.set_cons_succ]
            refine wpAnyH_take (i := 3) (oi := ({ dst := some 71, op := Go.Op.indexAddr 73 (Go.Operand.tmp 6) (Go.Operand.tmp 70), type := 0, pos := "law.go:223", after := #[{ on := 2, ground := Go.Ground.data }], guard := none } : Oper)) (v := .pointer (some ⟨BL, q * 4, none⟩)) rfl (by kernel_rfl) (by kernel_rfl) (by kernel_rfl) (fun _ _ _ h => h) (Or.inl ⟨by rfl, ?hy4⟩) (by assumption) ?_
            case hy4 => ((intro W hSW; clear hSW; go_simp); (try with_reducible rfl); (try exact ⟨rfl, rfl, rfl⟩))
            simp only [Act.put, List.setIfInBounds_toArray, List.set_cons_zero, List.set_cons_succ]
            refine wpAnyH_take (i := 4) (oi := ({ dst := some 72, op := Go.Op.load 31 (Go.Operand.tmp 71), type := 31, pos := "law.go:223", after := #[{ on := 3, ground := Go.Ground.data }], guard := none } : Oper)) (v := .agg #[.int .i64 ((q : Int) + 1), .int .i64 0, .int .i64 0, .int .i64 64]) rfl (by kernel_rfl) (by kernel_rfl) (by kernel_rfl) (fun _ _ _ h => h) (yieldsIf_load_mid (by rfl) 31 (.tmp 71) rfl BL (q * 4) rfl [.int .i64 ((q : Int) + 1), .int .i64 0, .int .i64 0, .int .i64 64] _ (fun W hW => fun k u hu => (World.cell?_of_block (w := Y) hW.1).trans (HRG.out k u hu)) Try.underlying31 rfl sizePtr) (by assumption) ?_
            simp only [Act.put, List.setIfInBounds_toArray, List.set_cons_zero, List.set_cons_succ]
            refine wpAnyH_take (i := 5) (oi := ({ dst := some 73, op := Go.Op.indexAddr 75 (Go.Operand.tmp 12) (Go.Operand.const (Go.Value.int Go.IntKind.i64 1)), type := 0, pos := "law.go:223", after := #[], guard := none } : Oper)) (v := .pointer (some ⟨KB, 1, none⟩)) rfl (by kernel_rfl) (by kernel_rfl) (by kernel_rfl) (fun _ _ _ h => h) (Or.inl ⟨by rfl, ?hy6⟩) (by assumption) ?_
            case hy6 => ((intro W hSW; go_simp); (try with_reducible rfl); (try exact ⟨rfl, rfl, rfl⟩))
            simp only [Act.put, List.setIfInBounds_toArray, List.set_cons_zero, List.set_cons_succ]
            refine wpAnyH_take (i := 6) (oi := ({ dst := some 74, op := Go.Op.load 5 (Go.Operand.tmp 73), type := 5, pos := "law.go:223", after := #[{ on := 5, ground := Go.Ground.data }], guard := none } : Oper)) (v := .int .u8 (k1 % 64)) rfl (by kernel_rfl) (by kernel_rfl) (by kernel_rfl) (fun _ _ _ h => h) (Or.inl ⟨by rfl, ?hy7⟩) (by assumption) ?_
            case hy7 => ((intro W hSW; have e0 := (World.cell?_of_block (w := Y) (a := ⟨KB, 1, none⟩) hSW.2.1).trans kb1; have hl2 : KB < W.heap.size := World.block_lt_of_cell? _ _ e0; clear hSW; go_simp); (try with_reducible rfl); (try exact ⟨rfl, rfl, rfl⟩))
            simp only [Act.put, List.setIfInBounds_toArray, List.set_cons_zero, List.set_cons_succ]
            refine wpAnyH_take (i := 7) (oi := ({ dst := some 75, op := Go.Op.convert 5 3 (Go.Operand.tmp 74), type := 3, pos := "law.go:223", after := #[{ on := 6, ground := Go.Ground.data }], guard := none } : Oper)) (v := .int .i64 (k1 % 64)) rfl (by kernel_rfl) (by kernel_rfl) (by kernel_rfl) (fun _ _ _ h => h) (Or.inl ⟨by rfl, ?hy8⟩) (by assumption) ?_
            case hy8 => ((intro W hSW; have ew : IntKind.i64.wrap (k1 % 64) = k1 % 64 := IntWalk.i64_in _ (by omega); clear hSW; go_simp); (try with_reducible rfl); (try exact ⟨rfl, rfl, rfl⟩))
            simp only [Act.put, List.setIfInBounds_toArray, List.set_cons_zero, List.set_cons_succ]
            refine wpAnyH_take (i := 9) (oi := ({ dst := some 77, op := Go.Op.move (Go.Operand.tmp 1), type := 33, pos := "law.go:223", after := #[], guard := none } : Oper)) (v := .int .u64 x) rfl (by kernel_rfl) (by kernel_rfl) (by kernel_rfl) (fun _ _ _ h => h) (Or.inl ⟨by rfl, ?hy9⟩) (by assumption) ?_
            case hy9 => ((intro W hSW; go_simp); (try with_reducible rfl); (try exact ⟨rfl, rfl, rfl⟩))
            simp only [Act.put, List.setIfInBounds_toArray, List.set_cons_zero, List.set_cons_succ]
            refine wpAnyH_take (i := 10) (oi := ({ dst := some 78, op := Go.Op.move (Go.Operand.tmp 11), type := 3, pos := "law.go:223", after := #[], guard := none } : Oper)) (v := .int .i64 j) rfl (by kernel_rfl) (by kernel_rfl) (by kernel_rfl) (fun _ _ _ h => h) (Or.inl ⟨by rfl, ?hy10⟩) (by assumption) ?_
            case hy10 => ((intro W hSW; go_simp); (try with_reducible rfl); (try exact ⟨rfl, rfl, rfl⟩))
            simp only [Act.put, List.setIfInBounds_toArray, List.set_cons_zero, List.set_cons_succ]
            refine wpAnyH_take (i := 11) (oi := ({ dst := some 79, op := Go.Op.convert 3 33 (Go.Operand.tmp 78), type := 33, pos := "law.go:223", after := #[{ on := 10, ground := Go.Ground.data }], guard := none } : Oper)) (v := .int .u64 j) rfl (by kernel_rfl) (by kernel_rfl) (by kernel_rfl) (fun _ _ _ h => h) (Or.inl ⟨by rfl, ?hy11⟩) (by assumption) ?_
            case hy11 => ((intro W hSW; have ew : IntKind.u64.wrap (j : Int) = (j : Int) := IntWalk.u64_in _ (by omega); clear hSW; go_simp); (try with_reducible rfl); (try exact ⟨rfl, rfl, rfl⟩))
            simp only [Act.put, List.setIfInBounds_toArray, List.set_cons_zero, List.set_cons_succ]
            refine wpAnyH_take (i := 12) (oi := ({ dst := some 80, op := Go.Op.binOp Go.BinOp.add 33 (Go.Operand.tmp 77) (Go.Operand.tmp 79) 33, type := 33, pos := "law.go:223", after := #[{ on := 9, ground := Go.Ground.data }, { on := 11, ground := Go.Ground.data }], guard := none } : Oper)) (v := .int .u64 (IntKind.u64.wrap (x + (j : Int)))) rfl (by kernel_rfl) (by kernel_rfl) (by kernel_rfl) (fun _ _ _ h => h) (Or.inl ⟨by rfl, ?hy12⟩) (by assumption) ?_
            case hy12 => ((intro W hSW; clear hSW; go_simp); (try with_reducible rfl); (try exact ⟨rfl, rfl, rfl⟩))
            simp only [Act.put, List.setIfInBounds_toArray, List.set_cons_zero, List.set_cons_succ]
            refine wpAnyH_take (i := 13) (oi := ({ dst := some 81, op := Go.Op.build 35 #[(0, Go.Operand.tmp 80)], type := 35, pos := "law.go:223", after := #[{ on := 12, ground := Go.Ground.data }], guard := none } : Oper)) (v := .agg #[.int .u64 (IntKind.u64.wrap (x + (j : Int))), .int .i64 0, .int .i64 0, .int .i64 0, .int .i64 0]) rfl (by kernel_rfl) (by kernel_rfl) (by kernel_rfl) (fun _ _ _ h => h) (Or.inl ⟨by rfl, ?hy13⟩) (by assumption) ?_
            case hy13 => ((intro W hSW; clear hSW; go_simp); (try with_reducible rfl); (try exact ⟨rfl, rfl, rfl⟩))
            simp only [Act.put, List.setIfInBounds_toArray, List.set_cons_zero, List.set_cons_succ]
            refine wpAnyH_ready (rs := [8]) (by kernel_rfl) (by simp) ?_
            refine (AllReadyH.cons (i := 8) (o := ({ dst := some 76, op := Go.Op.call { callee := Go.Callee.value (Go.Operand.func 11), args := #[Go.Operand.tmp 72, Go.Operand.tmp 75], argTypes := #[31, 3] }, type := 31, pos := "law.go:223", after := #[{ on := 4, ground := Go.Ground.data }, { on := 7, ground := Go.Ground.data }], guard := none } : Oper)) rfl (fun K hK => ?_) AllReadyH.nil)
            rw [if_pos (by rfl)]
            go_simp
            refine (move_any ⟨(q : Int) + 1, 0, 0, 64⟩ (k1 % 64) _ (pokA q (by omega) (by omega))).mono ?_
            rintro e V1 ⟨he, hb⟩
            subst he
            replace HP := Lib.hid (HP.out.below hb)
            go_simp
            refine hK.out _ _ (⟨(hb.block _ (lt_of_eq hHeld.1 HLB.out)).trans hHeld.1, (hb.block _ (lt_of_eq hHeld.2.1 HLK.out)).trans hHeld.2.1, (hb.block _ (lt_of_eq hHeld.2.2 HMLT.out)).trans hHeld.2.2⟩) (fun hHeld => ?_)
            clear hK K
            try simp only [Act.put, List.setIfInBounds_toArray, List.set_cons_zero, List.set_cons_succ]
            refine wpAnyH_ready (rs := [14]) (by kernel_rfl) (by simp) ?_
            refine (AllReadyH.cons (i := 14) (o := ({ dst := some 82, op := Go.Op.call { callee := Go.Callee.value (Go.Operand.func 20), args := #[Go.Operand.tmp 68, Go.Operand.tmp 76, Go.Operand.const (Go.Value.int Go.IntKind.i64 1), Go.Operand.tmp 81], argTypes := #[23, 31, 3, 35] }, type := 43, pos := "law.go:223", after := #[{ on := 0, ground := Go.Ground.data }, { on := 8, ground := Go.Ground.data }, { on := 13, ground := Go.Ground.data }, { on := 8, ground := Go.Ground.chain }], guard := none } : Oper)) rfl (fun K hK => ?_) AllReadyH.nil)
            rw [if_pos (by rfl)]
            go_simp
            refine (caStore HP.out (b := (q : Int)) (a := k1 % 64) (v := (IntKind.u64.wrap (x + (j : Int)))) (by omega) (by omega) (by omega)).mono ?_
            rintro e V2 ⟨he, hp, hs⟩
            subst he
            replace HP := Lib.hid hp
            clear hp
            go_simp
            refine hK.out _ _ (⟨(hs BL (by simp) (lt_of_eq hHeld.1 HLB.out)).trans hHeld.1, (hs KB (by simp) (lt_of_eq hHeld.2.1 HLK.out)).trans hHeld.2.1, (hs M (by simp) (lt_of_eq hHeld.2.2 HMLT.out)).trans hHeld.2.2⟩) (fun hHeld => ?_)
            clear hK K
            try simp only [Act.put, List.setIfInBounds_toArray, List.set_cons_zero, List.set_cons_succ]
            refine wpAnyH_take (i := 15) (oi := ({ dst := some 83, op := Go.Op.binOp Go.BinOp.neq 43 (Go.Operand.tmp 82) (Go.Operand.const (Go.Value.int Go.IntKind.i64 0)) 43, type := 4, pos := "law.go:223", after := #[{ on := 14, ground := Go.Ground.data }], guard := none } : Oper)) (v := .bool false) rfl (by kernel_rfl) (by kernel_rfl) (by kernel_rfl) (fun _ _ _ h => h) (Or.inl ⟨by rfl, ?hy14⟩) (by assumption) ?_
            case hy14 => ((intro W hSW; go_simp); (try with_reducible rfl); (try exact ⟨rfl, rfl, rfl⟩))
            simp only [Act.put, List.setIfInBounds_toArray, List.set_cons_zero, List.set_cons_succ]
            refine wpAnyH_done (by kernel_rfl) ?_ _
            have HH := Lib.hid hHeld.1
            have HM8 := Lib.hid hHeld.2.2
            clear hHeld hs
            go_wp2
            go_roundw
            case rel => exact ⟨j + 1, by omega, by go_num, Lib.hid ⟨HL6.out.keep HH.out, setS S q (k1 % 64) (IntKind.u64.wrap (x + (j : Int))), ca_cut HP.out (by intro m hm; simp at hm ⊢; rcases hm with rfl | rfl <;> simp) (by omega), want_step HWANT.out HM8.out rfl⟩⟩
            case measure => simp [intOf]; omega
          · have dj1 : decide ((j : Int) < (n : Int)) = false := decide_eq_false (by omega)
            obtain ⟨hl5, S, hca, hwant⟩ := ha2.out
            have HCT := Lib.hid hca
            have HWT := Lib.hid hwant
            have HLT5 := Lib.hid hl5
            have hBT : BL < wr.heap.size := by obtain ⟨_, _, _, _, h3, _⟩ := hca; exact (h3 BL (by simp)).2
            clear hca hwant hl5 ha2
            go_wp2_with fail
            obtain ⟨T, hT⟩ : ∃ T, T = wr := ⟨_, rfl⟩
            subst hT
            go_loopw [85] (fun i wr => ∃ b : Nat, b ≤ 4 ∧ i = .int .u8 b ∧ Hid (Below T.heap.size T wr)) (fun i _ => 4 - (intOf i).toNat)
            case atStart => exact ⟨0, by omega, rfl, Lib.hid (Below.refl _ _)⟩
            case round =>
              obtain ⟨b, hb, rfl, hbt⟩ := hrel
              by_cases hbl : b < 4
              · have db : decide ((b : Int) < 4) = true := decide_eq_true (by omega)
                go_wp2_with fail
                obtain ⟨U, hU⟩ : ∃ U, U = wr := ⟨_, rfl⟩
                subst hU
                go_loopw [88] (fun i wr => ∃ a : Nat, a ≤ 64 ∧ i = .int .u8 a ∧ Hid (Below T.heap.size T wr)) (fun i _ => 64 - (intOf i).toNat)
                case atStart => exact ⟨0, by omega, rfl, hbt⟩
                case round =>
                  obtain ⟨a, ha, rfl, hba⟩ := hrel
                  by_cases hal : a < 64
                  · have da : decide ((a : Int) < 64) = true := decide_eq_true (by omega)
                    have db0 : (0 : Int) ≤ (b : Int) := by omega
                    have db1 : (b : Int) < 4 := by omega
                    have hrg := (HLT5.out.keep (hba.out.block BL hBT)).2 b hbl
                    simp only [pc] at hrg
                    rw [Nat.mul_comm 4 b] at hrg
                    have c0 := hrg 0 _ rfl
                    have c1 := hrg 1 _ rfl
                    have c2 := hrg 2 _ rfl
                    have c3 := hrg 3 _ rfl
                    simp only [Nat.add_zero] at c0
                    have hBr : BL < wr.heap.size := Nat.lt_of_lt_of_le hBT hba.out.size
                    have hca := HCT.out.below hba.out
                    have HCr := Lib.hid hca
                    have ew : IntKind.i64.wrap (a : Int) = (a : Int) := IntWalk.i64_in _ (by omega)
                    clear hrg hca
                    go_wp2_with fail
                    refine (move_any ⟨(b : Int) + 1, 0, 0, 64⟩ (a : Int) _ (pokA b (by omega) (by omega))).mono ?_
                    rintro e S1 ⟨rfl, hs1⟩
                    have HC1 := Lib.hid (HCr.out.below hs1)
                    have HS1 := Lib.hid hs1
                    clear hs1 c0 c1 c2 c3
                    go_wp2_with fail
                    refine (caLoad HC1.out (b := (b : Int)) (a := (a : Int)) (by omega) (by omega)).mono ?_
                    rintro e S2 ⟨rfl, hs2⟩
                    have HB2' := Lib.hid (hba.out.trans ((HS1.out.trans (hs2.mono HS1.out.size)).mono hba.out.size))
                    clear hs2
                    obtain ⟨v, hv⟩ : ∃ v, v = (S (b : Int) (a : Int)).getD 0 := ⟨_, rfl⟩
                    rw [← hv]
                    have HV := Lib.hid hv
                    clear hv
                    have HB3' := Lib.hid (HB2'.out.alloc HB2'.out.size (.cells #[.int .u64 v, .int .i64 0, .int .i64 0, .int .i64 0, .int .i64 0] 35))
                    have hlk : ∀ k, (Instr.lookup 74 (.map (some M)) (.agg #[.int .u8 (b : Int), .int .u8 (a : Int)]) false).run Try.prog ((S2.alloc (.cells #[.int .u64 v, .int .i64 0, .int .i64 0, .int .i64 0, .int .i64 0] 35)).drewN k) = .ok (.int .u64 v) ((S2.alloc (.cells #[.int .u64 v, .int .i64 0, .int .i64 0, .int .i64 0, .int .i64 0] 35)).drewN k) := fun k => by
                      have hk := want_look (b := (b : Int)) (a := (a : Int)) (HWT.out.keep ((belowN (n := k) HB3'.out).block M HWT.out.lt)) (by omega) (by omega) (by omega) (by omega)
                      rw [← HV.out] at hk
                      exact hk
                    go_wp2_with fail
                    go_quiet (fail)
                    go_wp2
                    go_roundw
                    case rel => exact ⟨a + 1, by omega, by go_num, Lib.hid (belowN HB3'.out)⟩
                    case measure => simp [intOf]; omega
                  · have da : decide ((a : Int) < 64) = false := decide_eq_false (by omega)
                    go_wp2
                    go_roundw
                    case rel => exact ⟨b + 1, by omega, by go_num, hba⟩
                    case measure => simp [intOf]; omega
              · have db : decide ((b : Int) < 4) = false := decide_eq_false (by omega)
                go_wp2
                go_ret
                exact ⟨rfl, HCT.out.be.trans (hbt.out.mono HCT.out.be.size)⟩
end Go.Proofs.Ytcjffhfigelhhaa
