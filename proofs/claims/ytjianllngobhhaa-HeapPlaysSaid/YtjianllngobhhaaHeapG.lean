/- Package heap: what Store leaves. Conditions: each theorem's. -/
import Derived.Test.YtjianllngobhhaaHeapF
import Derived.Deep.AppendLies
import Derived.Deep.RegionLaw
namespace Go.Proofs.Ytjianllngobhhaa
open Go.RowKit Go.Maps
set_option linter.unusedVariables false
set_option linter.unusedSimpArgs false
set_option maxRecDepth 100000
open Hp
namespace Hp
def G.setSt (g : G) (b o : Int) (x : Val) : G := { g with cnt := g.cnt + 1, st := fun b' o' => if b' = b ∧ o' = o then some x else g.st b' o' }
def G.setUs (g : G) (b : Int) (us : Value) (used : List Int) : G := { g with cnt := g.cnt + 1, room := fun b' => if b' = b then (g.room b).map (fun r => { r with us := us, used := used }) else g.room b' }
def Ab.put (A : Ab) (b o : Int) (x : Val) : Ab := { A with st := fun b' o' => if b' = b ∧ o' = o then x else A.st b' o' }
theorem G.setSt_ab (g : G) (b o : Int) (x : Val) : (g.setSt b o x).ab = g.ab.put b o x := by
  unfold Ab.put G.ab G.setSt
  simp only [Ab.mk.injEq, true_and]
  funext b' o'
  split <;> rfl
theorem G.setUs_ab (g : G) (b : Int) (us : Value) (used : List Int) : (g.setUs b us used).ab = g.ab := by
  unfold G.ab G.setUs
  simp only [Ab.mk.injEq, true_and, and_true]
  funext b'
  by_cases e : b' = b
  · subst e
    rw [if_pos rfl, Option.map_map]
    rfl
  · rw [if_neg e]
theorem G.setSt_own (g : G) (b o : Int) (x : Val) : (g.setSt b o x).own = g.own := rfl
theorem G.setUs_own (g : G) (b : Int) (us : Value) (used : List Int) {j : Nat} (h : (g.setUs b us used).own j) : g.own j ∨ us.ownBlock = some j := by
  rcases h with h | h | h | ⟨b', r, e, h⟩
  · exact .inl (.inl h)
  · exact .inl (.inr (.inl h))
  · exact .inl (.inr (.inr (.inl h)))
  · simp only [G.setUs] at e
    split at e
    · rcases hb : g.room b with _ | r0
      · rw [hb] at e; cases e
      · rw [hb] at e
        cases e
        rcases h with h | h
        · exact .inl (.inr (.inr (.inr ⟨b, r0, hb, .inl h⟩)))
        · exact .inr h
    · exact .inl (.inr (.inr (.inr ⟨b', r, e, h⟩)))
end Hp
theorem row_ne {w : World} {a b : Nat} {cs ds : Array Value} {t u : TypeId} {fr gr : Nat × Nat} (ha : w.heap[a]? = some (.cells cs t fr)) (hb : w.heap[b]? = some (.cells ds u gr)) (h : t ≠ u) : a ≠ b := by
  rintro rfl
  rw [ha] at hb
  injection hb with hb
  injection hb with _ hb _
  exact h hb
theorem own_blk {w : World} {base : Nat} {e : TypeId} {n : Nat} {v : Value} {xs : List Value} (h : w.ownsRow base e 1 v n xs) {j : Nat} (hj : v.ownBlock = some j) : ∃ cs, w.heap[j]? = some (.cells cs e (0, 0)) := by
  rcases h.2 with ⟨q, _⟩ | ⟨q, cap, cur, e1, _, e3, _⟩
  · rw [q] at hj; cases hj
  · rw [e1] at hj
    simp [Value.ownBlock] at hj
    subst hj
    exact ⟨_, e3⟩
/-- Something stands at a place; nothing is told anew of where. -/
theorem HeapAt.setSt {w w' : World} {g : G} (H : HeapAt w g) {b o : Int} (x : Val) (hb64 : in64 b) (ho64 : in64 o) (hc : g.cnt < 1073741824)
    {r : Room} (hr : g.room b = some r) (hin : o ∈ r.used)
    (hj : ∀ j, g.own j → j ≠ g.sb → w'.heap[j]? = w.heap[j]?)
    (fs : Lit → Option Value) (hfe : ∀ b o, in64 b → in64 o → fs (keyP b o) = (g.st b o).map Val.v)
    (hs : MpIs w' 80 g.sb (g.cnt + 1) (setF fs (keyP b o) (some x.v))) : HeapAt w' (g.setSt b o x) := by
  obtain ⟨fl, hfl, hle⟩ := H.live
  have hsm : ∃ es c, w.heap[g.sb]? = some (.map es c) := by obtain ⟨f, hf, _⟩ := H.stands; exact hf.isMap
  refine ⟨(hj _ (.inl rfl) (map_cell hsm H.box)).trans H.box, ⟨fl, (hfl.keep (hj _ (.inr (.inl rfl)) H.ms)).mono (Nat.le_succ _), hle⟩, ⟨_, hs, fun b' o' hb' ho' => ?_⟩, H.ms, fun b' r' e => ?_, H.apart, fun b' o' y e => ?_, by have := H.mkd; simp only [G.setSt]; omega⟩
  · simp only [G.setSt]
    by_cases e : b' = b ∧ o' = o
    · obtain ⟨rfl, rfl⟩ := e
      rw [if_pos ⟨rfl, rfl⟩, setF_same]; rfl
    · rw [if_neg e, setF_other _ _ (fun q => e (keyP_inj hb' ho' hb64 ho64 q)), hfe b' o' hb' ho']
  · obtain ⟨h1, h2, h3, h4⟩ := H.room b' r' e
    have hr1 : r'.rb ≠ g.sb := map_cell hsm h1
    refine ⟨(hj _ (.inr (.inr (.inr ⟨b', r', e, .inl rfl⟩))) hr1).trans h1, own_at h2 (fun j q => hj _ (.inr (.inr (.inr ⟨b', r', e, .inr q⟩))) ?_), Nat.le_trans h3 (Nat.le_succ _), h4⟩
    obtain ⟨cs, hcs⟩ := own_blk h2 q
    exact map_cell hsm hcs
  · simp only [G.setSt] at e
    split at e
    · next h =>
      obtain ⟨rfl, rfl⟩ := h
      exact ⟨ho64, r, hr, hin⟩
    · exact H.inv b' o' y e
/-- One room is told anew where something was stored. -/
theorem HeapAt.setUs {w w' : World} {g : G} (H : HeapAt w g) {b : Int} {r : Room} (hr : g.room b = some r) (us : Value) (used : List Int) (hlen : used.length ≤ g.cnt + 1) (hin : ∀ o ∈ used, in64 o) (hkeep : ∀ o x, g.st b o = some x → o ∈ used)
    (hj : ∀ j, g.own j → j ≠ r.rb → r.us.ownBlock ≠ some j → w'.heap[j]? = w.heap[j]?)
    (hrb : w'.heap[r.rb]? = some (.cells #[.int .i64 r.size, .bool r.free, us] 73))
    (hus : w'.ownsRow 0 3 1 us used.length (i64L used)) (hnew : ∀ j, us.ownBlock = some j → r.us.ownBlock = some j ∨ ¬ g.own j) : HeapAt w' (g.setUs b us used) := by
  obtain ⟨fl, hfl, hle⟩ := H.live
  obtain ⟨fs, hfs, hse⟩ := H.stands
  obtain ⟨r1, r2, r3⟩ := H.room b r hr
  have nb : ∀ {j}, j ≠ r.rb → (∀ cs fr, w.heap[j]? ≠ some (.cells cs 3 fr)) → g.own j → w'.heap[j]? = w.heap[j]? := fun {j} h1 h2 ho => hj j ho h1 (fun e => by obtain ⟨cs, q⟩ := own_blk r2 e; exact h2 _ _ q)
  have mapn : ∀ {j}, (∃ es c, w.heap[j]? = some (.map es c)) → g.own j → w'.heap[j]? = w.heap[j]? := fun {j} hm ho => nb (map_cell hm r1).symm (fun cs fr q => (map_cell hm q) rfl) ho
  refine ⟨?_, ⟨fl, (hfl.keep (mapn hfl.isMap (.inr (.inl rfl)))).mono (Nat.le_succ _), fun b' hb' => ?_⟩, ⟨fs, (hfs.keep (mapn hfs.isMap (.inr (.inr (.inl rfl))))).mono (Nat.le_succ _), hse⟩, H.ms, fun b' r' e => ?_, fun b1 q1 b2 q2 e1 e2 hne => ?_, fun b' o' x e => ?_, by have := H.mkd; simp only [G.setUs]; omega⟩
  · exact (nb (row_ne H.box r1 (by decide)) (fun cs fr q => (row_ne H.box q (by decide)) rfl) (.inl rfl)).trans H.box
  · simp only [G.setUs]
    rw [hle b' hb']
    by_cases e : b' = b
    · subst e; rw [if_pos rfl, hr]; rfl
    · rw [if_neg e]
  · simp only [G.setUs] at e
    split at e
    · next h =>
      subst h
      rw [hr] at e
      cases e
      exact ⟨hrb, hus, hlen, hin, r3.2.2⟩
    · next h =>
      obtain ⟨h1, h2, h3, h4⟩ := H.room b' r' e
      obtain ⟨a1, a2⟩ := H.apart b' r' b r e hr h
      refine ⟨(nb a1 (fun cs fr q => (row_ne h1 q (by decide)) rfl) (.inr (.inr (.inr ⟨b', r', e, .inl rfl⟩)))).trans h1, own_at h2 (fun j q => ?_), Nat.le_trans h3 (Nat.le_succ _), h4⟩
      obtain ⟨cs, hcs⟩ := own_blk h2 q
      refine hj j (.inr (.inr (.inr ⟨b', r', e, .inr q⟩))) (row_ne hcs r1 (by decide)) (fun q2 => ?_)
      rcases a2 with a2 | a2
      · rw [a2] at q; cases q
      · exact a2 (q.trans q2.symm)
  · simp only [G.setUs] at e1 e2
    have key : ∀ b' r', g.room b' = some r' → b' ≠ b → r'.us.ownBlock = none ∨ r'.us.ownBlock ≠ us.ownBlock := by
      intro b' r' e hne'
      rcases hx : r'.us.ownBlock with _ | j
      · exact .inl rfl
      · refine .inr (fun q => ?_)
        have q := q.symm
        rcases hnew j q with h | h
        · rcases (H.apart b' r' b r e hr hne').2 with h2 | h2
          · rw [h2] at hx; cases hx
          · exact h2 (hx.trans h.symm)
        · exact h (.inr (.inr (.inr ⟨b', r', e, .inr hx⟩)))
    split at e1 <;> split at e2
    · omega
    · next h1 h2 =>
      subst h1
      rw [hr] at e1
      cases e1
      refine ⟨(H.apart b1 r b2 q2 hr e2 hne).1, ?_⟩
      rcases key b2 q2 e2 h2 with h | h
      · rcases hx : us.ownBlock with _ | j
        · exact .inl rfl
        · exact .inr (fun q => by rw [h] at q; cases q)
      · exact .inr (fun q => h q.symm)
    · next h1 h2 =>
      subst h2
      rw [hr] at e2
      cases e2
      exact ⟨(H.apart b1 q1 b2 r e1 hr hne).1, key b1 q1 e1 h1⟩
    · exact H.apart b1 q1 b2 q2 e1 e2 hne
  · obtain ⟨h1, r', h2, h3⟩ := H.inv b' o' x e
    refine ⟨h1, ?_⟩
    simp only [G.setUs]
    by_cases h : b' = b
    · subst h
      rw [if_pos rfl, hr]
      exact ⟨_, rfl, hkeep _ _ e⟩
    · rw [if_neg h]
      exact ⟨r', h2, h3⟩
namespace Hp
def G.del (g : G) (b : Int) (l : List Int) : G := { g with st := fun b' o' => if b' = b ∧ o' ∈ l then none else g.st b' o' }
theorem G.del_nil (g : G) (b : Int) : g.del b [] = g := by
  unfold G.del
  simp
end Hp
/-- Nothing stands at a place any more. -/
theorem HeapAt.del1 {w w' : World} {g : G} {b o : Int} {l : List Int} (H : HeapAt w (g.del b l)) (hb64 : in64 b) (ho64 : in64 o)
    (hj : ∀ j, g.own j → j ≠ g.sb → w'.heap[j]? = w.heap[j]?)
    (fs : Lit → Option Value) (hse : ∀ b' o', in64 b' → in64 o' → fs (keyP b' o') = ((g.del b l).st b' o').map Val.v) (hs : MpIs w' 80 g.sb g.cnt (setF fs (keyP b o) none)) : HeapAt w' (g.del b (l ++ [o])) := by
  obtain ⟨fl, hfl, hle⟩ := H.live
  have hsm : ∃ es c, w.heap[g.sb]? = some (.map es c) := by obtain ⟨f, hf, _⟩ := H.stands; exact hf.isMap
  refine ⟨(hj _ (.inl rfl) (map_cell hsm H.box)).trans H.box, ⟨fl, hfl.keep (hj _ (.inr (.inl rfl)) H.ms), hle⟩, ⟨_, hs, fun b' o' hb' ho' => ?_⟩, H.ms, fun b' r' e => ?_, H.apart, fun b' o' y e => ?_, H.mkd⟩
  · simp only [G.del, List.mem_append, List.mem_singleton]
    by_cases e : b' = b ∧ o' = o
    · obtain ⟨rfl, rfl⟩ := e
      rw [setF_same, if_pos ⟨rfl, .inr rfl⟩]; rfl
    · rw [setF_other _ _ (fun q => e (keyP_inj hb' ho' hb64 ho64 q)), hse b' o' hb' ho']
      simp only [G.del]
      by_cases e2 : b' = b ∧ o' ∈ l
      · rw [if_pos e2, if_pos ⟨e2.1, .inl e2.2⟩]
      · rw [if_neg e2, if_neg (fun q => q.2.elim (fun q2 => e2 ⟨q.1, q2⟩) (fun q2 => e ⟨q.1, q2⟩))]
  · obtain ⟨h1, h2, h3⟩ := H.room b' r' e
    have hr1 : r'.rb ≠ g.sb := map_cell hsm h1
    refine ⟨(hj _ (.inr (.inr (.inr ⟨b', r', e, .inl rfl⟩))) hr1).trans h1, own_at h2 (fun j q => hj _ (.inr (.inr (.inr ⟨b', r', e, .inr q⟩))) ?_), h3⟩
    obtain ⟨cs, hcs⟩ := own_blk h2 q
    exact map_cell hsm hcs
  · simp only [G.del] at e
    split at e
    · cases e
    · next h =>
      refine H.inv b' o' y ?_
      simp only [G.del]
      rw [if_neg (fun q => h ⟨q.1, List.mem_append_left _ q.2⟩)]
      exact e
/-- One block is gone. -/
theorem HeapAt.gone {w w' : World} {g : G} {b : Int} (H : HeapAt w g) (hb64 : in64 b) (hst : ∀ o, g.st b o = none)
    (hj : ∀ j, g.own j → j ≠ g.lb → w'.heap[j]? = w.heap[j]?)
    (fl : Lit → Option Value) (hle : ∀ b', in64 b' → fl (.int .i64 b') = (g.room b').map fun r => .pointer (some ⟨r.rb, 0, none⟩)) (hs : MpIs w' 3 g.lb g.cnt (setF fl (.int .i64 b) none)) : HeapAt w' { g with room := fun b' => if b' = b then none else g.room b' } := by
  obtain ⟨fs, hfs, hse⟩ := H.stands
  have hsm : ∃ es c, w.heap[g.lb]? = some (.map es c) := by obtain ⟨f, hf, _⟩ := H.live; exact hf.isMap
  refine ⟨(hj _ (.inl rfl) (map_cell hsm H.box)).trans H.box, ⟨_, hs, fun b' hb' => ?_⟩, ⟨fs, hfs.keep (hj _ (.inr (.inr (.inl rfl))) H.ms.symm), hse⟩, H.ms, fun b' r' e => ?_, fun b1 q1 b2 q2 e1 e2 hne => ?_, fun b' o' y e => ?_, H.mkd⟩
  · by_cases e : b' = b
    · subst e
      simp only [if_pos rfl]
      rw [setF_same]; rfl
    · simp only [if_neg e]
      rw [setF_other _ _ (fun q => e (by injection q)), hle b' hb']
  · simp only at e
    split at e
    · cases e
    · obtain ⟨h1, h2, h3⟩ := H.room b' r' e
      have hr1 : r'.rb ≠ g.lb := map_cell hsm h1
      refine ⟨(hj _ (.inr (.inr (.inr ⟨b', r', e, .inl rfl⟩))) hr1).trans h1, own_at h2 (fun j q => hj _ (.inr (.inr (.inr ⟨b', r', e, .inr q⟩))) ?_), h3⟩
      obtain ⟨cs, hcs⟩ := own_blk h2 q
      exact map_cell hsm hcs
  · simp only at e1 e2
    split at e1
    · cases e1
    · split at e2
      · cases e2
      · exact H.apart b1 q1 b2 q2 e1 e2 hne
  · obtain ⟨h1, r', h2, h3⟩ := H.inv b' o' y e
    refine ⟨h1, r', ?_, h3⟩
    simp only
    rw [if_neg]
    · exact h2
    · rintro rfl
      have e2 : g.st b' o' = some y := e
      rw [hst o'] at e2; cases e2
end Go.Proofs.Ytjianllngobhhaa
